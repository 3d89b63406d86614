/-
  SealDoes: its walk.
-/
import Derived.Test.YtapmdneepinbgaaSealN
import Derived.Deep.RegionHeld3
import Derived.Deep.DrawnRows
namespace Go.Proofs.Ytapmdneepinbgaa
open Go.RowKit
set_option maxHeartbeats 2000000
set_option linter.unusedVariables false
attribute [local go_sem ↓] Go.wp_at_zero Go.wp_at_succ

theorem cell_keep {w : World} {b : Nat} (h : b < w.heap.size) (o : Obj) (i : Nat) : (w.alloc o).cell? ⟨b, i, none⟩ = w.cell? ⟨b, i, none⟩ := World.cell?_alloc_lt _ _ _ h

/-- a slice of sealed texts -/
def SealsAt (w : World) (g : Nat) (l : List (Int × ByteArray)) : Prop := ∀ j (h : j < l.length), w.cell? ⟨g, 2 * j, none⟩ = some (.int .i64 l[j].1) ∧ w.cell? ⟨g, 2 * j + 1, none⟩ = some (.string l[j].2)

set_option maxRecDepth 100000 in
theorem sealDoes_walk (T : ByteArray) (L : Int) (M : ByteArray) (k key : Int) (w : World) (hT : T.size ≤ 140737488351232) (hL0 : -9223372036854775808 ≤ L) (hL1 : L ≤ 9223372036854775807) (hM : M.size ≤ 140737488351232)
    (hk0 : -9223372036854775808 ≤ k) (hk1 : k ≤ 9223372036854775807) (hw0 : -9223372036854775808 ≤ key) (hw1 : key ≤ 9223372036854775807) :
    Calls Try.prog 3 #[.string T, .agg #[.int .i64 L, .string M], .int .i64 k, .int .i64 key] w fun e w' => e = .returned (.bool true) ∧ Below w.heap.size w w' := by
  by_cases hbig : 40000 < T.size + M.size
  · have d1 : decide ((40000 : Int) < (T.size : Int) + (M.size : Int)) = true := by simp; omega
    go_enter Try.func3, Try.ntmps3
    go_wp2_with fail
    refine (ssane_any _).mono ?_
    rintro e w1 ⟨rfl, hB1⟩
    obtain ⟨p0, p1, p2⟩ := (Has2.new w (.int .i64 L) (.string M) 23).below hB1
    go_wp2
    go_ret
    exact ⟨rfl, ((Below.refl _ w).alloc (Nat.le_refl _) _).trans (hB1.mono (by simp))⟩
  have d1 : decide ((40000 : Int) < (T.size : Int) + (M.size : Int)) = false := by simp; omega
  have hT4 : T.size ≤ 40000 := by omega
  have hM4 : M.size ≤ 40000 := by omega
  obtain ⟨k2, hk2⟩ : ∃ v, key % 4294967294 = v := ⟨_, rfl⟩
  obtain ⟨k9, hk9⟩ : ∃ v, k % 9 = v := ⟨_, rfl⟩
  have k20 : 0 ≤ k2 := by omega
  have k21 : k2 < 4294967294 := by omega
  have k90 : 0 ≤ k9 := by omega
  have k91 : k9 < 9 := by omega
  have M1 := Lib.hid (fun W => hk2 ▸ mkMod_any key 4294967294 W hw0 hw1 (by decide) (by decide))
  have M2 := Lib.hid (fun W => hk9 ▸ mkMod_any k 9 W hk0 hk1 (by decide) (by decide))
  obtain ⟨q, hq⟩ : ∃ q, L.tdiv 3 = q := ⟨_, rfl⟩
  have q0 : -9223372036854775808 ≤ q ∧ q ≤ 9223372036854775807 := by
    by_cases hn : 0 ≤ L
    · rw [Int.tdiv_eq_ediv_of_nonneg hn] at hq; omega
    · have ht : L.tdiv 3 = -(-L / 3) := by rw [← Int.tdiv_eq_ediv_of_nonneg (show 0 ≤ -L by omega), Int.neg_tdiv, Int.neg_neg]
      omega
  have q1 : IntKind.i64.wrap q = q := IntWalk.i64_in _ q0
  clear hk2 hk9
  go_enter Try.func3, Try.ntmps3
  go_wp2_with fail
  refine (ssane_any _).mono ?_
  rintro e w1 ⟨rfl, hB1⟩
  have A1 := Lib.hid ((Has2.new w (.int .i64 L) (.string M) 23).below hB1)
  have HB1 := Lib.hid (((Below.refl _ w).alloc (Nat.le_refl _) _).trans (hB1.mono (by simp)))
  obtain ⟨p0, p1, p2⟩ := A1.out
  clear hB1
  go_wp2_with fail
  go_region_held3 (fun w' => w'.cell? ⟨w.heap.size, 0, none⟩ = some (.int .i64 L)) (first | assumption | (rw [cell_drew]; assumption) | (rw [cell_drew, World.cell?_alloc_lt _ _ _ p2]; assumption)) ((go_at_call 9; refine (M1.out _).mono ?_; rintro e w8 ⟨rfl, rfl⟩))
  have e6 : #[Value.int .i64 k, Value.int .i64 key, Value.int .i64 k2, Value.int .i64 q, Value.int .i64 4294967293, Value.int .i64 4294967294] = (([k, key, k2, q, 4294967293, 4294967294] : List Int).map (Value.int .i64)).toArray := rfl
  obtain ⟨Z, hZ⟩ : ∃ Z : List Int, Z = [k, key, k2, q, 4294967293, 4294967294] := ⟨_, rfl⟩
  have hZl : Z.length = 6 := by rw [hZ]; rfl
  have hZb : ∀ x ∈ Z, -9223372036854775808 ≤ x ∧ x ≤ 9223372036854775807 := by
    intro x hx
    rw [hZ] at hx
    simp only [List.mem_cons, List.not_mem_nil, or_false] at hx
    rcases hx with rfl | rfl | rfl | rfl | rfl | rfl
    · omega
    · omega
    · omega
    · exact q0
    · omega
    · omega
  rw [e6, ← hZ]
  have hcz := new_ints w1 .i64 3 Z w1.heap.size rfl
  have hB2 := (HB1.out.alloc HB1.out.size (.cells (Z.map (Value.int .i64)).toArray 3)).drew
  have hA2 := A1.out.alloc (.cells (Z.map (Value.int .i64)).toArray 3)
  have hs2 : (w1.alloc (.cells (Z.map (Value.int .i64)).toArray 3)).drew.heap.size = w1.heap.size + 1 := by simp
  have hA2 : Has2 (w1.alloc (.cells (Z.map (Value.int .i64)).toArray 3)).drew w.heap.size (.int .i64 L) (.string M) := hA2
  have hcz : ∀ i (h : i < Z.length), (w1.alloc (.cells (Z.map (Value.int .i64)).toArray 3)).drew.cell? ⟨w1.heap.size, i, none⟩ = some (.int .i64 Z[i]) := hcz
  obtain ⟨g, hg⟩ : ∃ g, w1.heap.size = g := ⟨_, rfl⟩
  rw [hg] at hcz hs2 p2 ⊢
  generalize (w1.alloc (.cells (Z.map (Value.int .i64)).toArray 3)).drew = w2 at hcz hB2 hA2 hs2 ⊢
  have HCZ := Lib.hid hcz
  have HB2 := Lib.hid hB2
  have HA2 := Lib.hid hA2
  have HZl := Lib.hid hZl
  have HZb := Lib.hid hZb
  clear hcz hB2 hA2 hZl hZb hZ e6 hg HB1 A1 p0 p1 hq q1 M1
  obtain ⟨b0, hb0⟩ : ∃ b, w.heap.size = b := ⟨_, rfl⟩
  rw [hb0] at p2 HA2 ⊢
  have HB0 := Lib.hid hb0
  clear hb0
  go_wp2_with fail
  go_loopw [45] (fun i wr => ∃ j : Nat, j ≤ 6 ∧ i = .int .i64 j ∧ Below (g + 1) w2 wr) (fun i wr => 6 - (intOf i).toNat)
  case atStart => exact ⟨0, by omega, rfl, Below.refl _ _⟩
  case round =>
    obtain ⟨j, hj, rfl, hBr⟩ := hrel
    have HBr := Lib.hid hBr
    have zr : g + 1 ≤ wr.heap.size := by have := hBr.size; omega
    by_cases hlt : j < 6
    · have d8 : decide ((j : Int) < 6) = true := by simp; omega
      obtain ⟨n, hn⟩ : ∃ n, Z[j]'(by rw [HZl.out]; exact hlt) = n := ⟨_, rfl⟩
      have hcj := (hBr.cell (p := ⟨g, j, none⟩) (by show g < g + 1; omega)).trans (HCZ.out j (by rw [HZl.out]; exact hlt))
      obtain ⟨n0, n1⟩ := HZb.out _ (List.getElem_mem (by rw [HZl.out]; exact hlt))
      rw [hn] at hcj n0 n1
      have hA := Lib.hid (Has2.below HA2.out (hBr.mono (by rw [hs2]; exact Nat.le_refl _)))
      obtain ⟨a1, a2, ha⟩ : ∃ a b, Sm.priv n = (a, b) := ⟨_, _, rfl⟩
      obtain ⟨l1, l2, hl⟩ : ∃ a b, Sm.lock n = (a, b) := ⟨_, _, rfl⟩
      obtain ⟨m, X, x2, hx⟩ : ∃ a b c, Sm.sl T n = ((a, b), c) := ⟨_, _, _, rfl⟩
      have P1 := Lib.hid (fun W => (by have h := private_any n W n0 n1; rw [ha] at h; exact h : Calls Try.prog 10 #[.int .i64 n] W fun e w' => e = .returned (.tuple #[.int .i64 a1, .int .i64 a2]) ∧ W = w'))
      have P2 := Lib.hid (fun W => (by have h := rprivate_any n W n0 n1; rw [ha] at h; exact h : Calls Try.prog 11 #[.int .i64 n] W fun e w' => e = .returned (.tuple #[.int .i64 a1, .int .i64 a2]) ∧ W = w'))
      have L1 := Lib.hid (fun W => (by have h := lock_any n W n0 n1; rw [hl] at h; exact h : Calls Try.prog 12 #[.int .i64 n] W fun e w' => e = .returned (.tuple #[.int .i64 l1, .int .i64 l2]) ∧ W = w'))
      have L2 := Lib.hid (fun W => (by have h := rlock_any n W n0 n1; rw [hl] at h; exact h : Calls Try.prog 13 #[.int .i64 n] W fun e w' => e = .returned (.tuple #[.int .i64 l1, .int .i64 l2]) ∧ W = w'))
      have S1 := Lib.hid (fun W => (by have h := seal_any T n W (by omega) n0 n1; rw [hx] at h; exact h : Calls Try.prog 14 #[.string T, .int .i64 n] W fun e w' => e = .returned (.tuple #[.agg #[.int .i64 m, .string X], .int .i64 x2]) ∧ Below W.heap.size W w'))
      have S2 := Lib.hid (fun W => (by have h := rseal_any T n W (by omega) n0 n1; rw [hx] at h; exact h : Calls Try.prog 15 #[.string T, .int .i64 n] W fun e w' => e = .returned (.tuple #[.agg #[.int .i64 m, .string X], .int .i64 x2]) ∧ Below W.heap.size W w'))
      have mb : (-9223372036854775808 ≤ m ∧ m ≤ 9223372036854775807) ∧ X.size ≤ 40000 := Sm.sl_bd hx hT4
      obtain ⟨⟨m0, m1⟩, hX4⟩ := mb
      clear ha hl hx hn hBr
      go_wp2_with fail
      refine (P1.out _).mono ?_
      rintro e w' ⟨rfl, rfl⟩
      go_wp2_with fail
      refine (P2.out _).mono ?_
      rintro e w' ⟨rfl, rfl⟩
      go_wp2_with fail
      refine (L1.out _).mono ?_
      rintro e w' ⟨rfl, rfl⟩
      go_wp2_with fail
      refine (L2.out _).mono ?_
      rintro e w' ⟨rfl, rfl⟩
      clear hcj P1 P2 L1 L2
      go_wp2_with fail
      refine (S1.out _).mono ?_
      rintro e w3 ⟨rfl, hB3⟩
      have HB3 := Lib.hid (HBr.out.trans (hB3.mono zr))
      have X3 := Lib.hid (hA.out.below hB3)
      have z3 := HB3.out.size
      clear hB3 HBr hA
      go_wp2_with fail
      refine (S2.out _).mono ?_
      rintro e w4 ⟨rfl, hB4⟩
      have HB4 := Lib.hid ((HB3.out.alloc (by omega) (.cells #[Value.int .i64 m, Value.string X] 23)).trans (hB4.mono (by simp; omega)))
      have X4 := Lib.hid ((X3.out.alloc (.cells #[Value.int .i64 m, Value.string X] 23)).below hB4)
      have Y4 := Lib.hid ((Has2.new w3 (.int .i64 m) (.string X) 23).below hB4)
      obtain ⟨y0, y1, y2⟩ := Y4.out
      have z4 := HB4.out.size
      clear hB4 HB3 X3 S1 S2
      go_wp2_with fail
      have HB5 := Lib.hid (HB4.out.alloc (by omega) (.cells #[Value.int .i64 m, Value.string X] 23))
      have hX5 := X4.out.alloc (.cells #[Value.int .i64 m, Value.string X] 23)
      have hY5 := Has2.new w4 (.int .i64 m) (.string X) 23
      obtain ⟨b4, hb4⟩ : ∃ b, w4.heap.size = b := ⟨_, rfl⟩
      rw [hb4] at hY5 ⊢
      generalize (w4.alloc (.cells #[Value.int .i64 m, Value.string X] 23)) = wv at HB5 hX5 hY5 ⊢
      obtain ⟨c0, c1, c2⟩ := hX5
      obtain ⟨f0, f1, f2⟩ := hY5
      clear hb4 y0 y1 y2 z3 z4 HB4 X4 Y4
      have q9 : IntKind.i64.wrap (3 * k9) = 3 * k9 := IntWalk.i64_in _ (by omega)
      have q8 : IntKind.i64.wrap (3 * k9 + 1) = 3 * k9 + 1 := IntWalk.i64_in _ (by omega)
      have C0 := Lib.hid c0
      have C1 := Lib.hid c1
      have F0 := Lib.hid f0
      have F1 := Lib.hid f1
      go_region_held3 (fun w' => w'.cell? ⟨b0, 0, none⟩ = some (.int .i64 L) ∧ w'.cell? ⟨b0, 1, none⟩ = some (.string M) ∧ w'.cell? ⟨b4, 0, none⟩ = some (.int .i64 m) ∧ w'.cell? ⟨b4, 1, none⟩ = some (.string X)) (first | exact ⟨C0.out, C1.out, F0.out, F1.out⟩ | (simp only [cell_drew]; exact ⟨C0.out, C1.out, F0.out, F1.out⟩) | (simp only [cell_drew, cell_keep c2, cell_keep f2]; exact ⟨C0.out, C1.out, F0.out, F1.out⟩) | (refine ⟨?_, ?_, ?_, ?_⟩; · exact (cell_keep (w := wv.drew) c2 _ _).trans C0.out; · exact (cell_keep (w := wv.drew) c2 _ _).trans C1.out; · exact (cell_keep (w := wv.drew) f2 _ _).trans F0.out; · exact (cell_keep (w := wv.drew) f2 _ _).trans F1.out)) ((go_at_call 9; refine (M2.out _).mono ?_; rintro e w8 ⟨rfl, rfl⟩))
      have hin : ∀ j, j < 3 → ∃ (l : Int) (t : ByteArray), (wv.alloc (.cells #[Value.int .i64 L, Value.string M, Value.int .i64 m, Value.string X, Value.int .i64 (3 * k9 + 1), Value.string T] 23)).drew.cell? ⟨wv.heap.size, j * 2, none⟩ = some (.int .i64 l) ∧
          (wv.alloc (.cells #[Value.int .i64 L, Value.string M, Value.int .i64 m, Value.string X, Value.int .i64 (3 * k9 + 1), Value.string T] 23)).drew.cell? ⟨wv.heap.size, j * 2 + 1, none⟩ = some (.string t) ∧ (-9223372036854775808 ≤ l ∧ l ≤ 9223372036854775807) ∧ t.size ≤ 40000 := by
        intro j hj
        obtain rfl | rfl | rfl : j = 0 ∨ j = 1 ∨ j = 2 := by omega
        · exact ⟨L, M, by rw [cell_drew, cell_new_at _ _ _ _ rfl]; rfl, by rw [cell_drew, cell_new_at _ _ _ _ rfl]; rfl, ⟨hL0, hL1⟩, hM4⟩
        · exact ⟨m, X, by rw [cell_drew, cell_new_at _ _ _ _ rfl]; rfl, by rw [cell_drew, cell_new_at _ _ _ _ rfl]; rfl, ⟨m0, m1⟩, hX4⟩
        · exact ⟨3 * k9 + 1, T, by rw [cell_drew, cell_new_at _ _ _ _ rfl]; rfl, by rw [cell_drew, cell_new_at _ _ _ _ rfl]; rfl, by omega, hT4⟩
      have HB6 := Lib.hid ((HB5.out.alloc (by have := HB5.out.size; omega) (.cells #[Value.int .i64 L, Value.string M, Value.int .i64 m, Value.string X, Value.int .i64 (3 * k9 + 1), Value.string T] 23)).drew)
      have zs : (wv.alloc (.cells #[Value.int .i64 L, Value.string M, Value.int .i64 m, Value.string X, Value.int .i64 (3 * k9 + 1), Value.string T] 23)).drew.heap.size = wv.heap.size + 1 := by simp
      have zg : g + 1 ≤ wv.heap.size := by have := HB5.out.size; omega
      obtain ⟨G, hG⟩ : ∃ G, wv.heap.size = G := ⟨_, rfl⟩
      rw [hG] at hin zs zg ⊢
      generalize (wv.alloc (.cells #[Value.int .i64 L, Value.string M, Value.int .i64 m, Value.string X, Value.int .i64 (3 * k9 + 1), Value.string T] 23)).drew = wi at hin HB6 zs ⊢
      have HIN := Lib.hid hin
      clear hin c0 c1 c2 f0 f1 f2 C0 C1 F0 F1 q9 q8 HB5 hG
      go_wp2_with fail
      go_loopw [117] (fun i wr => ∃ q : Nat, q ≤ 3 ∧ i = .int .i64 q ∧ Below (G + 1) wi wr) (fun i wr => 3 - (intOf i).toNat)
      case atStart => exact ⟨0, by omega, rfl, Below.refl _ _⟩
      case round =>
        obtain ⟨p, hp, rfl, hBq⟩ := hrel
        have HBq := Lib.hid hBq
        by_cases hlp : p < 3
        · have d3 : decide ((p : Int) < 3) = true := by simp; omega
          obtain ⟨l, t, t0, t1, ⟨l0, l1⟩, t4⟩ := HIN.out p hlp
          have u0 := (hBq.cell (p := ⟨G, p * 2, none⟩) (by show G < G + 1; omega)).trans t0
          have u1 := (hBq.cell (p := ⟨G, p * 2 + 1, none⟩) (by show G < G + 1; omega)).trans t1
          have zq := hBq.size
          obtain ⟨R1, R2, hR⟩ : ∃ R1 R2, Sm.opn l t n = (R1, R2) := ⟨_, _, rfl⟩
          have O1 := Lib.hid (fun W => (by have h := open_any l t n W (by omega) (by omega) (by omega) (by omega) (by omega); rw [hR] at h; exact h : Calls Try.prog 16 #[.agg #[.int .i64 l, .string t], .int .i64 n] W fun e w' => e = .returned (.tuple #[.string R1, .int .i64 R2]) ∧ Below W.heap.size W w'))
          have O2 := Lib.hid (fun W => (by have h := ropen_any l t n W (by omega) (by omega) (by omega) (by omega); rw [hR] at h; exact h : Calls Try.prog 17 #[.agg #[.int .i64 l, .string t], .int .i64 n] W fun e w' => e = .returned (.tuple #[.string R1, .int .i64 R2]) ∧ Below W.heap.size W w'))
          clear t0 t1 hR hBq
          go_wp2_with fail
          refine (O1.out _).mono ?_
          rintro e w5 ⟨rfl, hB5⟩
          have L5 := Lib.hid ((Has2.new wr (.int .i64 l) (.string t) 23).below hB5)
          have HB7 := Lib.hid ((HBq.out.alloc (by omega) (.cells #[Value.int .i64 l, Value.string t] 23)).trans (hB5.mono (by simp; omega)))
          obtain ⟨v0, v1, v2⟩ := L5.out
          have z7 := HB7.out.size
          clear hB5 u0 u1
          go_wp2_with fail
          refine (O2.out _).mono ?_
          rintro e w6 ⟨rfl, hB6⟩
          have HB8 := Lib.hid (HB7.out.trans (hB6.mono (by omega)))
          clear hB6 v0 v1 v2 L5 HB7 HBq
          go_wp2_with fail
          go_roundw
          case rel => exact ⟨p + 1, by omega, by go_num, HB8.out⟩
          case measure => simp [intOf]; omega
        · obtain rfl : p = 3 := by omega
          have HBz := Lib.hid (HB6.out.trans (hBq.mono (by omega)))
          clear hBq HBq HIN HB6
          go_wp2_with fail
          go_roundw
          case rel => exact ⟨j + 1, by omega, by go_num, HBz.out⟩
          case measure => simp [intOf]; omega
    · obtain rfl : j = 6 := by omega
      have C1 := Lib.hid (fun W => convergent_any T W (by unfold maxLen; omega))
      have C2 := Lib.hid (fun W => rconvergent_any T W (by unfold maxLen; omega))
      clear hBr
      go_wp2_with fail
      refine (C1.out _).mono ?_
      rintro e w' ⟨rfl, rfl⟩
      go_wp2_with fail
      refine (C2.out _).mono ?_
      rintro e w' ⟨rfl, rfl⟩
      go_wp2
      go_ret
      exact ⟨rfl, HB2.out.trans (HBr.out.mono (by have := HB0.out; omega))⟩

end Go.Proofs.Ytapmdneepinbgaa
