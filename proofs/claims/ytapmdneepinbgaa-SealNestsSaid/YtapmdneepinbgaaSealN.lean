/-
  SealNests: its walk.
-/
import Derived.Test.YtapmdneepinbgaaSealK
namespace Go.Proofs.Ytapmdneepinbgaa
open Go.RowKit
set_option maxHeartbeats 1000000

/-- texts under more and more locks -/
def Sm.nest (T : ByteArray) (K : Nat → Int) : Nat → ByteArray
  | 0 => T
  | j + 1 => ⟨(Sm.bytes (3 * K j + 1) (Sm.nest T K j)).toArray⟩
theorem Sm.nest_size (T : ByteArray) (K : Nat → Int) (j : Nat) : (Sm.nest T K j).size ≤ T.size + 20 * j := by
  induction j with
  | zero => exact Nat.le_refl _
  | succ j ih =>
    have h := (Sm.bytes_length (3 * K j + 1) (Sm.nest T K j)).2
    have e : (Sm.nest T K (j + 1)).size = (Sm.bytes (3 * K j + 1) (Sm.nest T K j)).length := by
      show (Sm.bytes (3 * K j + 1) (Sm.nest T K j)).toArray.size = _
      simp
    omega
theorem Sm.dec_nest (T : ByteArray) (K : Nat → Int) (j : Nat) (h0 : 0 ≤ K j) (h1 : K j < 4294967294) (hs : (Sm.nest T K j).size ≤ 16384) :
    Sm.dec (Sm.nest T K (j + 1)).data.toList 0 = ((3 * K j + 1, Sm.nest T K j), ((Sm.nest T K (j + 1)).size : Int), 0) := by
  have h := Sm.dec_bytes [] [] (3 * K j + 1) (Sm.nest T K j) (Sm.valB_of (Sm.lockB_of h0 h1) hs)
  have e : (Sm.nest T K (j + 1)).data.toList = Sm.bytes (3 * K j + 1) (Sm.nest T K j) := by simp [Sm.nest]
  have e2 : (Sm.nest T K (j + 1)).size = (Sm.bytes (3 * K j + 1) (Sm.nest T K j)).length := by
    show (Sm.bytes (3 * K j + 1) (Sm.nest T K j)).toArray.size = _
    simp
  rw [e, e2]
  simpa using h

set_option maxRecDepth 100000 in
theorem sealNests_walk (T : ByteArray) (a b c : Int) (w : World) (hT : T.size ≤ 140737488351232) (ha0 : -9223372036854775808 ≤ a) (ha1 : a ≤ 9223372036854775807)
    (hb0 : -9223372036854775808 ≤ b) (hb1 : b ≤ 9223372036854775807) (hc0 : -9223372036854775808 ≤ c) (hc1 : c ≤ 9223372036854775807) :
    Calls Try.prog 7 #[.string T, .int .i64 a, .int .i64 b, .int .i64 c] w fun e w' => e = .returned (.bool true) ∧ Below w.heap.size w w' := by
  by_cases hbig : 2000 < T.size
  · go_enter Try.func7, Try.ntmps7
    go_wp2_with fail
    refine (ssane_any _).mono ?_
    rintro e w1 ⟨rfl, hB1⟩
    go_wp2
    go_ret
    exact ⟨rfl, hB1⟩
  have hT : T.size ≤ 2000 := by omega
  obtain ⟨ka, hka⟩ : ∃ k, a % 4294967294 = k := ⟨_, rfl⟩
  obtain ⟨kb, hkb⟩ : ∃ k, b % 4294967294 = k := ⟨_, rfl⟩
  obtain ⟨kc, hkc⟩ : ∃ k, c % 4294967294 = k := ⟨_, rfl⟩
  have M1 := Lib.hid (fun W => hka ▸ mkMod_any a 4294967294 W ha0 ha1 (by decide) (by decide))
  have M2 := Lib.hid (fun W => hkb ▸ mkMod_any b 4294967294 W hb0 hb1 (by decide) (by decide))
  have M3 := Lib.hid (fun W => hkc ▸ mkMod_any c 4294967294 W hc0 hc1 (by decide) (by decide))
  obtain ⟨K, hK⟩ : ∃ K : Nat → Int, K = fun j => if j = 0 then ka else if j = 1 then kb else kc := ⟨_, rfl⟩
  have hK0 : ∀ j, 0 ≤ K j ∧ K j < 4294967294 := fun j => by
    rw [hK]; simp only
    by_cases h0 : j = 0
    · rw [if_pos h0]; omega
    · rw [if_neg h0]; by_cases h1 : j = 1
      · rw [if_pos h1]; omega
      · rw [if_neg h1]; omega
  have hKl : ∀ j (h : j < 3), #[Value.int .i64 ka, Value.int .i64 kb, Value.int .i64 kc][j]? = some (.int .i64 (K j)) := fun j h => by
    rw [hK]
    obtain rfl | rfl | rfl : j = 0 ∨ j = 1 ∨ j = 2 := by omega
    · rfl
    · rfl
    · rfl
  obtain ⟨X, hX⟩ : ∃ X, X = Sm.nest T K := ⟨_, rfl⟩
  have hX0 : X 0 = T := by rw [hX]; rfl
  have hXs : ∀ j, j ≤ 3 → (X j).size ≤ 2060 := fun j h => by have := Sm.nest_size T K j; rw [hX]; omega
  have hXd : ∀ j, j < 3 → Sm.dec (X (j + 1)).data.toList 0 = ((3 * K j + 1, X j), ((X (j + 1)).size : Int), 0) := fun j h => by
    rw [hX]; exact Sm.dec_nest T K j (hK0 j).1 (hK0 j).2 (by have := hXs j (by omega); rw [hX] at this; omega)
  have hXe : ∀ j, j < 3 → Sm.enc (3 * K j + 1) (X j) = (X (j + 1), 0) := fun j h => by
    rw [Sm.enc_ok (Sm.valB_of (Sm.lockB_of (hK0 j).1 (hK0 j).2) (by have := hXs j (by omega); omega)), hX]; rfl
  have HK0 := Lib.hid hK0
  have HKl := Lib.hid hKl
  have HX0 := Lib.hid hX0
  have HXs := Lib.hid hXs
  have HXd := Lib.hid hXd
  have HXe := Lib.hid hXe
  clear hka hkb hkc hK hK0 hKl hX hX0 hXs hXd hXe
  go_enter Try.func7, Try.ntmps7
  go_wp2_with fail
  refine (ssane_any _).mono ?_
  rintro e w1 ⟨rfl, hB1⟩
  go_wp2_with fail
  refine (M1.out _).mono ?_
  rintro e w' ⟨rfl, rfl⟩
  go_wp2_with fail
  refine (M2.out _).mono ?_
  rintro e w' ⟨rfl, rfl⟩
  go_wp2_with fail
  refine (M3.out _).mono ?_
  rintro e w' ⟨rfl, rfl⟩
  go_wp2_with fail
  have hB2 := hB1.alloc hB1.size (.cells #[Value.int .i64 ka, Value.int .i64 kb, Value.int .i64 kc] 3)
  have hcs : ∀ j (h : j < 3), (w1.alloc (.cells #[Value.int .i64 ka, Value.int .i64 kb, Value.int .i64 kc] 3)).cell? ⟨w1.heap.size, j, none⟩ = some (.int .i64 (K j)) := fun j h => by
    rw [cell_new_at _ _ _ _ rfl]; exact HKl.out j h
  have hsz : (w1.alloc (.cells #[Value.int .i64 ka, Value.int .i64 kb, Value.int .i64 kc] 3)).heap.size = w1.heap.size + 1 := by simp
  obtain ⟨g, hg⟩ : ∃ g, w1.heap.size = g := ⟨_, rfl⟩
  have hgw : w.heap.size ≤ g := by rw [← hg]; exact hB1.size
  rw [hg] at hcs hsz ⊢
  generalize (w1.alloc (.cells #[Value.int .i64 ka, Value.int .i64 kb, Value.int .i64 kc] 3)) = w2 at hB2 hcs hsz ⊢
  have HCS := Lib.hid hcs
  have HB2 := Lib.hid hB2
  clear hB1 hB2 hg hcs HKl
  go_loopw [9, 40] (fun s i wr => ∃ j : Nat, j ≤ 3 ∧ s = .string (X j) ∧ i = .int .i64 j ∧ Below (g + 1) w2 wr) (fun s i wr => 3 - (intOf i).toNat)
  case atStart => exact ⟨0, by omega, by rw [HX0.out], rfl, Below.refl _ _⟩
  case round =>
    obtain ⟨j, hj, rfl, rfl, hBr⟩ := hrel
    by_cases hlt : j < 3
    · have d8 : decide ((j : Int) < 3) = true := by simp; omega
      have hcj := (hBr.cell (p := ⟨g, j, none⟩) (by show g < g + 1; omega)).trans (HCS.out j hlt)
      obtain ⟨k, hk⟩ : ∃ k, K j = k := ⟨_, rfl⟩
      obtain ⟨x, hx⟩ : ∃ x, X j = x := ⟨_, rfl⟩
      obtain ⟨m, hm⟩ : ∃ m, 3 * k + 1 = m := ⟨_, rfl⟩
      have k01 := HK0.out j
      have xs := HXs.out j hj
      have xe := HXe.out j hlt
      rw [hk] at k01 hcj xe
      rw [hx] at xs xe ⊢
      rw [hm] at xe
      obtain ⟨k0, k1⟩ := k01
      have eS : Sm.sl x k = ((m, x), 0) := by rw [Sm.seal_ok k0 k1 (by omega), hm]
      have S1 := Lib.hid (fun W => eS ▸ seal_any x k W (by omega) (by omega) (by omega))
      have E1 := Lib.hid (fun W => xe ▸ encode_any m x W (by omega) (by omega))
      have HBr := Lib.hid hBr
      have zr := hBr.size
      clear hk hx hm eS xe hBr
      go_wp2_with fail
      refine (S1.out _).mono ?_
      rintro e w3 ⟨rfl, hB3⟩
      unfold Sm.sval
      go_wp2_with fail
      refine (E1.out _).mono ?_
      rintro e w4 ⟨rfl, hB4⟩
      unfold Sm.tval
      have HB4 := Lib.hid (((HBr.out.trans (hB3.mono (by omega))).alloc (by have := hB3.size; omega) _).trans (hB4.mono (by have := hB3.size; simp; omega)))
      clear hB3 hB4 HBr hcj
      go_wp2_with fail
      go_roundw
      case rel => exact ⟨j + 1, by omega, rfl, by go_num, HB4.out⟩
      case measure => simp [intOf]; omega
    · obtain rfl : j = 3 := by omega
      have HBr := Lib.hid hBr
      clear hBr
      go_wp2_with fail
      go_loopw [9, 17] (fun s i wr => ∃ j : Nat, j ≤ 3 ∧ s = .string (X j) ∧ i = .int .i64 ((j : Int) - 1) ∧ Below (g + 1) w2 wr) (fun s i wr => (intOf i + 1).toNat)
      case atStart => exact ⟨3, by omega, rfl, rfl, HBr.out⟩
      case round =>
        obtain ⟨j, hj, rfl, rfl, hBr⟩ := hrel
        by_cases hlt : 0 < j
        · obtain ⟨q, rfl⟩ : ∃ q, j = q + 1 := ⟨j - 1, by omega⟩
          obtain ⟨r, hr⟩ : ∃ r, (q + 1) % 3 = r := ⟨_, rfl⟩
          have hr3 : r < 3 := by omega
          have hq3 : q < 3 := by omega
          have f1 : ((q : Int) + 1).tmod 3 = (r : Int) := by rw [Int.tmod_eq_emod_of_nonneg (by omega)]; omega
          have f2 : ((q : Int) + 1) % 3 = (r : Int) := by omega
          have f3 : ((q + 1 : Nat) : Int) - 1 = (q : Int) := by omega
          rw [f3]
          have hcq := HCS.out q hq3
          have hcr := HCS.out r hr3
          obtain ⟨k, hk⟩ : ∃ k, K q = k := ⟨_, rfl⟩
          obtain ⟨u, hu⟩ : ∃ u, K r = u := ⟨_, rfl⟩
          obtain ⟨x, hx⟩ : ∃ x, X q = x := ⟨_, rfl⟩
          obtain ⟨y, hy⟩ : ∃ y, X (q + 1) = y := ⟨_, rfl⟩
          obtain ⟨m, hm⟩ : ∃ m, 3 * k + 1 = m := ⟨_, rfl⟩
          have k01 := HK0.out q
          have u01 := HK0.out r
          have xs := HXs.out q (by omega)
          have ys := HXs.out (q + 1) hj
          have xd := HXd.out q hq3
          rw [hk] at k01 hcq xd
          rw [hu] at u01 hcr
          rw [hx, hy, hm] at xd
          rw [hx] at xs
          rw [hy] at ys ⊢
          obtain ⟨k0, k1⟩ := k01
          obtain ⟨u0, u1⟩ := u01
          obtain ⟨R1, R2, hR⟩ : ∃ R1 R2, Sm.opn m x u = (R1, R2) := ⟨_, _, rfl⟩
          have D1 := Lib.hid (fun W => xd ▸ decode_any y 0 W (by omega))
          have O1 := Lib.hid (fun W => (by have h := open_any m x u W (by omega) (by omega) (by omega) (by omega) (by omega); rw [hR] at h; exact h : Calls Try.prog 16 #[.agg #[.int .i64 m, .string x], .int .i64 u] W fun e w' => e = .returned (.tuple #[.string R1, .int .i64 R2]) ∧ Below W.heap.size W w'))
          have eO : Sm.opn m x k = (x, 0) := by rw [← hm, Sm.opn_ok k0 k1 (by omega) k0 k1, if_pos rfl]
          have O2 := Lib.hid (fun W => (by have h := open_any m x k W (by omega) (by omega) (by omega) (by omega) (by omega); rw [eO] at h; exact h : Calls Try.prog 16 #[.agg #[.int .i64 m, .string x], .int .i64 k] W fun e w' => e = .returned (.tuple #[.string x, .int .i64 0]) ∧ Below W.heap.size W w'))
          rw [← hm, Sm.opn_ok k0 k1 (by omega) u0 u1] at hR
          have HR := Lib.hid hR
          have HX := Lib.hid hx
          have zr := hBr.size
          have HBr := Lib.hid hBr
          clear hr hk hu hx hy hm xd eO hR hBr f3
          go_wp2_with fail
          refine (D1.out _).mono ?_
          rintro e w3 ⟨rfl, hB3⟩
          unfold Sm.dval
          have HB3 := Lib.hid ((HBr.out.trans (hB3.mono (by omega))).alloc (by have := hB3.size; omega) (.cells #[Value.int .i64 m, Value.string x] 23))
          have Z3 := Lib.hid (Has2.new w3 (.int .i64 m) (.string x) 23)
          clear hB3 HBr
          go_wp2_with fail
          obtain ⟨b3, hb3⟩ : ∃ b, w3.heap.size = b := ⟨_, rfl⟩
          rw [hb3] at Z3 ⊢
          generalize (w3.alloc (.cells #[Value.int .i64 m, Value.string x] 23)) = wa at HB3 Z3 ⊢
          have za : g + 1 ≤ wa.heap.size := by have := HB3.out.size; omega
          have ew : IntKind.i64.wrap ((q : Int) + 1) = (q : Int) + 1 := IntWalk.i64_in _ (by omega)
          have i0 : (0 : Int) ≤ (r : Int) := by omega
          have i1 : (r : Int) < 3 := by omega
          have i2 : (0 : Int) ≤ (q : Int) := by omega
          have i3 : (q : Int) < 3 := by omega
          have fc : ∀ y : Ext wa.heap.size wa, Has2 y.1 b3 (.int .i64 m) (.string x) ∧ y.1.cell? ⟨g, r, none⟩ = some (.int .i64 u) ∧ y.1.cell? ⟨g, q, none⟩ = some (.int .i64 k) := fun y =>
            ⟨Z3.out.below y.2, ((HB3.out.trans (y.2.mono za)).cell (p := ⟨g, r, none⟩) (by show g < g + 1; omega)).trans hcr, ((HB3.out.trans (y.2.mono za)).cell (p := ⟨g, q, none⟩) (by show g < g + 1; omega)).trans hcq⟩
          have g0 := fun y => (fc y).1.1
          have g1 := fun y => (fc y).1.2.1
          have g2 := fun y => (fc y).2.1
          have FC := Lib.hid fc
          clear fc
          refine wp_region_below wa.heap.size (by kernel_rfl) (by kernel_rfl) ?_
          repeat (go_big_quiet_step ((go_at_call 16; exact Calls.ext_of _ (Nat.le_refl _) (O1.out _))))
          refine wpQuiet_nil ?_
          intro w5 hB5
          clear g0 g1 g2
          have fc : ∀ y : Ext w5.heap.size w5, Has2 y.1 b3 (.int .i64 m) (.string x) ∧ y.1.cell? ⟨g, r, none⟩ = some (.int .i64 u) ∧ y.1.cell? ⟨g, q, none⟩ = some (.int .i64 k) := fun y => FC.out ⟨y.1, hB5.trans (y.2.mono hB5.size)⟩
          have g0 := fun y => (fc y).1.1
          have g1 := fun y => (fc y).1.2.1
          have g2 := fun y => (fc y).2.2
          clear FC
          have FC := Lib.hid fc
          have HB5 := Lib.hid (HB3.out.trans (hB5.mono za))
          have z5 : g + 1 ≤ w5.heap.size := Nat.le_trans za hB5.size
          clear fc hB5 HB3 Z3 hcq hcr
          go_wp2_with fail
          refine wp_region_below w5.heap.size (by kernel_rfl) (by kernel_rfl) ?_
          repeat (go_big_quiet_step ((go_at_call 16; exact Calls.ext_of _ (Nat.le_refl _) (O2.out _))))
          refine wpQuiet_nil ?_
          intro w6 hB6
          clear g0 g1 g2
          have g1 : w6.cell? ⟨g, r, none⟩ = some (.int .i64 u) := (FC.out ⟨w6, hB6⟩).2.1
          have g2 : w6.cell? ⟨g, q, none⟩ = some (.int .i64 k) := (FC.out ⟨w6, hB6⟩).2.2
          have HB6 := Lib.hid (HB5.out.trans (hB6.mono z5))
          clear FC HB5 hB6
          have hrel : (k = u → (R1, R2) = (x, 0)) ∧ (k ≠ u → R2 = 9) := ⟨fun h => by rw [← HR.out, if_pos h], fun h => by have := HR.out; rw [if_neg h] at this; exact (Prod.mk.inj this).2.symm⟩
          by_cases hku : k = u
          · have h1 : R2 = 0 := (Prod.mk.inj (hrel.1 hku)).2
            subst h1
            have h2 : (u == k) = true := beq_iff_eq.2 hku.symm
            clear hrel HR hku
            go_wp2_with fail
            go_quiet (fail)
            go_wp2_with fail
            go_roundw
            case rel => (repeat apply Exists.intro); exact ⟨⟨q, by omega, by rw [HX.out], rfl, HB6.out.trans ⟨rfl, rfl, rfl, Nat.le_refl _, fun _ _ => rfl⟩⟩, rfl⟩
            case measure => simp [intOf]
          · have h1 : R2 = 9 := hrel.2 hku
            subst h1
            have h2 : (u == k) = false := beq_eq_false_iff_ne.2 (fun h => hku h.symm)
            clear hrel HR hku
            go_wp2_with fail
            go_quiet (fail)
            go_wp2_with fail
            go_roundw
            case rel => (repeat apply Exists.intro); exact ⟨⟨q, by omega, by rw [HX.out], rfl, HB6.out.trans ⟨rfl, rfl, rfl, Nat.le_refl _, fun _ _ => rfl⟩⟩, rfl⟩
            case measure => simp [intOf]
        · obtain rfl : j = 0 := by omega
          have hx := HX0.out
          have hst := str_same hx
          go_wp2_with fail
          go_ret
          first | exact ⟨rfl, HB2.out.trans (hBr.mono (by omega))⟩ | exact ⟨Sm.ret_b hst, HB2.out.trans (hBr.mono (by omega))⟩

end Go.Proofs.Ytapmdneepinbgaa
