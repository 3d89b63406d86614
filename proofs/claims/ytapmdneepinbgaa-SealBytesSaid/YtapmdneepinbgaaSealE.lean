/-
  SealBytes: its walk.
-/
import Derived.Test.YtapmdneepinbgaaSealD
namespace Go.Proofs.Ytapmdneepinbgaa
open Go.RowKit
set_option maxHeartbeats 2000000
set_option linter.unusedVariables false
attribute [local go_sem ↓] Go.wp_at_zero Go.wp_at_succ

/-- the three texts of a cut -/
theorem Sm.enc_bd {L : Int} {T E : ByteArray} {e : Int} (h : Sm.enc L T = (E, e)) : E.size ≤ 16404 := by
  unfold Sm.enc at h
  by_cases hv : Sm.valB L T = false
  · rw [if_pos hv] at h
    simp only [Prod.mk.injEq] at h
    rw [← h.1]; decide
  · rw [if_neg hv] at h
    simp only [Prod.mk.injEq] at h
    have hT := (Sm.of_valB (by simpa using hv)).2
    have := (Sm.bytes_length L T).2
    rw [← h.1]
    show Array.size _ ≤ _
    simp; omega

theorem Has2.setCell {w : World} {b : Nat} {x y : Value} (h : Has2 w b x y) (g i : Nat) (hne : b ≠ g) (v : Value) : Has2 (w.setCell ⟨g, i, none⟩ v) b x y :=
  ⟨by rw [World.cell?_setCell_other _ _ _ _ (by intro e; injection e with e1 _; first | exact hne e1 | exact hne e1.symm)]; exact h.1, by rw [World.cell?_setCell_other _ _ _ _ (by intro e; injection e with e1 _; first | exact hne e1 | exact hne e1.symm)]; exact h.2.1, by have := h.2.2; simp; omega⟩

set_option maxRecDepth 100000 in
theorem sealBytes_walk (T : ByteArray) (L : Int) (M S : ByteArray) (at_ key cut by_ : Int) (w : World) (hT : T.size ≤ 140737488351232) (hL0 : -9223372036854775808 ≤ L) (hL1 : L ≤ 9223372036854775807) (hM : M.size ≤ 140737488351232)
    (hS : S.size ≤ 140737488351232) (ha0 : -9223372036854775808 ≤ at_) (ha1 : at_ ≤ 9223372036854775807) (hk0 : -9223372036854775808 ≤ key) (hk1 : key ≤ 9223372036854775807) (hc0 : 0 ≤ cut) (hc1 : cut ≤ 255) (hb0 : 0 ≤ by_) (hb1 : by_ ≤ 255) :
    Calls Try.prog 4 #[.string T, .agg #[.int .i64 L, .string M], .string S, .int .i64 at_, .int .i64 key, .int .u8 cut, .int .u8 by_] w fun e w' => e = .returned (.bool true) ∧ Below w.heap.size w w' := by
  by_cases hbig : 40000 < T.size + M.size + S.size
  · have d1 : decide ((40000 : Int) < (T.size : Int) + (M.size : Int) + (S.size : Int)) = true := by simp; omega
    go_enter Try.func4, Try.ntmps4
    go_wp2_with fail
    refine (ssane_any _).mono ?_
    rintro e w1 ⟨rfl, hB1⟩
    obtain ⟨p0, p1, p2⟩ := (Has2.new w (.int .i64 L) (.string M) 23).below hB1
    go_wp2
    go_ret
    exact ⟨rfl, ((Below.refl _ w).alloc (Nat.le_refl _) _).trans (hB1.mono (by simp))⟩
  have d1 : decide ((40000 : Int) < (T.size : Int) + (M.size : Int) + (S.size : Int)) = false := by simp; omega
  have hT4 : T.size ≤ 40000 := by omega
  have hM4 : M.size ≤ 40000 := by omega
  have hS4 : S.size ≤ 40000 := by omega
  obtain ⟨k, hk⟩ : ∃ v, key % 4294967294 = v := ⟨_, rfl⟩
  have k0 : 0 ≤ k := by omega
  have k1 : k < 4294967294 := by omega
  have M1 := Lib.hid (fun W => hk ▸ mkMod_any key 4294967294 W hk0 hk1 (by decide) (by decide))
  obtain ⟨m, X, x2, hx⟩ : ∃ a b c, Sm.sl T k = ((a, b), c) := ⟨_, _, _, rfl⟩
  have S2 := Lib.hid (fun W => (by have h := rseal_any T k W (by omega) (by omega) (by omega); rw [hx] at h; exact h : Calls Try.prog 15 #[.string T, .int .i64 k] W fun e w' => e = .returned (.tuple #[.agg #[.int .i64 m, .string X], .int .i64 x2]) ∧ Below W.heap.size W w'))
  obtain ⟨⟨m0, m1⟩, hX4⟩ := Sm.sl_bd hx hT4
  obtain ⟨E, e2, he⟩ : ∃ a b, Sm.enc m X = (a, b) := ⟨_, _, rfl⟩
  have hE4 := Sm.enc_bd he
  have E2 := Lib.hid (fun W => (by have h := rencode_any m X W (by omega) (by omega); rw [he] at h; exact h : Calls Try.prog 20 #[.agg #[.int .i64 m, .string X]] W fun e w' => e = .returned (.tuple #[.string E, .int .i64 e2]) ∧ Below W.heap.size W w'))
  clear hk hx he
  obtain ⟨cut, rfl⟩ := Int.eq_ofNat_of_zero_le hc0
  obtain ⟨ES, hES⟩ : ∃ ES, E ++ S = ES := ⟨_, rfl⟩
  have zES : ES.size = E.size + S.size := by rw [← hES]; exact ByteArray.size_append
  have a1 : ∀ W : World, (Op.stringOp .add E S).run Try.prog W = .ok (.string ES) W := fun W => hES ▸ run_string_add_sum W E S (by omega)
  have hES6 : ES.size ≤ 60000 := by omega
  clear hES
  obtain ⟨kc, hkc⟩ : ∃ kc, cut % (E.size + 1) = kc := ⟨_, rfl⟩
  have kc1 : kc ≤ E.size := by have := Nat.mod_lt cut (show 0 < E.size + 1 by omega); omega
  have zEc : (E.extract 0 kc).size ≤ 60000 := by rw [ByteArray.size_extract]; omega
  have f1 : (cut : Int).tmod ((E.size : Int) + 1) = (kc : Int) := by rw [Int.tmod_eq_emod_of_nonneg (by omega), ← hkc]; simp
  have f2 : (cut : Int) % ((E.size : Int) + 1) = (kc : Int) := by rw [← hkc]; simp
  have f3 : (0 : Int) ≤ (kc : Int) := by omega
  have f4 : (kc : Int) ≤ (E.size : Int) := by omega
  have f5 : IntKind.i64.wrap (cut : Int) = (cut : Int) := IntWalk.i64_in _ (by omega)
  have f6 : IntKind.i64.wrap ((E.size : Int) + 1) = (E.size : Int) + 1 := IntWalk.i64_in _ (by omega)
  have f7 : ¬ E.size < kc := by omega
  have f8 : decide (E.size < kc) = false := by simp; omega
  have f9 : IntKind.i64.wrap (kc : Int) = (kc : Int) := IntWalk.i64_in _ (by omega)
  clear hkc
  have F1 := Lib.hid f1
  have F2 := Lib.hid f2
  have F5 := Lib.hid f5
  have F6 := Lib.hid f6
  have F9 := Lib.hid f9
  clear f1 f2 f5 f6 f9
  go_enter Try.func4, Try.ntmps4
  go_wp2_with fail
  refine (ssane_any _).mono ?_
  rintro e w1 ⟨rfl, hB1⟩
  have A1 := Lib.hid ((Has2.new w (.int .i64 L) (.string M) 23).below hB1)
  have HB1 := Lib.hid (((Below.refl _ w).alloc (Nat.le_refl _) _).trans (hB1.mono (by simp)))
  obtain ⟨p0, p1, p2⟩ := A1.out
  clear hB1
  go_wp2_with fail
  refine (M1.out _).mono ?_
  rintro e w' ⟨rfl, rfl⟩
  go_wp2_with fail
  refine (S2.out _).mono ?_
  rintro e w2 ⟨rfl, hB2⟩
  have A2 := Lib.hid (A1.out.below hB2)
  have HB2 := Lib.hid (HB1.out.trans (hB2.mono HB1.out.size))
  clear hB2 p0 p1 p2 A1 M1 S2
  go_wp2_with fail
  refine (E2.out _).mono ?_
  rintro e w3 ⟨rfl, hB3⟩
  have A3 := Lib.hid ((A2.out.alloc (.cells #[Value.int .i64 m, Value.string X] 23)).below hB3)
  have X3 := Lib.hid ((Has2.new w2 (.int .i64 m) (.string X) 23).below hB3)
  have HB3 := Lib.hid ((HB2.out.alloc HB2.out.size (.cells #[Value.int .i64 m, Value.string X] 23)).trans (hB3.mono (Nat.le_trans HB2.out.size (by simp))))
  obtain ⟨bx, hbx⟩ : ∃ b, w2.heap.size = b := ⟨_, rfl⟩
  rw [hbx] at X3 ⊢
  clear hB3 E2 HB2 A2 hbx HB1
  obtain ⟨C, w4, hcv, hC, hB4, hsz4, hcell4, hfr4⟩ := bytes_of_string (P := Try.prog) w3 9 38 5 ES Try.underlying9 Try.underlying38 Try.underlying5
  have A4 := Lib.hid (A3.out.below hB4)
  have X4 := Lib.hid (X3.out.below hB4)
  have HB4 := Lib.hid (HB3.out.trans (hB4.mono HB3.out.size))
  have ge3 := HB3.out.size
  have ga := A3.out.2.2
  have gx := X3.out.2.2
  clear hB4 HB3 A3 X3
  obtain ⟨G, hG⟩ : ∃ G, w3.heap.size = G := ⟨_, rfl⟩
  rw [hG] at hcv hsz4 hcell4 hfr4 ge3 ga gx
  by_cases hn : ES.size = 0
  · have n0 : ¬ (0 : Int) < (ES.size : Int) := by omega
    have d0 : decide (0 < ES.size) = false := decide_eq_false (by omega)
    have hcell7 : BytesAt w4 G ES := hcell4
    have H8 := Lib.hid hG
    have H9 := Lib.hid zES
    clear hcell4 hfr4 hG zES hn
    go_wp2_with fail
    obtain ⟨t, ht⟩ : ∃ t, ES = t := ⟨_, rfl⟩
    have hts : t.size = ES.size := by rw [ht]
    have hcell7 : BytesAt w4 G t := ht ▸ hcell7
    have hlt7 : w4.heap.size = G + 1 := hsz4
    have hB7 := HB4.out
    have hA7 := A4.out
    have hX7 := X4.out
    generalize w4 = w7 at hcell7 hlt7 hB7 hA7 hX7 ⊢
    clear ht H8 H9 hcv hsz4 HB4 A4 X4
    have HV := Lib.hid (fun (W : World) (h : BytesAt W G t) => h.conv (P := Try.prog) 38 9 5 ES.size C hts.symm Try.underlying38 Try.underlying5 Try.underlying9)
    have f1 := F1.out
    have f2 := F2.out
    have f5 := F5.out
    have f6 := F6.out
    have f9 := F9.out
    have hts6 : t.size ≤ 60000 := by omega
    have hS0 := HV.out _ hcell7
    have f10 : ¬ ((E.size : Int) + 1 = 0) := by omega
    clear hts
    go_region_held3 (fun w' => (convert 38 9 (.slice (some ⟨G, 0, none⟩) ES.size C)).run Try.prog w' = .ok (.string t) w' ∧ BytesAt w' G t) (first | exact ⟨HV.out _ hcell7, hcell7⟩ | exact ⟨HV.out _ (BytesAt.drew hcell7), BytesAt.drew hcell7⟩ | exact ⟨HV.out _ (BytesAt.alloc (BytesAt.drew hcell7) (by simp; omega) _), BytesAt.alloc (BytesAt.drew hcell7) (by simp; omega) _⟩) (fail)
    clear hS0 f1 f2 f3 f4 f5 f6 f7 f8 f9 f10 HV hcell7 F1 F2 F5 F6 F9
    obtain ⟨Q, hQ⟩ : ∃ Q : List ByteArray, Q = [S, E, ES, t, E.extract 0 kc] := ⟨_, rfl⟩
    have hQl : Q.length = 5 := by rw [hQ]; rfl
    have hQs : ∀ x ∈ Q, x.size ≤ 60000 := by
      intro x hx
      rw [hQ] at hx
      simp only [List.mem_cons, List.not_mem_nil, or_false] at hx
      rcases hx with rfl | rfl | rfl | rfl | rfl
      · omega
      · omega
      · exact hES6
      · exact hts6
      · exact zEc
    have e5 : #[Value.string S, Value.string E, Value.string ES, Value.string t, Value.string (E.extract 0 kc)] = (Q.map Value.string).toArray := by rw [hQ]; rfl
    rw [e5]
    have hc0 : ∀ i (h : i < Q.length), (w7.alloc (.cells (Q.map Value.string).toArray 9)).drew.cell? ⟨G + 1, i, none⟩ = some (.string Q[i]) := new_strs w7 9 Q (G + 1) hlt7.symm
    have hs0 : (w7.alloc (.cells (Q.map Value.string).toArray 9)).drew.heap.size = G + 2 := by simp [hlt7]
    have hB0 := (hB7.alloc hB7.size (.cells (Q.map Value.string).toArray 9)).drew
    have hA0 : Has2 (w7.alloc (.cells (Q.map Value.string).toArray 9)).drew w.heap.size (.int .i64 L) (.string M) := hA7.alloc _
    have hX0 : Has2 (w7.alloc (.cells (Q.map Value.string).toArray 9)).drew bx (.int .i64 m) (.string X) := hX7.alloc _
    generalize (w7.alloc (.cells (Q.map Value.string).toArray 9)).drew = W0 at hc0 hs0 hB0 hA0 hX0 ⊢
    have HC0 := Lib.hid hc0
    have HB0 := Lib.hid hB0
    have HA0 := Lib.hid hA0
    have HX0 := Lib.hid hX0
    have HQl := Lib.hid hQl
    have HQs := Lib.hid hQs
    clear hc0 hB0 hA0 hX0 hQl hQs hQ e5 hB7 hA7 hX7 hlt7
    go_wp2_with fail
    go_loopw [96] (fun i wr => ∃ j : Nat, j ≤ 5 ∧ i = .int .i64 j ∧ Below (G + 2) W0 wr) (fun i wr => 5 - (intOf i).toNat)
    case atStart => exact ⟨0, by omega, rfl, Below.refl _ _⟩
    case round =>
      obtain ⟨j, hj, rfl, hBr⟩ := hrel
      have HBr := Lib.hid hBr
      have zr : G + 2 ≤ wr.heap.size := by have := hBr.size; omega
      by_cases hlt : j < 5
      · have d8 : decide ((j : Int) < 5) = true := by simp; omega
        obtain ⟨v, hv⟩ : ∃ v, Q[j]'(by rw [HQl.out]; exact hlt) = v := ⟨_, rfl⟩
        have hcj := (hBr.cell (p := ⟨G + 1, j, none⟩) (by show G + 1 < G + 2; omega)).trans (HC0.out j (by rw [HQl.out]; exact hlt))
        have hvs := HQs.out _ (List.getElem_mem (by rw [HQl.out]; exact hlt))
        rw [hv] at hcj hvs
        have vb : 1 ≤ (v.size : Int) + 1 := by omega
        have vb2 : (v.size : Int) + 1 ≤ 4611686018427387903 := by omega
        obtain ⟨z, hz⟩ : ∃ z, at_ % ((v.size : Int) + 1) = z := ⟨_, rfl⟩
        have M3 := Lib.hid (fun W => hz ▸ mkMod_any at_ ((v.size : Int) + 1) W ha0 ha1 vb vb2)
        clear hv hBr vb vb2
        go_wp2_with fail
        refine (M3.out _).mono ?_
        rintro e w' ⟨rfl, rfl⟩
        clear M3 hcj hz
        go_wp2_with fail
        have e3 : #[Value.int .i64 at_, Value.int .i64 0, Value.int .i64 z] = (([at_, 0, z] : List Int).map (Value.int .i64)).toArray := rfl
        obtain ⟨Z, hZ⟩ : ∃ Z : List Int, Z = [at_, 0, z] := ⟨_, rfl⟩
        have hZl : Z.length = 3 := by rw [hZ]; rfl
        rw [e3, ← hZ]
        have hcz := new_ints wr .i64 3 Z wr.heap.size rfl
        have hBi := HBr.out.alloc (by omega) (.cells (Z.map (Value.int .i64)).toArray 3)
        have hsi : (wr.alloc (.cells (Z.map (Value.int .i64)).toArray 3)).heap.size = wr.heap.size + 1 := by simp
        obtain ⟨H, hH⟩ : ∃ H, wr.heap.size = H := ⟨_, rfl⟩
        rw [hH] at hcz hsi zr ⊢
        generalize (wr.alloc (.cells (Z.map (Value.int .i64)).toArray 3)) = wi at hcz hBi hsi ⊢
        have HCZ := Lib.hid hcz
        have HBi := Lib.hid hBi
        have HZl := Lib.hid hZl
        clear hcz hBi hZl hZ e3 HBr hH
        go_loopw [108] (fun i wr => ∃ q : Nat, q ≤ 3 ∧ i = .int .i64 q ∧ Below (H + 1) wi wr) (fun i wr => 3 - (intOf i).toNat)
        case atStart => exact ⟨0, by omega, rfl, Below.refl _ _⟩
        case round =>
          obtain ⟨q, hq, rfl, hBq⟩ := hrel
          have HBq := Lib.hid hBq
          by_cases hlq : q < 3
          · have d3 : decide ((q : Int) < 3) = true := by simp; omega
            obtain ⟨z1, hz1⟩ : ∃ v, Z[q]'(by rw [HZl.out]; exact hlq) = v := ⟨_, rfl⟩
            have hcq := (hBq.cell (p := ⟨H, q, none⟩) (by show H < H + 1; omega)).trans (HCZ.out q (by rw [HZl.out]; exact hlq))
            rw [hz1] at hcq
            have zq : H + 1 ≤ wr.heap.size := by have := hBq.size; omega
            obtain ⟨r1, r2, r3, r4, hr⟩ : ∃ a b c d, Sm.dec v.data.toList z1 = ((a, b), c, d) := ⟨_, _, _, _, rfl⟩
            have D1 := Lib.hid (fun W => (by have h := decode_any v z1 W (by omega); rw [hr] at h; exact h : Calls Try.prog 21 #[.string v, .int .i64 z1] W fun e w' => e = .returned (.tuple #[.agg #[.int .i64 r1, .string r2], .int .i64 r3, .int .i64 r4]) ∧ Below W.heap.size W w'))
            have D2 := Lib.hid (fun W => (by have h := rdecode_any v z1 W (by omega); rw [hr] at h; exact h : Calls Try.prog 22 #[.string v, .int .i64 z1] W fun e w' => e = .returned (.tuple #[.agg #[.int .i64 r1, .string r2], .int .i64 r3, .int .i64 r4]) ∧ Below W.heap.size W w'))
            clear hr hz1 hBq
            go_wp2_with fail
            refine (D1.out _).mono ?_
            rintro e w5 ⟨rfl, hB5⟩
            have HB5 := Lib.hid (HBq.out.trans (hB5.mono zq))
            have z5 : H + 1 ≤ w5.heap.size := Nat.le_trans zq hB5.size
            clear hB5 hcq HBq
            go_wp2_with fail
            refine (D2.out _).mono ?_
            rintro e w6 ⟨rfl, hB6⟩
            have Y6 := Lib.hid ((Has2.new w5 (.int .i64 r1) (.string r2) 23).below hB6)
            have HB6 := Lib.hid ((HB5.out.alloc z5 (.cells #[Value.int .i64 r1, Value.string r2] 23)).trans (hB6.mono (by simp; omega)))
            have z6 : H + 1 ≤ w6.heap.size := Nat.le_trans z5 (Nat.le_trans (by simp) hB6.size)
            obtain ⟨y0, y1, y2⟩ := Y6.out
            clear hB6 HB5
            go_wp2_with fail
            have HB7 := Lib.hid (HB6.out.alloc z6 (.cells #[Value.int .i64 r1, Value.string r2] 23))
            clear y0 y1 y2 Y6 HB6
            go_roundw
            case rel => exact ⟨q + 1, by omega, by go_num, HB7.out⟩
            case measure => simp [intOf]; omega
          · obtain rfl : q = 3 := by omega
            have HBz := Lib.hid (HBi.out.trans (hBq.mono (by omega)))
            clear hBq HBq HCZ HBi
            go_wp2_with fail
            go_roundw
            case rel => exact ⟨j + 1, by omega, by go_num, HBz.out⟩
            case measure => simp [intOf]; omega
      · obtain rfl : j = 5 := by omega
        have hA1 := HA0.out.below (hBr.mono (by omega))
        have hX1 := HX0.out.below (hBr.mono (by omega))
        have HA1 := Lib.hid hA1
        have HX1 := Lib.hid hX1
        obtain ⟨p0, p1, p2⟩ := hA1
        obtain ⟨q0, q1, q2⟩ := hX1
        have HB1 := Lib.hid (HB0.out.trans (hBr.mono (by omega)))
        clear hBr HBr HC0
        go_wp2_with fail
        have e4 : #[Value.int .i64 L, Value.string M, Value.int .i64 m, Value.string X] = #[Value.int .i64 L, Value.string M, Value.int .i64 m, Value.string X] := rfl
        have hin : ∀ j, j < 2 → ∃ (l : Int) (t : ByteArray), (wr.alloc (.cells #[Value.int .i64 L, Value.string M, Value.int .i64 m, Value.string X] 23)).cell? ⟨wr.heap.size, j * 2, none⟩ = some (.int .i64 l) ∧
            (wr.alloc (.cells #[Value.int .i64 L, Value.string M, Value.int .i64 m, Value.string X] 23)).cell? ⟨wr.heap.size, j * 2 + 1, none⟩ = some (.string t) ∧ (-9223372036854775808 ≤ l ∧ l ≤ 9223372036854775807) ∧ t.size ≤ 40000 := by
          intro j hj
          obtain rfl | rfl : j = 0 ∨ j = 1 := by omega
          · exact ⟨L, M, by rw [cell_new_at _ _ _ _ rfl]; rfl, by rw [cell_new_at _ _ _ _ rfl]; rfl, ⟨hL0, hL1⟩, hM4⟩
          · exact ⟨m, X, by rw [cell_new_at _ _ _ _ rfl]; rfl, by rw [cell_new_at _ _ _ _ rfl]; rfl, ⟨m0, m1⟩, hX4⟩
        have HB2 := Lib.hid (HB1.out.alloc HB1.out.size (.cells #[Value.int .i64 L, Value.string M, Value.int .i64 m, Value.string X] 23))
        have hs2 : (wr.alloc (.cells #[Value.int .i64 L, Value.string M, Value.int .i64 m, Value.string X] 23)).heap.size = wr.heap.size + 1 := by simp
        obtain ⟨H, hH⟩ : ∃ H, wr.heap.size = H := ⟨_, rfl⟩
        rw [hH] at hin hs2 zr ⊢
        generalize (wr.alloc (.cells #[Value.int .i64 L, Value.string M, Value.int .i64 m, Value.string X] 23)) = wi at hin HB2 hs2 ⊢
        have HIN := Lib.hid hin
        have zw : w.heap.size ≤ H + 1 := by omega
        clear hin hH HB1 HA1 HX1 p0 p1 p2 q0 q1 q2 e4
        go_loopw [145] (fun i wr => ∃ q : Nat, q ≤ 2 ∧ i = .int .i64 q ∧ Below (H + 1) wi wr) (fun i wr => 2 - (intOf i).toNat)
        case atStart => exact ⟨0, by omega, rfl, Below.refl _ _⟩
        case round =>
          obtain ⟨q, hq, rfl, hBq⟩ := hrel
          have HBq := Lib.hid hBq
          by_cases hlq : q < 2
          · have d3 : decide ((q : Int) < 2) = true := by simp; omega
            obtain ⟨l, u, t0, t1, ⟨l0, l1⟩, t4⟩ := HIN.out q hlq
            have u0 := (hBq.cell (p := ⟨H, q * 2, none⟩) (by show H < H + 1; omega)).trans t0
            have u1 := (hBq.cell (p := ⟨H, q * 2 + 1, none⟩) (by show H < H + 1; omega)).trans t1
            have zq : H + 1 ≤ wr.heap.size := by have := hBq.size; omega
            obtain ⟨R1, R2, hR⟩ : ∃ R1 R2, Sm.enc l u = (R1, R2) := ⟨_, _, rfl⟩
            obtain ⟨N1, N2, N3, hN⟩ : ∃ a b c, Sm.name l u = ((a, b), c) := ⟨_, _, _, rfl⟩
            have O1 := Lib.hid (fun W => (by have h := encode_any l u W l0 l1; rw [hR] at h; exact h : Calls Try.prog 23 #[.agg #[.int .i64 l, .string u]] W fun e w' => e = .returned (.tuple #[.string R1, .int .i64 R2]) ∧ Below W.heap.size W w'))
            have O2 := Lib.hid (fun W => (by have h := rencode_any l u W l0 l1; rw [hR] at h; exact h : Calls Try.prog 20 #[.agg #[.int .i64 l, .string u]] W fun e w' => e = .returned (.tuple #[.string R1, .int .i64 R2]) ∧ Below W.heap.size W w'))
            have O3 := Lib.hid (fun W => (by have h := name_any l u W l0 l1; rw [hN] at h; exact h : Calls Try.prog 24 #[.agg #[.int .i64 l, .string u]] W fun e w' => e = .returned (.tuple #[.agg #[.int .i64 N1, .int .i64 N2], .int .i64 N3]) ∧ Below W.heap.size W w'))
            have O4 := Lib.hid (fun W => (by have h := rname_any l u W l0 l1; rw [hN] at h; exact h : Calls Try.prog 25 #[.agg #[.int .i64 l, .string u]] W fun e w' => e = .returned (.tuple #[.agg #[.int .i64 N1, .int .i64 N2], .int .i64 N3]) ∧ Below W.heap.size W w'))
            clear t0 t1 hR hN hBq
            go_wp2_with fail
            refine (O1.out _).mono ?_
            rintro e w5 ⟨rfl, hB5⟩
            have L5 := Lib.hid ((Has2.new wr (.int .i64 l) (.string u) 23).below hB5)
            have HB5 := Lib.hid ((HBq.out.alloc zq (.cells #[Value.int .i64 l, Value.string u] 23)).trans (hB5.mono (by simp; omega)))
            have z5 : H + 1 ≤ w5.heap.size := Nat.le_trans zq (Nat.le_trans (by simp) hB5.size)
            obtain ⟨v0, v1, v2⟩ := L5.out
            clear hB5 u0 u1 HBq
            go_wp2_with fail
            refine (O2.out _).mono ?_
            rintro e w6 ⟨rfl, hB6⟩
            have L6 := Lib.hid (L5.out.below hB6)
            have HB6 := Lib.hid (HB5.out.trans (hB6.mono z5))
            have z6 : H + 1 ≤ w6.heap.size := Nat.le_trans z5 hB6.size
            clear hB6 v0 v1 v2 L5 HB5 z5
            obtain ⟨v0, v1, v2⟩ := L6.out
            go_wp2_with fail
            refine (O3.out _).mono ?_
            rintro e w7 ⟨rfl, hB7⟩
            have L7 := Lib.hid (L6.out.below hB7)
            have HB7 := Lib.hid (HB6.out.trans (hB7.mono z6))
            have z7 : H + 1 ≤ w7.heap.size := Nat.le_trans z6 hB7.size
            clear hB7 v0 v1 v2 L6 HB6 z6
            obtain ⟨v0, v1, v2⟩ := L7.out
            go_wp2_with fail
            refine (O4.out _).mono ?_
            rintro e w8 ⟨rfl, hB8⟩
            have N8 := Lib.hid ((Has2.new w7 (.int .i64 N1) (.int .i64 N2) 43).below hB8)
            have HB8 := Lib.hid ((HB7.out.alloc z7 (.cells #[Value.int .i64 N1, Value.int .i64 N2] 43)).trans (hB8.mono (by simp; omega)))
            have z8 : H + 1 ≤ w8.heap.size := Nat.le_trans z7 (Nat.le_trans (by simp) hB8.size)
            clear hB8 v0 v1 v2 L7 HB7 z7
            obtain ⟨v0, v1, v2⟩ := N8.out
            go_wp2_with fail
            have HB9 := Lib.hid (HB8.out.alloc z8 (.cells #[Value.int .i64 N1, Value.int .i64 N2] 43))
            clear v0 v1 v2 N8 HB8
            go_roundw
            case rel => (repeat apply Exists.intro); exact ⟨⟨q + 1, by omega, by go_num, HB9.out⟩, rfl⟩
            case measure => simp [intOf]; omega
          · obtain rfl : q = 2 := by omega
            have HBz := Lib.hid (HB2.out.trans (hBq.mono (by omega)))
            clear hBq HBq HIN HB2
            go_wp2
            go_ret
            exact ⟨rfl, HBz.out⟩

  · obtain ⟨ke, hke⟩ : ∃ kc, cut % ES.size = kc := ⟨_, rfl⟩
    have ke1 : ke < ES.size := by have := Nat.mod_lt cut (show 0 < ES.size by omega); omega
    have n0 : (0 : Int) < (ES.size : Int) := by omega
    have n1 : ¬ ES = ByteArray.empty := fun h => hn (by rw [h]; rfl)
    have h1 : (cut : Int).tmod (ES.size : Int) = (ke : Int) := by rw [Int.tmod_eq_emod_of_nonneg (by omega), ← hke]; simp
    have h2 : (cut : Int) % (ES.size : Int) = (ke : Int) := by rw [← hke]; simp
    obtain ⟨t, ht, _, hct⟩ := bytes_set (W := w4) (g := G) hcell4 ke ke1 by_ hb0 hb1
    obtain ⟨u5, hc5⟩ : ∃ u, w4.cell? ⟨G, ke, none⟩ = some u := ⟨_, hcell4 ke ke1⟩
    have hf5 := hfr4 ke ke1
    have H4 := Lib.hid hcell4
    have H5 := Lib.hid hfr4
    have H6 := Lib.hid hct
    have H7 := Lib.hid ht
    have H8 := Lib.hid hG
    have H9 := Lib.hid zES
    clear hcell4 hfr4 hct ht hG zES hke hn
    go_wp2_with fail
    have hcell7 : BytesAt (w4.setCell ⟨G, ke, none⟩ (.int .u8 by_)) G t := H6.out
    have hlt7 : (w4.setCell ⟨G, ke, none⟩ (.int .u8 by_)).heap.size = G + 1 := by simp [hsz4]
    have hB7 := HB4.out.setCell (p := ⟨G, ke, none⟩) ge3 (.int .u8 by_)
    have hA7 := A4.out.setCell G ke (by omega) (.int .u8 by_)
    have hX7 := X4.out.setCell G ke (by omega) (.int .u8 by_)
    have hts := H7.out
    generalize (w4.setCell ⟨G, ke, none⟩ (.int .u8 by_)) = w7 at hcell7 hlt7 hB7 hA7 hX7 ⊢
    clear H4 H5 H6 H7 H8 H9 hc5 hf5 h1 h2 n1 hcv hsz4 HB4 A4 X4
    have HV := Lib.hid (fun (W : World) (h : BytesAt W G t) => h.conv (P := Try.prog) 38 9 5 ES.size C hts.symm Try.underlying38 Try.underlying5 Try.underlying9)
    have f1 := F1.out
    have f2 := F2.out
    have f5 := F5.out
    have f6 := F6.out
    have f9 := F9.out
    have hts6 : t.size ≤ 60000 := by omega
    have hS0 := HV.out _ hcell7
    have f10 : ¬ ((E.size : Int) + 1 = 0) := by omega
    clear hts
    go_region_held3 (fun w' => (convert 38 9 (.slice (some ⟨G, 0, none⟩) ES.size C)).run Try.prog w' = .ok (.string t) w' ∧ BytesAt w' G t) (first | exact ⟨HV.out _ hcell7, hcell7⟩ | exact ⟨HV.out _ (BytesAt.drew hcell7), BytesAt.drew hcell7⟩ | exact ⟨HV.out _ (BytesAt.alloc (BytesAt.drew hcell7) (by simp; omega) _), BytesAt.alloc (BytesAt.drew hcell7) (by simp; omega) _⟩) (fail)
    clear hS0 f1 f2 f3 f4 f5 f6 f7 f8 f9 f10 HV hcell7 F1 F2 F5 F6 F9
    obtain ⟨Q, hQ⟩ : ∃ Q : List ByteArray, Q = [S, E, ES, t, E.extract 0 kc] := ⟨_, rfl⟩
    have hQl : Q.length = 5 := by rw [hQ]; rfl
    have hQs : ∀ x ∈ Q, x.size ≤ 60000 := by
      intro x hx
      rw [hQ] at hx
      simp only [List.mem_cons, List.not_mem_nil, or_false] at hx
      rcases hx with rfl | rfl | rfl | rfl | rfl
      · omega
      · omega
      · exact hES6
      · exact hts6
      · exact zEc
    have e5 : #[Value.string S, Value.string E, Value.string ES, Value.string t, Value.string (E.extract 0 kc)] = (Q.map Value.string).toArray := by rw [hQ]; rfl
    rw [e5]
    have hc0 : ∀ i (h : i < Q.length), (w7.alloc (.cells (Q.map Value.string).toArray 9)).drew.cell? ⟨G + 1, i, none⟩ = some (.string Q[i]) := new_strs w7 9 Q (G + 1) hlt7.symm
    have hs0 : (w7.alloc (.cells (Q.map Value.string).toArray 9)).drew.heap.size = G + 2 := by simp [hlt7]
    have hB0 := (hB7.alloc hB7.size (.cells (Q.map Value.string).toArray 9)).drew
    have hA0 : Has2 (w7.alloc (.cells (Q.map Value.string).toArray 9)).drew w.heap.size (.int .i64 L) (.string M) := hA7.alloc _
    have hX0 : Has2 (w7.alloc (.cells (Q.map Value.string).toArray 9)).drew bx (.int .i64 m) (.string X) := hX7.alloc _
    generalize (w7.alloc (.cells (Q.map Value.string).toArray 9)).drew = W0 at hc0 hs0 hB0 hA0 hX0 ⊢
    have HC0 := Lib.hid hc0
    have HB0 := Lib.hid hB0
    have HA0 := Lib.hid hA0
    have HX0 := Lib.hid hX0
    have HQl := Lib.hid hQl
    have HQs := Lib.hid hQs
    clear hc0 hB0 hA0 hX0 hQl hQs hQ e5 hB7 hA7 hX7 hlt7
    go_wp2_with fail
    go_loopw [96] (fun i wr => ∃ j : Nat, j ≤ 5 ∧ i = .int .i64 j ∧ Below (G + 2) W0 wr) (fun i wr => 5 - (intOf i).toNat)
    case atStart => exact ⟨0, by omega, rfl, Below.refl _ _⟩
    case round =>
      obtain ⟨j, hj, rfl, hBr⟩ := hrel
      have HBr := Lib.hid hBr
      have zr : G + 2 ≤ wr.heap.size := by have := hBr.size; omega
      by_cases hlt : j < 5
      · have d8 : decide ((j : Int) < 5) = true := by simp; omega
        obtain ⟨v, hv⟩ : ∃ v, Q[j]'(by rw [HQl.out]; exact hlt) = v := ⟨_, rfl⟩
        have hcj := (hBr.cell (p := ⟨G + 1, j, none⟩) (by show G + 1 < G + 2; omega)).trans (HC0.out j (by rw [HQl.out]; exact hlt))
        have hvs := HQs.out _ (List.getElem_mem (by rw [HQl.out]; exact hlt))
        rw [hv] at hcj hvs
        have vb : 1 ≤ (v.size : Int) + 1 := by omega
        have vb2 : (v.size : Int) + 1 ≤ 4611686018427387903 := by omega
        obtain ⟨z, hz⟩ : ∃ z, at_ % ((v.size : Int) + 1) = z := ⟨_, rfl⟩
        have M3 := Lib.hid (fun W => hz ▸ mkMod_any at_ ((v.size : Int) + 1) W ha0 ha1 vb vb2)
        clear hv hBr vb vb2
        go_wp2_with fail
        refine (M3.out _).mono ?_
        rintro e w' ⟨rfl, rfl⟩
        clear M3 hcj hz
        go_wp2_with fail
        have e3 : #[Value.int .i64 at_, Value.int .i64 0, Value.int .i64 z] = (([at_, 0, z] : List Int).map (Value.int .i64)).toArray := rfl
        obtain ⟨Z, hZ⟩ : ∃ Z : List Int, Z = [at_, 0, z] := ⟨_, rfl⟩
        have hZl : Z.length = 3 := by rw [hZ]; rfl
        rw [e3, ← hZ]
        have hcz := new_ints wr .i64 3 Z wr.heap.size rfl
        have hBi := HBr.out.alloc (by omega) (.cells (Z.map (Value.int .i64)).toArray 3)
        have hsi : (wr.alloc (.cells (Z.map (Value.int .i64)).toArray 3)).heap.size = wr.heap.size + 1 := by simp
        obtain ⟨H, hH⟩ : ∃ H, wr.heap.size = H := ⟨_, rfl⟩
        rw [hH] at hcz hsi zr ⊢
        generalize (wr.alloc (.cells (Z.map (Value.int .i64)).toArray 3)) = wi at hcz hBi hsi ⊢
        have HCZ := Lib.hid hcz
        have HBi := Lib.hid hBi
        have HZl := Lib.hid hZl
        clear hcz hBi hZl hZ e3 HBr hH
        go_loopw [108] (fun i wr => ∃ q : Nat, q ≤ 3 ∧ i = .int .i64 q ∧ Below (H + 1) wi wr) (fun i wr => 3 - (intOf i).toNat)
        case atStart => exact ⟨0, by omega, rfl, Below.refl _ _⟩
        case round =>
          obtain ⟨q, hq, rfl, hBq⟩ := hrel
          have HBq := Lib.hid hBq
          by_cases hlq : q < 3
          · have d3 : decide ((q : Int) < 3) = true := by simp; omega
            obtain ⟨z1, hz1⟩ : ∃ v, Z[q]'(by rw [HZl.out]; exact hlq) = v := ⟨_, rfl⟩
            have hcq := (hBq.cell (p := ⟨H, q, none⟩) (by show H < H + 1; omega)).trans (HCZ.out q (by rw [HZl.out]; exact hlq))
            rw [hz1] at hcq
            have zq : H + 1 ≤ wr.heap.size := by have := hBq.size; omega
            obtain ⟨r1, r2, r3, r4, hr⟩ : ∃ a b c d, Sm.dec v.data.toList z1 = ((a, b), c, d) := ⟨_, _, _, _, rfl⟩
            have D1 := Lib.hid (fun W => (by have h := decode_any v z1 W (by omega); rw [hr] at h; exact h : Calls Try.prog 21 #[.string v, .int .i64 z1] W fun e w' => e = .returned (.tuple #[.agg #[.int .i64 r1, .string r2], .int .i64 r3, .int .i64 r4]) ∧ Below W.heap.size W w'))
            have D2 := Lib.hid (fun W => (by have h := rdecode_any v z1 W (by omega); rw [hr] at h; exact h : Calls Try.prog 22 #[.string v, .int .i64 z1] W fun e w' => e = .returned (.tuple #[.agg #[.int .i64 r1, .string r2], .int .i64 r3, .int .i64 r4]) ∧ Below W.heap.size W w'))
            clear hr hz1 hBq
            go_wp2_with fail
            refine (D1.out _).mono ?_
            rintro e w5 ⟨rfl, hB5⟩
            have HB5 := Lib.hid (HBq.out.trans (hB5.mono zq))
            have z5 : H + 1 ≤ w5.heap.size := Nat.le_trans zq hB5.size
            clear hB5 hcq HBq
            go_wp2_with fail
            refine (D2.out _).mono ?_
            rintro e w6 ⟨rfl, hB6⟩
            have Y6 := Lib.hid ((Has2.new w5 (.int .i64 r1) (.string r2) 23).below hB6)
            have HB6 := Lib.hid ((HB5.out.alloc z5 (.cells #[Value.int .i64 r1, Value.string r2] 23)).trans (hB6.mono (by simp; omega)))
            have z6 : H + 1 ≤ w6.heap.size := Nat.le_trans z5 (Nat.le_trans (by simp) hB6.size)
            obtain ⟨y0, y1, y2⟩ := Y6.out
            clear hB6 HB5
            go_wp2_with fail
            have HB7 := Lib.hid (HB6.out.alloc z6 (.cells #[Value.int .i64 r1, Value.string r2] 23))
            clear y0 y1 y2 Y6 HB6
            go_roundw
            case rel => exact ⟨q + 1, by omega, by go_num, HB7.out⟩
            case measure => simp [intOf]; omega
          · obtain rfl : q = 3 := by omega
            have HBz := Lib.hid (HBi.out.trans (hBq.mono (by omega)))
            clear hBq HBq HCZ HBi
            go_wp2_with fail
            go_roundw
            case rel => exact ⟨j + 1, by omega, by go_num, HBz.out⟩
            case measure => simp [intOf]; omega
      · obtain rfl : j = 5 := by omega
        have hA1 := HA0.out.below (hBr.mono (by omega))
        have hX1 := HX0.out.below (hBr.mono (by omega))
        have HA1 := Lib.hid hA1
        have HX1 := Lib.hid hX1
        obtain ⟨p0, p1, p2⟩ := hA1
        obtain ⟨q0, q1, q2⟩ := hX1
        have HB1 := Lib.hid (HB0.out.trans (hBr.mono (by omega)))
        clear hBr HBr HC0
        go_wp2_with fail
        have e4 : #[Value.int .i64 L, Value.string M, Value.int .i64 m, Value.string X] = #[Value.int .i64 L, Value.string M, Value.int .i64 m, Value.string X] := rfl
        have hin : ∀ j, j < 2 → ∃ (l : Int) (t : ByteArray), (wr.alloc (.cells #[Value.int .i64 L, Value.string M, Value.int .i64 m, Value.string X] 23)).cell? ⟨wr.heap.size, j * 2, none⟩ = some (.int .i64 l) ∧
            (wr.alloc (.cells #[Value.int .i64 L, Value.string M, Value.int .i64 m, Value.string X] 23)).cell? ⟨wr.heap.size, j * 2 + 1, none⟩ = some (.string t) ∧ (-9223372036854775808 ≤ l ∧ l ≤ 9223372036854775807) ∧ t.size ≤ 40000 := by
          intro j hj
          obtain rfl | rfl : j = 0 ∨ j = 1 := by omega
          · exact ⟨L, M, by rw [cell_new_at _ _ _ _ rfl]; rfl, by rw [cell_new_at _ _ _ _ rfl]; rfl, ⟨hL0, hL1⟩, hM4⟩
          · exact ⟨m, X, by rw [cell_new_at _ _ _ _ rfl]; rfl, by rw [cell_new_at _ _ _ _ rfl]; rfl, ⟨m0, m1⟩, hX4⟩
        have HB2 := Lib.hid (HB1.out.alloc HB1.out.size (.cells #[Value.int .i64 L, Value.string M, Value.int .i64 m, Value.string X] 23))
        have hs2 : (wr.alloc (.cells #[Value.int .i64 L, Value.string M, Value.int .i64 m, Value.string X] 23)).heap.size = wr.heap.size + 1 := by simp
        obtain ⟨H, hH⟩ : ∃ H, wr.heap.size = H := ⟨_, rfl⟩
        rw [hH] at hin hs2 zr ⊢
        generalize (wr.alloc (.cells #[Value.int .i64 L, Value.string M, Value.int .i64 m, Value.string X] 23)) = wi at hin HB2 hs2 ⊢
        have HIN := Lib.hid hin
        have zw : w.heap.size ≤ H + 1 := by omega
        clear hin hH HB1 HA1 HX1 p0 p1 p2 q0 q1 q2 e4
        go_loopw [145] (fun i wr => ∃ q : Nat, q ≤ 2 ∧ i = .int .i64 q ∧ Below (H + 1) wi wr) (fun i wr => 2 - (intOf i).toNat)
        case atStart => exact ⟨0, by omega, rfl, Below.refl _ _⟩
        case round =>
          obtain ⟨q, hq, rfl, hBq⟩ := hrel
          have HBq := Lib.hid hBq
          by_cases hlq : q < 2
          · have d3 : decide ((q : Int) < 2) = true := by simp; omega
            obtain ⟨l, u, t0, t1, ⟨l0, l1⟩, t4⟩ := HIN.out q hlq
            have u0 := (hBq.cell (p := ⟨H, q * 2, none⟩) (by show H < H + 1; omega)).trans t0
            have u1 := (hBq.cell (p := ⟨H, q * 2 + 1, none⟩) (by show H < H + 1; omega)).trans t1
            have zq : H + 1 ≤ wr.heap.size := by have := hBq.size; omega
            obtain ⟨R1, R2, hR⟩ : ∃ R1 R2, Sm.enc l u = (R1, R2) := ⟨_, _, rfl⟩
            obtain ⟨N1, N2, N3, hN⟩ : ∃ a b c, Sm.name l u = ((a, b), c) := ⟨_, _, _, rfl⟩
            have O1 := Lib.hid (fun W => (by have h := encode_any l u W l0 l1; rw [hR] at h; exact h : Calls Try.prog 23 #[.agg #[.int .i64 l, .string u]] W fun e w' => e = .returned (.tuple #[.string R1, .int .i64 R2]) ∧ Below W.heap.size W w'))
            have O2 := Lib.hid (fun W => (by have h := rencode_any l u W l0 l1; rw [hR] at h; exact h : Calls Try.prog 20 #[.agg #[.int .i64 l, .string u]] W fun e w' => e = .returned (.tuple #[.string R1, .int .i64 R2]) ∧ Below W.heap.size W w'))
            have O3 := Lib.hid (fun W => (by have h := name_any l u W l0 l1; rw [hN] at h; exact h : Calls Try.prog 24 #[.agg #[.int .i64 l, .string u]] W fun e w' => e = .returned (.tuple #[.agg #[.int .i64 N1, .int .i64 N2], .int .i64 N3]) ∧ Below W.heap.size W w'))
            have O4 := Lib.hid (fun W => (by have h := rname_any l u W l0 l1; rw [hN] at h; exact h : Calls Try.prog 25 #[.agg #[.int .i64 l, .string u]] W fun e w' => e = .returned (.tuple #[.agg #[.int .i64 N1, .int .i64 N2], .int .i64 N3]) ∧ Below W.heap.size W w'))
            clear t0 t1 hR hN hBq
            go_wp2_with fail
            refine (O1.out _).mono ?_
            rintro e w5 ⟨rfl, hB5⟩
            have L5 := Lib.hid ((Has2.new wr (.int .i64 l) (.string u) 23).below hB5)
            have HB5 := Lib.hid ((HBq.out.alloc zq (.cells #[Value.int .i64 l, Value.string u] 23)).trans (hB5.mono (by simp; omega)))
            have z5 : H + 1 ≤ w5.heap.size := Nat.le_trans zq (Nat.le_trans (by simp) hB5.size)
            obtain ⟨v0, v1, v2⟩ := L5.out
            clear hB5 u0 u1 HBq
            go_wp2_with fail
            refine (O2.out _).mono ?_
            rintro e w6 ⟨rfl, hB6⟩
            have L6 := Lib.hid (L5.out.below hB6)
            have HB6 := Lib.hid (HB5.out.trans (hB6.mono z5))
            have z6 : H + 1 ≤ w6.heap.size := Nat.le_trans z5 hB6.size
            clear hB6 v0 v1 v2 L5 HB5 z5
            obtain ⟨v0, v1, v2⟩ := L6.out
            go_wp2_with fail
            refine (O3.out _).mono ?_
            rintro e w7 ⟨rfl, hB7⟩
            have L7 := Lib.hid (L6.out.below hB7)
            have HB7 := Lib.hid (HB6.out.trans (hB7.mono z6))
            have z7 : H + 1 ≤ w7.heap.size := Nat.le_trans z6 hB7.size
            clear hB7 v0 v1 v2 L6 HB6 z6
            obtain ⟨v0, v1, v2⟩ := L7.out
            go_wp2_with fail
            refine (O4.out _).mono ?_
            rintro e w8 ⟨rfl, hB8⟩
            have N8 := Lib.hid ((Has2.new w7 (.int .i64 N1) (.int .i64 N2) 43).below hB8)
            have HB8 := Lib.hid ((HB7.out.alloc z7 (.cells #[Value.int .i64 N1, Value.int .i64 N2] 43)).trans (hB8.mono (by simp; omega)))
            have z8 : H + 1 ≤ w8.heap.size := Nat.le_trans z7 (Nat.le_trans (by simp) hB8.size)
            clear hB8 v0 v1 v2 L7 HB7 z7
            obtain ⟨v0, v1, v2⟩ := N8.out
            go_wp2_with fail
            have HB9 := Lib.hid (HB8.out.alloc z8 (.cells #[Value.int .i64 N1, Value.int .i64 N2] 43))
            clear v0 v1 v2 N8 HB8
            go_roundw
            case rel => (repeat apply Exists.intro); exact ⟨⟨q + 1, by omega, by go_num, HB9.out⟩, rfl⟩
            case measure => simp [intOf]; omega
          · obtain rfl : q = 2 := by omega
            have HBz := Lib.hid (HB2.out.trans (hBq.mono (by omega)))
            clear hBq HBq HIN HB2
            go_wp2
            go_ret
            exact ⟨rfl, HBz.out⟩

end Go.Proofs.Ytapmdneepinbgaa
