/-
  Contract of the reference of device: Fail.
-/
import Derived.Test.YthdkidiemhfffaaDj
namespace Go.Proofs.Ythdkidiemhfffaa
open Go.RowKit
set_option maxHeartbeats 2000000

set_option maxRecDepth 100000 in
theorem rfailD_any (v : Value) (d : Dv.D) (m : Int) (w : World) (hd : DevV w v d) :
    Calls Try.prog 25 #[v, .int .i64 m] w fun e w' => ∃ v', e = .returned (.tuple #[v', .int .i64 (Dv.fail d m).2]) ∧ DevN w' w.heap.size v' (Dv.fail d m).1 ∧ Below w.heap.size w w' := by
  obtain ⟨q, hq⟩ : ∃ q, Dv.fail d m = q := ⟨_, rfl⟩
  rw [hq]
  obtain ⟨q1, q2⟩ := q
  simp only
  obtain ⟨A, n, c, A1, n1, c1, A2, n2, c2, rfl, hp⟩ := hd
  obtain ⟨B, hB⟩ : ∃ B, w.heap.size = B := ⟨_, rfl⟩
  obtain ⟨sz, hsz⟩ : ∃ x, d.size = x := ⟨_, rfl⟩
  obtain ⟨fu, hfu⟩ : ∃ x, d.fuse = x := ⟨_, rfl⟩
  obtain ⟨dn, hdn⟩ : ∃ x, d.down = x := ⟨_, rfl⟩
  obtain ⟨w1, hw1⟩ : ∃ V, (w.alloc (.cells #[.int .i64 sz, .slice A n c, .slice A1 n1 c1, .slice A2 n2 c2, .int .i64 fu, .bool dn] 25)).alloc (.cells #[.int .i64 0, .slice none 0 0, .slice none 0 0, .slice none 0 0, .int .i64 0, .bool false] 25) = V := ⟨_, rfl⟩
  have hb1 : Below B w w1 := by rw [← hw1, ← hB]; exact ((Below.refl _ _).alloc (Nat.le_refl _) _).alloc (by simp) _
  have hs1 : w1.heap.size = B + 2 := by rw [← hw1]; simp [hB]
  have X1 := Lib.hid (show Box6 w1 B 25 (.int .i64 sz) (.slice A n c) (.slice A1 n1 c1) (.slice A2 n2 c2) (.int .i64 fu) (.bool dn) from by rw [← hw1]; exact (Box6.new _ _ _ _ _ _ _ _ _ hB).alloc _)
  have R1 := Lib.hid (show Box6 w1 (B + 1) 25 (.int .i64 0) (.slice none 0 0) (.slice none 0 0) (.slice none 0 0) (.int .i64 0) (.bool false) from by rw [← hw1]; exact Box6.new _ _ _ _ _ _ _ _ _ (by simp [hB]))
  have HP := Lib.hid (show ∀ W, Below (B + 2) w1 W → DevP W A n c A1 n1 c1 A2 n2 c2 d from fun W h => hp.below (by rw [hB]; exact hb1.trans (h.mono (by omega))))
  have HE := Lib.hid (show ∀ W V, Below (B + 2) w1 W → Below W.heap.size W V → Below (B + 2) w1 V from fun W V h h2 => h.trans (h2.mono (by have := h.size; omega)))
  have HV := Lib.hid (show ∀ v0 v1 v2, Dv.val d v0 v1 v2 = .agg #[.int .i64 sz, v0, v1, v2, .int .i64 fu, .bool dn] from fun v0 v1 v2 => by unfold Dv.val; rw [hsz, hfu, hdn])
  have hc0 : ∀ W, Below (B + 2) w1 W → Calls Try.prog 18 #[.agg #[.int .i64 sz, .slice A n c, .slice A1 n1 c1, .slice A2 n2 c2, .int .i64 fu, .bool dn]] W fun e w' => e = .returned (.int .i64 (Dv.chk d)) ∧ Below W.heap.size W w' := fun W h => by
    have h2 := rchkD_any _ d W ⟨A, n, c, A1, n1, c1, A2, n2, c2, rfl, HP.out W h⟩
    rw [HV.out] at h2
    exact h2
  have hcp : Dv.chk d = 0 → ∀ W, Below (B + 2) w1 W → Calls Try.prog 14 #[.agg #[.int .i64 sz, .slice A n c, .slice A1 n1 c1, .slice A2 n2 c2, .int .i64 fu, .bool dn]] W fun e w' => ∃ Q0 q0 Q1 q1 Q2 q2, e = .returned (.agg #[.int .i64 sz, .slice Q0 n q0, .slice Q1 n1 q1, .slice Q2 n2 q2, .int .i64 fu, .bool dn]) ∧ w'.ownsRow (B + 2) 9 1 (.slice Q0 n q0) n (Dv.strs d.blocks) ∧ w'.ownsRow (B + 2) 3 1 (.slice Q1 n1 q1) n1 (Dv.ints d.torn) ∧ w'.ownsRow (B + 2) 3 1 (.slice Q2 n2 q2) n2 (Dv.ints d.bad) ∧ Below W.heap.size W w' := fun hk W h => by
    have h2 := rcopyD_any _ d W ⟨A, n, c, A1, n1, c1, A2, n2, c2, rfl, HP.out W h⟩ (Dv.chk_zero.1 hk)
    rw [HV.out] at h2
    refine h2.mono ?_
    rintro e w' ⟨v', rfl, ⟨v0, v1, v2, rfl, o0, o1, o2, _⟩, hb⟩
    obtain ⟨l0, l1, l2⟩ := hp.lens
    have hsz := h.size
    rw [l0] at o0
    rw [l1] at o1
    rw [l2] at o2
    obtain ⟨Q0, q0, rfl⟩ := own_slice o0
    obtain ⟨Q1, q1, rfl⟩ := own_slice o1
    obtain ⟨Q2, q2, rfl⟩ := own_slice o2
    exact ⟨Q0, q0, Q1, q1, Q2, q2, by rw [HV.out], own_mono o0 (by omega), own_mono o1 (by omega), own_mono o2 (by omega), hb⟩
  obtain ⟨l0, l1, l2⟩ := hp.lens
  have HNN := Lib.hid (show Dv.chk d = 0 → n ≤ 512 ∧ n1 ≤ 512 ∧ n2 ≤ 512 from fun hk => by
    have ok := Dv.chk_zero.1 hk
    have a0 := ok.n1
    have a1 := ok.t.len
    have a2 := ok.b.len
    omega)
  have HFIT := Lib.hid (show Dv.chk d = 0 → ∀ s ∈ d.blocks, s.size ≤ 140737488355328 from fun hk => (Dv.chk_zero.1 hk).fits)
  have hn := hp.b.2.2
  have HB1 := Lib.hid hb1
  have HW1 := Lib.hid hw1
  have HL := Lib.hid (And.intro l0 (And.intro l1 l2))
  have HSZ := Lib.hid hsz
  have HFU := Lib.hid hfu
  have HDN := Lib.hid hdn
  have HQ := Lib.hid hq
  clear hp hb1 hw1 l0 l1 l2 hsz hfu hdn hq
  rw [HV.out]
  rw [hB]
  rcases Dv.chk_is d with hk | hk
  · rw [hk] at hc0
    have HC0 := Lib.hid hc0
    have HCP := Lib.hid (hcp hk)
    have HK := Lib.hid hk
    clear hc0 hcp hk
    go_enter Try.func25, Try.ntmps25
    go_wp2_with fail
    rw [HW1.out]
    clear hB
    refine (HC0.out _ (Below.refl _ _)).mono ?_
    rintro e w2 ⟨rfl, hq⟩
    have hb2 : Below (B + 2) w1 w2 := HE.out _ _ (Below.refl _ _) hq
    clear hq
    have hs2 := hb2.size
    have X2 := Lib.hid (X1.out.below hb2 (by omega))
    have R2 := Lib.hid (R1.out.below hb2 (by omega))
    obtain ⟨p0, p1, p2, p3, p4, p5, f0, f1, f2, f3, f4, f5⟩ := X2.out.s
    obtain ⟨r0, r1, r2, r3, r4, r5, e0, e1, e2, e3, e4, e5⟩ := R2.out.s
    have HB2 := Lib.hid hb2
    clear hb2
    by_cases k1 : m < 0
    · have d1 : decide (m < 0) = true := by simpa using k1
      obtain ⟨rfl, rfl⟩ := Prod.mk.inj (HQ.out.symm.trans (Dv.fail_range HK.out (.inl k1)))
      go_wp2_with fail
      have hbz := below_st6 (HB1.out.trans (HB2.out.mono (show B ≤ B + 2 by omega))) (show B ≤ B + 1 by omega) (.int .i64 0) (.slice none 0 0) (.slice none 0 0) (.slice none 0 0) (.int .i64 0) (.bool false)
      obtain ⟨s0, s1, s2, s3, s4, s5, _, _, _, _, _, _⟩ := (R2.out.st (.int .i64 0) (.slice none 0 0) (.slice none 0 0) (.slice none 0 0) (.int .i64 0) (.bool false)).s
      exact bodyPost_ret (v := .tuple #[Dv.val Dv.none' (.slice none 0 0) (.slice none 0 0) (.slice none 0 0), .int .i64 1]) (by simp [results, Try.results25, go_sem, s0, s1, s2, s3, s4, s5, Dv.val, Dv.none']) rfl ⟨_, rfl, DevN.none' _ _, hbz⟩
    have d1 : decide (m < 0) = false := by simpa using k1
    obtain ⟨j, rfl⟩ := Int.eq_ofNat_of_zero_le (show 0 ≤ m by omega)
    by_cases k2 : n ≤ j
    · have d2 : decide ((n : Int) ≤ (j : Int)) = true := by simpa using k2
      obtain ⟨rfl, rfl⟩ := Prod.mk.inj (HQ.out.symm.trans (Dv.fail_range HK.out (.inr (by rw [HL.out.1]; omega))))
      go_wp2_with fail
      have hbz := below_st6 (HB1.out.trans (HB2.out.mono (show B ≤ B + 2 by omega))) (show B ≤ B + 1 by omega) (.int .i64 0) (.slice none 0 0) (.slice none 0 0) (.slice none 0 0) (.int .i64 0) (.bool false)
      obtain ⟨s0, s1, s2, s3, s4, s5, _, _, _, _, _, _⟩ := (R2.out.st (.int .i64 0) (.slice none 0 0) (.slice none 0 0) (.slice none 0 0) (.int .i64 0) (.bool false)).s
      exact bodyPost_ret (v := .tuple #[Dv.val Dv.none' (.slice none 0 0) (.slice none 0 0) (.slice none 0 0), .int .i64 1]) (by simp [results, Try.results25, go_sem, s0, s1, s2, s3, s4, s5, Dv.val, Dv.none']) rfl ⟨_, rfl, DevN.none' _ _, hbz⟩
    have d2 : decide ((n : Int) ≤ (j : Int)) = false := by simpa using k2
    obtain ⟨hq1, rfl⟩ := Prod.mk.inj (HQ.out.symm.trans (Dv.fail_ok HK.out (n := (j : Int)) (by rw [HL.out.1]; omega)))
    unfold Dv.spoil at hq1
    rw [Int.toNat_natCast, HFU.out, HDN.out] at hq1
    have HQ1 := Lib.hid hq1
    have hdl := Dv.del_len d.torn (j : Int)
    have hil := Dv.ins_len d.bad (j : Int)
    rw [HL.out.2.1] at hdl
    rw [HL.out.2.2] at hil
    have HFW := Lib.hid (Dv.fits_set (HFIT.out HK.out) (j := j) (s := ByteArray.empty) (by decide))
    clear hq1
    have hsz6 : (Try.prog.info? 25).map (·.size) = some 6 := by kernel_rfl
    have HS6 := Lib.hid hsz6
    clear hsz6
    go_wp2_with fail
    rename_i KC hKC
    refine (HCP.out _ HB2.out).mono ?_
    rintro e w3 ⟨Q0, q0, Q1, q1', Q2, q2', rfl, o0, o1, o2, hq⟩
    have hb3 : Below (B + 2) w1 w3 := HE.out _ _ HB2.out hq
    clear hq p0 p1 p2 p3 p4 p5 f0 f1 f2 f3 f4 f5 r0 r1 r2 r3 r4 r5 e0 e1 e2 e3 e4 e5
    have hs3 := hb3.size
    have X3 := Lib.hid (X1.out.below hb3 (by omega))
    have R3 := Lib.hid (R1.out.below hb3 (by omega))
    have HB3 := Lib.hid hb3
    have O0 := Lib.hid o0
    have O1 := Lib.hid o1
    have O2 := Lib.hid o2
    clear hb3 o0 o1 o2
    refine hKC _ _ ?_
    (with_reducible refine wpList_st6 ?za 25 (.tmp 2) (.tmp 21) ?zb B 25 _ _ _ _ _ _ (.int .i64 sz) (.slice Q0 n q0) (.slice Q1 n1 q1') (.slice Q2 n2 q2') (.int .i64 fu) (.bool dn) ?zc ?zd X3.out HS6.out ?ze ?zf)
    case za => rfl
    case zb => rfl
    case zc => rfl
    case zd => rfl
    case ze => simp [Value.oneCell']
    intro w4 hw4
    have X4 := Lib.hid (show Box6 w4 B 25 (.int .i64 sz) (.slice Q0 n q0) (.slice Q1 n1 q1') (.slice Q2 n2 q2') (.int .i64 fu) (.bool dn) from (by rw [hw4]; exact X3.out.st _ _ _ _ _ _))
    have R4 := Lib.hid (show Box6 w4 (B + 1) 25 (.int .i64 0) (.slice none 0 0) (.slice none 0 0) (.slice none 0 0) (.int .i64 0) (.bool false) from (by rw [hw4]; exact R3.out.far (by omega) _ _ _ _ _ _))
    have HB4 := Lib.hid (show Below B w w4 from (by rw [hw4]; exact below_st6 (HB1.out.trans (HB3.out.mono (by omega))) (Nat.le_refl _) _ _ _ _ _ _))
    have P0 := Lib.hid (show w4.ownsRow (B + 2) 9 1 (.slice Q0 n q0) n (Dv.strs d.blocks) from (by rw [hw4]; exact own_st6 O0.out (by omega) _ _ _ _ _ _))
    have P1 := Lib.hid (show w4.ownsRow (B + 2) 3 1 (.slice Q1 n1 q1') n1 (Dv.ints d.torn) from (by rw [hw4]; exact own_st6 O1.out (by omega) _ _ _ _ _ _))
    have P2 := Lib.hid (show w4.ownsRow (B + 2) 3 1 (.slice Q2 n2 q2') n2 (Dv.ints d.bad) from (by rw [hw4]; exact own_st6 O2.out (by omega) _ _ _ _ _ _))
    have hs4 : w3.heap.size = w4.heap.size := (by rw [hw4]; simp)
    obtain ⟨p0, p1, p2, p3, p4, p5, f0, f1, f2, f3, f4, f5⟩ := X4.out.s
    obtain ⟨r0, r1, r2, r3, r4, r5, e0, e1, e2, e3, e4, e5⟩ := R4.out.s
    clear hw4
    go_wp2_with fail
    rename_i KR hKR
    obtain ⟨g0, hg0⟩ := own_some P0.out (by omega)
    subst hg0
    obtain ⟨_, hn1, hn2⟩ := HNN.out HK.out
    have i0 : (0 : Int) ≤ (j : Int) := by omega
    have i1 : (j : Int) < (n : Int) := by omega
    have hs4' : B + 2 ≤ w4.heap.size := by omega
    obtain ⟨y0, g1⟩ := Dv.cellSome P0.out j (by omega)
    have gf1 := World.ownsRow.frozenAt P0.out j
    have hgB : B + 2 ≤ g0 := (World.ownsRow.lt P0.out g0 rfl).1
    have hgW : g0 < w4.heap.size := (World.ownsRow.lt P0.out g0 rfl).2
    have HGI := Lib.hid (show ∀ (V : World) (x : Value) (k : Nat) (xs ys : List Value), V.ownsRow (B + 2) 9 1 (.slice (some ⟨g0, 0, none⟩) n q0) n xs → V.ownsRow (B + 2) 3 1 x k ys → x.ownBlock ≠ some g0 from fun V x k xs ys h h2 e => by
      rcases h.2 with ⟨hv, _⟩ | ⟨gg, cap, cur, hv, _, hb0, _⟩
      · cases hv
      · injection hv with hv; injection hv with hv; injection hv with hv; subst hv
        exact Lib.ownBlock_ne h2 hb0 (by decide) e)
    have CW := Lib.hid (fun W (h : SlIn W Q1 n1 q1' (Dv.ints d.torn)) => rdelD_any Q1 n1 q1' d.torn (j : Int) W h (by omega))
    have SA := Lib.hid (SlIn.own (P1.out.drew) (by omega))
    have CI := Lib.hid (fun W (h : SlIn W Q2 n2 q2' (Dv.ints d.bad)) => rinsD_any Q2 n2 q2' d.bad (j : Int) W h (by omega) (Dv.chk_zero.1 HK.out).b.asc)
    have SBa := Lib.hid (SlIn.own (P2.out.drew) (by omega))
    go_region_law (first
      | (go_simp; go_at_call 34; (with_reducible refine (CW.out _ SA.out).mono ?_); rintro e w5 ⟨vt, rfl, ot, hq5⟩; obtain ⟨Q5, q5, hvt⟩ := own_slice ot; subst hvt; have X5 := Lib.hid (X4.out.drew.below hq5 (by show B < w4.heap.size; omega)); obtain ⟨a0, a1, a2, a3, a4, a5, b0, b1, b2, b3, b4, b5⟩ := X5.out.s; have U5 := Lib.hid (own_below P0.out.drew hq5); have R5 := Lib.hid (R4.out.drew.below hq5 (by show B + 1 < w4.heap.size; omega)); have HB5 := Lib.hid ((HB4.out.drew).trans (hq5.mono (show B ≤ w4.heap.size by omega))); have hwd : w4.drew.heap.size = w4.heap.size := rfl; have hs5 : w4.heap.size ≤ w5.heap.size := hq5.size; rw [hwd] at ot; have SB5 := Lib.hid (SBa.out.below hq5); have OT5 := Lib.hid ot; clear ot hq5)
      | (go_simp; go_at_call 33; (with_reducible refine (CI.out _ SBa.out).mono ?_); rintro e w5 ⟨vb, rfl, ob, hq5⟩; obtain ⟨Q7, q7, hvb⟩ := own_slice ob; subst hvb; have X5 := Lib.hid (X4.out.drew.below hq5 (by show B < w4.heap.size; omega)); obtain ⟨a0, a1, a2, a3, a4, a5, b0, b1, b2, b3, b4, b5⟩ := X5.out.s; have U5 := Lib.hid (own_below P0.out.drew hq5); have R5 := Lib.hid (R4.out.drew.below hq5 (by show B + 1 < w4.heap.size; omega)); have HB5 := Lib.hid ((HB4.out.drew).trans (hq5.mono (show B ≤ w4.heap.size by omega))); have hwd : w4.drew.heap.size = w4.heap.size := rfl; have hs5 : w4.heap.size ≤ w5.heap.size := hq5.size; rw [hwd] at ob; have SA5 := Lib.hid (SA.out.below hq5); have OB5 := Lib.hid ob; clear ob hq5)
      | (go_simp; go_at_call 33; (with_reducible refine (CI.out _ SB5.out).mono ?_); rintro e w7 ⟨vb, rfl, ob, hq7⟩; obtain ⟨Q7, q7, hvb⟩ := own_slice ob; subst hvb; have X7 := Lib.hid (X5.out.below hq7 (by omega)); clear a0 a1 a2 a3 a4 a5 b0 b1 b2 b3 b4 b5; obtain ⟨a0, a1, a2, a3, a4, a5, b0, b1, b2, b3, b4, b5⟩ := X7.out.s; have U7 := Lib.hid (own_below U5.out hq7); have R7 := Lib.hid (R5.out.below hq7 (by omega)); obtain ⟨y5, g5⟩ := Dv.cellSome U7.out j (by omega); have gf5 := World.ownsRow.frozenAt U7.out j; have HB7 := Lib.hid (HB5.out.trans (hq7.mono (show B ≤ w5.heap.size by omega))); have O5 := Lib.hid (own_below OT5.out hq7); have O7 := Lib.hid (own_mono ob hs5); clear ob hq7)
      | (go_simp; go_at_call 34; (with_reducible refine (CW.out _ SA5.out).mono ?_); rintro e w7 ⟨vt, rfl, ot, hq7⟩; obtain ⟨Q5, q5, hvt⟩ := own_slice ot; subst hvt; have X7 := Lib.hid (X5.out.below hq7 (by omega)); clear a0 a1 a2 a3 a4 a5 b0 b1 b2 b3 b4 b5; obtain ⟨a0, a1, a2, a3, a4, a5, b0, b1, b2, b3, b4, b5⟩ := X7.out.s; have U7 := Lib.hid (own_below U5.out hq7); have R7 := Lib.hid (R5.out.below hq7 (by omega)); obtain ⟨y5, g5⟩ := Dv.cellSome U7.out j (by omega); have gf5 := World.ownsRow.frozenAt U7.out j; have HB7 := Lib.hid (HB5.out.trans (hq7.mono (show B ≤ w5.heap.size by omega))); have O7 := Lib.hid (own_below OB5.out hq7); have O5 := Lib.hid (own_mono ot hs5); clear ot hq7)
      | fail)
    all_goals (
      have V0 := (own_cell (own_cell (World.ownsRow.stored U7.out j (.string ⟨#[]⟩)).1 (a := ⟨B, 2, none⟩) (show B < B + 2 by omega) (.slice Q5 (Dv.del d.torn (j : Int)).length q5)) (a := ⟨B, 3, none⟩) (show B < B + 2 by omega) (.slice Q7 (Dv.ins d.bad (j : Int)).length q7))
      have V1 := (own_cell (own_cell (own_mono (own_cell O5.out (a := ⟨g0, j, none⟩) hgW (.string ⟨#[]⟩)) hs4') (a := ⟨B, 2, none⟩) (show B < B + 2 by omega) (.slice Q5 (Dv.del d.torn (j : Int)).length q5)) (a := ⟨B, 3, none⟩) (show B < B + 2 by omega) (.slice Q7 (Dv.ins d.bad (j : Int)).length q7))
      have V2 := (own_cell (own_cell (own_mono (own_cell O7.out (a := ⟨g0, j, none⟩) hgW (.string ⟨#[]⟩)) hs4') (a := ⟨B, 2, none⟩) (show B < B + 2 by omega) (.slice Q5 (Dv.del d.torn (j : Int)).length q5)) (a := ⟨B, 3, none⟩) (show B < B + 2 by omega) (.slice Q7 (Dv.ins d.bad (j : Int)).length q7))
      rw [Dv.strs_set] at V0
      have hbz := (((HB7.out.setCell (p := ⟨g0, j, none⟩) (show B ≤ g0 by omega) (.string ⟨#[]⟩)).setCell (p := ⟨B, 2, none⟩) (Nat.le_refl _) (.slice Q5 (Dv.del d.torn (j : Int)).length q5)).setCell (p := ⟨B, 3, none⟩) (Nat.le_refl _) (.slice Q7 (Dv.ins d.bad (j : Int)).length q7))
      have hxz := (((X7.out.other (a := ⟨g0, j, none⟩) (show B ≠ g0 by omega) (.string ⟨#[]⟩)).set2 (.slice Q5 (Dv.del d.torn (j : Int)).length q5)).set3 (.slice Q7 (Dv.ins d.bad (j : Int)).length q7))
      have hrz := (((R7.out.other (a := ⟨g0, j, none⟩) (show B + 1 ≠ g0 by omega) (.string ⟨#[]⟩)).other (a := ⟨B, 2, none⟩) (show B + 1 ≠ B by omega) (.slice Q5 (Dv.del d.torn (j : Int)).length q5)).other (a := ⟨B, 3, none⟩) (show B + 1 ≠ B by omega) (.slice Q7 (Dv.ins d.bad (j : Int)).length q7))
      obtain ⟨wz, hwz⟩ : ∃ V, (((w7.setCell ⟨g0, j, none⟩ (.string ⟨#[]⟩)).setCell ⟨B, 2, none⟩ (.slice Q5 (Dv.del d.torn (j : Int)).length q5)).setCell ⟨B, 3, none⟩ (.slice Q7 (Dv.ins d.bad (j : Int)).length q7)) = V := ⟨_, rfl⟩
      rw [hwz] at V0 V1 V2 hbz hxz hrz ⊢
      have HV0 := Lib.hid V0
      have HV1 := Lib.hid V1
      have HV2 := Lib.hid V2
      have HBZ := Lib.hid hbz
      have HRZ := Lib.hid hrz
      have HXZ := Lib.hid hxz
      clear a0 a1 a2 a3 a4 a5 b0 b1 b2 b3 b4 b5 p0 p1 p2 p3 p4 p5 f0 f1 f2 f3 f4 f5 r0 r1 r2 r3 r4 r5 e0 e1 e2 e3 e4 e5 g5 gf5 g1 gf1
      clear V0 V1 V2 hbz hxz hrz hwz hwd
      refine hKR _ _ ?_
      refine wp_seq_k fun K2 hK2 => wp_region_lit ?_
      (with_reducible refine wpList_ld6 ?_ 25 (.tmp 2) ?_ B 25 _ _ _ _ _ _ ?_ HXZ.out _ Try.underlying25 ?_ HS6.out ?_)
      · rfl
      · rfl
      · rfl
      · rfl
      (with_reducible refine wpList_st6 ?_ 25 (.tmp 4) (.tmp 36) ?_ (B + 1) 25 _ _ _ _ _ _ (.int .i64 sz) (.slice (some ⟨g0, 0, none⟩) n q0) (.slice Q5 (Dv.del d.torn (j : Int)).length q5) (.slice Q7 (Dv.ins d.bad (j : Int)).length q7) (.int .i64 fu) (.bool dn) ?_ ?_ HRZ.out HS6.out ?_ ?_)
      · rfl
      · rfl
      · rfl
      · rfl
      · simp [Value.oneCell']
      intro wf hwf
      have HSS := Lib.hid (HRZ.out.st (.int .i64 sz) (.slice (some ⟨g0, 0, none⟩) n q0) (.slice Q5 (Dv.del d.torn (j : Int)).length q5) (.slice Q7 (Dv.ins d.bad (j : Int)).length q7) (.int .i64 fu) (.bool dn)).s
      have hbz := below_st6 HBZ.out (show B ≤ B + 1 by omega) (.int .i64 sz) (.slice (some ⟨g0, 0, none⟩) n q0) (.slice Q5 (Dv.del d.torn (j : Int)).length q5) (.slice Q7 (Dv.ins d.bad (j : Int)).length q7) (.int .i64 fu) (.bool dn)
      have V0 := own_st6 HV0.out (show B + 1 < B + 2 by omega) (.int .i64 sz) (.slice (some ⟨g0, 0, none⟩) n q0) (.slice Q5 (Dv.del d.torn (j : Int)).length q5) (.slice Q7 (Dv.ins d.bad (j : Int)).length q7) (.int .i64 fu) (.bool dn)
      have V1 := own_st6 HV1.out (show B + 1 < B + 2 by omega) (.int .i64 sz) (.slice (some ⟨g0, 0, none⟩) n q0) (.slice Q5 (Dv.del d.torn (j : Int)).length q5) (.slice Q7 (Dv.ins d.bad (j : Int)).length q7) (.int .i64 fu) (.bool dn)
      have V2 := own_st6 HV2.out (show B + 1 < B + 2 by omega) (.int .i64 sz) (.slice (some ⟨g0, 0, none⟩) n q0) (.slice Q5 (Dv.del d.torn (j : Int)).length q5) (.slice Q7 (Dv.ins d.bad (j : Int)).length q7) (.int .i64 fu) (.bool dn)
      rw [← hwf] at HSS hbz V0 V1 V2
      have W0 := Lib.hid V0
      have W1 := Lib.hid V1
      have W2 := Lib.hid V2
      have WB := Lib.hid hbz
      clear hwf V0 V1 V2 hbz
      go_wp2_with (first | ((with_reducible refine bodyPost_ret (v := .tuple #[.agg #[.int .i64 sz, .slice (some ⟨g0, 0, none⟩) n q0, .slice Q5 (Dv.del d.torn (j : Int)).length q5, .slice Q7 (Dv.ins d.bad (j : Int)).length q7, .int .i64 fu, .bool dn], .int .i64 0]) ?_ ?_ ?_); (obtain ⟨s0, s1, s2, s3, s4, s5, _, _, _, _, _, _⟩ := HSS.out; simp [results, Try.results25, go_sem, s0, s1, s2, s3, s4, s5]); rfl; exact ⟨_, rfl, by rw [HQ1.out, ← HSZ.out]; exact DevN.of (d := ⟨d.size, d.blocks.set j ByteArray.empty, Dv.del d.torn (j : Int), Dv.ins d.bad (j : Int), fu, dn⟩) (by rw [HSZ.out]; exact W0.out) (by rw [HSZ.out]; exact W1.out) (by rw [HSZ.out]; exact W2.out) (by omega) (by omega) (by omega) HFW.out (show B ≤ B + 2 by omega), WB.out⟩) | fail))
  · rw [hk] at hc0
    have HC0 := Lib.hid hc0
    obtain ⟨rfl, rfl⟩ := Prod.mk.inj (HQ.out.symm.trans (Dv.fail_form hk m))
    clear hc0 hcp hk
    go_enter Try.func25, Try.ntmps25
    go_wp2_with fail
    rw [HW1.out]
    clear hB
    refine (HC0.out _ (Below.refl _ _)).mono ?_
    rintro e w2 ⟨rfl, hq⟩
    have hb2 : Below (B + 2) w1 w2 := HE.out _ _ (Below.refl _ _) hq
    clear hq
    have hs2 := hb2.size
    have X2 := Lib.hid (X1.out.below hb2 (by omega))
    have R2 := Lib.hid (R1.out.below hb2 (by omega))
    obtain ⟨p0, p1, p2, p3, p4, p5, f0, f1, f2, f3, f4, f5⟩ := X2.out.s
    obtain ⟨r0, r1, r2, r3, r4, r5, e0, e1, e2, e3, e4, e5⟩ := R2.out.s
    have HB2 := Lib.hid hb2
    clear hb2
    go_wp2_with fail
    have hbz := below_st6 (HB1.out.trans (HB2.out.mono (show B ≤ B + 2 by omega))) (show B ≤ B + 1 by omega) (.int .i64 0) (.slice none 0 0) (.slice none 0 0) (.slice none 0 0) (.int .i64 0) (.bool false)
    obtain ⟨s0, s1, s2, s3, s4, s5, _, _, _, _, _, _⟩ := (R2.out.st (.int .i64 0) (.slice none 0 0) (.slice none 0 0) (.slice none 0 0) (.int .i64 0) (.bool false)).s
    exact bodyPost_ret (v := .tuple #[Dv.val Dv.none' (.slice none 0 0) (.slice none 0 0) (.slice none 0 0), .int .i64 2]) (by simp [results, Try.results25, go_sem, s0, s1, s2, s3, s4, s5, Dv.val, Dv.none']) rfl ⟨_, rfl, DevN.none' _ _, hbz⟩

end Go.Proofs.Ythdkidiemhfffaa
