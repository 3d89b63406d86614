/-
  Contracts of device: Write.
-/
import Derived.Test.YthdkidiemhfffaaEg
namespace Go.Proofs.Ythdkidiemhfffaa
open Go.RowKit
set_option maxHeartbeats 4000000

set_option maxRecDepth 100000 in
theorem writeD_any (v : Value) (d : Dv.D) (m : Int) (s : ByteArray) (w : World) (hd : DevV w v d) (hs : s.size ≤ 140737488355328) :
    Calls Try.prog 26 #[v, .int .i64 m, .string s] w fun e w' => ∃ v', e = .returned (.tuple #[v', .int .i64 (Dv.write d m s).2]) ∧ DevN w' w.heap.size v' (Dv.write d m s).1 ∧ Below w.heap.size w w' := by
  obtain ⟨q, hq⟩ : ∃ q, Dv.write d m s = q := ⟨_, rfl⟩
  rw [hq]
  obtain ⟨q1, q2⟩ := q
  simp only
  obtain ⟨A, n, c, A1, n1, c1, A2, n2, c2, rfl, hp⟩ := hd
  obtain ⟨B, hB⟩ : ∃ B, w.heap.size = B := ⟨_, rfl⟩
  obtain ⟨sz, hsz⟩ : ∃ x, d.size = x := ⟨_, rfl⟩
  obtain ⟨fu, hfu⟩ : ∃ x, d.fuse = x := ⟨_, rfl⟩
  obtain ⟨dn, hdn⟩ : ∃ x, d.down = x := ⟨_, rfl⟩
  obtain ⟨w1, hw1⟩ : ∃ V, (w.alloc (.cells #[.int .i64 sz, .slice A n c, .slice A1 n1 c1, .slice A2 n2 c2, .int .i64 fu, .bool dn] 25)).alloc (.cells #[.int .i64 0, .slice none 0 0, .slice none 0 0, .slice none 0 0, .int .i64 0, .bool false] 25) = V := ⟨_, rfl⟩
  have hb1 : Below B w w1 := by rw [← hw1, ← hB]; exact ((Below.refl _ _).alloc (Nat.le_refl _) _).alloc (by simp) _
  have hs1 : w1.heap.size = B + 2 := by rw [← hw1]; simp [hB]
  have X1 := Lib.hid (show Box6 w1 B 25 (.int .i64 sz) (.slice A n c) (.slice A1 n1 c1) (.slice A2 n2 c2) (.int .i64 fu) (.bool dn) from by rw [← hw1]; exact (Box6.new _ _ _ _ _ _ _ _ _ hB).alloc _)
  have R1 := Lib.hid (show Box6 w1 (B + 1) 25 (.int .i64 0) (.slice none 0 0) (.slice none 0 0) (.slice none 0 0) (.int .i64 0) (.bool false) from by rw [← hw1]; exact Box6.new _ _ _ _ _ _ _ _ _ (by simp [hB]))
  have HP := Lib.hid (show ∀ W, Below (B + 2) w1 W → DevP W A n c A1 n1 c1 A2 n2 c2 d from fun W h => hp.below (by rw [hB]; exact hb1.trans (h.mono (by omega))))
  have HE := Lib.hid (show ∀ W V, Below (B + 2) w1 W → Below W.heap.size W V → Below (B + 2) w1 V from fun W V h h2 => h.trans (h2.mono (by have := h.size; omega)))
  have HV := Lib.hid (show ∀ v0 v1 v2, Dv.val d v0 v1 v2 = .agg #[.int .i64 sz, v0, v1, v2, .int .i64 fu, .bool dn] from fun v0 v1 v2 => by unfold Dv.val; rw [hsz, hfu, hdn])
  have HD := Lib.hid (show ∀ W, Below (B + 2) w1 W → DevV W (.agg #[.int .i64 sz, .slice A n c, .slice A1 n1 c1, .slice A2 n2 c2, .int .i64 fu, .bool dn]) d from fun W h => ⟨A, n, c, A1, n1, c1, A2, n2, c2, (HV.out _ _ _).symm, HP.out W h⟩)
  have hcp : Dv.chk d = 0 → ∀ W, Below (B + 2) w1 W → Calls Try.prog 35 #[.agg #[.int .i64 sz, .slice A n c, .slice A1 n1 c1, .slice A2 n2 c2, .int .i64 fu, .bool dn]] W fun e w' => ∃ Q0 q0 Q1 q1 Q2 q2, e = .returned (.agg #[.int .i64 sz, .slice Q0 n q0, .slice Q1 n1 q1, .slice Q2 n2 q2, .int .i64 fu, .bool dn]) ∧ w'.ownsRow (B + 2) 9 1 (.slice Q0 n q0) n (Dv.strs d.blocks) ∧ w'.ownsRow (B + 2) 3 1 (.slice Q1 n1 q1) n1 (Dv.ints d.torn) ∧ w'.ownsRow (B + 2) 3 1 (.slice Q2 n2 q2) n2 (Dv.ints d.bad) ∧ Below W.heap.size W w' := fun hk W h => by
    have h2 := copiedD_any _ d W (HD.out W h) (Dv.chk_zero.1 hk)
    refine h2.mono ?_
    rintro e w' ⟨v', rfl, ⟨⟨v0, v1, v2, rfl, o0, o1, o2⟩, _, _, _, _⟩, hb⟩
    obtain ⟨l0, l1, l2⟩ := hp.lens
    have hsz := h.size
    rw [l0] at o0
    rw [l1] at o1
    rw [l2] at o2
    obtain ⟨Q0, q0, rfl⟩ := own_slice o0
    obtain ⟨Q1, q1, rfl⟩ := own_slice o1
    obtain ⟨Q2, q2, rfl⟩ := own_slice o2
    exact ⟨Q0, q0, Q1, q1, Q2, q2, by rw [HV.out], own_mono o0 (by omega), own_mono o1 (by omega), own_mono o2 (by omega), hb⟩
  obtain ⟨l0, l1, l2⟩ := hp.lens
  have HNN := Lib.hid (show Dv.chk d = 0 → n ≤ 512 ∧ n1 ≤ 512 ∧ n2 ≤ 512 from fun hk => by
    have ok := Dv.chk_zero.1 hk
    have a0 := ok.n1
    have a1 := ok.t.len
    have a2 := ok.b.len
    omega)
  have HFIT := Lib.hid (show Dv.chk d = 0 → ∀ s ∈ d.blocks, s.size ≤ 140737488355328 from fun hk => (Dv.chk_zero.1 hk).fits)
  have hn := hp.b.2.2
  have HB1 := Lib.hid hb1
  have HW1 := Lib.hid hw1
  have HL := Lib.hid (And.intro l0 (And.intro l1 l2))
  have HSZ := Lib.hid hsz
  have HFU := Lib.hid hfu
  have HDN := Lib.hid hdn
  have HQ := Lib.hid hq
  clear hp hb1 hw1 l0 l1 l2 hsz hfu hdn hq
  rw [HV.out]
  rw [hB]
  have C1 := Lib.hid (fun W h => reachD_any _ d m W (HD.out W h))
  obtain ⟨k, hk⟩ : ∃ k, Dv.reach d m = k := ⟨_, rfl⟩
  have HK := Lib.hid hk
  rw [hk] at C1
  clear hk
  have HSL := Lib.hid hs
  go_enter Try.func26, Try.ntmps26
  go_wp2_with fail
  rw [HW1.out]
  clear hB
  refine (C1.out _ (Below.refl _ _)).mono ?_
  rintro e w2 ⟨rfl, hq⟩
  have hb2 : Below (B + 2) w1 w2 := HE.out _ _ (Below.refl _ _) hq
  clear hq
  have hs2 := hb2.size
  have X2 := Lib.hid (X1.out.below hb2 (by omega))
  have R2 := Lib.hid (R1.out.below hb2 (by omega))
  obtain ⟨p0, p1, p2, p3, p4, p5, f0, f1, f2, f3, f4, f5⟩ := X2.out.s
  obtain ⟨r0, r1, r2, r3, r4, r5, e0, e1, e2, e3, e4, e5⟩ := R2.out.s
  have HB2 := Lib.hid hb2
  clear hb2
  by_cases hk : k = 0
  · subst hk
    obtain ⟨z1, z2, z3⟩ := Dv.reach_zero HK.out
    have HZ := Lib.hid (And.intro z1 (And.intro z2 z3))
    have ok := Dv.chk_zero.1 z1
    have HTA := Lib.hid ok.t.asc
    have HBA := Lib.hid ok.b.asc
    have HF0 := ok.f0
    have HF1 := ok.f1
    rw [HFU.out] at HF0 HF1
    have HSZ4 := ok.s1
    rw [HSZ.out] at HSZ4
    have hdn := HDN.out.symm.trans z2
    subst hdn
    have HCP := Lib.hid (hcp z1)
    clear z1 z2 ok hcp
    obtain ⟨m, rfl⟩ : ∃ j : Nat, m = (j : Int) := ⟨m.toNat, by omega⟩
    rw [HL.out.1] at z3
    have hmn : m < n := by omega
    clear z3
    by_cases hbig : sz < (s.size : Int)
    · have d1 : decide (sz < (s.size : Int)) = true := by simpa using hbig
      obtain ⟨rfl, rfl⟩ := Prod.mk.inj (HQ.out.symm.trans (Dv.write_limit HZ.out.1 HZ.out.2.1 HZ.out.2.2 (by rw [HSZ.out]; exact hbig)))
      clear hbig
      go_wp2_with fail
      have hbz := below_st6 (HB1.out.trans (HB2.out.mono (show B ≤ B + 2 by omega))) (show B ≤ B + 1 by omega) (.int .i64 0) (.slice none 0 0) (.slice none 0 0) (.slice none 0 0) (.int .i64 0) (.bool false)
      obtain ⟨s0, s1, s2, s3, s4, s5, _, _, _, _, _, _⟩ := (R2.out.st (.int .i64 0) (.slice none 0 0) (.slice none 0 0) (.slice none 0 0) (.int .i64 0) (.bool false)).s
      exact bodyPost_ret (v := .tuple #[Dv.val Dv.none' (.slice none 0 0) (.slice none 0 0) (.slice none 0 0), .int .i64 4]) (by simp [results, Try.results26, go_sem, s0, s1, s2, s3, s4, s5, Dv.val, Dv.none']) rfl ⟨_, rfl, DevN.none' _ _, hbz⟩
    have d1 : decide (sz < (s.size : Int)) = false := by simpa using hbig
    have HBIG := Lib.hid hbig
    clear hbig
    obtain ⟨xb, hxb⟩ : ∃ b, decide ((m : Int) ∈ d.bad) = b := ⟨_, rfl⟩
    have C2 := Lib.hid (show ∀ W, Below (B + 2) w1 W → Calls Try.prog 45 #[.slice A2 n2 c2, .int .i64 (m : Int)] W fun e w' => e = .returned (.bool xb) ∧ Below W.heap.size W w' from fun W h => hxb ▸ hasD_any A2 n2 c2 d.bad (m : Int) W (HP.out W h).f HBA.out)
    have HXB := Lib.hid hxb
    clear hxb
    go_wp2_with fail
    refine (C2.out _ HB2.out).mono ?_
    rintro e w3 ⟨rfl, hq⟩
    have hb3 : Below (B + 2) w1 w3 := HE.out _ _ HB2.out hq
    clear hq
    have hs3 := hb3.size
    have X3 := Lib.hid (X1.out.below hb3 (by omega))
    have R3 := Lib.hid (R1.out.below hb3 (by omega))
    clear p0 p1 p2 p3 p4 p5 f0 f1 f2 f3 f4 f5 r0 r1 r2 r3 r4 r5 e0 e1 e2 e3 e4 e5
    obtain ⟨p0, p1, p2, p3, p4, p5, f0, f1, f2, f3, f4, f5⟩ := X3.out.s
    obtain ⟨r0, r1, r2, r3, r4, r5, e0, e1, e2, e3, e4, e5⟩ := R3.out.s
    have HB3 := Lib.hid hb3
    clear hb3
    cases xb with
    | true =>
      obtain ⟨rfl, rfl⟩ := Prod.mk.inj (HQ.out.symm.trans (Dv.write_bad HZ.out.1 HZ.out.2.1 HZ.out.2.2 (by rw [HSZ.out]; have := HBIG.out; omega) (of_decide_eq_true HXB.out)))
      go_wp2_with fail
      have hbz := below_st6 (HB1.out.trans (HB3.out.mono (show B ≤ B + 2 by omega))) (show B ≤ B + 1 by omega) (.int .i64 0) (.slice none 0 0) (.slice none 0 0) (.slice none 0 0) (.int .i64 0) (.bool false)
      obtain ⟨s0, s1, s2, s3, s4, s5, _, _, _, _, _, _⟩ := (R3.out.st (.int .i64 0) (.slice none 0 0) (.slice none 0 0) (.slice none 0 0) (.int .i64 0) (.bool false)).s
      exact bodyPost_ret (v := .tuple #[Dv.val Dv.none' (.slice none 0 0) (.slice none 0 0) (.slice none 0 0), .int .i64 12]) (by simp [results, Try.results26, go_sem, s0, s1, s2, s3, s4, s5, Dv.val, Dv.none']) rfl ⟨_, rfl, DevN.none' _ _, hbz⟩
    | false =>
    go_wp2_with fail
    refine (HCP.out _ HB3.out).mono ?_
    rintro e w4 ⟨Q0, q0, Q1, q1', Q2, q2', rfl, o0, o1, o2, hq⟩
    have hb4 : Below (B + 2) w1 w4 := HE.out _ _ HB3.out hq
    clear hq p0 p1 p2 p3 p4 p5 f0 f1 f2 f3 f4 f5 r0 r1 r2 r3 r4 r5 e0 e1 e2 e3 e4 e5
    have hs4 := hb4.size
    have X4 := Lib.hid (X1.out.below hb4 (by omega))
    have R4 := Lib.hid (R1.out.below hb4 (by omega))
    have hbw4 : B + 1 < w4.heap.size := by omega
    obtain ⟨r0, r1, r2, r3, r4, r5, e0, e1, e2, e3, e4, e5⟩ := R4.out.s
    have HB4 := Lib.hid hb4
    have O0 := Lib.hid o0
    have O1 := Lib.hid o1
    have O2 := Lib.hid o2
    clear hb4 o0 o1 o2
    obtain ⟨b0, b1, b2⟩ := HNN.out HZ.out.1
    obtain ⟨g, rfl, hBg, hgw, ⟨u, hu⟩, hfz⟩ := own_at O0.out hmn
    clear hu hfz
    have HDL := Lib.hid (show (Dv.del d.torn (m : Int)).length ≤ n1 from by
      have := List.length_filter_le (fun x => decide (x ≠ (m : Int))) d.torn
      have h2 := HL.out.2.1
      unfold Dv.del; omega)
    have HFIT2 := Lib.hid (show ∀ x ∈ d.blocks.set m s, x.size ≤ 140737488355328 from fun x hx => by
      rcases List.mem_or_eq_of_mem_set hx with h | rfl
      · exact HFIT.out HZ.out.1 x h
      · exact HSL.out)
    by_cases hf0 : 0 < fu
    · have d2 : decide (0 < fu) = true := by simpa using hf0
      by_cases hf1 : fu = 1
      · obtain ⟨hq1, rfl⟩ := Prod.mk.inj (HQ.out.symm.trans (Dv.write_tear HZ.out.1 HZ.out.2.1 HZ.out.2.2 (by rw [HSZ.out]; have := HBIG.out; omega) (of_decide_eq_false HXB.out) (by rw [HFU.out]; exact hf1)))
        unfold Dv.tear at hq1
        simp only [HSZ.out, Int.toNat_natCast] at hq1
        have HQ1 := Lib.hid hq1
        clear hq1
        subst hf1
        obtain ⟨wv, hwv⟩ : ∃ V, w4.alloc (.cells #[.int .i64 sz, .slice (some ⟨g, 0, none⟩) n q0, .slice Q1 n1 q1', .slice Q2 n2 q2', .int .i64 0, .bool false] 25) = V := ⟨_, rfl⟩
        have hbv : Below w4.heap.size w4 wv := by rw [← hwv]; exact (Below.refl _ _).alloc (Nat.le_refl _) _
        have hsv := hbv.size
        have Rv := Lib.hid (R4.out.below hbv R4.out.lt)
        have HBv := Lib.hid (HB4.out.trans (hbv.mono (by omega)))
        have hN4 := DevN.of (d := ⟨d.size, d.blocks, d.torn, d.bad, 0, false⟩) (B' := B + 2) (own_below O0.out hbv) (own_below O1.out hbv) (own_below O2.out hbv) (by omega) (by omega) (by omega) (HFIT.out HZ.out.1) (Nat.le_refl _)
        unfold Dv.val at hN4
        simp only [HSZ.out] at hN4
        have CT := Lib.hid (tornD_any _ ⟨sz, d.blocks, d.torn, d.bad, 0, false⟩ m (B + 2) wv (by omega) hN4 (by show m < d.blocks.length; rw [HL.out.1]; exact hmn) HTA.out (by show d.torn.length ≤ 4000; rw [HL.out.2.1]; omega))
        have HWV := Lib.hid hwv
        clear hbv hwv hN4
        go_wp2_with fail
        rw [HWV.out]
        refine CT.out.mono ?_
        rintro e w5 ⟨v5, rfl, hN5, hb5⟩
        have R5 := Lib.hid (Rv.out.below hb5 (by omega))
        have HB5 := Lib.hid (HBv.out.trans hb5)
        have hl5 : (d.blocks.set m ByteArray.empty).length = n := by rw [List.length_set]; exact HL.out.1
        obtain ⟨⟨v0, v1, v2, rfl, o0, o1, o2⟩, k0, k1, k2, hfit⟩ := hN5
        obtain ⟨T0, t0, rfl⟩ := own_slice o0
        obtain ⟨T1, t1, rfl⟩ := own_slice o1
        obtain ⟨T2, t2, rfl⟩ := own_slice o2
        simp only at o0 o1 o2 k0 k1 k2 hfit
        simp only [hl5] at o0 k0 ⊢
        obtain ⟨n5, hn5⟩ : ∃ k, (Dv.ins d.torn (m : Int)).length = k := ⟨_, rfl⟩
        obtain ⟨n6, hn6⟩ : ∃ k, d.bad.length = k := ⟨_, rfl⟩
        rw [hn5] at o1 k1
        rw [hn6] at o2 k2
        simp only [hn5, hn6]
        unfold Dv.val
        have HBZ := Lib.hid (below_st6 (HB1.out.trans (HB5.out.mono (show B ≤ B + 2 by omega))) (show B ≤ B + 1 by omega) (.int .i64 sz) (.slice T0 n t0) (.slice T1 n5 t1) (.slice T2 n6 t2) (.int .i64 0) (.bool true))
        have HSS := Lib.hid (R5.out.st (.int .i64 sz) (.slice T0 n t0) (.slice T1 n5 t1) (.slice T2 n6 t2) (.int .i64 0) (.bool true)).s
        have U0 := own_st6 o0 (show B + 1 < B + 2 by omega) (.int .i64 sz) (.slice T0 n t0) (.slice T1 n5 t1) (.slice T2 n6 t2) (.int .i64 0) (.bool true)
        have U1 := own_st6 o1 (show B + 1 < B + 2 by omega) (.int .i64 sz) (.slice T0 n t0) (.slice T1 n5 t1) (.slice T2 n6 t2) (.int .i64 0) (.bool true)
        have U2 := own_st6 o2 (show B + 1 < B + 2 by omega) (.int .i64 sz) (.slice T0 n t0) (.slice T1 n5 t1) (.slice T2 n6 t2) (.int .i64 0) (.bool true)
        have hN := DevN.of (d := ⟨sz, d.blocks.set m ByteArray.empty, Dv.ins d.torn (m : Int), d.bad, 0, true⟩) U0 U1 U2 (by omega) (by omega) (by omega) hfit (show B ≤ B + 2 by omega)
        unfold Dv.val at hN
        have hq1 := HQ1.out
        subst hq1
        have HNF := Lib.hid hN
        obtain ⟨r0, r1, r2, r3, r4, r5, e0, e1, e2, e3, e4, e5⟩ := R5.out.s
        clear U0 U1 U2 hN o0 o1 o2 hb5 hn5 hn6 hl5
        go_wp2_with ((with_reducible refine bodyPost_ret (v := .tuple #[.agg #[.int .i64 sz, .slice T0 n t0, .slice T1 n5 t1, .slice T2 n6 t2, .int .i64 0, .bool true], .int .i64 11]) ?_ ?_ ?_); (obtain ⟨s0, s1, s2, s3, s4, s5, _, _, _, _, _, _⟩ := HSS.out; simp [results, Try.results26, go_sem, s0, s1, s2, s3, s4, s5]); rfl; exact ⟨_, rfl, HNF.out, HBZ.out⟩)
      · obtain ⟨hq1, rfl⟩ := Prod.mk.inj (HQ.out.symm.trans (Dv.write_put HZ.out.1 HZ.out.2.1 HZ.out.2.2 (by rw [HSZ.out]; have := HBIG.out; omega) (of_decide_eq_false HXB.out) (by rw [HFU.out]; exact hf1)))
        unfold Dv.put at hq1
        simp only [HSZ.out, HFU.out, if_pos hf0, Int.toNat_natCast] at hq1
        have HQ1 := Lib.hid hq1
        have hf2 : ((fu - 1) == 0) = false := beq_eq_false_iff_ne.2 (by omega)
        clear hq1 hf1
        obtain ⟨r, hr⟩ : ∃ r, w4.heap.size = r := ⟨_, rfl⟩
        obtain ⟨wv, hwv⟩ : ∃ V, w4.alloc (.cells #[.int .i64 sz, .slice (some ⟨g, 0, none⟩) n q0, .slice Q1 n1 q1', .slice Q2 n2 q2', .int .i64 (fu - 1), .bool false] 25) = V := ⟨_, rfl⟩
        have hbv : Below w4.heap.size w4 wv := by rw [← hwv]; exact (Below.refl _ _).alloc (Nat.le_refl _) _
        have hsv : wv.heap.size = r + 1 := by rw [← hwv]; simp [hr]
        have Xv := Lib.hid (show Box6 wv r 25 (.int .i64 sz) (.slice (some ⟨g, 0, none⟩) n q0) (.slice Q1 n1 q1') (.slice Q2 n2 q2') (.int .i64 (fu - 1)) (.bool false) from by rw [← hwv]; exact Box6.new _ _ _ _ _ _ _ _ _ hr)
        have Rv := Lib.hid (R4.out.below hbv R4.out.lt)
        have G0 := Lib.hid (own_below O0.out hbv)
        have G1 := Lib.hid (own_below O1.out hbv)
        have G2 := Lib.hid (own_below O2.out hbv)
        have HBv := Lib.hid (HB4.out.trans (hbv.mono (by omega)))
        have HWV := Lib.hid hwv
        have CL := Lib.hid (fun W => clone_any s W (by have := HSL.out; omega))
        have hBr : B + 1 < r := by omega
        have hgr : g < r := by omega
        have i0 : (0 : Int) ≤ (m : Int) := by omega
        have i1 : (m : Int) < (n : Int) := by omega
        clear hbv hwv r0 r1 r2 r3 r4 r5 e0 e1 e2 e3 e4 e5
        go_wp2_with fail
        rw [HWV.out]
        clear hr
        obtain ⟨p0, p1, p2, p3, p4, p5, f0, f1, f2, f3, f4, f5⟩ := Xv.out.s
        go_region_with (first | (go_at_call 46; (with_reducible refine (CL.out _).mono ?_); rintro e w5 ⟨rfl, hb5⟩; have hb5' : Below wv.heap.size wv w5 := ((Below.refl wv.heap.size wv).drew).trans hb5; have X5 := Lib.hid (Xv.out.below hb5' Xv.out.lt); have R5 := Lib.hid (Rv.out.below hb5' Rv.out.lt); have J0 := Lib.hid (own_below G0.out hb5'); have J1 := Lib.hid (own_below G1.out hb5'); have J2 := Lib.hid (own_below G2.out hb5'); have HB5 := Lib.hid (HBv.out.trans (hb5'.mono (by omega))); have hs5 := hb5'.size; obtain ⟨gg, hgg, _, hgw5, ⟨u5, hu5⟩, hfz5⟩ := own_at J0.out hmn; obtain ⟨y0, y1, y2, y3, y4, y5, z0, z1, z2, z3, z4, z5⟩ := X5.out.s; clear hb5 hb5'; injection hgg with hgg; injection hgg with hgg; subst hgg) | fail)
        all_goals (
          obtain ⟨w6, hw6⟩ : ∃ V, w5.setCell ⟨g, m, none⟩ (.string s) = V := ⟨_, rfl⟩
          have hne : ∀ {e : TypeId} {A : Option Addr} {k c : Nat} {xs : List Value}, e ≠ 9 → w5.ownsRow (B + 2) e 1 (.slice A k c) k xs → w6.ownsRow (B + 2) e 1 (.slice A k c) k xs := fun {e A k c xs} hT ho => (by
            rcases J0.out.2 with ⟨h', _⟩ | ⟨g2, cap, cur, hv, _, hg2, _⟩
            · cases h'
            · injection hv with h1
              injection h1 with h1
              injection h1 with h1
              subst h1
              rw [← hw6]
              exact ownsRow_setCell_other ho (a := ⟨g, m, none⟩) (Lib.ownBlock_ne ho hg2 (fun h => hT h.symm)) _)
          have K0 := Lib.hid (show w6.ownsRow (B + 2) 9 1 (.slice (some ⟨g, 0, none⟩) n q0) n (Dv.strs (d.blocks.set m s)) from by rw [← hw6]; exact own_put J0.out m s)
          have K1 := Lib.hid (hne (by decide) J1.out)
          have K2 := Lib.hid (hne (by decide) J2.out)
          have X6 := Lib.hid (show Box6 w6 r 25 (.int .i64 sz) (.slice (some ⟨g, 0, none⟩) n q0) (.slice Q1 n1 q1') (.slice Q2 n2 q2') (.int .i64 (fu - 1)) (.bool false) from by rw [← hw6]; exact X5.out.other (a := ⟨g, m, none⟩) (by show r ≠ g; omega) _)
          have R6 := Lib.hid (show Box6 w6 (B + 1) 25 (.int .i64 0) (.slice none 0 0) (.slice none 0 0) (.slice none 0 0) (.int .i64 0) (.bool false) from by rw [← hw6]; exact R5.out.other (a := ⟨g, m, none⟩) (by show B + 1 ≠ g; omega) _)
          have HB6 := Lib.hid (show Below (B + 2) w1 w6 from by rw [← hw6]; exact HB5.out.setCell (p := ⟨g, m, none⟩) hBg _)
          have hs6 : w6.heap.size = w5.heap.size := by rw [← hw6]; simp [World.setCell]
          have CD := Lib.hid (delD_any Q1 n1 q1' d.torn (m : Int) w6 (SlIn.own K1.out (by omega)) HTA.out)
          have HW6 := Lib.hid hw6
          clear hne hw6
          go_wp2_with fail
          rw [HW6.out]
          refine CD.out.mono ?_
          rintro e w7 ⟨v7, rfl, o7, hb7⟩
          obtain ⟨Q6, q6, rfl⟩ := own_slice o7
          obtain ⟨n6, hn6⟩ : ∃ k, (Dv.del d.torn (m : Int)).length = k := ⟨_, rfl⟩
          rw [hn6] at o7 HDL ⊢
          have x7 := X6.out.below hb7 X6.out.lt
          have R7 := Lib.hid (R6.out.below hb7 R6.out.lt)
          clear p0 p1 p2 p3 p4 p5 f0 f1 f2 f3 f4 f5 y0 y1 y2 y3 y4 y5 z0 z1 z2 z3 z4 z5 hu5 hfz5
          obtain ⟨p0, p1, p2, p3, p4, p5, f0, f1, f2, f3, f4, f5⟩ := x7.s
          obtain ⟨r0, r1, r2, r3, r4, r5, e0, e1, e2, e3, e4, e5⟩ := R7.out.s
          have hs7 := hb7.size
          have far : ∀ {e : TypeId} {A : Option Addr} {k c : Nat} {xs : List Value}, 25 ≠ e → w7.ownsRow (B + 2) e 1 (.slice A k c) k xs → (st6 (w7.setCell ⟨r, 2, none⟩ (.slice Q6 n6 q6)) (B + 1) (.int .i64 sz) (.slice (some ⟨g, 0, none⟩) n q0) (.slice Q6 n6 q6) (.slice Q2 n2 q2') (.int .i64 (fu - 1)) (.bool false)).ownsRow (B + 2) e 1 (.slice A k c) k xs := fun {e A k c xs} hT ho =>
            own_st6 (ownsRow_setCell_other ho (a := ⟨r, 2, none⟩) (Lib.ownBlock_ne ho x7.h hT) (.slice Q6 n6 q6)) (show B + 1 < B + 2 by omega) _ _ _ _ _ _
          have U0 := far (by decide) (own_below K0.out hb7)
          have U1 := far (by decide) (own_mono o7 (show B + 2 ≤ w6.heap.size by omega))
          have U2 := far (by decide) (own_below K2.out hb7)
          have hN := DevN.of (d := ⟨d.size, d.blocks.set m s, Dv.del d.torn (m : Int), d.bad, fu - 1, false⟩) U0 U1 U2 (by omega) (by have := HDL.out; omega) (by omega) HFIT2.out (show B ≤ B + 2 by omega)
          unfold Dv.val at hN
          simp only [HSZ.out] at hN
          have hq1 := HQ1.out
          subst hq1
          have HNF := Lib.hid hN
          have HBZ := Lib.hid (below_st6 ((HB1.out.trans ((HB6.out.trans (hb7.mono (by omega))).mono (show B ≤ B + 2 by omega))).setCell (p := ⟨r, 2, none⟩) (show B ≤ r by omega) (.slice Q6 n6 q6)) (show B ≤ B + 1 by omega) (.int .i64 sz) (.slice (some ⟨g, 0, none⟩) n q0) (.slice Q6 n6 q6) (.slice Q2 n2 q2') (.int .i64 (fu - 1)) (.bool false))
          have HSS := Lib.hid ((R7.out.other (a := ⟨r, 2, none⟩) (by show B + 1 ≠ r; omega) (.slice Q6 n6 q6)).st (.int .i64 sz) (.slice (some ⟨g, 0, none⟩) n q0) (.slice Q6 n6 q6) (.slice Q2 n2 q2') (.int .i64 (fu - 1)) (.bool false)).s
          clear far U0 U1 U2 hN o7 hb7 hn6 x7
          go_wp2_with ((with_reducible refine bodyPost_ret (v := .tuple #[.agg #[.int .i64 sz, .slice (some ⟨g, 0, none⟩) n q0, .slice Q6 n6 q6, .slice Q2 n2 q2', .int .i64 (fu - 1), .bool false], .int .i64 0]) ?_ ?_ ?_); (obtain ⟨s0, s1, s2, s3, s4, s5, _, _, _, _, _, _⟩ := HSS.out; simp [results, Try.results26, go_sem, s0, s1, s2, s3, s4, s5]); rfl; exact ⟨_, rfl, HNF.out, HBZ.out⟩))
    · have d2 : decide (0 < fu) = false := by simpa using hf0
      obtain rfl : fu = 0 := by omega
      obtain ⟨hq1, rfl⟩ := Prod.mk.inj (HQ.out.symm.trans (Dv.write_put HZ.out.1 HZ.out.2.1 HZ.out.2.2 (by rw [HSZ.out]; have := HBIG.out; omega) (of_decide_eq_false HXB.out) (by rw [HFU.out]; decide)))
      unfold Dv.put at hq1
      simp only [HSZ.out, HFU.out, if_neg hf0, Int.toNat_natCast] at hq1
      have HQ1 := Lib.hid hq1
      clear hq1
      obtain ⟨r, hr⟩ : ∃ r, w4.heap.size = r := ⟨_, rfl⟩
      obtain ⟨wv, hwv⟩ : ∃ V, w4.alloc (.cells #[.int .i64 sz, .slice (some ⟨g, 0, none⟩) n q0, .slice Q1 n1 q1', .slice Q2 n2 q2', .int .i64 (0), .bool false] 25) = V := ⟨_, rfl⟩
      have hbv : Below w4.heap.size w4 wv := by rw [← hwv]; exact (Below.refl _ _).alloc (Nat.le_refl _) _
      have hsv : wv.heap.size = r + 1 := by rw [← hwv]; simp [hr]
      have Xv := Lib.hid (show Box6 wv r 25 (.int .i64 sz) (.slice (some ⟨g, 0, none⟩) n q0) (.slice Q1 n1 q1') (.slice Q2 n2 q2') (.int .i64 (0)) (.bool false) from by rw [← hwv]; exact Box6.new _ _ _ _ _ _ _ _ _ hr)
      have Rv := Lib.hid (R4.out.below hbv R4.out.lt)
      have G0 := Lib.hid (own_below O0.out hbv)
      have G1 := Lib.hid (own_below O1.out hbv)
      have G2 := Lib.hid (own_below O2.out hbv)
      have HBv := Lib.hid (HB4.out.trans (hbv.mono (by omega)))
      have HWV := Lib.hid hwv
      have CL := Lib.hid (fun W => clone_any s W (by have := HSL.out; omega))
      have hBr : B + 1 < r := by omega
      have hgr : g < r := by omega
      have i0 : (0 : Int) ≤ (m : Int) := by omega
      have i1 : (m : Int) < (n : Int) := by omega
      clear hbv hwv r0 r1 r2 r3 r4 r5 e0 e1 e2 e3 e4 e5
      go_wp2_with fail
      rw [HWV.out]
      clear hr
      obtain ⟨p0, p1, p2, p3, p4, p5, f0, f1, f2, f3, f4, f5⟩ := Xv.out.s
      go_region_with (first | (go_at_call 46; (with_reducible refine (CL.out _).mono ?_); rintro e w5 ⟨rfl, hb5⟩; have hb5' : Below wv.heap.size wv w5 := ((Below.refl wv.heap.size wv).drew).trans hb5; have X5 := Lib.hid (Xv.out.below hb5' Xv.out.lt); have R5 := Lib.hid (Rv.out.below hb5' Rv.out.lt); have J0 := Lib.hid (own_below G0.out hb5'); have J1 := Lib.hid (own_below G1.out hb5'); have J2 := Lib.hid (own_below G2.out hb5'); have HB5 := Lib.hid (HBv.out.trans (hb5'.mono (by omega))); have hs5 := hb5'.size; obtain ⟨gg, hgg, _, hgw5, ⟨u5, hu5⟩, hfz5⟩ := own_at J0.out hmn; obtain ⟨y0, y1, y2, y3, y4, y5, z0, z1, z2, z3, z4, z5⟩ := X5.out.s; clear hb5 hb5'; injection hgg with hgg; injection hgg with hgg; subst hgg) | fail)
      all_goals (
        obtain ⟨w6, hw6⟩ : ∃ V, w5.setCell ⟨g, m, none⟩ (.string s) = V := ⟨_, rfl⟩
        have hne : ∀ {e : TypeId} {A : Option Addr} {k c : Nat} {xs : List Value}, e ≠ 9 → w5.ownsRow (B + 2) e 1 (.slice A k c) k xs → w6.ownsRow (B + 2) e 1 (.slice A k c) k xs := fun {e A k c xs} hT ho => (by
          rcases J0.out.2 with ⟨h', _⟩ | ⟨g2, cap, cur, hv, _, hg2, _⟩
          · cases h'
          · injection hv with h1
            injection h1 with h1
            injection h1 with h1
            subst h1
            rw [← hw6]
            exact ownsRow_setCell_other ho (a := ⟨g, m, none⟩) (Lib.ownBlock_ne ho hg2 (fun h => hT h.symm)) _)
        have K0 := Lib.hid (show w6.ownsRow (B + 2) 9 1 (.slice (some ⟨g, 0, none⟩) n q0) n (Dv.strs (d.blocks.set m s)) from by rw [← hw6]; exact own_put J0.out m s)
        have K1 := Lib.hid (hne (by decide) J1.out)
        have K2 := Lib.hid (hne (by decide) J2.out)
        have X6 := Lib.hid (show Box6 w6 r 25 (.int .i64 sz) (.slice (some ⟨g, 0, none⟩) n q0) (.slice Q1 n1 q1') (.slice Q2 n2 q2') (.int .i64 (0)) (.bool false) from by rw [← hw6]; exact X5.out.other (a := ⟨g, m, none⟩) (by show r ≠ g; omega) _)
        have R6 := Lib.hid (show Box6 w6 (B + 1) 25 (.int .i64 0) (.slice none 0 0) (.slice none 0 0) (.slice none 0 0) (.int .i64 0) (.bool false) from by rw [← hw6]; exact R5.out.other (a := ⟨g, m, none⟩) (by show B + 1 ≠ g; omega) _)
        have HB6 := Lib.hid (show Below (B + 2) w1 w6 from by rw [← hw6]; exact HB5.out.setCell (p := ⟨g, m, none⟩) hBg _)
        have hs6 : w6.heap.size = w5.heap.size := by rw [← hw6]; simp [World.setCell]
        have CD := Lib.hid (delD_any Q1 n1 q1' d.torn (m : Int) w6 (SlIn.own K1.out (by omega)) HTA.out)
        have HW6 := Lib.hid hw6
        clear hne hw6
        go_wp2_with fail
        rw [HW6.out]
        refine CD.out.mono ?_
        rintro e w7 ⟨v7, rfl, o7, hb7⟩
        obtain ⟨Q6, q6, rfl⟩ := own_slice o7
        obtain ⟨n6, hn6⟩ : ∃ k, (Dv.del d.torn (m : Int)).length = k := ⟨_, rfl⟩
        rw [hn6] at o7 HDL ⊢
        have x7 := X6.out.below hb7 X6.out.lt
        have R7 := Lib.hid (R6.out.below hb7 R6.out.lt)
        clear p0 p1 p2 p3 p4 p5 f0 f1 f2 f3 f4 f5 y0 y1 y2 y3 y4 y5 z0 z1 z2 z3 z4 z5 hu5 hfz5
        obtain ⟨p0, p1, p2, p3, p4, p5, f0, f1, f2, f3, f4, f5⟩ := x7.s
        obtain ⟨r0, r1, r2, r3, r4, r5, e0, e1, e2, e3, e4, e5⟩ := R7.out.s
        have hs7 := hb7.size
        have far : ∀ {e : TypeId} {A : Option Addr} {k c : Nat} {xs : List Value}, 25 ≠ e → w7.ownsRow (B + 2) e 1 (.slice A k c) k xs → (st6 (w7.setCell ⟨r, 2, none⟩ (.slice Q6 n6 q6)) (B + 1) (.int .i64 sz) (.slice (some ⟨g, 0, none⟩) n q0) (.slice Q6 n6 q6) (.slice Q2 n2 q2') (.int .i64 (0)) (.bool false)).ownsRow (B + 2) e 1 (.slice A k c) k xs := fun {e A k c xs} hT ho =>
          own_st6 (ownsRow_setCell_other ho (a := ⟨r, 2, none⟩) (Lib.ownBlock_ne ho x7.h hT) (.slice Q6 n6 q6)) (show B + 1 < B + 2 by omega) _ _ _ _ _ _
        have U0 := far (by decide) (own_below K0.out hb7)
        have U1 := far (by decide) (own_mono o7 (show B + 2 ≤ w6.heap.size by omega))
        have U2 := far (by decide) (own_below K2.out hb7)
        have hN := DevN.of (d := ⟨d.size, d.blocks.set m s, Dv.del d.torn (m : Int), d.bad, 0, false⟩) U0 U1 U2 (by omega) (by have := HDL.out; omega) (by omega) HFIT2.out (show B ≤ B + 2 by omega)
        unfold Dv.val at hN
        simp only [HSZ.out] at hN
        have hq1 := HQ1.out
        subst hq1
        have HNF := Lib.hid hN
        have HBZ := Lib.hid (below_st6 ((HB1.out.trans ((HB6.out.trans (hb7.mono (by omega))).mono (show B ≤ B + 2 by omega))).setCell (p := ⟨r, 2, none⟩) (show B ≤ r by omega) (.slice Q6 n6 q6)) (show B ≤ B + 1 by omega) (.int .i64 sz) (.slice (some ⟨g, 0, none⟩) n q0) (.slice Q6 n6 q6) (.slice Q2 n2 q2') (.int .i64 (0)) (.bool false))
        have HSS := Lib.hid ((R7.out.other (a := ⟨r, 2, none⟩) (by show B + 1 ≠ r; omega) (.slice Q6 n6 q6)).st (.int .i64 sz) (.slice (some ⟨g, 0, none⟩) n q0) (.slice Q6 n6 q6) (.slice Q2 n2 q2') (.int .i64 (0)) (.bool false)).s
        clear far U0 U1 U2 hN o7 hb7 hn6 x7
        go_wp2_with ((with_reducible refine bodyPost_ret (v := .tuple #[.agg #[.int .i64 sz, .slice (some ⟨g, 0, none⟩) n q0, .slice Q6 n6 q6, .slice Q2 n2 q2', .int .i64 (0), .bool false], .int .i64 0]) ?_ ?_ ?_); (obtain ⟨s0, s1, s2, s3, s4, s5, _, _, _, _, _, _⟩ := HSS.out; simp [results, Try.results26, go_sem, s0, s1, s2, s3, s4, s5]); rfl; exact ⟨_, rfl, HNF.out, HBZ.out⟩))
  · have e0' : (k == 0) = false := beq_eq_false_iff_ne.2 hk
    have e1' : (k != 0) = true := bne_iff_ne.2 hk
    obtain ⟨rfl, rfl⟩ : Dv.none' = q1 ∧ k = q2 := by
      have h := HQ.out
      rw [Dv.write_reach (by rw [HK.out]; exact hk)] at h
      rw [HK.out] at h
      exact Prod.mk.inj h
    clear hk hcp
    go_wp2_with fail
    have hbz := below_st6 (HB1.out.trans (HB2.out.mono (show B ≤ B + 2 by omega))) (show B ≤ B + 1 by omega) (.int .i64 0) (.slice none 0 0) (.slice none 0 0) (.slice none 0 0) (.int .i64 0) (.bool false)
    obtain ⟨s0, s1, s2, s3, s4, s5, _, _, _, _, _, _⟩ := (R2.out.st (.int .i64 0) (.slice none 0 0) (.slice none 0 0) (.slice none 0 0) (.int .i64 0) (.bool false)).s
    exact bodyPost_ret (v := .tuple #[Dv.val Dv.none' (.slice none 0 0) (.slice none 0 0) (.slice none 0 0), .int .i64 k]) (by simp [results, Try.results26, go_sem, s0, s1, s2, s3, s4, s5, Dv.val, Dv.none']) rfl ⟨_, rfl, DevN.none' _ _, hbz⟩

end Go.Proofs.Ythdkidiemhfffaa
