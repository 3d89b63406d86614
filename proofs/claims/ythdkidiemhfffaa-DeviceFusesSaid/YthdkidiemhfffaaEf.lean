/-
  Contracts of device: Start, Read.
-/
import Derived.Test.YthdkidiemhfffaaEe
namespace Go.Proofs.Ythdkidiemhfffaa
open Go.RowKit
set_option maxHeartbeats 4000000

theorem Dv.reach_zero {d : Dv.D} {n : Int} (h : Dv.reach d n = 0) : Dv.chk d = 0 ∧ d.down = false ∧ ¬ (n < 0 ∨ (d.blocks.length : Int) ≤ n) := by
  unfold Dv.reach at h
  split at h
  · cases h
  · rename_i h0
    split at h
    · cases h
    · rename_i h1
      split at h
      · cases h
      · rename_i h2
        exact ⟨by simpa using h0, by simpa using h1, h2⟩
theorem Dv.read_reach {d : Dv.D} {n : Int} (h : Dv.reach d n ≠ 0) : Dv.read d n = (ByteArray.empty, Dv.reach d n) := by
  unfold Dv.reach at h ⊢
  unfold Dv.read
  split
  · rfl
  · split
    · rfl
    · split
      · rfl
      · rename_i h0 h1 h2
        rw [if_neg h0, if_neg h1, if_neg h2] at h
        exact absurd rfl h
theorem Dv.write_reach {d : Dv.D} {n : Int} (h : Dv.reach d n ≠ 0) (s : ByteArray) : Dv.write d n s = (Dv.none', Dv.reach d n) := by
  unfold Dv.reach at h ⊢
  unfold Dv.write
  split
  · rfl
  · split
    · rfl
    · split
      · rfl
      · rename_i h0 h1 h2
        rw [if_neg h0, if_neg h1, if_neg h2] at h
        exact absurd rfl h

set_option maxRecDepth 100000 in
theorem startD_any (v : Value) (d : Dv.D) (w : World) (hd : DevV w v d) :
    Calls Try.prog 15 #[v] w fun e w' => ∃ v', e = .returned (.tuple #[v', .int .i64 (Dv.start d).2]) ∧ DevN w' w.heap.size v' (Dv.start d).1 ∧ Below w.heap.size w w' := by
  obtain ⟨q, hq⟩ : ∃ q, Dv.start d = q := ⟨_, rfl⟩
  rw [hq]
  obtain ⟨q1, q2⟩ := q
  simp only
  obtain ⟨A, n, c, A1, n1, c1, A2, n2, c2, rfl, hp⟩ := hd
  obtain ⟨B, hB⟩ : ∃ B, w.heap.size = B := ⟨_, rfl⟩
  obtain ⟨sz, hsz⟩ : ∃ x, d.size = x := ⟨_, rfl⟩
  obtain ⟨fu, hfu⟩ : ∃ x, d.fuse = x := ⟨_, rfl⟩
  obtain ⟨dn, hdn⟩ : ∃ x, d.down = x := ⟨_, rfl⟩
  obtain ⟨w1, hw1⟩ : ∃ V, (w.alloc (.cells #[.int .i64 sz, .slice A n c, .slice A1 n1 c1, .slice A2 n2 c2, .int .i64 fu, .bool dn] 25)).alloc (.cells #[.int .i64 0, .slice none 0 0, .slice none 0 0, .slice none 0 0, .int .i64 0, .bool false] 25) = V := ⟨_, rfl⟩
  have hb1 : Below B w w1 := by rw [← hw1, ← hB]; exact ((Below.refl _ _).alloc (Nat.le_refl _) _).alloc (by simp) _
  have hs1 : w1.heap.size = B + 2 := by rw [← hw1]; simp [hB]
  have X1 := Lib.hid (show Box6 w1 B 25 (.int .i64 sz) (.slice A n c) (.slice A1 n1 c1) (.slice A2 n2 c2) (.int .i64 fu) (.bool dn) from by rw [← hw1]; exact (Box6.new _ _ _ _ _ _ _ _ _ hB).alloc _)
  have R1 := Lib.hid (show Box6 w1 (B + 1) 25 (.int .i64 0) (.slice none 0 0) (.slice none 0 0) (.slice none 0 0) (.int .i64 0) (.bool false) from by rw [← hw1]; exact Box6.new _ _ _ _ _ _ _ _ _ (by simp [hB]))
  have HP := Lib.hid (show ∀ W, Below (B + 2) w1 W → DevP W A n c A1 n1 c1 A2 n2 c2 d from fun W h => hp.below (by rw [hB]; exact hb1.trans (h.mono (by omega))))
  have HE := Lib.hid (show ∀ W V, Below (B + 2) w1 W → Below W.heap.size W V → Below (B + 2) w1 V from fun W V h h2 => h.trans (h2.mono (by have := h.size; omega)))
  have HV := Lib.hid (show ∀ v0 v1 v2, Dv.val d v0 v1 v2 = .agg #[.int .i64 sz, v0, v1, v2, .int .i64 fu, .bool dn] from fun v0 v1 v2 => by unfold Dv.val; rw [hsz, hfu, hdn])
  have HD := Lib.hid (show ∀ W, Below (B + 2) w1 W → DevV W (.agg #[.int .i64 sz, .slice A n c, .slice A1 n1 c1, .slice A2 n2 c2, .int .i64 fu, .bool dn]) d from fun W h => ⟨A, n, c, A1, n1, c1, A2, n2, c2, (HV.out _ _ _).symm, HP.out W h⟩)
  have hcp : Dv.chk d = 0 → ∀ W, Below (B + 2) w1 W → Calls Try.prog 35 #[.agg #[.int .i64 sz, .slice A n c, .slice A1 n1 c1, .slice A2 n2 c2, .int .i64 fu, .bool dn]] W fun e w' => ∃ Q0 q0 Q1 q1 Q2 q2, e = .returned (.agg #[.int .i64 sz, .slice Q0 n q0, .slice Q1 n1 q1, .slice Q2 n2 q2, .int .i64 fu, .bool dn]) ∧ w'.ownsRow (B + 2) 9 1 (.slice Q0 n q0) n (Dv.strs d.blocks) ∧ w'.ownsRow (B + 2) 3 1 (.slice Q1 n1 q1) n1 (Dv.ints d.torn) ∧ w'.ownsRow (B + 2) 3 1 (.slice Q2 n2 q2) n2 (Dv.ints d.bad) ∧ Below W.heap.size W w' := fun hk W h => by
    have h2 := copiedD_any _ d W (HD.out W h) (Dv.chk_zero.1 hk)
    refine h2.mono ?_
    rintro e w' ⟨v', rfl, ⟨⟨v0, v1, v2, rfl, o0, o1, o2⟩, _, _, _, _⟩, hb⟩
    obtain ⟨l0, l1, l2⟩ := hp.lens
    have hsz := h.size
    rw [l0] at o0
    rw [l1] at o1
    rw [l2] at o2
    obtain ⟨Q0, q0, rfl⟩ := own_slice o0
    obtain ⟨Q1, q1, rfl⟩ := own_slice o1
    obtain ⟨Q2, q2, rfl⟩ := own_slice o2
    exact ⟨Q0, q0, Q1, q1, Q2, q2, by rw [HV.out], own_mono o0 (by omega), own_mono o1 (by omega), own_mono o2 (by omega), hb⟩
  obtain ⟨l0, l1, l2⟩ := hp.lens
  have HNN := Lib.hid (show Dv.chk d = 0 → n ≤ 512 ∧ n1 ≤ 512 ∧ n2 ≤ 512 from fun hk => by
    have ok := Dv.chk_zero.1 hk
    have a0 := ok.n1
    have a1 := ok.t.len
    have a2 := ok.b.len
    omega)
  have HFIT := Lib.hid (show Dv.chk d = 0 → ∀ s ∈ d.blocks, s.size ≤ 140737488355328 from fun hk => (Dv.chk_zero.1 hk).fits)
  have hn := hp.b.2.2
  have HB1 := Lib.hid hb1
  have HW1 := Lib.hid hw1
  have HL := Lib.hid (And.intro l0 (And.intro l1 l2))
  have HSZ := Lib.hid hsz
  have HFU := Lib.hid hfu
  have HDN := Lib.hid hdn
  have HQ := Lib.hid hq
  clear hp hb1 hw1 l0 l1 l2 hsz hfu hdn hq
  rw [HV.out]
  rw [hB]
  have C1 := Lib.hid (fun W h => chkD_any _ d W (HD.out W h))
  obtain ⟨k, hk⟩ : ∃ k, Dv.chk d = k := ⟨_, rfl⟩
  have HK := Lib.hid hk
  have hk2 := Dv.chk_is d
  rw [hk] at hk2 C1 hcp
  have hcp2 : k = 0 → _ := hcp
  clear hk hcp
  go_enter Try.func15, Try.ntmps15
  go_wp2_with fail
  rw [HW1.out]
  clear hB
  refine (C1.out _ (Below.refl _ _)).mono ?_
  rintro e w2 ⟨rfl, hq⟩
  have hb2 : Below (B + 2) w1 w2 := HE.out _ _ (Below.refl _ _) hq
  clear hq
  have hs2 := hb2.size
  have X2 := Lib.hid (X1.out.below hb2 (by omega))
  have R2 := Lib.hid (R1.out.below hb2 (by omega))
  obtain ⟨p0, p1, p2, p3, p4, p5, f0, f1, f2, f3, f4, f5⟩ := X2.out.s
  obtain ⟨r0, r1, r2, r3, r4, r5, e0, e1, e2, e3, e4, e5⟩ := R2.out.s
  have HB2 := Lib.hid hb2
  clear hb2
  rcases hk2 with rfl | rfl
  · have HCP := Lib.hid (hcp2 rfl)
    clear hcp2
    obtain ⟨hq1, rfl⟩ := Prod.mk.inj (HQ.out.symm.trans (Dv.start_ok HK.out))
    cases dn with
    | true =>
      rw [if_pos HDN.out] at hq1
      have HQ1 := Lib.hid hq1
      clear hq1
      go_wp2_with fail
      refine (HCP.out _ HB2.out).mono ?_
      rintro e w3 ⟨Q0, q0, Q1, q1', Q2, q2', rfl, o0, o1, o2, hq⟩
      have hb3 : Below (B + 2) w1 w3 := HE.out _ _ HB2.out hq
      clear hq p0 p1 p2 p3 p4 p5 f0 f1 f2 f3 f4 f5 r0 r1 r2 r3 r4 r5 e0 e1 e2 e3 e4 e5
      have hs3 := hb3.size
      have X3 := Lib.hid (X1.out.below hb3 (by omega))
      have R3 := Lib.hid (R1.out.below hb3 (by omega))
      have hbw3 : B + 1 < w3.heap.size := by omega
      obtain ⟨r0, r1, r2, r3, r4, r5, e0, e1, e2, e3, e4, e5⟩ := R3.out.s
      have HB3 := Lib.hid hb3
      have O0 := Lib.hid o0
      have O1 := Lib.hid o1
      have O2 := Lib.hid o2
      clear hb3 o0 o1 o2
      have U0 := own_below (own_st6 O0.out (show B + 1 < B + 2 by omega) (.int .i64 sz) (.slice Q0 n q0) (.slice Q1 n1 q1') (.slice Q2 n2 q2') (.int .i64 0) (.bool false)) ((Below.refl _ _).alloc (Nat.le_refl _) (.cells #[.int .i64 sz, .slice Q0 n q0, .slice Q1 n1 q1', .slice Q2 n2 q2', .int .i64 0, .bool false] 25))
      have U1 := own_below (own_st6 O1.out (show B + 1 < B + 2 by omega) (.int .i64 sz) (.slice Q0 n q0) (.slice Q1 n1 q1') (.slice Q2 n2 q2') (.int .i64 0) (.bool false)) ((Below.refl _ _).alloc (Nat.le_refl _) (.cells #[.int .i64 sz, .slice Q0 n q0, .slice Q1 n1 q1', .slice Q2 n2 q2', .int .i64 0, .bool false] 25))
      have U2 := own_below (own_st6 O2.out (show B + 1 < B + 2 by omega) (.int .i64 sz) (.slice Q0 n q0) (.slice Q1 n1 q1') (.slice Q2 n2 q2') (.int .i64 0) (.bool false)) ((Below.refl _ _).alloc (Nat.le_refl _) (.cells #[.int .i64 sz, .slice Q0 n q0, .slice Q1 n1 q1', .slice Q2 n2 q2', .int .i64 0, .bool false] 25))
      have HBZ := Lib.hid ((below_st6 (HB1.out.trans (HB3.out.mono (show B ≤ B + 2 by omega))) (show B ≤ B + 1 by omega) (.int .i64 sz) (.slice Q0 n q0) (.slice Q1 n1 q1') (.slice Q2 n2 q2') (.int .i64 0) (.bool false)).alloc (by simp; omega) (.cells #[.int .i64 sz, .slice Q0 n q0, .slice Q1 n1 q1', .slice Q2 n2 q2', .int .i64 0, .bool false] 25))
      have HSS := Lib.hid ((R3.out.st (.int .i64 sz) (.slice Q0 n q0) (.slice Q1 n1 q1') (.slice Q2 n2 q2') (.int .i64 0) (.bool false)).alloc (.cells #[.int .i64 sz, .slice Q0 n q0, .slice Q1 n1 q1', .slice Q2 n2 q2', .int .i64 0, .bool false] 25)).s
      obtain ⟨b0, b1, b2⟩ := HNN.out HK.out
      have hN := DevN.of (d := ⟨d.size, d.blocks, d.torn, d.bad, 0, false⟩) U0 U1 U2 (by omega) (by omega) (by omega) (HFIT.out HK.out) (show B ≤ B + 2 by omega)
      unfold Dv.val at hN
      simp only [HSZ.out] at hN
      have hq1 := HQ1.out
      simp only [HSZ.out] at hq1
      subst hq1
      have HNF := Lib.hid hN
      clear hN U0 U1 U2
      go_wp2_with ((with_reducible refine bodyPost_ret (v := .tuple #[.agg #[.int .i64 sz, .slice Q0 n q0, .slice Q1 n1 q1', .slice Q2 n2 q2', .int .i64 0, .bool false], .int .i64 0]) ?_ ?_ ?_); (obtain ⟨s0, s1, s2, s3, s4, s5, _, _, _, _, _, _⟩ := HSS.out; simp [results, Try.results15, go_sem, s0, s1, s2, s3, s4, s5]); rfl; exact ⟨_, rfl, HNF.out, HBZ.out⟩)
    | false =>
      rw [if_neg (by rw [HDN.out]; decide)] at hq1
      have HQ1 := Lib.hid hq1
      clear hq1
      go_wp2_with fail
      refine (HCP.out _ HB2.out).mono ?_
      rintro e w3 ⟨Q0, q0, Q1, q1', Q2, q2', rfl, o0, o1, o2, hq⟩
      have hb3 : Below (B + 2) w1 w3 := HE.out _ _ HB2.out hq
      clear hq p0 p1 p2 p3 p4 p5 f0 f1 f2 f3 f4 f5 r0 r1 r2 r3 r4 r5 e0 e1 e2 e3 e4 e5
      have hs3 := hb3.size
      have X3 := Lib.hid (X1.out.below hb3 (by omega))
      have R3 := Lib.hid (R1.out.below hb3 (by omega))
      have hbw3 : B + 1 < w3.heap.size := by omega
      obtain ⟨r0, r1, r2, r3, r4, r5, e0, e1, e2, e3, e4, e5⟩ := R3.out.s
      have HB3 := Lib.hid hb3
      have O0 := Lib.hid o0
      have O1 := Lib.hid o1
      have O2 := Lib.hid o2
      clear hb3 o0 o1 o2
      have U0 := own_below (own_st6 O0.out (show B + 1 < B + 2 by omega) (.int .i64 sz) (.slice Q0 n q0) (.slice Q1 n1 q1') (.slice Q2 n2 q2') (.int .i64 fu) (.bool false)) ((Below.refl _ _).alloc (Nat.le_refl _) (.cells #[.int .i64 sz, .slice Q0 n q0, .slice Q1 n1 q1', .slice Q2 n2 q2', .int .i64 fu, .bool false] 25))
      have U1 := own_below (own_st6 O1.out (show B + 1 < B + 2 by omega) (.int .i64 sz) (.slice Q0 n q0) (.slice Q1 n1 q1') (.slice Q2 n2 q2') (.int .i64 fu) (.bool false)) ((Below.refl _ _).alloc (Nat.le_refl _) (.cells #[.int .i64 sz, .slice Q0 n q0, .slice Q1 n1 q1', .slice Q2 n2 q2', .int .i64 fu, .bool false] 25))
      have U2 := own_below (own_st6 O2.out (show B + 1 < B + 2 by omega) (.int .i64 sz) (.slice Q0 n q0) (.slice Q1 n1 q1') (.slice Q2 n2 q2') (.int .i64 fu) (.bool false)) ((Below.refl _ _).alloc (Nat.le_refl _) (.cells #[.int .i64 sz, .slice Q0 n q0, .slice Q1 n1 q1', .slice Q2 n2 q2', .int .i64 fu, .bool false] 25))
      have HBZ := Lib.hid ((below_st6 (HB1.out.trans (HB3.out.mono (show B ≤ B + 2 by omega))) (show B ≤ B + 1 by omega) (.int .i64 sz) (.slice Q0 n q0) (.slice Q1 n1 q1') (.slice Q2 n2 q2') (.int .i64 fu) (.bool false)).alloc (by simp; omega) (.cells #[.int .i64 sz, .slice Q0 n q0, .slice Q1 n1 q1', .slice Q2 n2 q2', .int .i64 fu, .bool false] 25))
      have HSS := Lib.hid ((R3.out.st (.int .i64 sz) (.slice Q0 n q0) (.slice Q1 n1 q1') (.slice Q2 n2 q2') (.int .i64 fu) (.bool false)).alloc (.cells #[.int .i64 sz, .slice Q0 n q0, .slice Q1 n1 q1', .slice Q2 n2 q2', .int .i64 fu, .bool false] 25)).s
      obtain ⟨b0, b1, b2⟩ := HNN.out HK.out
      have hN := DevN.of (d := ⟨d.size, d.blocks, d.torn, d.bad, d.fuse, false⟩) U0 U1 U2 (by omega) (by omega) (by omega) (HFIT.out HK.out) (show B ≤ B + 2 by omega)
      unfold Dv.val at hN
      simp only [HSZ.out, HFU.out] at hN
      have hq1 := HQ1.out
      simp only [HSZ.out, HFU.out] at hq1
      subst hq1
      have HNF := Lib.hid hN
      clear hN U0 U1 U2
      go_wp2_with ((with_reducible refine bodyPost_ret (v := .tuple #[.agg #[.int .i64 sz, .slice Q0 n q0, .slice Q1 n1 q1', .slice Q2 n2 q2', .int .i64 fu, .bool false], .int .i64 0]) ?_ ?_ ?_); (obtain ⟨s0, s1, s2, s3, s4, s5, _, _, _, _, _, _⟩ := HSS.out; simp [results, Try.results15, go_sem, s0, s1, s2, s3, s4, s5]); rfl; exact ⟨_, rfl, HNF.out, HBZ.out⟩)
  · obtain ⟨rfl, rfl⟩ := Prod.mk.inj (HQ.out.symm.trans (Dv.start_form HK.out))
    clear hcp2
    go_wp2_with fail
    have hbz := below_st6 (HB1.out.trans (HB2.out.mono (show B ≤ B + 2 by omega))) (show B ≤ B + 1 by omega) (.int .i64 0) (.slice none 0 0) (.slice none 0 0) (.slice none 0 0) (.int .i64 0) (.bool false)
    obtain ⟨s0, s1, s2, s3, s4, s5, _, _, _, _, _, _⟩ := (R2.out.st (.int .i64 0) (.slice none 0 0) (.slice none 0 0) (.slice none 0 0) (.int .i64 0) (.bool false)).s
    exact bodyPost_ret (v := .tuple #[Dv.val Dv.none' (.slice none 0 0) (.slice none 0 0) (.slice none 0 0), .int .i64 2]) (by simp [results, Try.results15, go_sem, s0, s1, s2, s3, s4, s5, Dv.val, Dv.none']) rfl ⟨_, rfl, DevN.none' _ _, hbz⟩

set_option maxRecDepth 100000 in
theorem readD_any (v : Value) (d : Dv.D) (m : Int) (w : World) (hd : DevV w v d) :
    Calls Try.prog 22 #[v, .int .i64 m] w fun e w' => e = .returned (.tuple #[.string (Dv.read d m).1, .int .i64 (Dv.read d m).2]) ∧ Below w.heap.size w w' := by
  obtain ⟨q, hq⟩ : ∃ q, Dv.read d m = q := ⟨_, rfl⟩
  rw [hq]
  obtain ⟨q1, q2⟩ := q
  simp only
  have hd0 := hd
  obtain ⟨A, n, c, A1, n1, c1, A2, n2, c2, rfl, hp⟩ := hd
  obtain ⟨l0, l1, l2⟩ := hp.lens
  have hn := hp.b.2.2
  obtain ⟨sz, hsz⟩ : ∃ x, d.size = x := ⟨_, rfl⟩
  obtain ⟨fu, hfu⟩ : ∃ x, d.fuse = x := ⟨_, rfl⟩
  obtain ⟨dn, hdn⟩ : ∃ x, d.down = x := ⟨_, rfl⟩
  have HV := Lib.hid (show Dv.val d (.slice A n c) (.slice A1 n1 c1) (.slice A2 n2 c2) = .agg #[.int .i64 sz, .slice A n c, .slice A1 n1 c1, .slice A2 n2 c2, .int .i64 fu, .bool dn] from by unfold Dv.val; rw [hsz, hfu, hdn])
  obtain ⟨w1, hw1⟩ : ∃ V, w.alloc (.cells #[.int .i64 sz, .slice A n c, .slice A1 n1 c1, .slice A2 n2 c2, .int .i64 fu, .bool dn] 25) = V := ⟨_, rfl⟩
  have hb1 : Below w.heap.size w w1 := by rw [← hw1]; exact (Below.refl _ _).alloc (Nat.le_refl _) _
  obtain ⟨B, hB⟩ : ∃ B, w.heap.size = B := ⟨_, rfl⟩
  have hs1 : w1.heap.size = B + 1 := by rw [← hw1]; simp [hB]
  have X1 := Lib.hid (show Box6 w1 B 25 (.int .i64 sz) (.slice A n c) (.slice A1 n1 c1) (.slice A2 n2 c2) (.int .i64 fu) (.bool dn) from by rw [← hw1]; exact Box6.new _ _ _ _ _ _ _ _ _ hB)
  rw [hB] at hb1
  have HD := Lib.hid (show ∀ W, Below B w W → DevV W (.agg #[.int .i64 sz, .slice A n c, .slice A1 n1 c1, .slice A2 n2 c2, .int .i64 fu, .bool dn]) d from fun W h => by rw [← HV.out]; exact hd0.below (by rw [hB]; exact h))
  have HP := Lib.hid (show ∀ W, Below B w W → DevP W A n c A1 n1 c1 A2 n2 c2 d from fun W h => hp.below (by rw [hB]; exact h))
  have HQ := Lib.hid hq
  have HL := Lib.hid l0
  have HW1 := Lib.hid hw1
  have HB1 := Lib.hid hb1
  have C1 := Lib.hid (fun W h => reachD_any _ d m W (HD.out W h))
  obtain ⟨k, hk⟩ : ∃ k, Dv.reach d m = k := ⟨_, rfl⟩
  have HK := Lib.hid hk
  rw [hk] at C1
  obtain ⟨p0, p1, p2, p3, p4, p5, _, _, _, _, _, _⟩ := X1.out.s
  rw [HV.out, hB]
  clear hd0 hp hq hsz hfu hdn hw1 hb1 l0 l1 l2 hk
  go_enter Try.func22, Try.ntmps22
  go_wp2_with fail
  rw [HW1.out]
  clear hB
  refine (C1.out _ HB1.out).mono ?_
  rintro e w2 ⟨rfl, hb2⟩
  clear p0 p1 p2 p3 p4 p5
  have X2 := Lib.hid (X1.out.below hb2 (by omega))
  obtain ⟨p0, p1, p2, p3, p4, p5, _, _, _, _, _, _⟩ := X2.out.s
  have HB2 := Lib.hid (HB1.out.trans (hb2.mono (by omega)))
  have hs2 := hb2.size
  clear hb2
  by_cases hk : k = 0
  · subst hk
    obtain ⟨z1, z2, z3⟩ := Dv.reach_zero HK.out
    have HZ := Lib.hid (And.intro z1 (And.intro z2 z3))
    have ok := Dv.chk_zero.1 z1
    have HTA := Lib.hid ok.t.asc
    have HBA := Lib.hid ok.b.asc
    have HFT := Lib.hid ok.fits
    clear z1 z2 ok
    obtain ⟨m, rfl⟩ : ∃ j : Nat, m = (j : Int) := ⟨m.toNat, by omega⟩
    rw [HL.out] at z3
    have hmn : m < n := by omega
    clear z3
    obtain ⟨xb, hxb⟩ : ∃ b, decide ((m : Int) ∈ d.bad) = b := ⟨_, rfl⟩
    obtain ⟨xt, hxt⟩ : ∃ b, decide ((m : Int) ∈ d.torn) = b := ⟨_, rfl⟩
    have C2 := Lib.hid (show ∀ W, Below B w W → Calls Try.prog 45 #[.slice A2 n2 c2, .int .i64 (m : Int)] W fun e w' => e = .returned (.bool xb) ∧ Below W.heap.size W w' from fun W h => hxb ▸ hasD_any A2 n2 c2 d.bad (m : Int) W (HP.out W h).f HBA.out)
    have C3 := Lib.hid (show ∀ W, Below B w W → Calls Try.prog 45 #[.slice A1 n1 c1, .int .i64 (m : Int)] W fun e w' => e = .returned (.bool xt) ∧ Below W.heap.size W w' from fun W h => hxt ▸ hasD_any A1 n1 c1 d.torn (m : Int) W (HP.out W h).t HTA.out)
    have HXB := Lib.hid hxb
    have HXT := Lib.hid hxt
    clear hxb hxt
    go_wp2_with fail
    refine (C2.out _ HB2.out).mono ?_
    rintro e w3 ⟨rfl, hb3⟩
    clear p0 p1 p2 p3 p4 p5
    have X3 := Lib.hid (X2.out.below hb3 (by omega))
    obtain ⟨p0, p1, p2, p3, p4, p5, _, _, _, _, _, _⟩ := X3.out.s
    have HB3 := Lib.hid (HB2.out.trans (hb3.mono (by omega)))
    have hs3 := hb3.size
    clear hb3
    cases xb with
    | true =>
      obtain ⟨rfl, rfl⟩ := Prod.mk.inj (HQ.out.symm.trans (Dv.read_bad HZ.out.1 HZ.out.2.1 HZ.out.2.2 (of_decide_eq_true HXB.out)))
      go_wp2_with fail
      go_ret2
      exact ⟨rfl, HB3.out⟩
    | false =>
    go_wp2_with fail
    refine (C3.out _ HB3.out).mono ?_
    rintro e w4 ⟨rfl, hb4⟩
    clear p0 p1 p2 p3 p4 p5
    obtain ⟨p0, p1, p2, p3, p4, p5, _, _, _, _, _, _⟩ := (X3.out.below hb4 (by omega)).s
    have HB4 := Lib.hid (HB3.out.trans (hb4.mono (by omega)))
    have hs4 := hb4.size
    clear hb4
    cases xt with
    | true =>
      obtain ⟨rfl, rfl⟩ := Prod.mk.inj (HQ.out.symm.trans (Dv.read_torn HZ.out.1 HZ.out.2.1 HZ.out.2.2 (of_decide_eq_false HXB.out) (of_decide_eq_true HXT.out)))
      go_wp2_with fail
      go_ret2
      exact ⟨rfl, HB4.out⟩
    | false =>
    obtain ⟨g, o, rfl, hg, hz, g1⟩ := (HP.out _ HB4.out).b.1.at hmn
    have hkl : m < d.blocks.length := by rw [HL.out]; exact hmn
    rw [List.getElem_map] at g1
    obtain ⟨s, hs⟩ : ∃ s, d.blocks[m] = s := ⟨_, rfl⟩
    rw [hs] at g1
    have hss : s.size ≤ 140737488355328 := HFT.out s (by rw [← hs]; exact List.getElem_mem hkl)
    have e1 : d.blocks.getD m ByteArray.empty = s := by rw [← hs]; simp [List.getD, hkl]
    obtain ⟨hq1, rfl⟩ := Prod.mk.inj (HQ.out.symm.trans (Dv.read_ok HZ.out.1 HZ.out.2.1 HZ.out.2.2 (of_decide_eq_false HXB.out) (of_decide_eq_false HXT.out)))
    rw [Int.toNat_natCast, e1] at hq1
    obtain rfl := hq1
    have CL := Lib.hid (fun W => clone_any q1 W (by omega))
    have i0 : (0 : Int) ≤ (m : Int) := by omega
    have i1 : (m : Int) < (n : Int) := by omega
    clear hs hz hkl e1
    go_wp2_with fail
    refine (CL.out _).mono ?_
    rintro e w5 ⟨rfl, hb5⟩
    have HB5 := Lib.hid (HB4.out.trans (hb5.mono (by omega)))
    clear hb5
    go_wp2_with fail
    go_ret2
    exact ⟨rfl, HB5.out⟩
  · have e0 : (k == 0) = false := beq_eq_false_iff_ne.2 hk
    have e1 : (k != 0) = true := bne_iff_ne.2 hk
    obtain ⟨rfl, rfl⟩ : ByteArray.empty = q1 ∧ k = q2 := by
      have h := HQ.out
      rw [Dv.read_reach (by rw [HK.out]; exact hk)] at h
      rw [HK.out] at h
      exact Prod.mk.inj h
    clear hk
    go_wp2_with fail
    go_ret2
    exact ⟨rfl, HB2.out⟩

end Go.Proofs.Ythdkidiemhfffaa
