/-
  Contracts of device: New, Arm.
-/
import Derived.Test.YthdkidiemhfffaaEd
import Derived.Deep.MidRow
namespace Go.Proofs.Ythdkidiemhfffaa
open Go.RowKit
set_option maxHeartbeats 4000000

set_option maxRecDepth 100000 in
theorem newD_any (a b : Int) (w : World) :
    Calls Try.prog 28 #[.int .i64 a, .int .i64 b] w fun e w' => ∃ v, e = .returned (.tuple #[v, .int .i64 (Dv.new a b).2]) ∧ DevN w' w.heap.size v (Dv.new a b).1 ∧ Below w.heap.size w w' := by
  obtain ⟨B, hB⟩ : ∃ B, w.heap.size = B := ⟨_, rfl⟩
  obtain ⟨w1, hw1⟩ : ∃ V, w.alloc (.cells #[.int .i64 0, .slice none 0 0, .slice none 0 0, .slice none 0 0, .int .i64 0, .bool false] 25) = V := ⟨_, rfl⟩
  have hb1 : Below B w w1 := by rw [← hw1, ← hB]; exact (Below.refl _ _).alloc (Nat.le_refl _) _
  have hs1 : w1.heap.size = B + 1 := by rw [← hw1]; simp [hB]
  have R1 := Lib.hid (show Box6 w1 B 25 (.int .i64 0) (.slice none 0 0) (.slice none 0 0) (.slice none 0 0) (.int .i64 0) (.bool false) from by rw [← hw1]; exact Box6.new _ _ _ _ _ _ _ _ _ hB)
  have HB1 := Lib.hid hb1
  have HW1 := Lib.hid hw1
  have C1 := Lib.hid (permD_any a b w1)
  obtain ⟨r0, r1, r2, r3, r4, r5, e0, e1, e2, e3, e4, e5⟩ := R1.out.s
  clear hb1 hw1
  rw [hB]
  by_cases k : a < 16 ∨ 64 < a ∨ b < 1 ∨ 512 < b
  · have HF := Lib.hid (Dv.new_no k)
    have hp : Dv.permB a b = false := by simp [Dv.permB]; omega
    rw [hp] at C1
    rw [HF.out]
    clear k hp
    go_enter Try.func28, Try.ntmps28
    go_wp2_with fail
    rw [HW1.out]
    clear hB
    refine C1.out.mono ?_
    rintro e w' ⟨rfl, rfl⟩
    go_wp2_with fail
    have hbz := below_st6 HB1.out (Nat.le_refl B) (.int .i64 0) (.slice none 0 0) (.slice none 0 0) (.slice none 0 0) (.int .i64 0) (.bool false)
    obtain ⟨s0, s1, s2, s3, s4, s5, _, _, _, _, _, _⟩ := (R1.out.st (.int .i64 0) (.slice none 0 0) (.slice none 0 0) (.slice none 0 0) (.int .i64 0) (.bool false)).s
    exact bodyPost_ret (v := .tuple #[Dv.val Dv.none' (.slice none 0 0) (.slice none 0 0) (.slice none 0 0), .int .i64 1]) (by simp [results, Try.results28, go_sem, s0, s1, s2, s3, s4, s5, Dv.val, Dv.none']) rfl ⟨_, rfl, DevN.none' _ _, hbz⟩
  · have HF := Lib.hid (Dv.new_yes k)
    have hp : Dv.permB a b = true := by simp [Dv.permB]; omega
    rw [hp] at C1
    rw [HF.out]
    obtain ⟨n, rfl⟩ : ∃ n : Nat, b = (n : Int) := ⟨b.toNat, by omega⟩
    have hn : n ≤ 512 := by omega
    have HM := Lib.hid (Dv.run_make n hn)
    clear k hp
    go_enter Try.func28, Try.ntmps28
    go_wp2_with fail
    rw [HW1.out]
    clear hB
    refine C1.out.mono ?_
    rintro e w' ⟨rfl, rfl⟩
    go_wp2_with fail
    rw [HM.out]
    have hlt1 : B < w1.heap.size := by omega
    have hmo := Lib.hid (Dv.made_own w1 n hn (B + 1) (by omega))
    have R2 := Lib.hid (R1.out.alloc (.cells (Array.replicate n (Value.string ByteArray.empty)) 9))
    have HB2 := Lib.hid (HB1.out.alloc (show B ≤ w1.heap.size by omega) (.cells (Array.replicate n (Value.string ByteArray.empty)) 9))
    obtain ⟨g, hg⟩ : ∃ g, w1.heap.size = g := ⟨_, rfl⟩
    obtain ⟨w2, hw2⟩ : ∃ V, w1.alloc (.cells (List.replicate n (Value.string ByteArray.empty)).toArray 9) = V := ⟨_, rfl⟩
    have hw2' : w1.alloc (.cells (Array.replicate n (Value.string ByteArray.empty)) 9) = w2 := by rw [← hw2]; simp
    rw [hw2'] at hmo R2 HB2
    rw [hg] at hmo
    rw [hw2, hg]
    have hgB : B + 1 ≤ g := by omega
    clear r0 r1 r2 r3 r4 r5 e0 e1 e2 e3 e4 e5 hs1 hw2 hw2' hg HM hlt1
    obtain ⟨r0, r1, r2, r3, r4, r5, e0, e1, e2, e3, e4, e5⟩ := R2.out.s
    go_wp2_with fail
    have hbz := below_st6 HB2.out (Nat.le_refl B) (.int .i64 a) (.slice (some ⟨g, 0, none⟩) n n) (.slice none 0 0) (.slice none 0 0) (.int .i64 0) (.bool false)
    obtain ⟨s0, s1, s2, s3, s4, s5, _, _, _, _, _, _⟩ := (R2.out.st (.int .i64 a) (.slice (some ⟨g, 0, none⟩) n n) (.slice none 0 0) (.slice none 0 0) (.int .i64 0) (.bool false)).s
    have U0 := own_st6 hmo.out (show B < B + 1 by omega) (.int .i64 a) (.slice (some ⟨g, 0, none⟩) n n) (.slice none 0 0) (.slice none 0 0) (.int .i64 0) (.bool false)
    exact bodyPost_ret (v := .tuple #[.agg #[.int .i64 a, .slice (some ⟨g, 0, none⟩) n n, .slice none 0 0, .slice none 0 0, .int .i64 0, .bool false], .int .i64 0]) (by simp [results, Try.results28, go_sem, s0, s1, s2, s3, s4, s5]) rfl
      ⟨_, rfl, ⟨⟨_, _, _, rfl, own_mono (by simpa using U0) (show B ≤ B + 1 by omega), World.ownsRow_nil _ _ _ _, World.ownsRow_nil _ _ _ _⟩, by simp; omega, by simp, by simp, fun s hs => by have := (List.mem_replicate.1 hs).2; subst this; simp⟩, hbz⟩

set_option maxRecDepth 100000 in
theorem armD_any (v : Value) (d : Dv.D) (f : Int) (w : World) (hd : DevV w v d) :
    Calls Try.prog 27 #[v, .int .i64 f] w fun e w' => ∃ v', e = .returned (.tuple #[v', .int .i64 (Dv.arm d f).2]) ∧ DevN w' w.heap.size v' (Dv.arm d f).1 ∧ Below w.heap.size w w' := by
  obtain ⟨q, hq⟩ : ∃ q, Dv.arm d f = q := ⟨_, rfl⟩
  rw [hq]
  obtain ⟨q1, q2⟩ := q
  simp only
  obtain ⟨A, n, c, A1, n1, c1, A2, n2, c2, rfl, hp⟩ := hd
  obtain ⟨B, hB⟩ : ∃ B, w.heap.size = B := ⟨_, rfl⟩
  obtain ⟨sz, hsz⟩ : ∃ x, d.size = x := ⟨_, rfl⟩
  obtain ⟨fu, hfu⟩ : ∃ x, d.fuse = x := ⟨_, rfl⟩
  obtain ⟨dn, hdn⟩ : ∃ x, d.down = x := ⟨_, rfl⟩
  obtain ⟨w1, hw1⟩ : ∃ V, (w.alloc (.cells #[.int .i64 sz, .slice A n c, .slice A1 n1 c1, .slice A2 n2 c2, .int .i64 fu, .bool dn] 25)).alloc (.cells #[.int .i64 0, .slice none 0 0, .slice none 0 0, .slice none 0 0, .int .i64 0, .bool false] 25) = V := ⟨_, rfl⟩
  have hb1 : Below B w w1 := by rw [← hw1, ← hB]; exact ((Below.refl _ _).alloc (Nat.le_refl _) _).alloc (by simp) _
  have hs1 : w1.heap.size = B + 2 := by rw [← hw1]; simp [hB]
  have X1 := Lib.hid (show Box6 w1 B 25 (.int .i64 sz) (.slice A n c) (.slice A1 n1 c1) (.slice A2 n2 c2) (.int .i64 fu) (.bool dn) from by rw [← hw1]; exact (Box6.new _ _ _ _ _ _ _ _ _ hB).alloc _)
  have R1 := Lib.hid (show Box6 w1 (B + 1) 25 (.int .i64 0) (.slice none 0 0) (.slice none 0 0) (.slice none 0 0) (.int .i64 0) (.bool false) from by rw [← hw1]; exact Box6.new _ _ _ _ _ _ _ _ _ (by simp [hB]))
  have HP := Lib.hid (show ∀ W, Below (B + 2) w1 W → DevP W A n c A1 n1 c1 A2 n2 c2 d from fun W h => hp.below (by rw [hB]; exact hb1.trans (h.mono (by omega))))
  have HE := Lib.hid (show ∀ W V, Below (B + 2) w1 W → Below W.heap.size W V → Below (B + 2) w1 V from fun W V h h2 => h.trans (h2.mono (by have := h.size; omega)))
  have HV := Lib.hid (show ∀ v0 v1 v2, Dv.val d v0 v1 v2 = .agg #[.int .i64 sz, v0, v1, v2, .int .i64 fu, .bool dn] from fun v0 v1 v2 => by unfold Dv.val; rw [hsz, hfu, hdn])
  have HD := Lib.hid (show ∀ W, Below (B + 2) w1 W → DevV W (.agg #[.int .i64 sz, .slice A n c, .slice A1 n1 c1, .slice A2 n2 c2, .int .i64 fu, .bool dn]) d from fun W h => ⟨A, n, c, A1, n1, c1, A2, n2, c2, (HV.out _ _ _).symm, HP.out W h⟩)
  have hcp : Dv.chk d = 0 → ∀ W, Below (B + 2) w1 W → Calls Try.prog 35 #[.agg #[.int .i64 sz, .slice A n c, .slice A1 n1 c1, .slice A2 n2 c2, .int .i64 fu, .bool dn]] W fun e w' => ∃ Q0 q0 Q1 q1 Q2 q2, e = .returned (.agg #[.int .i64 sz, .slice Q0 n q0, .slice Q1 n1 q1, .slice Q2 n2 q2, .int .i64 fu, .bool dn]) ∧ w'.ownsRow (B + 2) 9 1 (.slice Q0 n q0) n (Dv.strs d.blocks) ∧ w'.ownsRow (B + 2) 3 1 (.slice Q1 n1 q1) n1 (Dv.ints d.torn) ∧ w'.ownsRow (B + 2) 3 1 (.slice Q2 n2 q2) n2 (Dv.ints d.bad) ∧ Below W.heap.size W w' := fun hk W h => by
    have h2 := copiedD_any _ d W (HD.out W h) (Dv.chk_zero.1 hk)
    refine h2.mono ?_
    rintro e w' ⟨v', rfl, ⟨⟨v0, v1, v2, rfl, o0, o1, o2⟩, _, _, _, _⟩, hb⟩
    obtain ⟨l0, l1, l2⟩ := hp.lens
    have hsz := h.size
    rw [l0] at o0
    rw [l1] at o1
    rw [l2] at o2
    obtain ⟨Q0, q0, rfl⟩ := own_slice o0
    obtain ⟨Q1, q1, rfl⟩ := own_slice o1
    obtain ⟨Q2, q2, rfl⟩ := own_slice o2
    exact ⟨Q0, q0, Q1, q1, Q2, q2, by rw [HV.out], own_mono o0 (by omega), own_mono o1 (by omega), own_mono o2 (by omega), hb⟩
  obtain ⟨l0, l1, l2⟩ := hp.lens
  have HNN := Lib.hid (show Dv.chk d = 0 → n ≤ 512 ∧ n1 ≤ 512 ∧ n2 ≤ 512 from fun hk => by
    have ok := Dv.chk_zero.1 hk
    have a0 := ok.n1
    have a1 := ok.t.len
    have a2 := ok.b.len
    omega)
  have HFIT := Lib.hid (show Dv.chk d = 0 → ∀ s ∈ d.blocks, s.size ≤ 140737488355328 from fun hk => (Dv.chk_zero.1 hk).fits)
  have hn := hp.b.2.2
  have HB1 := Lib.hid hb1
  have HW1 := Lib.hid hw1
  have HL := Lib.hid (And.intro l0 (And.intro l1 l2))
  have HSZ := Lib.hid hsz
  have HFU := Lib.hid hfu
  have HDN := Lib.hid hdn
  have HQ := Lib.hid hq
  clear hp hb1 hw1 l0 l1 l2 hsz hfu hdn hq
  rw [HV.out]
  rw [hB]
  have C1 := Lib.hid (fun W h => chkD_any _ d W (HD.out W h))
  obtain ⟨k, hk⟩ : ∃ k, Dv.chk d = k := ⟨_, rfl⟩
  have HK := Lib.hid hk
  have hk2 := Dv.chk_is d
  rw [hk] at hk2 C1 hcp
  have hcp2 : k = 0 → _ := hcp
  clear hk hcp
  obtain ⟨fb, hfb⟩ : ∃ b, Dv.fuseB f = b := ⟨_, rfl⟩
  have C2 := Lib.hid (fun W => fuseD_any f W)
  rw [hfb] at C2
  have HFB := Lib.hid hfb
  clear hfb
  go_enter Try.func27, Try.ntmps27
  go_wp2_with fail
  rw [HW1.out]
  clear hB
  refine (C1.out _ (Below.refl _ _)).mono ?_
  rintro e w2 ⟨rfl, hq⟩
  have hb2 : Below (B + 2) w1 w2 := HE.out _ _ (Below.refl _ _) hq
  clear hq
  have hs2 := hb2.size
  have X2 := Lib.hid (X1.out.below hb2 (by omega))
  have R2 := Lib.hid (R1.out.below hb2 (by omega))
  obtain ⟨p0, p1, p2, p3, p4, p5, f0, f1, f2, f3, f4, f5⟩ := X2.out.s
  obtain ⟨r0, r1, r2, r3, r4, r5, e0, e1, e2, e3, e4, e5⟩ := R2.out.s
  have HB2 := Lib.hid hb2
  clear hb2
  rcases hk2 with rfl | rfl
  · have HCP := Lib.hid (hcp2 rfl)
    clear hcp2
    go_wp2_with fail
    refine (C2.out _).mono ?_
    rintro e w' ⟨rfl, rfl⟩
    cases fb with
    | false =>
      have hno : f < 0 ∨ 1048576 < f := by have := HFB.out; simp only [Dv.fuseB, decide_eq_false_iff_not] at this; omega
      obtain ⟨rfl, rfl⟩ := Prod.mk.inj (HQ.out.symm.trans (Dv.arm_range HK.out hno))
      clear hno
      go_wp2_with fail
      have hbz := below_st6 (HB1.out.trans (HB2.out.mono (show B ≤ B + 2 by omega))) (show B ≤ B + 1 by omega) (.int .i64 0) (.slice none 0 0) (.slice none 0 0) (.slice none 0 0) (.int .i64 0) (.bool false)
      obtain ⟨s0, s1, s2, s3, s4, s5, _, _, _, _, _, _⟩ := (R2.out.st (.int .i64 0) (.slice none 0 0) (.slice none 0 0) (.slice none 0 0) (.int .i64 0) (.bool false)).s
      exact bodyPost_ret (v := .tuple #[Dv.val Dv.none' (.slice none 0 0) (.slice none 0 0) (.slice none 0 0), .int .i64 1]) (by simp [results, Try.results27, go_sem, s0, s1, s2, s3, s4, s5, Dv.val, Dv.none']) rfl ⟨_, rfl, DevN.none' _ _, hbz⟩
    | true =>
      have hyes : ¬ (f < 0 ∨ 1048576 < f) := by have := HFB.out; simp only [Dv.fuseB, decide_eq_true_eq] at this; omega
      obtain ⟨hq1, rfl⟩ := Prod.mk.inj (HQ.out.symm.trans (Dv.arm_ok HK.out hyes))
      have HQ1 := Lib.hid hq1
      clear hyes hq1
      go_wp2_with fail
      refine (HCP.out _ HB2.out).mono ?_
      rintro e w3 ⟨Q0, q0, Q1, q1', Q2, q2', rfl, o0, o1, o2, hq⟩
      have hb3 : Below (B + 2) w1 w3 := HE.out _ _ HB2.out hq
      clear hq p0 p1 p2 p3 p4 p5 f0 f1 f2 f3 f4 f5 r0 r1 r2 r3 r4 r5 e0 e1 e2 e3 e4 e5
      have hs3 := hb3.size
      have X3 := Lib.hid (X1.out.below hb3 (by omega))
      have R3 := Lib.hid (R1.out.below hb3 (by omega))
      have hbw3 : B + 1 < w3.heap.size := by omega
      obtain ⟨r0, r1, r2, r3, r4, r5, e0, e1, e2, e3, e4, e5⟩ := R3.out.s
      have HB3 := Lib.hid hb3
      have O0 := Lib.hid o0
      have O1 := Lib.hid o1
      have O2 := Lib.hid o2
      clear hb3 o0 o1 o2
      have U0 := (own_below (own_st6 O0.out (show B + 1 < B + 2 by omega) (.int .i64 sz) (.slice Q0 n q0) (.slice Q1 n1 q1') (.slice Q2 n2 q2') (.int .i64 f) (.bool dn)) ((Below.refl _ _).alloc (Nat.le_refl _) (.cells #[.int .i64 sz, .slice Q0 n q0, .slice Q1 n1 q1', .slice Q2 n2 q2', .int .i64 f, .bool dn] 25)))
      have U1 := (own_below (own_st6 O1.out (show B + 1 < B + 2 by omega) (.int .i64 sz) (.slice Q0 n q0) (.slice Q1 n1 q1') (.slice Q2 n2 q2') (.int .i64 f) (.bool dn)) ((Below.refl _ _).alloc (Nat.le_refl _) (.cells #[.int .i64 sz, .slice Q0 n q0, .slice Q1 n1 q1', .slice Q2 n2 q2', .int .i64 f, .bool dn] 25)))
      have U2 := (own_below (own_st6 O2.out (show B + 1 < B + 2 by omega) (.int .i64 sz) (.slice Q0 n q0) (.slice Q1 n1 q1') (.slice Q2 n2 q2') (.int .i64 f) (.bool dn)) ((Below.refl _ _).alloc (Nat.le_refl _) (.cells #[.int .i64 sz, .slice Q0 n q0, .slice Q1 n1 q1', .slice Q2 n2 q2', .int .i64 f, .bool dn] 25)))
      have HBZ := Lib.hid ((below_st6 (HB1.out.trans (HB3.out.mono (show B ≤ B + 2 by omega))) (show B ≤ B + 1 by omega) (.int .i64 sz) (.slice Q0 n q0) (.slice Q1 n1 q1') (.slice Q2 n2 q2') (.int .i64 f) (.bool dn)).alloc (by simp; omega) (.cells #[.int .i64 sz, .slice Q0 n q0, .slice Q1 n1 q1', .slice Q2 n2 q2', .int .i64 f, .bool dn] 25))
      have HSS := Lib.hid ((R3.out.st (.int .i64 sz) (.slice Q0 n q0) (.slice Q1 n1 q1') (.slice Q2 n2 q2') (.int .i64 f) (.bool dn)).alloc (.cells #[.int .i64 sz, .slice Q0 n q0, .slice Q1 n1 q1', .slice Q2 n2 q2', .int .i64 f, .bool dn] 25)).s
      obtain ⟨b0, b1, b2⟩ := HNN.out HK.out
      have hN := DevN.of (d := ⟨d.size, d.blocks, d.torn, d.bad, f, d.down⟩) U0 U1 U2 (by omega) (by omega) (by omega) (HFIT.out HK.out) (show B ≤ B + 2 by omega)
      unfold Dv.val at hN
      simp only [HSZ.out, HDN.out] at hN
      have hq1 := HQ1.out
      rw [HSZ.out, HDN.out] at hq1
      subst hq1
      have HNF := Lib.hid hN
      clear hN U0 U1 U2
      go_wp2_with ((with_reducible refine bodyPost_ret (v := .tuple #[.agg #[.int .i64 sz, .slice Q0 n q0, .slice Q1 n1 q1', .slice Q2 n2 q2', .int .i64 f, .bool dn], .int .i64 0]) ?_ ?_ ?_); (obtain ⟨s0, s1, s2, s3, s4, s5, _, _, _, _, _, _⟩ := HSS.out; simp [results, Try.results27, go_sem, s0, s1, s2, s3, s4, s5]); rfl; exact ⟨_, rfl, HNF.out, HBZ.out⟩)
  · obtain ⟨rfl, rfl⟩ := Prod.mk.inj (HQ.out.symm.trans (Dv.arm_form HK.out f))
    clear hcp2
    go_wp2_with fail
    have hbz := below_st6 (HB1.out.trans (HB2.out.mono (show B ≤ B + 2 by omega))) (show B ≤ B + 1 by omega) (.int .i64 0) (.slice none 0 0) (.slice none 0 0) (.slice none 0 0) (.int .i64 0) (.bool false)
    obtain ⟨s0, s1, s2, s3, s4, s5, _, _, _, _, _, _⟩ := (R2.out.st (.int .i64 0) (.slice none 0 0) (.slice none 0 0) (.slice none 0 0) (.int .i64 0) (.bool false)).s
    exact bodyPost_ret (v := .tuple #[Dv.val Dv.none' (.slice none 0 0) (.slice none 0 0) (.slice none 0 0), .int .i64 2]) (by simp [results, Try.results27, go_sem, s0, s1, s2, s3, s4, s5, Dv.val, Dv.none']) rfl ⟨_, rfl, DevN.none' _ _, hbz⟩

end Go.Proofs.Ythdkidiemhfffaa
