/-
  Contracts of the reference of device: Arm, Start.
-/
import Derived.Test.YthdkidiemhfffaaDh
import Derived.Deep.MidRow
namespace Go.Proofs.Ythdkidiemhfffaa
open Go.RowKit
set_option maxHeartbeats 2000000

theorem Dv.arm_form {d : Dv.D} (h : Dv.chk d = 2) (f : Int) : Dv.arm d f = (Dv.none', 2) := by unfold Dv.arm; simp [h]
theorem Dv.arm_range {d : Dv.D} (h : Dv.chk d = 0) {f : Int} (h1 : f < 0 ∨ 1048576 < f) : Dv.arm d f = (Dv.none', 1) := by unfold Dv.arm; rw [if_neg (by simp [h]), if_pos h1]
theorem Dv.arm_ok {d : Dv.D} (h : Dv.chk d = 0) {f : Int} (h1 : ¬ (f < 0 ∨ 1048576 < f)) : Dv.arm d f = (⟨d.size, d.blocks, d.torn, d.bad, f, d.down⟩, 0) := by unfold Dv.arm; rw [if_neg (by simp [h]), if_neg h1]
theorem Dv.start_form {d : Dv.D} (h : Dv.chk d = 2) : Dv.start d = (Dv.none', 2) := by unfold Dv.start; simp [h]
theorem Dv.start_ok {d : Dv.D} (h : Dv.chk d = 0) : Dv.start d = (⟨d.size, d.blocks, d.torn, d.bad, if d.down = true then 0 else d.fuse, false⟩, 0) := by unfold Dv.start; rw [if_neg (by simp [h])]

/-- a whole struct of six cells is stored: the world behind it under a name -/
theorem wpList_st6 {P : Program} {ops : Array Oper} {rest : List Oper} {op : Oper} {a : Act} {w : World} {Q : Exit → Act → World → Prop} (hgd : op.guard = none) (ty : TypeId) (x y : Operand) (ho : op.op = .store ty x y)
    (b : Nat) (T : TypeId) (x0 x1 x2 x3 x4 x5 y0 y1 y2 y3 y4 y5 : Value) (hx : a.eval x = .pointer (some ⟨b, 0, none⟩)) (hy : a.eval y = .agg #[y0, y1, y2, y3, y4, y5])
    (hbx : Box6 w b T x0 x1 x2 x3 x4 x5) (hi : (P.info? ty).map (·.size) = some 6) (h1 : #[y0, y1, y2, y3, y4, y5].all (·.oneCell') = true)
    (h : ∀ w', w' = st6 w b y0 y1 y2 y3 y4 y5 → wpList P ops Q rest (a.put op.dst undef) w') : wpList P ops Q (op :: rest) a w := by
  refine wpList_store_mid hgd ty x y ho b 0 #[y0, y1, y2, y3, y4, y5] hx hy ?_ hi h1 (h _ rfl)
  intro j hj
  have hj : j < 6 := hj
  obtain ⟨p0, p1, p2, p3, p4, p5, f0, f1, f2, f3, f4, f5⟩ := hbx.s
  match j, hj with
  | 0, _ => exact ⟨by rw [p0]; rfl, f0⟩
  | 1, _ => exact ⟨by rw [p1]; rfl, f1⟩
  | 2, _ => exact ⟨by rw [p2]; rfl, f2⟩
  | 3, _ => exact ⟨by rw [p3]; rfl, f3⟩
  | 4, _ => exact ⟨by rw [p4]; rfl, f4⟩
  | 5, _ => exact ⟨by rw [p5]; rfl, f5⟩

/-- a whole struct of six cells is loaded -/
theorem wpList_ld6 {P : Program} {ops : Array Oper} {rest : List Oper} {op : Oper} {a : Act} {w : World} {Q : Exit → Act → World → Prop} (hgd : op.guard = none) (ty : TypeId) (x : Operand) (ho : op.op = .load ty x)
    (b : Nat) (T : TypeId) (x0 x1 x2 x3 x4 x5 : Value) (hx : a.eval x = .pointer (some ⟨b, 0, none⟩)) (hbx : Box6 w b T x0 x1 x2 x3 x4 x5) (d : TypeDesc) (hu : P.underlying ty = some d) (hd : d.isRow = true) (hi : (P.info? ty).map (·.size) = some 6)
    (h : wpList P ops Q rest (a.put op.dst (.agg #[x0, x1, x2, x3, x4, x5])) w) : wpList P ops Q (op :: rest) a w := by
  refine wpList_load_mid hgd ty x ho b 0 hx [x0, x1, x2, x3, x4, x5] d ?_ hu hd hi h
  obtain ⟨p0, p1, p2, p3, p4, p5, _, _, _, _, _, _⟩ := hbx.s
  intro j v hv
  rw [Nat.zero_add]
  match j, hv with
  | 0, hv => injection hv with hv; rw [← hv]; exact p0
  | 1, hv => injection hv with hv; rw [← hv]; exact p1
  | 2, hv => injection hv with hv; rw [← hv]; exact p2
  | 3, hv => injection hv with hv; rw [← hv]; exact p3
  | 4, hv => injection hv with hv; rw [← hv]; exact p4
  | 5, hv => injection hv with hv; rw [← hv]; exact p5
  | j + 6, hv => simp at hv

set_option maxRecDepth 100000 in
theorem rarmD_any (v : Value) (d : Dv.D) (f : Int) (w : World) (hd : DevV w v d) :
    Calls Try.prog 11 #[v, .int .i64 f] w fun e w' => ∃ v', e = .returned (.tuple #[v', .int .i64 (Dv.arm d f).2]) ∧ DevN w' w.heap.size v' (Dv.arm d f).1 ∧ Below w.heap.size w w' := by
  obtain ⟨q, hq⟩ : ∃ q, Dv.arm d f = q := ⟨_, rfl⟩
  rw [hq]
  obtain ⟨q1, q2⟩ := q
  simp only
  obtain ⟨A, n, c, A1, n1, c1, A2, n2, c2, rfl, hp⟩ := hd
  obtain ⟨B, hB⟩ : ∃ B, w.heap.size = B := ⟨_, rfl⟩
  obtain ⟨sz, hsz⟩ : ∃ x, d.size = x := ⟨_, rfl⟩
  obtain ⟨fu, hfu⟩ : ∃ x, d.fuse = x := ⟨_, rfl⟩
  obtain ⟨dn, hdn⟩ : ∃ x, d.down = x := ⟨_, rfl⟩
  obtain ⟨w1, hw1⟩ : ∃ V, (w.alloc (.cells #[.int .i64 sz, .slice A n c, .slice A1 n1 c1, .slice A2 n2 c2, .int .i64 fu, .bool dn] 25)).alloc (.cells #[.int .i64 0, .slice none 0 0, .slice none 0 0, .slice none 0 0, .int .i64 0, .bool false] 25) = V := ⟨_, rfl⟩
  have hb1 : Below B w w1 := by rw [← hw1, ← hB]; exact ((Below.refl _ _).alloc (Nat.le_refl _) _).alloc (by simp) _
  have hs1 : w1.heap.size = B + 2 := by rw [← hw1]; simp [hB]
  have X1 := Lib.hid (show Box6 w1 B 25 (.int .i64 sz) (.slice A n c) (.slice A1 n1 c1) (.slice A2 n2 c2) (.int .i64 fu) (.bool dn) from by rw [← hw1]; exact (Box6.new _ _ _ _ _ _ _ _ _ hB).alloc _)
  have R1 := Lib.hid (show Box6 w1 (B + 1) 25 (.int .i64 0) (.slice none 0 0) (.slice none 0 0) (.slice none 0 0) (.int .i64 0) (.bool false) from by rw [← hw1]; exact Box6.new _ _ _ _ _ _ _ _ _ (by simp [hB]))
  have HP := Lib.hid (show ∀ W, Below (B + 2) w1 W → DevP W A n c A1 n1 c1 A2 n2 c2 d from fun W h => hp.below (by rw [hB]; exact hb1.trans (h.mono (by omega))))
  have HE := Lib.hid (show ∀ W V, Below (B + 2) w1 W → Below W.heap.size W V → Below (B + 2) w1 V from fun W V h h2 => h.trans (h2.mono (by have := h.size; omega)))
  have HV := Lib.hid (show ∀ v0 v1 v2, Dv.val d v0 v1 v2 = .agg #[.int .i64 sz, v0, v1, v2, .int .i64 fu, .bool dn] from fun v0 v1 v2 => by unfold Dv.val; rw [hsz, hfu, hdn])
  have hc0 : ∀ W, Below (B + 2) w1 W → Calls Try.prog 18 #[.agg #[.int .i64 sz, .slice A n c, .slice A1 n1 c1, .slice A2 n2 c2, .int .i64 fu, .bool dn]] W fun e w' => e = .returned (.int .i64 (Dv.chk d)) ∧ Below W.heap.size W w' := fun W h => by
    have h2 := rchkD_any _ d W ⟨A, n, c, A1, n1, c1, A2, n2, c2, rfl, HP.out W h⟩
    rw [HV.out] at h2
    exact h2
  have hcp : Dv.chk d = 0 → ∀ W, Below (B + 2) w1 W → Calls Try.prog 14 #[.agg #[.int .i64 sz, .slice A n c, .slice A1 n1 c1, .slice A2 n2 c2, .int .i64 fu, .bool dn]] W fun e w' => ∃ Q0 q0 Q1 q1 Q2 q2, e = .returned (.agg #[.int .i64 sz, .slice Q0 n q0, .slice Q1 n1 q1, .slice Q2 n2 q2, .int .i64 fu, .bool dn]) ∧ w'.ownsRow (B + 2) 9 1 (.slice Q0 n q0) n (Dv.strs d.blocks) ∧ w'.ownsRow (B + 2) 3 1 (.slice Q1 n1 q1) n1 (Dv.ints d.torn) ∧ w'.ownsRow (B + 2) 3 1 (.slice Q2 n2 q2) n2 (Dv.ints d.bad) ∧ Below W.heap.size W w' := fun hk W h => by
    have h2 := rcopyD_any _ d W ⟨A, n, c, A1, n1, c1, A2, n2, c2, rfl, HP.out W h⟩ (Dv.chk_zero.1 hk)
    rw [HV.out] at h2
    refine h2.mono ?_
    rintro e w' ⟨v', rfl, ⟨v0, v1, v2, rfl, o0, o1, o2, _⟩, hb⟩
    obtain ⟨l0, l1, l2⟩ := hp.lens
    have hsz := h.size
    rw [l0] at o0
    rw [l1] at o1
    rw [l2] at o2
    obtain ⟨Q0, q0, rfl⟩ := own_slice o0
    obtain ⟨Q1, q1, rfl⟩ := own_slice o1
    obtain ⟨Q2, q2, rfl⟩ := own_slice o2
    exact ⟨Q0, q0, Q1, q1, Q2, q2, by rw [HV.out], own_mono o0 (by omega), own_mono o1 (by omega), own_mono o2 (by omega), hb⟩
  obtain ⟨l0, l1, l2⟩ := hp.lens
  have HNN := Lib.hid (show Dv.chk d = 0 → n ≤ 512 ∧ n1 ≤ 512 ∧ n2 ≤ 512 from fun hk => by
    have ok := Dv.chk_zero.1 hk
    have a0 := ok.n1
    have a1 := ok.t.len
    have a2 := ok.b.len
    omega)
  have HFIT := Lib.hid (show Dv.chk d = 0 → ∀ s ∈ d.blocks, s.size ≤ 140737488355328 from fun hk => (Dv.chk_zero.1 hk).fits)
  have hn := hp.b.2.2
  have HB1 := Lib.hid hb1
  have HW1 := Lib.hid hw1
  have HL := Lib.hid (And.intro l0 (And.intro l1 l2))
  have HSZ := Lib.hid hsz
  have HFU := Lib.hid hfu
  have HDN := Lib.hid hdn
  have HQ := Lib.hid hq
  clear hp hb1 hw1 l0 l1 l2 hsz hfu hdn hq
  rw [HV.out]
  rw [hB]
  rcases Dv.chk_is d with hk | hk
  · rw [hk] at hc0
    have HC0 := Lib.hid hc0
    have HCP := Lib.hid (hcp hk)
    have HK := Lib.hid hk
    clear hc0 hcp hk
    go_enter Try.func11, Try.ntmps11
    go_wp2_with fail
    rw [HW1.out]
    clear hB
    refine (HC0.out _ (Below.refl _ _)).mono ?_
    rintro e w2 ⟨rfl, hq⟩
    have hb2 : Below (B + 2) w1 w2 := HE.out _ _ (Below.refl _ _) hq
    clear hq
    have hs2 := hb2.size
    have X2 := Lib.hid (X1.out.below hb2 (by omega))
    have R2 := Lib.hid (R1.out.below hb2 (by omega))
    obtain ⟨p0, p1, p2, p3, p4, p5, f0, f1, f2, f3, f4, f5⟩ := X2.out.s
    obtain ⟨r0, r1, r2, r3, r4, r5, e0, e1, e2, e3, e4, e5⟩ := R2.out.s
    have HB2 := Lib.hid hb2
    clear hb2
    by_cases k1 : f < 0
    · have d1 : decide (f < 0) = true := by simpa using k1
      obtain ⟨rfl, rfl⟩ := Prod.mk.inj (HQ.out.symm.trans (Dv.arm_range HK.out (.inl k1)))
      go_wp2_with fail
      have hbz := below_st6 (HB1.out.trans (HB2.out.mono (show B ≤ B + 2 by omega))) (show B ≤ B + 1 by omega) (.int .i64 0) (.slice none 0 0) (.slice none 0 0) (.slice none 0 0) (.int .i64 0) (.bool false)
      obtain ⟨s0, s1, s2, s3, s4, s5, _, _, _, _, _, _⟩ := (R2.out.st (.int .i64 0) (.slice none 0 0) (.slice none 0 0) (.slice none 0 0) (.int .i64 0) (.bool false)).s
      exact bodyPost_ret (v := .tuple #[Dv.val Dv.none' (.slice none 0 0) (.slice none 0 0) (.slice none 0 0), .int .i64 1]) (by simp [results, Try.results11, go_sem, s0, s1, s2, s3, s4, s5, Dv.val, Dv.none']) rfl ⟨_, rfl, DevN.none' _ _, hbz⟩
    have d1 : decide (f < 0) = false := by simpa using k1
    by_cases k2 : 1048576 < f
    · have d2 : decide (1048576 < f) = true := by simpa using k2
      obtain ⟨rfl, rfl⟩ := Prod.mk.inj (HQ.out.symm.trans (Dv.arm_range HK.out (.inr k2)))
      go_wp2_with fail
      have hbz := below_st6 (HB1.out.trans (HB2.out.mono (show B ≤ B + 2 by omega))) (show B ≤ B + 1 by omega) (.int .i64 0) (.slice none 0 0) (.slice none 0 0) (.slice none 0 0) (.int .i64 0) (.bool false)
      obtain ⟨s0, s1, s2, s3, s4, s5, _, _, _, _, _, _⟩ := (R2.out.st (.int .i64 0) (.slice none 0 0) (.slice none 0 0) (.slice none 0 0) (.int .i64 0) (.bool false)).s
      exact bodyPost_ret (v := .tuple #[Dv.val Dv.none' (.slice none 0 0) (.slice none 0 0) (.slice none 0 0), .int .i64 1]) (by simp [results, Try.results11, go_sem, s0, s1, s2, s3, s4, s5, Dv.val, Dv.none']) rfl ⟨_, rfl, DevN.none' _ _, hbz⟩
    have d2 : decide (1048576 < f) = false := by simpa using k2
    obtain ⟨hq1, rfl⟩ := Prod.mk.inj (HQ.out.symm.trans (Dv.arm_ok HK.out (fun h => h.elim k1 k2)))
    have HQ1 := Lib.hid hq1
    clear hq1
    have hsz6 : (Try.prog.info? 25).map (·.size) = some 6 := by kernel_rfl
    have HS6 := Lib.hid hsz6
    clear hsz6
    go_wp2_with fail
    refine (HCP.out _ HB2.out).mono ?_
    rintro e w3 ⟨Q0, q0, Q1, q1', Q2, q2', rfl, o0, o1, o2, hq⟩
    have hb3 : Below (B + 2) w1 w3 := HE.out _ _ HB2.out hq
    clear hq p0 p1 p2 p3 p4 p5 f0 f1 f2 f3 f4 f5 r0 r1 r2 r3 r4 r5 e0 e1 e2 e3 e4 e5
    have hs3 := hb3.size
    have X3 := Lib.hid (X1.out.below hb3 (by omega))
    have R3 := Lib.hid (R1.out.below hb3 (by omega))
    have HB3 := Lib.hid hb3
    have O0 := Lib.hid o0
    have O1 := Lib.hid o1
    have O2 := Lib.hid o2
    clear hb3 o0 o1 o2
    go_wp2_with (first | (refine wpList_st6 rfl 25 (.tmp 2) (.tmp 18) rfl B 25 _ _ _ _ _ _ (.int .i64 sz) (.slice Q0 n q0) (.slice Q1 n1 q1') (.slice Q2 n2 q2') (.int .i64 fu) (.bool dn) rfl rfl X3.out HS6.out (by simp [Value.oneCell']) ?_; intro w4 hw4; have X4 := Lib.hid (show Box6 w4 B 25 (.int .i64 sz) (.slice Q0 n q0) (.slice Q1 n1 q1') (.slice Q2 n2 q2') (.int .i64 fu) (.bool dn) from (by rw [hw4]; exact X3.out.st _ _ _ _ _ _)); have R4 := Lib.hid (show Box6 w4 (B + 1) 25 (.int .i64 0) (.slice none 0 0) (.slice none 0 0) (.slice none 0 0) (.int .i64 0) (.bool false) from (by rw [hw4]; exact R3.out.far (by omega) _ _ _ _ _ _)); have HB4 := Lib.hid (show Below B w w4 from (by rw [hw4]; exact below_st6 (HB1.out.trans (HB3.out.mono (by omega))) (Nat.le_refl _) _ _ _ _ _ _)); have P0 := Lib.hid (show w4.ownsRow (B + 2) 9 1 (.slice Q0 n q0) n (Dv.strs d.blocks) from (by rw [hw4]; exact own_st6 O0.out (by omega) _ _ _ _ _ _)); have P1 := Lib.hid (show w4.ownsRow (B + 2) 3 1 (.slice Q1 n1 q1') n1 (Dv.ints d.torn) from (by rw [hw4]; exact own_st6 O1.out (by omega) _ _ _ _ _ _)); have P2 := Lib.hid (show w4.ownsRow (B + 2) 3 1 (.slice Q2 n2 q2') n2 (Dv.ints d.bad) from (by rw [hw4]; exact own_st6 O2.out (by omega) _ _ _ _ _ _)); have hs4 : w3.heap.size = w4.heap.size := (by rw [hw4]; simp); obtain ⟨p0, p1, p2, p3, p4, p5, f0, f1, f2, f3, f4, f5⟩ := X4.out.s; obtain ⟨r0, r1, r2, r3, r4, r5, e0, e1, e2, e3, e4, e5⟩ := R4.out.s; clear hw4) | fail)
    have hsz := HSZ.out
    subst hsz
    have hdn := HDN.out
    subst hdn
    have hfu := HFU.out
    subst hfu
    have U0 := own_st6 (own_cell P0.out (a := ⟨B, 4, none⟩) (show B < B + 2 by omega) (.int .i64 f)) (show B + 1 < B + 2 by omega) (.int .i64 d.size) (.slice Q0 n q0) (.slice Q1 n1 q1') (.slice Q2 n2 q2') (.int .i64 f) (.bool d.down)
    have U1 := own_st6 (own_cell P1.out (a := ⟨B, 4, none⟩) (show B < B + 2 by omega) (.int .i64 f)) (show B + 1 < B + 2 by omega) (.int .i64 d.size) (.slice Q0 n q0) (.slice Q1 n1 q1') (.slice Q2 n2 q2') (.int .i64 f) (.bool d.down)
    have U2 := own_st6 (own_cell P2.out (a := ⟨B, 4, none⟩) (show B < B + 2 by omega) (.int .i64 f)) (show B + 1 < B + 2 by omega) (.int .i64 d.size) (.slice Q0 n q0) (.slice Q1 n1 q1') (.slice Q2 n2 q2') (.int .i64 f) (.bool d.down)
    have hbz := below_st6 (HB4.out.setCell (p := ⟨B, 4, none⟩) (Nat.le_refl _) (.int .i64 f)) (show B ≤ B + 1 by omega) (.int .i64 d.size) (.slice Q0 n q0) (.slice Q1 n1 q1') (.slice Q2 n2 q2') (.int .i64 f) (.bool d.down)
    obtain ⟨s0, s1, s2, s3, s4, s5, _, _, _, _, _, _⟩ := ((R4.out.other (a := ⟨B, 4, none⟩) (show B + 1 ≠ B by omega) (.int .i64 f)).st (.int .i64 d.size) (.slice Q0 n q0) (.slice Q1 n1 q1') (.slice Q2 n2 q2') (.int .i64 f) (.bool d.down)).s
    obtain ⟨b0, b1, b2⟩ := HNN.out HK.out
    exact bodyPost_ret (v := .tuple #[.agg #[.int .i64 d.size, .slice Q0 n q0, .slice Q1 n1 q1', .slice Q2 n2 q2', .int .i64 f, .bool d.down], .int .i64 0]) (by simp [results, Try.results11, go_sem, s0, s1, s2, s3, s4, s5]) rfl ⟨_, rfl, by rw [HQ1.out]; exact DevN.of (d := ⟨d.size, d.blocks, d.torn, d.bad, f, d.down⟩) U0 U1 U2 (by omega) (by omega) (by omega) (HFIT.out HK.out) (show B ≤ B + 2 by omega), hbz⟩
  · rw [hk] at hc0
    have HC0 := Lib.hid hc0
    obtain ⟨rfl, rfl⟩ := Prod.mk.inj (HQ.out.symm.trans (Dv.arm_form hk f))
    clear hc0 hcp hk
    go_enter Try.func11, Try.ntmps11
    go_wp2_with fail
    rw [HW1.out]
    clear hB
    refine (HC0.out _ (Below.refl _ _)).mono ?_
    rintro e w2 ⟨rfl, hq⟩
    have hb2 : Below (B + 2) w1 w2 := HE.out _ _ (Below.refl _ _) hq
    clear hq
    have hs2 := hb2.size
    have X2 := Lib.hid (X1.out.below hb2 (by omega))
    have R2 := Lib.hid (R1.out.below hb2 (by omega))
    obtain ⟨p0, p1, p2, p3, p4, p5, f0, f1, f2, f3, f4, f5⟩ := X2.out.s
    obtain ⟨r0, r1, r2, r3, r4, r5, e0, e1, e2, e3, e4, e5⟩ := R2.out.s
    have HB2 := Lib.hid hb2
    clear hb2
    go_wp2_with fail
    have hbz := below_st6 (HB1.out.trans (HB2.out.mono (show B ≤ B + 2 by omega))) (show B ≤ B + 1 by omega) (.int .i64 0) (.slice none 0 0) (.slice none 0 0) (.slice none 0 0) (.int .i64 0) (.bool false)
    obtain ⟨s0, s1, s2, s3, s4, s5, _, _, _, _, _, _⟩ := (R2.out.st (.int .i64 0) (.slice none 0 0) (.slice none 0 0) (.slice none 0 0) (.int .i64 0) (.bool false)).s
    exact bodyPost_ret (v := .tuple #[Dv.val Dv.none' (.slice none 0 0) (.slice none 0 0) (.slice none 0 0), .int .i64 2]) (by simp [results, Try.results11, go_sem, s0, s1, s2, s3, s4, s5, Dv.val, Dv.none']) rfl ⟨_, rfl, DevN.none' _ _, hbz⟩

set_option maxRecDepth 100000 in
theorem rstartD_any (v : Value) (d : Dv.D) (w : World) (hd : DevV w v d) :
    Calls Try.prog 16 #[v] w fun e w' => ∃ v', e = .returned (.tuple #[v', .int .i64 (Dv.start d).2]) ∧ DevN w' w.heap.size v' (Dv.start d).1 ∧ Below w.heap.size w w' := by
  obtain ⟨q, hq⟩ : ∃ q, Dv.start d = q := ⟨_, rfl⟩
  rw [hq]
  obtain ⟨q1, q2⟩ := q
  simp only
  obtain ⟨A, n, c, A1, n1, c1, A2, n2, c2, rfl, hp⟩ := hd
  obtain ⟨B, hB⟩ : ∃ B, w.heap.size = B := ⟨_, rfl⟩
  obtain ⟨sz, hsz⟩ : ∃ x, d.size = x := ⟨_, rfl⟩
  obtain ⟨fu, hfu⟩ : ∃ x, d.fuse = x := ⟨_, rfl⟩
  obtain ⟨dn, hdn⟩ : ∃ x, d.down = x := ⟨_, rfl⟩
  obtain ⟨w1, hw1⟩ : ∃ V, (w.alloc (.cells #[.int .i64 sz, .slice A n c, .slice A1 n1 c1, .slice A2 n2 c2, .int .i64 fu, .bool dn] 25)).alloc (.cells #[.int .i64 0, .slice none 0 0, .slice none 0 0, .slice none 0 0, .int .i64 0, .bool false] 25) = V := ⟨_, rfl⟩
  have hb1 : Below B w w1 := by rw [← hw1, ← hB]; exact ((Below.refl _ _).alloc (Nat.le_refl _) _).alloc (by simp) _
  have hs1 : w1.heap.size = B + 2 := by rw [← hw1]; simp [hB]
  have X1 := Lib.hid (show Box6 w1 B 25 (.int .i64 sz) (.slice A n c) (.slice A1 n1 c1) (.slice A2 n2 c2) (.int .i64 fu) (.bool dn) from by rw [← hw1]; exact (Box6.new _ _ _ _ _ _ _ _ _ hB).alloc _)
  have R1 := Lib.hid (show Box6 w1 (B + 1) 25 (.int .i64 0) (.slice none 0 0) (.slice none 0 0) (.slice none 0 0) (.int .i64 0) (.bool false) from by rw [← hw1]; exact Box6.new _ _ _ _ _ _ _ _ _ (by simp [hB]))
  have HP := Lib.hid (show ∀ W, Below (B + 2) w1 W → DevP W A n c A1 n1 c1 A2 n2 c2 d from fun W h => hp.below (by rw [hB]; exact hb1.trans (h.mono (by omega))))
  have HE := Lib.hid (show ∀ W V, Below (B + 2) w1 W → Below W.heap.size W V → Below (B + 2) w1 V from fun W V h h2 => h.trans (h2.mono (by have := h.size; omega)))
  have HV := Lib.hid (show ∀ v0 v1 v2, Dv.val d v0 v1 v2 = .agg #[.int .i64 sz, v0, v1, v2, .int .i64 fu, .bool dn] from fun v0 v1 v2 => by unfold Dv.val; rw [hsz, hfu, hdn])
  have hc0 : ∀ W, Below (B + 2) w1 W → Calls Try.prog 18 #[.agg #[.int .i64 sz, .slice A n c, .slice A1 n1 c1, .slice A2 n2 c2, .int .i64 fu, .bool dn]] W fun e w' => e = .returned (.int .i64 (Dv.chk d)) ∧ Below W.heap.size W w' := fun W h => by
    have h2 := rchkD_any _ d W ⟨A, n, c, A1, n1, c1, A2, n2, c2, rfl, HP.out W h⟩
    rw [HV.out] at h2
    exact h2
  have hcp : Dv.chk d = 0 → ∀ W, Below (B + 2) w1 W → Calls Try.prog 14 #[.agg #[.int .i64 sz, .slice A n c, .slice A1 n1 c1, .slice A2 n2 c2, .int .i64 fu, .bool dn]] W fun e w' => ∃ Q0 q0 Q1 q1 Q2 q2, e = .returned (.agg #[.int .i64 sz, .slice Q0 n q0, .slice Q1 n1 q1, .slice Q2 n2 q2, .int .i64 fu, .bool dn]) ∧ w'.ownsRow (B + 2) 9 1 (.slice Q0 n q0) n (Dv.strs d.blocks) ∧ w'.ownsRow (B + 2) 3 1 (.slice Q1 n1 q1) n1 (Dv.ints d.torn) ∧ w'.ownsRow (B + 2) 3 1 (.slice Q2 n2 q2) n2 (Dv.ints d.bad) ∧ Below W.heap.size W w' := fun hk W h => by
    have h2 := rcopyD_any _ d W ⟨A, n, c, A1, n1, c1, A2, n2, c2, rfl, HP.out W h⟩ (Dv.chk_zero.1 hk)
    rw [HV.out] at h2
    refine h2.mono ?_
    rintro e w' ⟨v', rfl, ⟨v0, v1, v2, rfl, o0, o1, o2, _⟩, hb⟩
    obtain ⟨l0, l1, l2⟩ := hp.lens
    have hsz := h.size
    rw [l0] at o0
    rw [l1] at o1
    rw [l2] at o2
    obtain ⟨Q0, q0, rfl⟩ := own_slice o0
    obtain ⟨Q1, q1, rfl⟩ := own_slice o1
    obtain ⟨Q2, q2, rfl⟩ := own_slice o2
    exact ⟨Q0, q0, Q1, q1, Q2, q2, by rw [HV.out], own_mono o0 (by omega), own_mono o1 (by omega), own_mono o2 (by omega), hb⟩
  obtain ⟨l0, l1, l2⟩ := hp.lens
  have HNN := Lib.hid (show Dv.chk d = 0 → n ≤ 512 ∧ n1 ≤ 512 ∧ n2 ≤ 512 from fun hk => by
    have ok := Dv.chk_zero.1 hk
    have a0 := ok.n1
    have a1 := ok.t.len
    have a2 := ok.b.len
    omega)
  have HFIT := Lib.hid (show Dv.chk d = 0 → ∀ s ∈ d.blocks, s.size ≤ 140737488355328 from fun hk => (Dv.chk_zero.1 hk).fits)
  have hn := hp.b.2.2
  have HB1 := Lib.hid hb1
  have HW1 := Lib.hid hw1
  have HL := Lib.hid (And.intro l0 (And.intro l1 l2))
  have HSZ := Lib.hid hsz
  have HFU := Lib.hid hfu
  have HDN := Lib.hid hdn
  have HQ := Lib.hid hq
  clear hp hb1 hw1 l0 l1 l2 hsz hfu hdn hq
  rw [HV.out]
  rw [hB]
  rcases Dv.chk_is d with hk | hk
  · rw [hk] at hc0
    have HC0 := Lib.hid hc0
    have HCP := Lib.hid (hcp hk)
    have HK := Lib.hid hk
    clear hc0 hcp hk
    go_enter Try.func16, Try.ntmps16
    go_wp2_with fail
    rw [HW1.out]
    clear hB
    refine (HC0.out _ (Below.refl _ _)).mono ?_
    rintro e w2 ⟨rfl, hq⟩
    have hb2 : Below (B + 2) w1 w2 := HE.out _ _ (Below.refl _ _) hq
    clear hq
    have hs2 := hb2.size
    have X2 := Lib.hid (X1.out.below hb2 (by omega))
    have R2 := Lib.hid (R1.out.below hb2 (by omega))
    obtain ⟨p0, p1, p2, p3, p4, p5, f0, f1, f2, f3, f4, f5⟩ := X2.out.s
    obtain ⟨r0, r1, r2, r3, r4, r5, e0, e1, e2, e3, e4, e5⟩ := R2.out.s
    have HB2 := Lib.hid hb2
    clear hb2
    have hsz6 : (Try.prog.info? 25).map (·.size) = some 6 := by kernel_rfl
    have HS6 := Lib.hid hsz6
    clear hsz6
    go_wp2_with fail
    refine (HCP.out _ HB2.out).mono ?_
    rintro e w3 ⟨Q0, q0, Q1, q1', Q2, q2', rfl, o0, o1, o2, hq⟩
    have hb3 : Below (B + 2) w1 w3 := HE.out _ _ HB2.out hq
    clear hq p0 p1 p2 p3 p4 p5 f0 f1 f2 f3 f4 f5 r0 r1 r2 r3 r4 r5 e0 e1 e2 e3 e4 e5
    have hs3 := hb3.size
    have X3 := Lib.hid (X1.out.below hb3 (by omega))
    have R3 := Lib.hid (R1.out.below hb3 (by omega))
    have HB3 := Lib.hid hb3
    have O0 := Lib.hid o0
    have O1 := Lib.hid o1
    have O2 := Lib.hid o2
    clear hb3 o0 o1 o2
    cases dn with
    | true =>
      obtain ⟨hq1, rfl⟩ := Prod.mk.inj (HQ.out.symm.trans (Dv.start_ok HK.out))
      rw [if_pos HDN.out] at hq1
      have HQ1 := Lib.hid hq1
      clear hq1
      go_wp2_with (first | (refine wpList_st6 rfl 25 (.tmp 1) (.tmp 9) rfl B 25 _ _ _ _ _ _ (.int .i64 sz) (.slice Q0 n q0) (.slice Q1 n1 q1') (.slice Q2 n2 q2') (.int .i64 fu) (.bool true) rfl rfl X3.out HS6.out (by simp [Value.oneCell']) ?_; intro w4 hw4; have X4 := Lib.hid (show Box6 w4 B 25 (.int .i64 sz) (.slice Q0 n q0) (.slice Q1 n1 q1') (.slice Q2 n2 q2') (.int .i64 fu) (.bool true) from (by rw [hw4]; exact X3.out.st _ _ _ _ _ _)); have R4 := Lib.hid (show Box6 w4 (B + 1) 25 (.int .i64 0) (.slice none 0 0) (.slice none 0 0) (.slice none 0 0) (.int .i64 0) (.bool false) from (by rw [hw4]; exact R3.out.far (by omega) _ _ _ _ _ _)); have HB4 := Lib.hid (show Below B w w4 from (by rw [hw4]; exact below_st6 (HB1.out.trans (HB3.out.mono (by omega))) (Nat.le_refl _) _ _ _ _ _ _)); have P0 := Lib.hid (show w4.ownsRow (B + 2) 9 1 (.slice Q0 n q0) n (Dv.strs d.blocks) from (by rw [hw4]; exact own_st6 O0.out (by omega) _ _ _ _ _ _)); have P1 := Lib.hid (show w4.ownsRow (B + 2) 3 1 (.slice Q1 n1 q1') n1 (Dv.ints d.torn) from (by rw [hw4]; exact own_st6 O1.out (by omega) _ _ _ _ _ _)); have P2 := Lib.hid (show w4.ownsRow (B + 2) 3 1 (.slice Q2 n2 q2') n2 (Dv.ints d.bad) from (by rw [hw4]; exact own_st6 O2.out (by omega) _ _ _ _ _ _)); have hs4 : w3.heap.size = w4.heap.size := (by rw [hw4]; simp); obtain ⟨p0, p1, p2, p3, p4, p5, f0, f1, f2, f3, f4, f5⟩ := X4.out.s; obtain ⟨r0, r1, r2, r3, r4, r5, e0, e1, e2, e3, e4, e5⟩ := R4.out.s; clear hw4) | fail)
      have hsz := HSZ.out
      subst hsz
      have hfu := HFU.out
      subst hfu
      have U0 := own_st6 (own_cell (own_cell P0.out (a := ⟨B, 5, none⟩) (show B < B + 2 by omega) (.bool false)) (a := ⟨B, 4, none⟩) (show B < B + 2 by omega) (.int .i64 0)) (show B + 1 < B + 2 by omega) (.int .i64 d.size) (.slice Q0 n q0) (.slice Q1 n1 q1') (.slice Q2 n2 q2') (.int .i64 0) (.bool false)
      have U1 := own_st6 (own_cell (own_cell P1.out (a := ⟨B, 5, none⟩) (show B < B + 2 by omega) (.bool false)) (a := ⟨B, 4, none⟩) (show B < B + 2 by omega) (.int .i64 0)) (show B + 1 < B + 2 by omega) (.int .i64 d.size) (.slice Q0 n q0) (.slice Q1 n1 q1') (.slice Q2 n2 q2') (.int .i64 0) (.bool false)
      have U2 := own_st6 (own_cell (own_cell P2.out (a := ⟨B, 5, none⟩) (show B < B + 2 by omega) (.bool false)) (a := ⟨B, 4, none⟩) (show B < B + 2 by omega) (.int .i64 0)) (show B + 1 < B + 2 by omega) (.int .i64 d.size) (.slice Q0 n q0) (.slice Q1 n1 q1') (.slice Q2 n2 q2') (.int .i64 0) (.bool false)
      have hbz := below_st6 ((HB4.out.setCell (p := ⟨B, 5, none⟩) (Nat.le_refl _) (.bool false)).setCell (p := ⟨B, 4, none⟩) (Nat.le_refl _) (.int .i64 0)) (show B ≤ B + 1 by omega) (.int .i64 d.size) (.slice Q0 n q0) (.slice Q1 n1 q1') (.slice Q2 n2 q2') (.int .i64 0) (.bool false)
      obtain ⟨s0, s1, s2, s3, s4, s5, _, _, _, _, _, _⟩ := (((R4.out.other (a := ⟨B, 5, none⟩) (show B + 1 ≠ B by omega) (.bool false)).other (a := ⟨B, 4, none⟩) (show B + 1 ≠ B by omega) (.int .i64 0)).st (.int .i64 d.size) (.slice Q0 n q0) (.slice Q1 n1 q1') (.slice Q2 n2 q2') (.int .i64 0) (.bool false)).s
      obtain ⟨b0, b1, b2⟩ := HNN.out HK.out
      exact bodyPost_ret (v := .tuple #[.agg #[.int .i64 d.size, .slice Q0 n q0, .slice Q1 n1 q1', .slice Q2 n2 q2', .int .i64 0, .bool false], .int .i64 0]) (by simp [results, Try.results16, go_sem, s0, s1, s2, s3, s4, s5]) rfl ⟨_, rfl, by rw [HQ1.out]; exact DevN.of (d := ⟨d.size, d.blocks, d.torn, d.bad, 0, false⟩) U0 U1 U2 (by omega) (by omega) (by omega) (HFIT.out HK.out) (show B ≤ B + 2 by omega), hbz⟩
    | false =>
      obtain ⟨hq1, rfl⟩ := Prod.mk.inj (HQ.out.symm.trans (Dv.start_ok HK.out))
      rw [if_neg (by rw [HDN.out]; decide)] at hq1
      have HQ1 := Lib.hid hq1
      clear hq1
      go_wp2_with (first | (refine wpList_st6 rfl 25 (.tmp 1) (.tmp 9) rfl B 25 _ _ _ _ _ _ (.int .i64 sz) (.slice Q0 n q0) (.slice Q1 n1 q1') (.slice Q2 n2 q2') (.int .i64 fu) (.bool false) rfl rfl X3.out HS6.out (by simp [Value.oneCell']) ?_; intro w4 hw4; have X4 := Lib.hid (show Box6 w4 B 25 (.int .i64 sz) (.slice Q0 n q0) (.slice Q1 n1 q1') (.slice Q2 n2 q2') (.int .i64 fu) (.bool false) from (by rw [hw4]; exact X3.out.st _ _ _ _ _ _)); have R4 := Lib.hid (show Box6 w4 (B + 1) 25 (.int .i64 0) (.slice none 0 0) (.slice none 0 0) (.slice none 0 0) (.int .i64 0) (.bool false) from (by rw [hw4]; exact R3.out.far (by omega) _ _ _ _ _ _)); have HB4 := Lib.hid (show Below B w w4 from (by rw [hw4]; exact below_st6 (HB1.out.trans (HB3.out.mono (by omega))) (Nat.le_refl _) _ _ _ _ _ _)); have P0 := Lib.hid (show w4.ownsRow (B + 2) 9 1 (.slice Q0 n q0) n (Dv.strs d.blocks) from (by rw [hw4]; exact own_st6 O0.out (by omega) _ _ _ _ _ _)); have P1 := Lib.hid (show w4.ownsRow (B + 2) 3 1 (.slice Q1 n1 q1') n1 (Dv.ints d.torn) from (by rw [hw4]; exact own_st6 O1.out (by omega) _ _ _ _ _ _)); have P2 := Lib.hid (show w4.ownsRow (B + 2) 3 1 (.slice Q2 n2 q2') n2 (Dv.ints d.bad) from (by rw [hw4]; exact own_st6 O2.out (by omega) _ _ _ _ _ _)); have hs4 : w3.heap.size = w4.heap.size := (by rw [hw4]; simp); obtain ⟨p0, p1, p2, p3, p4, p5, f0, f1, f2, f3, f4, f5⟩ := X4.out.s; obtain ⟨r0, r1, r2, r3, r4, r5, e0, e1, e2, e3, e4, e5⟩ := R4.out.s; clear hw4) | fail)
      have hsz := HSZ.out
      subst hsz
      have hfu := HFU.out
      subst hfu
      have U0 := own_st6 P0.out (show B + 1 < B + 2 by omega) (.int .i64 d.size) (.slice Q0 n q0) (.slice Q1 n1 q1') (.slice Q2 n2 q2') (.int .i64 d.fuse) (.bool false)
      have U1 := own_st6 P1.out (show B + 1 < B + 2 by omega) (.int .i64 d.size) (.slice Q0 n q0) (.slice Q1 n1 q1') (.slice Q2 n2 q2') (.int .i64 d.fuse) (.bool false)
      have U2 := own_st6 P2.out (show B + 1 < B + 2 by omega) (.int .i64 d.size) (.slice Q0 n q0) (.slice Q1 n1 q1') (.slice Q2 n2 q2') (.int .i64 d.fuse) (.bool false)
      have hbz := below_st6 HB4.out (show B ≤ B + 1 by omega) (.int .i64 d.size) (.slice Q0 n q0) (.slice Q1 n1 q1') (.slice Q2 n2 q2') (.int .i64 d.fuse) (.bool false)
      obtain ⟨s0, s1, s2, s3, s4, s5, _, _, _, _, _, _⟩ := (R4.out.st (.int .i64 d.size) (.slice Q0 n q0) (.slice Q1 n1 q1') (.slice Q2 n2 q2') (.int .i64 d.fuse) (.bool false)).s
      obtain ⟨b0, b1, b2⟩ := HNN.out HK.out
      exact bodyPost_ret (v := .tuple #[.agg #[.int .i64 d.size, .slice Q0 n q0, .slice Q1 n1 q1', .slice Q2 n2 q2', .int .i64 d.fuse, .bool false], .int .i64 0]) (by simp [results, Try.results16, go_sem, s0, s1, s2, s3, s4, s5]) rfl ⟨_, rfl, by rw [HQ1.out]; exact DevN.of (d := ⟨d.size, d.blocks, d.torn, d.bad, d.fuse, false⟩) U0 U1 U2 (by omega) (by omega) (by omega) (HFIT.out HK.out) (show B ≤ B + 2 by omega), hbz⟩
  · rw [hk] at hc0
    have HC0 := Lib.hid hc0
    obtain ⟨rfl, rfl⟩ := Prod.mk.inj (HQ.out.symm.trans (Dv.start_form hk))
    clear hc0 hcp hk
    go_enter Try.func16, Try.ntmps16
    go_wp2_with fail
    rw [HW1.out]
    clear hB
    refine (HC0.out _ (Below.refl _ _)).mono ?_
    rintro e w2 ⟨rfl, hq⟩
    have hb2 : Below (B + 2) w1 w2 := HE.out _ _ (Below.refl _ _) hq
    clear hq
    have hs2 := hb2.size
    have X2 := Lib.hid (X1.out.below hb2 (by omega))
    have R2 := Lib.hid (R1.out.below hb2 (by omega))
    obtain ⟨p0, p1, p2, p3, p4, p5, f0, f1, f2, f3, f4, f5⟩ := X2.out.s
    obtain ⟨r0, r1, r2, r3, r4, r5, e0, e1, e2, e3, e4, e5⟩ := R2.out.s
    have HB2 := Lib.hid hb2
    clear hb2
    go_wp2_with fail
    have hbz := below_st6 (HB1.out.trans (HB2.out.mono (show B ≤ B + 2 by omega))) (show B ≤ B + 1 by omega) (.int .i64 0) (.slice none 0 0) (.slice none 0 0) (.slice none 0 0) (.int .i64 0) (.bool false)
    obtain ⟨s0, s1, s2, s3, s4, s5, _, _, _, _, _, _⟩ := (R2.out.st (.int .i64 0) (.slice none 0 0) (.slice none 0 0) (.slice none 0 0) (.int .i64 0) (.bool false)).s
    exact bodyPost_ret (v := .tuple #[Dv.val Dv.none' (.slice none 0 0) (.slice none 0 0) (.slice none 0 0), .int .i64 2]) (by simp [results, Try.results16, go_sem, s0, s1, s2, s3, s4, s5, Dv.val, Dv.none']) rfl ⟨_, rfl, DevN.none' _ _, hbz⟩

end Go.Proofs.Ythdkidiemhfffaa
