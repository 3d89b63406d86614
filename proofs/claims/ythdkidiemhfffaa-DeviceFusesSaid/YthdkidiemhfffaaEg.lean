/-
  Contracts of device: torn, Fail.
-/
import Derived.Test.YthdkidiemhfffaaEf
namespace Go.Proofs.Ythdkidiemhfffaa
open Go.RowKit
set_option maxHeartbeats 4000000

/-- what a row of one's own has at a place -/
theorem own_at {w : World} {B : Nat} {e : TypeId} {A : Option Addr} {n c : Nat} {xs : List Value} (h : w.ownsRow B e 1 (.slice A n c) n xs) {j : Nat} (hj : j < n) :
    ∃ g, A = some ⟨g, 0, none⟩ ∧ B ≤ g ∧ g < w.heap.size ∧ (∃ u, w.cell? ⟨g, j, none⟩ = some u) ∧ w.frozen? ⟨g, j, none⟩ = false := by
  rcases h.2 with ⟨h', rfl⟩ | ⟨g, cap, cur, hv, hB, hg, hnc, hcm, hcs, htake⟩
  · omega
  · injection hv with h1 h2 h3
    subst h1 h3
    have h1 := World.ownsRow.cellAt h j (by omega)
    have h2 := h.1
    exact ⟨g, rfl, hB, lt_of_block hg, ⟨_, h1.trans (List.getElem?_eq_getElem (by rw [h2]; omega))⟩, World.ownsRow.frozenAt h j⟩
theorem own_put {w : World} {B : Nat} {e : TypeId} {g n c : Nat} {l : List ByteArray} (h : w.ownsRow B e 1 (.slice (some ⟨g, 0, none⟩) n c) n (Dv.strs l)) (j : Nat) (s : ByteArray) :
    (w.setCell ⟨g, j, none⟩ (.string s)).ownsRow B e 1 (.slice (some ⟨g, 0, none⟩) n c) n (Dv.strs (l.set j s)) := by
  have h1 := (World.ownsRow.stored h j (.string s)).1
  rw [show (Dv.strs l).set j (.string s) = Dv.strs (l.set j s) from by simp [Dv.strs, List.map_set]] at h1
  exact h1

set_option maxRecDepth 100000 in
/-- torn: in rows that are the caller's own from block C on -/
theorem tornD_any (v : Value) (d : Dv.D) (m : Nat) (C : Nat) (w : World) (hC : C ≤ w.heap.size) (hd : DevN w C v d) (hm : m < d.blocks.length) (ha : d.torn.Pairwise (· < ·)) (hl : d.torn.length ≤ 4000) :
    Calls Try.prog 50 #[v, .int .i64 (m : Nat)] w fun e w' => ∃ v', e = .returned v' ∧ DevN w' C v' ⟨d.size, d.blocks.set m ByteArray.empty, Dv.ins d.torn m, d.bad, d.fuse, true⟩ ∧ Below C w w' := by
  obtain ⟨⟨v0, v1, v2, rfl, o0, o1, o2⟩, k0, k1, k2, hfit⟩ := hd
  obtain ⟨n, hln⟩ : ∃ n, d.blocks.length = n := ⟨_, rfl⟩
  obtain ⟨n1, hl1⟩ : ∃ n, d.torn.length = n := ⟨_, rfl⟩
  obtain ⟨n2, hl2⟩ : ∃ n, d.bad.length = n := ⟨_, rfl⟩
  rw [hln] at o0 hm k0
  rw [hl1] at o1 k1 hl
  rw [hl2] at o2 k2
  obtain ⟨Q0, q0, rfl⟩ := own_slice o0
  obtain ⟨Q1, q1, rfl⟩ := own_slice o1
  obtain ⟨Q2, q2, rfl⟩ := own_slice o2
  obtain ⟨g, rfl, hCg, hgw, ⟨u, hu⟩, hfz⟩ := own_at o0 hm
  obtain ⟨B, hB⟩ : ∃ B, w.heap.size = B := ⟨_, rfl⟩
  obtain ⟨sz, hsz⟩ : ∃ x, d.size = x := ⟨_, rfl⟩
  obtain ⟨fu, hfu⟩ : ∃ x, d.fuse = x := ⟨_, rfl⟩
  obtain ⟨dn, hdn⟩ : ∃ x, d.down = x := ⟨_, rfl⟩
  obtain ⟨ws, hws⟩ : ∃ V, w.setCell ⟨g, m, none⟩ (.string ⟨#[]⟩) = V := ⟨_, rfl⟩
  have hsB : ws.heap.size = B := by rw [← hws]; simpa [World.setCell] using hB
  have hne : ∀ {e : TypeId} {A : Option Addr} {k c : Nat} {xs : List Value}, e ≠ 9 → w.ownsRow C e 1 (.slice A k c) k xs → ws.ownsRow C e 1 (.slice A k c) k xs := fun {e A k c xs} hT ho => by
    rcases o0.2 with ⟨h', _⟩ | ⟨g2, cap, cur, hv, _, hg2, _⟩
    · cases h'
    · injection hv with h1
      injection h1 with h1
      injection h1 with h1
      subst h1
      rw [← hws]
      exact ownsRow_setCell_other ho (a := ⟨g, m, none⟩) (Lib.ownBlock_ne ho hg2 (fun h => hT h.symm)) _
  have g0 : ws.ownsRow C 9 1 (.slice (some ⟨g, 0, none⟩) n q0) n (Dv.strs (d.blocks.set m ByteArray.empty)) := by rw [← hws]; exact own_put o0 m ByteArray.empty
  have g1 := hne (by decide) o1
  have g2 := hne (by decide) o2
  have hbs : Below C w ws := by rw [← hws]; exact (Below.refl C w).setCell (p := ⟨g, m, none⟩) hCg _
  rw [hB] at hC hgw
  obtain ⟨w2, hw2⟩ : ∃ V, (ws.alloc (.cells #[.int .i64 sz, .slice (some ⟨g, 0, none⟩) n q0, .slice Q1 n1 q1, .slice Q2 n2 q2, .int .i64 fu, .bool true] 25)).alloc (.cells #[.int .i64 0, .slice none 0 0, .slice none 0 0, .slice none 0 0, .int .i64 0, .bool false] 25) = V := ⟨_, rfl⟩
  have hb2 : Below ws.heap.size ws w2 := by rw [← hw2]; exact ((Below.refl _ _).alloc (Nat.le_refl _) _).alloc (by simp) _
  have hs2 : w2.heap.size = B + 2 := by rw [← hw2]; simp [hsB]
  have X2 := Lib.hid (show Box6 w2 B 25 (.int .i64 sz) (.slice (some ⟨g, 0, none⟩) n q0) (.slice Q1 n1 q1) (.slice Q2 n2 q2) (.int .i64 fu) (.bool true) from by rw [← hw2]; exact (Box6.new _ _ _ _ _ _ _ _ _ hsB).alloc _)
  have R2 := Lib.hid (show Box6 w2 (B + 1) 25 (.int .i64 0) (.slice none 0 0) (.slice none 0 0) (.slice none 0 0) (.int .i64 0) (.bool false) from by rw [← hw2]; exact Box6.new _ _ _ _ _ _ _ _ _ (by simp [hsB]))
  have G0 := Lib.hid (own_below g0 hb2)
  have G1 := Lib.hid (own_below g1 hb2)
  have G2 := Lib.hid (own_below g2 hb2)
  have HB2 := Lib.hid (hbs.trans (hb2.mono (by omega)))
  have CW := Lib.hid (insD_any Q1 n1 q1 d.torn (m : Int) w2 (SlIn.own G1.out (by omega)) k1 ha)
  have HIL := Lib.hid (show (Dv.ins d.torn m).length ≤ n1 + 1 from by
    have h1 := List.length_filter_le (fun x => decide (x < (m : Int))) d.torn
    by_cases hmem : (m : Int) ∈ d.torn
    · rw [Dv.ins_same ha hmem]; omega
    · rw [← Dv.ins_take ha hmem]; simp; have := Dv.pos_le d.torn (m : Int); omega)
  have HV := Lib.hid (And.intro hsz (And.intro hfu hdn))
  have HLN := Lib.hid (And.intro hln (And.intro hl1 hl2))
  have HFIT := Lib.hid (show ∀ s ∈ d.blocks.set m ByteArray.empty, s.size ≤ 140737488355328 from fun s hs => by
    rcases List.mem_or_eq_of_mem_set hs with h | rfl
    · exact hfit s h
    · simp)
  have HWS := Lib.hid hws
  have HW2 := Lib.hid hw2
  have i0 : (0 : Int) ≤ (m : Int) := by omega
  have i1 : (m : Int) < (n : Int) := by omega
  have hs2' : B + 1 < w2.heap.size := by omega
  unfold Dv.val
  rw [hsz, hfu, hdn]
  clear o0 o1 o2 g0 g1 g2 hfit hln hl1 hl2 hsz hfu hdn hws hw2 hbs hb2 hne ha hsB hs2
  go_enter Try.func50, Try.ntmps50
  go_wp2_with fail
  rw [HWS.out, HW2.out]
  clear hB hu hfz
  refine CW.out.mono ?_
  rintro e w3 ⟨v3, rfl, o3, hb3⟩
  obtain ⟨Q3, q3, rfl⟩ := own_slice o3
  obtain ⟨n3, hn3⟩ : ∃ k, (Dv.ins d.torn m).length = k := ⟨_, rfl⟩
  rw [hn3] at o3 HIL ⊢
  have X3 := Lib.hid (X2.out.below hb3 X2.out.lt)
  have R3 := Lib.hid (R2.out.below hb3 R2.out.lt)
  have K0 := Lib.hid (own_below G0.out hb3)
  have K1 := Lib.hid (own_mono o3 (show C ≤ w2.heap.size by omega))
  have K2 := Lib.hid (own_below G2.out hb3)
  have HB3 := Lib.hid (HB2.out.trans (hb3.mono (by omega)))
  have HN3 := Lib.hid hn3
  have hs3 := hb3.size
  obtain ⟨p0, p1, p2, p3, p4, p5, f0, f1, f2, f3, f4, f5⟩ := X3.out.s
  obtain ⟨r0, r1, r2, r3, r4, r5, e0, e1, e2, e3, e4, e5⟩ := R3.out.s
  clear o3 hb3 hn3
  have far : ∀ {e : TypeId} {A : Option Addr} {k c : Nat} {xs : List Value}, 25 ≠ e → w3.ownsRow C e 1 (.slice A k c) k xs → (st6 (w3.setCell ⟨B, 2, none⟩ (.slice Q3 n3 q3)) (B + 1) (.int .i64 sz) (.slice (some ⟨g, 0, none⟩) n q0) (.slice Q3 n3 q3) (.slice Q2 n2 q2) (.int .i64 fu) (.bool true)).ownsRow C e 1 (.slice A k c) k xs := fun {e A k c xs} hT ho => by
    have h1 := ownsRow_setCell_other ho (a := ⟨B, 2, none⟩) (Lib.ownBlock_ne ho X3.out.h hT) (.slice Q3 n3 q3)
    have hb := (R3.out.other (a := ⟨B, 2, none⟩) (by show B + 1 ≠ B; omega) (.slice Q3 n3 q3))
    have hne := Lib.ownBlock_ne h1 hb.h hT
    exact ownsRow_setCell_other (ownsRow_setCell_other (ownsRow_setCell_other (ownsRow_setCell_other (ownsRow_setCell_other (ownsRow_setCell_other h1 (a := ⟨B + 1, 0, none⟩) hne _) (a := ⟨B + 1, 1, none⟩) hne _) (a := ⟨B + 1, 2, none⟩) hne _) (a := ⟨B + 1, 3, none⟩) hne _) (a := ⟨B + 1, 4, none⟩) hne _) (a := ⟨B + 1, 5, none⟩) hne _
  have U0 := far (by decide) K0.out
  have U1 := far (by decide) K1.out
  have U2 := far (by decide) K2.out
  have hN := DevN.of (d := ⟨d.size, d.blocks.set m ByteArray.empty, Dv.ins d.torn m, d.bad, d.fuse, true⟩) U0 U1 U2 (by omega) (by have := HIL.out; omega) (by omega) HFIT.out (Nat.le_refl C)
  unfold Dv.val at hN
  simp only [HV.out.1, HV.out.2.1] at hN
  have HNF := Lib.hid hN
  have HBZ := Lib.hid (below_st6 (HB3.out.setCell (p := ⟨B, 2, none⟩) hC (.slice Q3 n3 q3)) (show C ≤ B + 1 by omega) (.int .i64 sz) (.slice (some ⟨g, 0, none⟩) n q0) (.slice Q3 n3 q3) (.slice Q2 n2 q2) (.int .i64 fu) (.bool true))
  have HSS := Lib.hid ((R3.out.other (a := ⟨B, 2, none⟩) (by show B + 1 ≠ B; omega) (.slice Q3 n3 q3)).st (.int .i64 sz) (.slice (some ⟨g, 0, none⟩) n q0) (.slice Q3 n3 q3) (.slice Q2 n2 q2) (.int .i64 fu) (.bool true)).s
  clear far U0 U1 U2 hN
  go_wp2_with ((with_reducible refine bodyPost_ret (v := .agg #[.int .i64 sz, .slice (some ⟨g, 0, none⟩) n q0, .slice Q3 n3 q3, .slice Q2 n2 q2, .int .i64 fu, .bool true]) ?_ ?_ ?_); (obtain ⟨s0, s1, s2, s3, s4, s5, _, _, _, _, _, _⟩ := HSS.out; simp [results, Try.results50, go_sem, s0, s1, s2, s3, s4, s5]); rfl; exact ⟨_, rfl, HNF.out, HBZ.out⟩)

set_option maxRecDepth 100000 in
theorem failD_any (v : Value) (d : Dv.D) (m : Int) (w : World) (hd : DevV w v d) :
    Calls Try.prog 24 #[v, .int .i64 m] w fun e w' => ∃ v', e = .returned (.tuple #[v', .int .i64 (Dv.fail d m).2]) ∧ DevN w' w.heap.size v' (Dv.fail d m).1 ∧ Below w.heap.size w w' := by
  obtain ⟨q, hq⟩ : ∃ q, Dv.fail d m = q := ⟨_, rfl⟩
  rw [hq]
  obtain ⟨q1, q2⟩ := q
  simp only
  obtain ⟨A, n, c, A1, n1, c1, A2, n2, c2, rfl, hp⟩ := hd
  obtain ⟨B, hB⟩ : ∃ B, w.heap.size = B := ⟨_, rfl⟩
  obtain ⟨sz, hsz⟩ : ∃ x, d.size = x := ⟨_, rfl⟩
  obtain ⟨fu, hfu⟩ : ∃ x, d.fuse = x := ⟨_, rfl⟩
  obtain ⟨dn, hdn⟩ : ∃ x, d.down = x := ⟨_, rfl⟩
  obtain ⟨w1, hw1⟩ : ∃ V, (w.alloc (.cells #[.int .i64 sz, .slice A n c, .slice A1 n1 c1, .slice A2 n2 c2, .int .i64 fu, .bool dn] 25)).alloc (.cells #[.int .i64 0, .slice none 0 0, .slice none 0 0, .slice none 0 0, .int .i64 0, .bool false] 25) = V := ⟨_, rfl⟩
  have hb1 : Below B w w1 := by rw [← hw1, ← hB]; exact ((Below.refl _ _).alloc (Nat.le_refl _) _).alloc (by simp) _
  have hs1 : w1.heap.size = B + 2 := by rw [← hw1]; simp [hB]
  have X1 := Lib.hid (show Box6 w1 B 25 (.int .i64 sz) (.slice A n c) (.slice A1 n1 c1) (.slice A2 n2 c2) (.int .i64 fu) (.bool dn) from by rw [← hw1]; exact (Box6.new _ _ _ _ _ _ _ _ _ hB).alloc _)
  have R1 := Lib.hid (show Box6 w1 (B + 1) 25 (.int .i64 0) (.slice none 0 0) (.slice none 0 0) (.slice none 0 0) (.int .i64 0) (.bool false) from by rw [← hw1]; exact Box6.new _ _ _ _ _ _ _ _ _ (by simp [hB]))
  have HP := Lib.hid (show ∀ W, Below (B + 2) w1 W → DevP W A n c A1 n1 c1 A2 n2 c2 d from fun W h => hp.below (by rw [hB]; exact hb1.trans (h.mono (by omega))))
  have HE := Lib.hid (show ∀ W V, Below (B + 2) w1 W → Below W.heap.size W V → Below (B + 2) w1 V from fun W V h h2 => h.trans (h2.mono (by have := h.size; omega)))
  have HV := Lib.hid (show ∀ v0 v1 v2, Dv.val d v0 v1 v2 = .agg #[.int .i64 sz, v0, v1, v2, .int .i64 fu, .bool dn] from fun v0 v1 v2 => by unfold Dv.val; rw [hsz, hfu, hdn])
  have HD := Lib.hid (show ∀ W, Below (B + 2) w1 W → DevV W (.agg #[.int .i64 sz, .slice A n c, .slice A1 n1 c1, .slice A2 n2 c2, .int .i64 fu, .bool dn]) d from fun W h => ⟨A, n, c, A1, n1, c1, A2, n2, c2, (HV.out _ _ _).symm, HP.out W h⟩)
  have hcp : Dv.chk d = 0 → ∀ W, Below (B + 2) w1 W → Calls Try.prog 35 #[.agg #[.int .i64 sz, .slice A n c, .slice A1 n1 c1, .slice A2 n2 c2, .int .i64 fu, .bool dn]] W fun e w' => ∃ Q0 q0 Q1 q1 Q2 q2, e = .returned (.agg #[.int .i64 sz, .slice Q0 n q0, .slice Q1 n1 q1, .slice Q2 n2 q2, .int .i64 fu, .bool dn]) ∧ w'.ownsRow (B + 2) 9 1 (.slice Q0 n q0) n (Dv.strs d.blocks) ∧ w'.ownsRow (B + 2) 3 1 (.slice Q1 n1 q1) n1 (Dv.ints d.torn) ∧ w'.ownsRow (B + 2) 3 1 (.slice Q2 n2 q2) n2 (Dv.ints d.bad) ∧ Below W.heap.size W w' := fun hk W h => by
    have h2 := copiedD_any _ d W (HD.out W h) (Dv.chk_zero.1 hk)
    refine h2.mono ?_
    rintro e w' ⟨v', rfl, ⟨⟨v0, v1, v2, rfl, o0, o1, o2⟩, _, _, _, _⟩, hb⟩
    obtain ⟨l0, l1, l2⟩ := hp.lens
    have hsz := h.size
    rw [l0] at o0
    rw [l1] at o1
    rw [l2] at o2
    obtain ⟨Q0, q0, rfl⟩ := own_slice o0
    obtain ⟨Q1, q1, rfl⟩ := own_slice o1
    obtain ⟨Q2, q2, rfl⟩ := own_slice o2
    exact ⟨Q0, q0, Q1, q1, Q2, q2, by rw [HV.out], own_mono o0 (by omega), own_mono o1 (by omega), own_mono o2 (by omega), hb⟩
  obtain ⟨l0, l1, l2⟩ := hp.lens
  have HNN := Lib.hid (show Dv.chk d = 0 → n ≤ 512 ∧ n1 ≤ 512 ∧ n2 ≤ 512 from fun hk => by
    have ok := Dv.chk_zero.1 hk
    have a0 := ok.n1
    have a1 := ok.t.len
    have a2 := ok.b.len
    omega)
  have HFIT := Lib.hid (show Dv.chk d = 0 → ∀ s ∈ d.blocks, s.size ≤ 140737488355328 from fun hk => (Dv.chk_zero.1 hk).fits)
  have hn := hp.b.2.2
  have HB1 := Lib.hid hb1
  have HW1 := Lib.hid hw1
  have HL := Lib.hid (And.intro l0 (And.intro l1 l2))
  have HSZ := Lib.hid hsz
  have HFU := Lib.hid hfu
  have HDN := Lib.hid hdn
  have HQ := Lib.hid hq
  clear hp hb1 hw1 l0 l1 l2 hsz hfu hdn hq
  rw [HV.out]
  rw [hB]
  have C1 := Lib.hid (fun W h => chkD_any _ d W (HD.out W h))
  have C2 := Lib.hid (fun W h => blkD_any _ d m W (HD.out W h))
  obtain ⟨k, hk⟩ : ∃ k, Dv.chk d = k := ⟨_, rfl⟩
  have HK := Lib.hid hk
  have hk2 := Dv.chk_is d
  rw [hk] at hk2 C1 hcp
  have hcp2 : k = 0 → _ := hcp
  clear hk hcp
  obtain ⟨fb, hfb⟩ : ∃ b, Dv.blkB d.blocks.length m = b := ⟨_, rfl⟩
  rw [hfb] at C2
  have HFB := Lib.hid hfb
  clear hfb
  go_enter Try.func24, Try.ntmps24
  go_wp2_with fail
  rw [HW1.out]
  clear hB
  refine (C1.out _ (Below.refl _ _)).mono ?_
  rintro e w2 ⟨rfl, hq⟩
  have hb2 : Below (B + 2) w1 w2 := HE.out _ _ (Below.refl _ _) hq
  clear hq
  have hs2 := hb2.size
  have X2 := Lib.hid (X1.out.below hb2 (by omega))
  have R2 := Lib.hid (R1.out.below hb2 (by omega))
  obtain ⟨p0, p1, p2, p3, p4, p5, f0, f1, f2, f3, f4, f5⟩ := X2.out.s
  obtain ⟨r0, r1, r2, r3, r4, r5, e0, e1, e2, e3, e4, e5⟩ := R2.out.s
  have HB2 := Lib.hid hb2
  clear hb2
  rcases hk2 with rfl | rfl
  · have HCP := Lib.hid (hcp2 rfl)
    clear hcp2
    go_wp2_with fail
    refine (C2.out _ HB2.out).mono ?_
    rintro e w3 ⟨rfl, hq⟩
    have hb3 : Below (B + 2) w1 w3 := HE.out _ _ HB2.out hq
    clear hq
    have hs3 := hb3.size
    have X3 := Lib.hid (X1.out.below hb3 (by omega))
    have R3 := Lib.hid (R1.out.below hb3 (by omega))
    clear p0 p1 p2 p3 p4 p5 f0 f1 f2 f3 f4 f5 r0 r1 r2 r3 r4 r5 e0 e1 e2 e3 e4 e5
    obtain ⟨p0, p1, p2, p3, p4, p5, f0, f1, f2, f3, f4, f5⟩ := X3.out.s
    obtain ⟨r0, r1, r2, r3, r4, r5, e0, e1, e2, e3, e4, e5⟩ := R3.out.s
    have HB3 := Lib.hid hb3
    clear hb3
    cases fb with
    | false =>
      have hno : m < 0 ∨ (d.blocks.length : Int) ≤ m := by have := HFB.out; simp only [Dv.blkB, decide_eq_false_iff_not] at this; omega
      obtain ⟨rfl, rfl⟩ := Prod.mk.inj (HQ.out.symm.trans (Dv.fail_range HK.out hno))
      clear hno
      go_wp2_with fail
      have hbz := below_st6 (HB1.out.trans (HB3.out.mono (show B ≤ B + 2 by omega))) (show B ≤ B + 1 by omega) (.int .i64 0) (.slice none 0 0) (.slice none 0 0) (.slice none 0 0) (.int .i64 0) (.bool false)
      obtain ⟨s0, s1, s2, s3, s4, s5, _, _, _, _, _, _⟩ := (R3.out.st (.int .i64 0) (.slice none 0 0) (.slice none 0 0) (.slice none 0 0) (.int .i64 0) (.bool false)).s
      exact bodyPost_ret (v := .tuple #[Dv.val Dv.none' (.slice none 0 0) (.slice none 0 0) (.slice none 0 0), .int .i64 1]) (by simp [results, Try.results24, go_sem, s0, s1, s2, s3, s4, s5, Dv.val, Dv.none']) rfl ⟨_, rfl, DevN.none' _ _, hbz⟩
    | true =>
      have hyes : ¬ (m < 0 ∨ (d.blocks.length : Int) ≤ m) := by have := HFB.out; simp only [Dv.blkB, decide_eq_true_eq] at this; omega
      obtain ⟨hq1, rfl⟩ := Prod.mk.inj (HQ.out.symm.trans (Dv.fail_ok HK.out hyes))
      have HQ1 := Lib.hid hq1
      obtain ⟨m, rfl⟩ : ∃ j : Nat, m = (j : Int) := ⟨m.toNat, by omega⟩
      have hmn : m < n := by rw [← HL.out.1]; omega
      have ok := Dv.chk_zero.1 HK.out
      have HTA := Lib.hid ok.t.asc
      have HBA := Lib.hid ok.b.asc
      clear hyes hq1 ok
      go_wp2_with fail
      refine (HCP.out _ HB3.out).mono ?_
      rintro e w4 ⟨Q0, q0, Q1, q1', Q2, q2', rfl, o0, o1, o2, hq⟩
      have hb4 : Below (B + 2) w1 w4 := HE.out _ _ HB3.out hq
      clear hq p0 p1 p2 p3 p4 p5 f0 f1 f2 f3 f4 f5 r0 r1 r2 r3 r4 r5 e0 e1 e2 e3 e4 e5
      have hs4 := hb4.size
      have X4 := Lib.hid (X1.out.below hb4 (by omega))
      have R4 := Lib.hid (R1.out.below hb4 (by omega))
      have hbw4 : B + 1 < w4.heap.size := by omega
      obtain ⟨r0, r1, r2, r3, r4, r5, e0, e1, e2, e3, e4, e5⟩ := R4.out.s
      have HB4 := Lib.hid hb4
      have O0 := Lib.hid o0
      have O1 := Lib.hid o1
      have O2 := Lib.hid o2
      clear hb4 o0 o1 o2
      obtain ⟨b0, b1, b2⟩ := HNN.out HK.out
      obtain ⟨g, rfl, hBg, hgw, ⟨u, hu⟩, hfz⟩ := own_at O0.out hmn
      obtain ⟨r, hr⟩ : ∃ r, w4.heap.size = r := ⟨_, rfl⟩
      obtain ⟨ws, hws⟩ : ∃ V, w4.setCell ⟨g, m, none⟩ (.string ⟨#[]⟩) = V := ⟨_, rfl⟩
      have hsr : ws.heap.size = r := by rw [← hws]; simpa [World.setCell] using hr
      have hne : ∀ {e : TypeId} {A : Option Addr} {k c : Nat} {xs : List Value}, e ≠ 9 → w4.ownsRow (B + 2) e 1 (.slice A k c) k xs → ws.ownsRow (B + 2) e 1 (.slice A k c) k xs := fun {e A k c xs} hT ho => by
        rcases O0.out.2 with ⟨h', _⟩ | ⟨g2, cap, cur, hv, _, hg2, _⟩
        · cases h'
        · injection hv with h1
          injection h1 with h1
          injection h1 with h1
          subst h1
          rw [← hws]
          exact ownsRow_setCell_other ho (a := ⟨g, m, none⟩) (Lib.ownBlock_ne ho hg2 (fun h => hT h.symm)) _
      have g0 : ws.ownsRow (B + 2) 9 1 (.slice (some ⟨g, 0, none⟩) n q0) n (Dv.strs (d.blocks.set m ByteArray.empty)) := by rw [← hws]; exact own_put O0.out m ByteArray.empty
      have g1 := hne (by decide) O1.out
      have g2 := hne (by decide) O2.out
      have hbs : Below (B + 2) w4 ws := by rw [← hws]; exact (Below.refl _ w4).setCell (p := ⟨g, m, none⟩) hBg _
      have hRs := R4.out.other (a := ⟨g, m, none⟩) (by show B + 1 ≠ g; omega) (.string ⟨#[]⟩)
      rw [hws] at hRs
      obtain ⟨w5, hw5⟩ : ∃ V, ws.alloc (.cells #[.int .i64 sz, .slice (some ⟨g, 0, none⟩) n q0, .slice Q1 n1 q1', .slice Q2 n2 q2', .int .i64 fu, .bool dn] 25) = V := ⟨_, rfl⟩
      have hb5 : Below ws.heap.size ws w5 := by rw [← hw5]; exact (Below.refl _ _).alloc (Nat.le_refl _) _
      have hs5 : w5.heap.size = r + 1 := by rw [← hw5]; simp [hsr]
      have X5 := Lib.hid (show Box6 w5 r 25 (.int .i64 sz) (.slice (some ⟨g, 0, none⟩) n q0) (.slice Q1 n1 q1') (.slice Q2 n2 q2') (.int .i64 fu) (.bool dn) from by rw [← hw5]; exact Box6.new _ _ _ _ _ _ _ _ _ hsr)
      have R5 := Lib.hid (hRs.below hb5 hRs.lt)
      have G0 := Lib.hid (own_below g0 hb5)
      have G1 := Lib.hid (own_below g1 hb5)
      have G2 := Lib.hid (own_below g2 hb5)
      have HB5 := Lib.hid ((HB4.out.trans hbs).trans (hb5.mono (by omega)))
      have CD := Lib.hid (delD_any Q1 n1 q1' d.torn (m : Int) w5 (SlIn.own G1.out (by omega)) HTA.out)
      have HDL := Lib.hid (show (Dv.del d.torn (m : Int)).length ≤ n1 from by
        have := List.length_filter_le (fun x => decide (x ≠ (m : Int))) d.torn
        have h2 := HL.out.2.1
        unfold Dv.del; omega)
      have HIL := Lib.hid (show (Dv.ins d.bad (m : Int)).length ≤ n2 + 1 from by
        have h2 := HL.out.2.2
        by_cases hmem : (m : Int) ∈ d.bad
        · rw [Dv.ins_same HBA.out hmem]; omega
        · rw [← Dv.ins_take HBA.out hmem]; simp; have := Dv.pos_le d.bad (m : Int); omega)
      have HFIT2 := Lib.hid (show ∀ s ∈ d.blocks.set m ByteArray.empty, s.size ≤ 140737488355328 from fun s hs => by
        rcases List.mem_or_eq_of_mem_set hs with h | rfl
        · exact HFIT.out HK.out s h
        · simp)
      have HWS := Lib.hid hws
      have HW5 := Lib.hid hw5
      have i0 : (0 : Int) ≤ (m : Int) := by omega
      have i1 : (m : Int) < (n : Int) := by omega
      have hBr : B + 1 < r := by omega
      have hgr : g < r := by omega
      clear g0 g1 g2 hws hw5 hbs hb5 hne hsr hRs
      go_wp2_with fail
      rw [HWS.out, HW5.out]
      clear hr hu hfz r0 r1 r2 r3 r4 r5 e0 e1 e2 e3 e4 e5
      refine CD.out.mono ?_
      rintro e w6 ⟨v6, rfl, o6, hb6⟩
      obtain ⟨Q6, q6, rfl⟩ := own_slice o6
      obtain ⟨n6, hn6⟩ : ∃ k, (Dv.del d.torn (m : Int)).length = k := ⟨_, rfl⟩
      rw [hn6] at o6 HDL ⊢
      have HN6 := Lib.hid hn6
      have x6 := X5.out.below hb6 X5.out.lt
      have R6 := Lib.hid (R5.out.below hb6 R5.out.lt)
      obtain ⟨p0, p1, p2, p3, p4, p5, f0, f1, f2, f3, f4, f5⟩ := x6.s
      have hs6 := hb6.size
      -- the variable's Torn is stored
      obtain ⟨w7, hw7⟩ : ∃ V, w6.setCell ⟨r, 2, none⟩ (.slice Q6 n6 q6) = V := ⟨_, rfl⟩
      have far : ∀ {e : TypeId} {A : Option Addr} {k c : Nat} {xs : List Value}, 25 ≠ e → w6.ownsRow (B + 2) e 1 (.slice A k c) k xs → w7.ownsRow (B + 2) e 1 (.slice A k c) k xs := fun {e A k c xs} hT ho => by
        rw [← hw7]; exact ownsRow_setCell_other ho (a := ⟨r, 2, none⟩) (Lib.ownBlock_ne ho x6.h hT) _
      have K0 := Lib.hid (far (by decide) (own_below G0.out hb6))
      have K1 := Lib.hid (far (by decide) (own_mono o6 (show B + 2 ≤ w5.heap.size by omega)))
      have K2 := Lib.hid (far (by decide) (own_below G2.out hb6))
      have X7 := Lib.hid (show Box6 w7 r 25 (.int .i64 sz) (.slice (some ⟨g, 0, none⟩) n q0) (.slice Q6 n6 q6) (.slice Q2 n2 q2') (.int .i64 fu) (.bool dn) from by rw [← hw7]; exact x6.set2 _)
      have R7 := Lib.hid (show Box6 w7 (B + 1) 25 (.int .i64 0) (.slice none 0 0) (.slice none 0 0) (.slice none 0 0) (.int .i64 0) (.bool false) from by rw [← hw7]; exact R6.out.other (a := ⟨r, 2, none⟩) (by show B + 1 ≠ r; omega) _)
      have HB7 := Lib.hid (show Below (B + 2) w1 w7 from by rw [← hw7]; exact (HB5.out.trans (hb6.mono (by omega))).setCell (p := ⟨r, 2, none⟩) (by show B + 2 ≤ r; omega) _)
      have hs7 : w7.heap.size = w6.heap.size := by rw [← hw7]; simp [World.setCell]
      have CI := Lib.hid (insD_any Q2 n2 q2' d.bad (m : Int) w7 (SlIn.own K2.out (by omega)) (by omega) HBA.out)
      have HW7 := Lib.hid hw7
      clear o6 hb6 hn6 x6 far hw7
      go_wp2_with fail
      rw [HW7.out]
      clear p0 p1 p2 p3 p4 p5 f0 f1 f2 f3 f4 f5
      refine CI.out.mono ?_
      rintro e w8 ⟨v8, rfl, o8, hb8⟩
      obtain ⟨Q8, q8, rfl⟩ := own_slice o8
      obtain ⟨n8, hn8⟩ : ∃ k, (Dv.ins d.bad (m : Int)).length = k := ⟨_, rfl⟩
      rw [hn8] at o8 HIL ⊢
      have x8 := X7.out.below hb8 X7.out.lt
      have R8 := Lib.hid (R7.out.below hb8 R7.out.lt)
      obtain ⟨p0, p1, p2, p3, p4, p5, f0, f1, f2, f3, f4, f5⟩ := x8.s
      obtain ⟨r0, r1, r2, r3, r4, r5, e0, e1, e2, e3, e4, e5⟩ := R8.out.s
      have hs8 := hb8.size
      have far : ∀ {e : TypeId} {A : Option Addr} {k c : Nat} {xs : List Value}, 25 ≠ e → w8.ownsRow (B + 2) e 1 (.slice A k c) k xs → (st6 (w8.setCell ⟨r, 3, none⟩ (.slice Q8 n8 q8)) (B + 1) (.int .i64 sz) (.slice (some ⟨g, 0, none⟩) n q0) (.slice Q6 n6 q6) (.slice Q8 n8 q8) (.int .i64 fu) (.bool dn)).ownsRow (B + 2) e 1 (.slice A k c) k xs := fun {e A k c xs} hT ho =>
        own_st6 (ownsRow_setCell_other ho (a := ⟨r, 3, none⟩) (Lib.ownBlock_ne ho x8.h hT) (.slice Q8 n8 q8)) (show B + 1 < B + 2 by omega) _ _ _ _ _ _
      have U0 := far (by decide) (own_below K0.out hb8)
      have U1 := far (by decide) (own_below K1.out hb8)
      have U2 := far (by decide) (own_mono o8 (show B + 2 ≤ w7.heap.size by omega))
      have hN := DevN.of (d := ⟨d.size, d.blocks.set m ByteArray.empty, Dv.del d.torn (m : Int), Dv.ins d.bad (m : Int), d.fuse, d.down⟩) U0 U1 U2 (by omega) (by have := HDL.out; omega) (by have := HIL.out; omega) HFIT2.out (show B ≤ B + 2 by omega)
      unfold Dv.val at hN
      simp only [HSZ.out, HFU.out, HDN.out] at hN
      have hq1 := HQ1.out
      unfold Dv.spoil at hq1
      simp only [HSZ.out, HFU.out, HDN.out, Int.toNat_natCast] at hq1
      subst hq1
      have HNF := Lib.hid hN
      have HBZ := Lib.hid (below_st6 ((HB1.out.trans ((HB7.out.trans (hb8.mono (by omega))).mono (show B ≤ B + 2 by omega))).setCell (p := ⟨r, 3, none⟩) (show B ≤ r by omega) (.slice Q8 n8 q8)) (show B ≤ B + 1 by omega) (.int .i64 sz) (.slice (some ⟨g, 0, none⟩) n q0) (.slice Q6 n6 q6) (.slice Q8 n8 q8) (.int .i64 fu) (.bool dn))
      have HSS := Lib.hid ((R8.out.other (a := ⟨r, 3, none⟩) (by show B + 1 ≠ r; omega) (.slice Q8 n8 q8)).st (.int .i64 sz) (.slice (some ⟨g, 0, none⟩) n q0) (.slice Q6 n6 q6) (.slice Q8 n8 q8) (.int .i64 fu) (.bool dn)).s
      clear far U0 U1 U2 hN o8 hb8 hn8 x8
      go_wp2_with ((with_reducible refine bodyPost_ret (v := .tuple #[.agg #[.int .i64 sz, .slice (some ⟨g, 0, none⟩) n q0, .slice Q6 n6 q6, .slice Q8 n8 q8, .int .i64 fu, .bool dn], .int .i64 0]) ?_ ?_ ?_); (obtain ⟨s0, s1, s2, s3, s4, s5, _, _, _, _, _, _⟩ := HSS.out; simp [results, Try.results24, go_sem, s0, s1, s2, s3, s4, s5]); rfl; exact ⟨_, rfl, HNF.out, HBZ.out⟩)
  · obtain ⟨rfl, rfl⟩ := Prod.mk.inj (HQ.out.symm.trans (Dv.fail_form HK.out m))
    clear hcp2
    go_wp2_with fail
    have hbz := below_st6 (HB1.out.trans (HB2.out.mono (show B ≤ B + 2 by omega))) (show B ≤ B + 1 by omega) (.int .i64 0) (.slice none 0 0) (.slice none 0 0) (.slice none 0 0) (.int .i64 0) (.bool false)
    obtain ⟨s0, s1, s2, s3, s4, s5, _, _, _, _, _, _⟩ := (R2.out.st (.int .i64 0) (.slice none 0 0) (.slice none 0 0) (.slice none 0 0) (.int .i64 0) (.bool false)).s
    exact bodyPost_ret (v := .tuple #[Dv.val Dv.none' (.slice none 0 0) (.slice none 0 0) (.slice none 0 0), .int .i64 2]) (by simp [results, Try.results24, go_sem, s0, s1, s2, s3, s4, s5, Dv.val, Dv.none']) rfl ⟨_, rfl, DevN.none' _ _, hbz⟩

end Go.Proofs.Ythdkidiemhfffaa
