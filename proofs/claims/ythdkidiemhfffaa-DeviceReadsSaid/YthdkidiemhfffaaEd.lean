/-
  Contracts of device: Same, copied.
-/
import Derived.Test.YthdkidiemhfffaaEc
import Derived.Deep.RegionWith
namespace Go.Proofs.Ythdkidiemhfffaa
open Go.RowKit
set_option maxHeartbeats 4000000

theorem Dv.ext {d d' : Dv.D} (h0 : d.size = d'.size) (h1 : d.blocks = d'.blocks) (h2 : d.torn = d'.torn) (h3 : d.bad = d'.bad) (h4 : d.fuse = d'.fuse) (h5 : d.down = d'.down) : d = d' := by
  cases d; cases d'; simp_all

set_option maxRecDepth 100000 in
theorem sameD_any (v v' : Value) (d d' : Dv.D) (w : World) (hd : DevV w v d) (hd' : DevV w v' d') :
    Calls Try.prog 20 #[v, v'] w fun e w' => e = .returned (.bool (decide (d = d'))) ∧ Below w.heap.size w w' := by
  obtain ⟨A, n, c, A1, n1, c1, A2, n2, c2, rfl, hp⟩ := hd
  obtain ⟨A', n', c', A1', n1', c1', A2', n2', c2', rfl, hp'⟩ := hd'
  obtain ⟨r, hr⟩ : ∃ r, decide (d = d') = r := ⟨_, rfl⟩
  rw [hr]
  obtain ⟨x1, hx1⟩ : ∃ b, decide (d.blocks = d'.blocks) = b := ⟨_, rfl⟩
  obtain ⟨x2, hx2⟩ : ∃ b, decide (d.torn = d'.torn) = b := ⟨_, rfl⟩
  obtain ⟨x3, hx3⟩ : ∃ b, decide (d.bad = d'.bad) = b := ⟨_, rfl⟩
  obtain ⟨sz, hsz⟩ : ∃ x, d.size = x := ⟨_, rfl⟩
  obtain ⟨fu, hfu⟩ : ∃ x, d.fuse = x := ⟨_, rfl⟩
  obtain ⟨dn, hdn⟩ : ∃ x, d.down = x := ⟨_, rfl⟩
  obtain ⟨sz', hsz'⟩ : ∃ x, d'.size = x := ⟨_, rfl⟩
  obtain ⟨fu', hfu'⟩ : ∃ x, d'.fuse = x := ⟨_, rfl⟩
  obtain ⟨dn', hdn'⟩ : ∃ x, d'.down = x := ⟨_, rfl⟩
  have HALL := Lib.hid (show sz = sz' → fu = fu' → dn = dn' → x1 = true → x2 = true → x3 = true → r = true from fun a b c e f g => by
    rw [← hr, decide_eq_true_iff]
    exact Dv.ext (by rw [hsz, hsz', a]) (of_decide_eq_true (hx1.trans e)) (of_decide_eq_true (hx2.trans f)) (of_decide_eq_true (hx3.trans g)) (by rw [hfu, hfu', b]) (by rw [hdn, hdn', c]))
  have HNO := Lib.hid (show sz ≠ sz' ∨ fu ≠ fu' ∨ dn ≠ dn' ∨ x1 = false ∨ x2 = false ∨ x3 = false → r = false from fun h => by
    rw [← hr, decide_eq_false_iff_not]
    intro e
    subst e
    rw [hsz] at hsz'; rw [hfu] at hfu'; rw [hdn] at hdn'
    simp at hx1 hx2 hx3
    subst hx1 hx2 hx3
    rcases h with h | h | h | h | h | h
    · exact h hsz'
    · exact h hfu'
    · exact h hdn'
    · cases h
    · cases h
    · cases h)
  unfold Dv.val
  rw [hsz, hfu, hdn, hsz', hfu', hdn']
  obtain ⟨w1, hw1⟩ : ∃ V, (w.alloc (.cells #[.int .i64 sz, .slice A n c, .slice A1 n1 c1, .slice A2 n2 c2, .int .i64 fu, .bool dn] 25)).alloc (.cells #[.int .i64 sz', .slice A' n' c', .slice A1' n1' c1', .slice A2' n2' c2', .int .i64 fu', .bool dn'] 25) = V := ⟨_, rfl⟩
  have hb1 : Below w.heap.size w w1 := by rw [← hw1]; exact ((Below.refl _ _).alloc (Nat.le_refl _) _).alloc (by simp) _
  obtain ⟨B, hB⟩ : ∃ B, w.heap.size = B := ⟨_, rfl⟩
  have hs1 : w1.heap.size = B + 2 := by rw [← hw1]; simp [hB]
  have X1 := Lib.hid (show Box6 w1 B 25 (.int .i64 sz) (.slice A n c) (.slice A1 n1 c1) (.slice A2 n2 c2) (.int .i64 fu) (.bool dn) from by rw [← hw1]; exact (Box6.new _ _ _ _ _ _ _ _ _ hB).alloc _)
  have Y1 := Lib.hid (show Box6 w1 (B + 1) 25 (.int .i64 sz') (.slice A' n' c') (.slice A1' n1' c1') (.slice A2' n2' c2') (.int .i64 fu') (.bool dn') from by rw [← hw1]; exact Box6.new _ _ _ _ _ _ _ _ _ (by simp [hB]))
  rw [hB] at hb1
  have HP := Lib.hid (show ∀ W, Below B w W → DevP W A n c A1 n1 c1 A2 n2 c2 d from fun W h => hp.below (by rw [hB]; exact h))
  have HP' := Lib.hid (show ∀ W, Below B w W → DevP W A' n' c' A1' n1' c1' A2' n2' c2' d' from fun W h => hp'.below (by rw [hB]; exact h))
  have C1 := Lib.hid (show ∀ W, Below B w W → Calls Try.prog 42 #[.slice A n c, .slice A' n' c'] W fun e w' => e = .returned (.bool x1) ∧ Below W.heap.size W w' from fun W h => hx1 ▸ eqS_any A A' n n' c c' d.blocks d'.blocks W (HP.out W h).b (HP'.out W h).b)
  have C2 := Lib.hid (show ∀ W, Below B w W → Calls Try.prog 43 #[.slice A1 n1 c1, .slice A1' n1' c1'] W fun e w' => e = .returned (.bool x2) ∧ Below W.heap.size W w' from fun W h => hx2 ▸ eqI_any A1 A1' n1 n1' c1 c1' d.torn d'.torn W (HP.out W h).t (HP'.out W h).t)
  have C3 := Lib.hid (show ∀ W, Below B w W → Calls Try.prog 43 #[.slice A2 n2 c2, .slice A2' n2' c2'] W fun e w' => e = .returned (.bool x3) ∧ Below W.heap.size W w' from fun W h => hx3 ▸ eqI_any A2 A2' n2 n2' c2 c2' d.bad d'.bad W (HP.out W h).f (HP'.out W h).f)
  have HW1 := Lib.hid hw1
  have HB1 := Lib.hid hb1
  obtain ⟨p0, p1, p2, p3, p4, p5, _, _, _, _, _, _⟩ := X1.out.s
  obtain ⟨q0, q1, q2, q3, q4, q5, _, _, _, _, _, _⟩ := Y1.out.s
  clear hp hp' hr hx1 hx2 hx3 hsz hfu hdn hsz' hfu' hdn' hw1 hb1
  rw [hB]
  by_cases k1 : sz = sz'
  · have e1 : (sz == sz') = true := beq_iff_eq.2 k1
    by_cases k2 : fu = fu'
    · have e2 : (fu == fu') = true := beq_iff_eq.2 k2
      by_cases k3 : dn = dn'
      · have e3 : (dn == dn') = true := beq_iff_eq.2 k3
        have HALL2 := Lib.hid (HALL.out k1 k2 k3)
        clear k1 k2 k3
        go_enter Try.func20, Try.ntmps20
        go_wp2_with fail
        rw [HW1.out]
        clear hB
        refine (C1.out _ HB1.out).mono ?_
        rintro e w2 ⟨rfl, hb2⟩
        clear p0 p1 p2 p3 p4 p5 q0 q1 q2 q3 q4 q5
        obtain ⟨p0, p1, p2, p3, p4, p5, _, _, _, _, _, _⟩ := (X1.out.below hb2 (by omega)).s
        obtain ⟨q0, q1, q2, q3, q4, q5, _, _, _, _, _, _⟩ := (Y1.out.below hb2 (by omega)).s
        have X2 := Lib.hid (X1.out.below hb2 (by omega))
        have Y2 := Lib.hid (Y1.out.below hb2 (by omega))
        have HB2 := Lib.hid (HB1.out.trans (hb2.mono (by omega)))
        have hs2 := hb2.size
        clear hb2
        cases x1 with
        | false =>
          obtain rfl := HNO.out (.inr (.inr (.inr (.inl rfl))))
          go_wp2_with fail
          go_ret
          exact ⟨rfl, HB2.out⟩
        | true =>
        go_wp2_with fail
        refine (C2.out _ HB2.out).mono ?_
        rintro e w3 ⟨rfl, hb3⟩
        clear p0 p1 p2 p3 p4 p5 q0 q1 q2 q3 q4 q5
        obtain ⟨p0, p1, p2, p3, p4, p5, _, _, _, _, _, _⟩ := (X2.out.below hb3 (by omega)).s
        obtain ⟨q0, q1, q2, q3, q4, q5, _, _, _, _, _, _⟩ := (Y2.out.below hb3 (by omega)).s
        have HB3 := Lib.hid (HB2.out.trans (hb3.mono (by omega)))
        have hs3 := hb3.size
        clear hb3
        cases x2 with
        | false =>
          obtain rfl := HNO.out (.inr (.inr (.inr (.inr (.inl rfl)))))
          go_wp2_with fail
          go_ret
          exact ⟨rfl, HB3.out⟩
        | true =>
        go_wp2_with fail
        refine (C3.out _ HB3.out).mono ?_
        rintro e w4 ⟨rfl, hb4⟩
        have HB4 := Lib.hid (HB3.out.trans (hb4.mono (by omega)))
        clear hb4
        cases x3 with
        | false =>
          obtain rfl := HNO.out (.inr (.inr (.inr (.inr (.inr rfl)))))
          go_wp2_with fail
          go_ret
          exact ⟨rfl, HB4.out⟩
        | true =>
        obtain rfl := HALL2.out (by simp) (by simp) (by simp)
        go_wp2_with fail
        go_ret
        exact ⟨rfl, HB4.out⟩
      · have e3 : (dn == dn') = false := beq_eq_false_iff_ne.2 k3
        obtain rfl := HNO.out (.inr (.inr (.inl k3)))
        clear k1 k2 k3
        go_enter Try.func20, Try.ntmps20
        go_wp2_with fail
        go_ret
        exact ⟨rfl, by rw [HW1.out]; exact HB1.out⟩
    · have e2 : (fu == fu') = false := beq_eq_false_iff_ne.2 k2
      obtain rfl := HNO.out (.inr (.inl k2))
      clear k1 k2
      go_enter Try.func20, Try.ntmps20
      go_wp2_with fail
      go_ret
      exact ⟨rfl, by rw [HW1.out]; exact HB1.out⟩
  · have e1 : (sz == sz') = false := beq_eq_false_iff_ne.2 k1
    obtain rfl := HNO.out (.inl k1)
    clear k1
    go_enter Try.func20, Try.ntmps20
    go_wp2_with fail
    go_ret
    exact ⟨rfl, by rw [HW1.out]; exact HB1.out⟩

/-- what a round of copied keeps: the copy that came in in block B, the answer in B + 1, the variable in B + 2, the new row of blocks in B + 1 + 1 + 1 -/
structure Dv.Cp (w : World) (B : Nat) (A : Option Addr) (n c : Nat) (A1 : Option Addr) (n1 c1 : Nat) (A2 : Option Addr) (n2 c2 : Nat) (sz fu : Int) (dn : Bool) (bl : List ByteArray) (wr : World) (k : Nat) : Prop where
  box : Box6 wr B 25 (.int .i64 sz) (.slice A n c) (.slice A1 n1 c1) (.slice A2 n2 c2) (.int .i64 fu) (.bool dn)
  res : Box6 wr (B + 1) 25 (.int .i64 0) (.slice none 0 0) (.slice none 0 0) (.slice none 0 0) (.int .i64 0) (.bool false)
  var : Box6 wr (B + 1 + 1) 25 (.int .i64 sz) (.slice (some ⟨B + 1 + 1 + 1, 0, none⟩) n n) (.slice A1 n1 c1) (.slice A2 n2 c2) (.int .i64 fu) (.bool dn)
  row : wr.ownsRow (B + 1 + 1 + 1) 9 1 (.slice (some ⟨B + 1 + 1 + 1, 0, none⟩) n n) n (Dv.strs (bl.take k ++ List.replicate (n - k) ByteArray.empty))
  bel : Below B w wr
  big : B + 4 ≤ wr.heap.size
theorem Dv.Cp.below {w : World} {B : Nat} {A : Option Addr} {n c : Nat} {A1 : Option Addr} {n1 c1 : Nat} {A2 : Option Addr} {n2 c2 : Nat} {sz fu : Int} {dn : Bool} {bl : List ByteArray} {wr wr' : World} {k : Nat} (h : Dv.Cp w B A n c A1 n1 c1 A2 n2 c2 sz fu dn bl wr k) (hb : Below wr.heap.size wr wr') : Dv.Cp w B A n c A1 n1 c1 A2 n2 c2 sz fu dn bl wr' k := by
  have hg := h.big
  have hs := hb.size
  exact ⟨h.box.below hb h.box.lt, h.res.below hb h.res.lt, h.var.below hb h.var.lt, own_below h.row hb, h.bel.trans (hb.mono (by omega)), by omega⟩
theorem Dv.Cp.store {w : World} {B : Nat} {A : Option Addr} {n c : Nat} {A1 : Option Addr} {n1 c1 : Nat} {A2 : Option Addr} {n2 c2 : Nat} {sz fu : Int} {dn : Bool} {bl : List ByteArray} {wr : World} {k : Nat} (h : Dv.Cp w B A n c A1 n1 c1 A2 n2 c2 sz fu dn bl wr k) (hl : bl.length = n) (hk : k < n) (s : ByteArray) (hs : ∃ h : k < bl.length, bl[k] = s) : Dv.Cp w B A n c A1 n1 c1 A2 n2 c2 sz fu dn bl (wr.setCell ⟨B + 1 + 1 + 1, k, none⟩ (.string s)) (k + 1) := by
  have hg := h.big
  refine ⟨h.box.other (by show B ≠ B + 1 + 1 + 1; omega) _, h.res.other (by show B + 1 ≠ B + 1 + 1 + 1; omega) _, h.var.other (by show B + 1 + 1 ≠ B + 1 + 1 + 1; omega) _, ?_, h.bel.setCell (p := ⟨B + 1 + 1 + 1, k, none⟩) (by show B ≤ B + 1 + 1 + 1; omega) _, by simpa [World.setCell] using hg⟩
  have h2 := (World.ownsRow.stored h.row k (.string s)).1
  have e : (Dv.strs (bl.take k ++ List.replicate (n - k) ByteArray.empty)).set k (.string s) = Dv.strs (bl.take (k + 1) ++ List.replicate (n - (k + 1)) ByteArray.empty) := by
    obtain ⟨hh, rfl⟩ := hs
    have e1 : n - k = (n - (k + 1)) + 1 := by omega
    have e2 : (bl.take k).length = k := by simp; omega
    unfold Dv.strs
    rw [e1, List.replicate_succ, List.map_append, List.map_cons, List.set_append_right _ _ (by rw [List.length_map]; omega), List.length_map, e2, Nat.sub_self, List.set_cons_zero, List.take_succ_eq_append_getElem hh, List.map_append, List.map_append, List.append_assoc]
    rfl
  rw [e] at h2
  exact h2
theorem Dv.Cp.at {w : World} {B : Nat} {A : Option Addr} {n c : Nat} {A1 : Option Addr} {n1 c1 : Nat} {A2 : Option Addr} {n2 c2 : Nat} {sz fu : Int} {dn : Bool} {bl : List ByteArray} {wr : World} {k : Nat} (h : Dv.Cp w B A n c A1 n1 c1 A2 n2 c2 sz fu dn bl wr k) {j : Nat} (hj : j < n) : (∃ u, wr.cell? ⟨B + 1 + 1 + 1, j, none⟩ = some u) ∧ wr.frozen? ⟨B + 1 + 1 + 1, j, none⟩ = false := by
  refine ⟨?_, World.ownsRow.frozenAt h.row j⟩
  have h1 := World.ownsRow.cellAt h.row j (by omega)
  have h2 := h.row.1
  exact ⟨_, h1.trans (List.getElem?_eq_getElem (by rw [h2]; omega))⟩

set_option maxRecDepth 100000 in
theorem copiedD_any (v : Value) (d : Dv.D) (w : World) (hd : DevV w v d) (hok : Dv.Ok d) :
    Calls Try.prog 35 #[v] w fun e w' => ∃ v', e = .returned v' ∧ DevN w' w.heap.size v' d ∧ Below w.heap.size w w' := by
  obtain ⟨A, n, c, A1, n1, c1, A2, n2, c2, rfl, hp⟩ := hd
  obtain ⟨l0, l1, l2⟩ := hp.lens
  have m0 := hok.n1
  have m1 := hok.t.len
  have m2 := hok.b.len
  have mz := hok.n0
  rw [l0] at m0 m1 m2 mz
  rw [l1] at m1
  rw [l2] at m2
  obtain ⟨B, hB⟩ : ∃ B, w.heap.size = B := ⟨_, rfl⟩
  obtain ⟨sz, hsz⟩ : ∃ x, d.size = x := ⟨_, rfl⟩
  obtain ⟨fu, hfu⟩ : ∃ x, d.fuse = x := ⟨_, rfl⟩
  obtain ⟨dn, hdn⟩ : ∃ x, d.down = x := ⟨_, rfl⟩
  have HM := Lib.hid (Dv.run_make n (by omega))
  have HP := Lib.hid (show ∀ W, Below B w W → DevP W A n c A1 n1 c1 A2 n2 c2 d from fun W h => hp.below (by rw [hB]; exact h))
  have HV := Lib.hid (show ∀ v0 v1 v2, Dv.val d v0 v1 v2 = .agg #[.int .i64 sz, v0, v1, v2, .int .i64 fu, .bool dn] from fun v0 v1 v2 => by unfold Dv.val; rw [hsz, hfu, hdn])
  have HL := Lib.hid (And.intro l0 (And.intro l1 l2))
  have HS := Lib.hid hp.s
  have HBE := Lib.hid hB
  rw [HV.out, hB]
  clear hp l0 l1 l2 hok hsz hfu hdn
  go_enter Try.func35, Try.ntmps35
  go_wp2_with fail
  rw [HM.out]
  obtain ⟨w1, hw1⟩ : ∃ V, (((w.alloc (.cells #[.int .i64 sz, .slice A n c, .slice A1 n1 c1, .slice A2 n2 c2, .int .i64 fu, .bool dn] 25)).alloc (.cells #[.int .i64 0, .slice none 0 0, .slice none 0 0, .slice none 0 0, .int .i64 0, .bool false] 25)).alloc (.cells #[.int .i64 sz, .slice (some ⟨B + 1 + 1 + 1, 0, none⟩) n n, .slice A1 n1 c1, .slice A2 n2 c2, .int .i64 fu, .bool dn] 25)).alloc (.cells (Array.replicate n (Value.string ByteArray.empty)) 9) = V := ⟨_, rfl⟩
  have HW1 := Lib.hid hw1
  have S1 := Lib.hid (show Dv.Cp w B A n c A1 n1 c1 A2 n2 c2 sz fu dn d.blocks w1 0 from by
    have hB := HBE.out
    have hsa : ((w.alloc (.cells #[.int .i64 sz, .slice A n c, .slice A1 n1 c1, .slice A2 n2 c2, .int .i64 fu, .bool dn] 25)).alloc (.cells #[.int .i64 0, .slice none 0 0, .slice none 0 0, .slice none 0 0, .int .i64 0, .bool false] 25)).heap.size = B + 1 + 1 := by simp [hB]
    have hsb : (((w.alloc (.cells #[.int .i64 sz, .slice A n c, .slice A1 n1 c1, .slice A2 n2 c2, .int .i64 fu, .bool dn] 25)).alloc (.cells #[.int .i64 0, .slice none 0 0, .slice none 0 0, .slice none 0 0, .int .i64 0, .bool false] 25)).alloc (.cells #[.int .i64 sz, .slice (some ⟨B + 1 + 1 + 1, 0, none⟩) n n, .slice A1 n1 c1, .slice A2 n2 c2, .int .i64 fu, .bool dn] 25)).heap.size = B + 1 + 1 + 1 := by simp [hB]
    rw [← hw1]
    refine ⟨(((Box6.new _ _ _ _ _ _ _ _ _ hB).alloc _).alloc _).alloc _, ((Box6.new _ _ _ _ _ _ _ _ _ (by simp [hB])).alloc _).alloc _, (Box6.new _ _ _ _ _ _ _ _ _ hsa).alloc _, ?_, ?_, by simp [hB]⟩
    · have h := Dv.made_own (((w.alloc (.cells #[.int .i64 sz, .slice A n c, .slice A1 n1 c1, .slice A2 n2 c2, .int .i64 fu, .bool dn] 25)).alloc (.cells #[.int .i64 0, .slice none 0 0, .slice none 0 0, .slice none 0 0, .int .i64 0, .bool false] 25)).alloc (.cells #[.int .i64 sz, .slice (some ⟨B + 1 + 1 + 1, 0, none⟩) n n, .slice A1 n1 c1, .slice A2 n2 c2, .int .i64 fu, .bool dn] 25)) n (by omega) (B + 1 + 1 + 1) (by rw [hsb]; exact Nat.le_refl _)
      rw [hsb] at h
      simpa using h
    · rw [← hB]
      exact ((((Below.refl _ _).alloc (Nat.le_refl _) _).alloc (by simp) _).alloc (by simp; omega) _).alloc (by simp; omega) _)
  clear hw1
  go_wp2_with fail
  rw [HW1.out]
  clear hB
  go_loopw [15] (fun i wr => ∃ k : Nat, k ≤ n ∧ i = .int .i64 k ∧ Dv.Cp w B A n c A1 n1 c1 A2 n2 c2 sz fu dn d.blocks wr k) (fun i _ => n - (intOf i).toNat)
  case atStart => exact ⟨0, by omega, rfl, S1.out⟩
  case round =>
    obtain ⟨k, hk, rfl, hS⟩ := hrel
    have S := Lib.hid hS
    have hbig := hS.big
    obtain ⟨p0, p1, p2, p3, p4, p5, _, _, _, _, _, _⟩ := hS.box.s
    obtain ⟨q0, q1, q2, q3, q4, q5, f0, f1, f2, f3, f4, f5⟩ := hS.var.s
    by_cases hlt : k < n
    · obtain ⟨g, o, rfl, hg, hz, g1⟩ := (HP.out _ hS.bel).b.1.at hlt
      have hkl : k < d.blocks.length := by rw [HL.out.1]; exact hlt
      rw [List.getElem_map] at g1
      obtain ⟨s, hs⟩ : ∃ s, d.blocks[k] = s := ⟨_, rfl⟩
      rw [hs] at g1
      have HX := Lib.hid (show ∃ h : k < d.blocks.length, d.blocks[k] = s from ⟨hkl, hs⟩)
      have hss := HS.out s (by rw [← hs]; exact List.getElem_mem hkl)
      have i0 : (0 : Int) ≤ (k : Int) := by omega
      have i1 : (k : Int) < (n : Int) := by omega
      have CL := Lib.hid (fun W => clone_any s W (by omega))
      have SD := Lib.hid (hS.below ((Below.refl _ _).drew))
      clear hs hz hkl hS
      go_wp2_with fail
      go_region_with (first | (go_at_call 46; (with_reducible refine (CL.out _).mono ?_); rintro e w2 ⟨rfl, hb2⟩; have S2 := Lib.hid (SD.out.below hb2); have hs2 := hb2.size; obtain ⟨y0, y1, y2, y3, y4, y5, _, _, _, _, _, _⟩ := S2.out.var.s; obtain ⟨⟨u, hu⟩, hfz⟩ := S2.out.at hlt; clear hb2) | fail)
      all_goals (
        go_wp2_with fail
        go_roundw
        · exact ⟨k + 1, by omega, by go_num, S2.out.store HL.out.1 hlt s HX.out⟩
        · simp [intOf]; omega)
    · obtain rfl : k = n := by omega
      have NT := Lib.hid (show ∀ W, Below B w W → Calls Try.prog 51 #[.slice A1 n1 c1] W fun e w' => ∃ b, e = .returned (.slice (some ⟨b, 0, none⟩) n1 n1) ∧ w'.ownsRow W.heap.size 3 1 (.slice (some ⟨b, 0, none⟩) n1 n1) n1 (Dv.ints d.torn) ∧ Below W.heap.size W w' from fun W h => (numsD_any A1 n1 c1 d.torn W (HP.out W h).t).mono fun e w' ⟨a, b, _, c⟩ => ⟨_, a, b, c⟩)
      have NF := Lib.hid (show ∀ W, Below B w W → Calls Try.prog 51 #[.slice A2 n2 c2] W fun e w' => ∃ b, e = .returned (.slice (some ⟨b, 0, none⟩) n2 n2) ∧ w'.ownsRow W.heap.size 3 1 (.slice (some ⟨b, 0, none⟩) n2 n2) n2 (Dv.ints d.bad) ∧ Below W.heap.size W w' from fun W h => (numsD_any A2 n2 c2 d.bad W (HP.out W h).f).mono fun e w' ⟨a, b, _, c⟩ => ⟨_, a, b, c⟩)
      have SD := Lib.hid (hS.below ((Below.refl _ _).drew))
      clear hS
      go_wp2_with fail
      go_region_with (first
        | (go_at_call 51; (with_reducible refine (NT.out _ SD.out.bel).mono ?_); rintro e w2 ⟨b2, rfl, o2, hb2⟩; have S2 := Lib.hid (SD.out.below hb2); have O2 := Lib.hid (own_mono o2 (show B + 1 + 1 + 1 ≤ wr.drew.heap.size by show B + 1 + 1 + 1 ≤ wr.heap.size; omega)); have hs2 := hb2.size; obtain ⟨y0, y1, y2, y3, y4, y5, _, _, _, _, _, _⟩ := S2.out.box.s; obtain ⟨z0, z1, z2, z3, z4, z5, v0, v1, v2, v3, v4, v5⟩ := S2.out.var.s; have HB2 := Lib.hid (S2.out.bel.setCell (p := ⟨B + 1 + 1, 2, none⟩) (show B ≤ B + 1 + 1 by omega) (.slice (some ⟨b2, 0, none⟩) n1 n1)); clear hb2 o2)
        | (go_at_call 51; (with_reducible refine (NF.out _ S2.out.bel).mono ?_); rintro e w3 ⟨b3, rfl, o3, hb3⟩; have S3 := Lib.hid (S2.out.below hb3); have O3 := Lib.hid (own_mono o3 (show B + 1 + 1 + 1 ≤ w2.heap.size by have := S2.out.big; omega)); have P3 := Lib.hid (own_below O2.out hb3); obtain ⟨a0, a1, a2, a3, a4, a5, e0, e1, e2, e3, e4, e5⟩ := S3.out.var.s; obtain ⟨r0, r1, r2, r3, r4, r5, t0, t1, t2, t3, t4, t5⟩ := S3.out.res.s; clear hb3 o3)
        | (go_at_call 51; (with_reducible refine (NF.out _ HB2.out).mono ?_); rintro e w3 ⟨b3, rfl, o3, hb3⟩; trace "odd"; clear hb3 o3)
        | fail)
      all_goals go_wp2_with fail
      all_goals (
        have o0 : w3.ownsRow (B + 1 + 1 + 1) 9 1 (.slice (some ⟨B + 1 + 1 + 1, 0, none⟩) k k) k (Dv.strs d.blocks) := by
          have h := S3.out.row
          rw [Nat.sub_self, List.replicate_zero, List.append_nil, List.take_of_length_le (by rw [HL.out.1]; exact Nat.le_refl _)] at h
          exact h
        have U0 := own_st6 (own_cell (own_cell o0 (a := ⟨B + 1 + 1, 2, none⟩) (show B + 1 + 1 < B + 1 + 1 + 1 by omega) (.slice (some ⟨b2, 0, none⟩) n1 n1)) (a := ⟨B + 1 + 1, 3, none⟩) (show B + 1 + 1 < B + 1 + 1 + 1 by omega) (.slice (some ⟨b3, 0, none⟩) n2 n2)) (show B + 1 < B + 1 + 1 + 1 by omega) (.int .i64 sz) (.slice (some ⟨B + 1 + 1 + 1, 0, none⟩) k k) (.slice (some ⟨b2, 0, none⟩) n1 n1) (.slice (some ⟨b3, 0, none⟩) n2 n2) (.int .i64 fu) (.bool dn)
        have U1 := own_st6 (own_cell (own_cell P3.out (a := ⟨B + 1 + 1, 2, none⟩) (show B + 1 + 1 < B + 1 + 1 + 1 by omega) (.slice (some ⟨b2, 0, none⟩) n1 n1)) (a := ⟨B + 1 + 1, 3, none⟩) (show B + 1 + 1 < B + 1 + 1 + 1 by omega) (.slice (some ⟨b3, 0, none⟩) n2 n2)) (show B + 1 < B + 1 + 1 + 1 by omega) (.int .i64 sz) (.slice (some ⟨B + 1 + 1 + 1, 0, none⟩) k k) (.slice (some ⟨b2, 0, none⟩) n1 n1) (.slice (some ⟨b3, 0, none⟩) n2 n2) (.int .i64 fu) (.bool dn)
        have U2 := own_st6 (own_cell (own_cell O3.out (a := ⟨B + 1 + 1, 2, none⟩) (show B + 1 + 1 < B + 1 + 1 + 1 by omega) (.slice (some ⟨b2, 0, none⟩) n1 n1)) (a := ⟨B + 1 + 1, 3, none⟩) (show B + 1 + 1 < B + 1 + 1 + 1 by omega) (.slice (some ⟨b3, 0, none⟩) n2 n2)) (show B + 1 < B + 1 + 1 + 1 by omega) (.int .i64 sz) (.slice (some ⟨B + 1 + 1 + 1, 0, none⟩) k k) (.slice (some ⟨b2, 0, none⟩) n1 n1) (.slice (some ⟨b3, 0, none⟩) n2 n2) (.int .i64 fu) (.bool dn)
        have hbz := below_st6 ((S3.out.bel.setCell (p := ⟨B + 1 + 1, 2, none⟩) (show B ≤ B + 1 + 1 by omega) (.slice (some ⟨b2, 0, none⟩) n1 n1)).setCell (p := ⟨B + 1 + 1, 3, none⟩) (show B ≤ B + 1 + 1 by omega) (.slice (some ⟨b3, 0, none⟩) n2 n2)) (show B ≤ B + 1 by omega) (.int .i64 sz) (.slice (some ⟨B + 1 + 1 + 1, 0, none⟩) k k) (.slice (some ⟨b2, 0, none⟩) n1 n1) (.slice (some ⟨b3, 0, none⟩) n2 n2) (.int .i64 fu) (.bool dn)
        obtain ⟨s0, s1, s2, s3, s4, s5, _, _, _, _, _, _⟩ := (((S3.out.res.other (a := ⟨B + 1 + 1, 2, none⟩) (show B + 1 ≠ B + 1 + 1 by omega) (.slice (some ⟨b2, 0, none⟩) n1 n1)).other (a := ⟨B + 1 + 1, 3, none⟩) (show B + 1 ≠ B + 1 + 1 by omega) (.slice (some ⟨b3, 0, none⟩) n2 n2)).st (.int .i64 sz) (.slice (some ⟨B + 1 + 1 + 1, 0, none⟩) k k) (.slice (some ⟨b2, 0, none⟩) n1 n1) (.slice (some ⟨b3, 0, none⟩) n2 n2) (.int .i64 fu) (.bool dn)).s
        have hN := DevN.of U0 U1 U2 (by omega) (by omega) (by omega) HS.out (show B ≤ B + 1 + 1 + 1 by omega)
        rw [HV.out] at hN
        exact bodyPost_ret (v := .agg #[.int .i64 sz, .slice (some ⟨B + 1 + 1 + 1, 0, none⟩) k k, .slice (some ⟨b2, 0, none⟩) n1 n1, .slice (some ⟨b3, 0, none⟩) n2 n2, .int .i64 fu, .bool dn]) (by simp [results, Try.results35, go_sem, s0, s1, s2, s3, s4, s5]) rfl ⟨_, rfl, hN, hbz⟩)

end Go.Proofs.Ythdkidiemhfffaa
