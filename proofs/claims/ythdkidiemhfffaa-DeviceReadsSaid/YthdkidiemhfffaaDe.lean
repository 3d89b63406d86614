/-
  Contracts of the reference of device: Copy, New, Read.
-/
import Derived.Test.YthdkidiemhfffaaDd
import Derived.Deep.AppendLies
import Derived.Laws.AppendOwnNone
namespace Go.Proofs.Ythdkidiemhfffaa
open Go.RowKit
set_option maxHeartbeats 4000000

/-- 'append([]T(nil), x...)' in a list of operations -/
theorem Dv.append_nil {P : Program} {w : World} {ops : Array Oper} {rest : List Oper} {o : Oper} {a : Act} {Q : Exit → Act → World → Prop}
    (hg : o.guard = none) (x : Operand) (t : TypeId) (hop : o.op = Op.call { callee := Callee.builtin Builtin.append, args := #[.const (.slice none 0 0), x], argTypes := #[t, t] })
    (base : Nat) (e : TypeId) (i : TypeInfo) (z : Value) (size bytes : Nat) (h1 : P.underlying t = some (.slice e)) (h2 : P.info? e = some i) (h3 : i.zero = some z) (h4 : i.size = size) (h5 : i.bytes = bytes) (h6 : z.cells.size = size) (h7 : 0 < size)
    (ao : Option Addr) (m c : Nat) (news : List Value) (hx : a.eval x = .slice ao m c) (hao : ao = none → m = 0 ∧ c = 0) (hn : news.length = m * size) (hc : ∀ ad, ao = some ad → ∀ j u, news[j]? = some u → w.cell? (ad.add j) = some u) (h1c : ∀ u ∈ news, u.oneCell' = true)
    (b1 : m ≤ maxLen) (b2 : m * bytes ≤ 140737488355328) (hB : base ≤ w.heap.size)
    (hK : ∀ v' w', w'.ownsRow base e size v' m news → w.grownBy w' none → wpList P ops Q rest (a.put o.dst v') w') :
    wpList P ops Q (o :: rest) a w := by
  refine wpList_plain hg fun K hK2 => ?_
  have hs : a.eval (.const (.slice none 0 0)) = .slice none 0 0 := rfl
  cases ao with
  | none =>
    obtain ⟨rfl, rfl⟩ := hao rfl
    obtain rfl : news = [] := List.eq_nil_of_length_eq_zero (by simpa using hn)
    have hrun := run_append_owned_none (P := P) (w := w) base t o.type e i size h1 h2 (.slice none 0 0) 0 [] (World.ownsRow_nil w base e size)
    unfold Oper.wp
    simp [execOp, hop, resolve, invoke, builtin, hs, hx, hrun, Result.andThen]
    exact hK2 _ _ (hK _ _ (World.ownsRow_nil w base e size) ⟨rfl, rfl, rfl, Nat.le_refl _, fun _ _ _ => rfl⟩)
  | some ad =>
    obtain ⟨v', w', hrun, r1, r2, _⟩ := run_append_own (P := P) w base t o.type e i z size bytes h1 h2 h3 h4 h5 h6 h7 (.slice none 0 0) 0 [] (World.ownsRow_nil w base e size) ad m c news hn (hc ad rfl) h1c (by rw [Nat.zero_add]; exact b1) (by rw [Nat.zero_add]; exact b2) hB
    rw [Nat.zero_add, List.nil_append] at r1
    unfold Oper.wp
    simp [execOp, hop, resolve, invoke, builtin, hs, hx, hrun, Result.andThen]
    exact hK2 _ _ (hK v' w' r1 r2)


theorem SlIn.src {w : World} {A : Option Addr} {n c : Nat} {vs : List Value} (h : SlIn w A n c vs) : (A = none → n = 0 ∧ c = 0) ∧ vs.length = n * 1 ∧ (∀ ad, A = some ad → ∀ j u, vs[j]? = some u → w.cell? (ad.add j) = some u) := by
  obtain ⟨⟨h1, h2, h3⟩, hA, _⟩ := h
  refine ⟨fun e => ?_, by omega, fun ad e j u hu => ?_⟩
  · have := hA e; omega
  · have hj : j < vs.length := (List.getElem?_eq_some_iff.1 hu).1
    obtain ⟨g, o, hq, _, hc⟩ := h3 (by omega)
    rw [e] at hq
    injection hq with hq
    subst hq
    have e1 : (⟨g, o, none⟩ : Addr).add j = ⟨g, o + j, none⟩ := by unfold Addr.add; split <;> simp_all
    rw [e1, hc j hj]
    rw [List.getElem?_eq_getElem hj] at hu
    exact hu
theorem Dv.ints_one (l : List Int) : ∀ u ∈ Dv.ints l, u.oneCell' = true := fun u hu => by
  obtain ⟨x, _, rfl⟩ := List.mem_map.1 hu; rfl
theorem Dv.strs_one (l : List ByteArray) : ∀ u ∈ Dv.strs l, u.oneCell' = true := fun u hu => by
  obtain ⟨x, _, rfl⟩ := List.mem_map.1 hu; rfl

set_option maxRecDepth 100000 in
theorem rcopyD_any (v : Value) (d : Dv.D) (w : World) (hd : DevV w v d) (hok : Dv.Ok d) :
    Calls Try.prog 14 #[v] w fun e w' => ∃ v', e = .returned v' ∧ DevO w' w.heap.size v' d ∧ Below w.heap.size w w' := by
  obtain ⟨A, n, c, A1, n1, c1, A2, n2, c2, rfl, hp⟩ := hd
  obtain ⟨l0, l1, l2⟩ := hp.lens
  have m0 := hok.n1
  have m1 := hok.t.len
  have m2 := hok.b.len
  rw [l0] at m0 m1 m2
  rw [l1] at m1
  rw [l2] at m2
  obtain ⟨j0, hj, hy0, hy1, hy2⟩ := info_parts info_str
  obtain ⟨i0, hi, hz0, hz1, hz2⟩ := info_parts info_int'
  obtain ⟨B, hB⟩ : ∃ B, w.heap.size = B := ⟨_, rfl⟩
  obtain ⟨sz, hsz⟩ : ∃ x, d.size = x := ⟨_, rfl⟩
  obtain ⟨fu, hfu⟩ : ∃ x, d.fuse = x := ⟨_, rfl⟩
  obtain ⟨dn, hdn⟩ : ∃ x, d.down = x := ⟨_, rfl⟩
  obtain ⟨w1, hw1⟩ : ∃ V, (w.alloc (.cells #[.int .i64 sz, .slice A n c, .slice A1 n1 c1, .slice A2 n2 c2, .int .i64 fu, .bool dn] 25)).alloc (.cells #[.int .i64 0, .slice none 0 0, .slice none 0 0, .slice none 0 0, .int .i64 0, .bool false] 25) = V := ⟨_, rfl⟩
  have hb1 : Below B w w1 := by rw [← hw1, ← hB]; exact ((Below.refl _ _).alloc (Nat.le_refl _) _).alloc (by simp) _
  have hs1 : w1.heap.size = B + 2 := by rw [← hw1]; simp [hB]
  have X1 := Lib.hid (show Box6 w1 B 25 (.int .i64 sz) (.slice A n c) (.slice A1 n1 c1) (.slice A2 n2 c2) (.int .i64 fu) (.bool dn) from by rw [← hw1]; exact (Box6.new _ _ _ _ _ _ _ _ _ hB).alloc _)
  have R1 := Lib.hid (show Box6 w1 (B + 1) 25 (.int .i64 0) (.slice none 0 0) (.slice none 0 0) (.slice none 0 0) (.int .i64 0) (.bool false) from by rw [← hw1]; exact Box6.new _ _ _ _ _ _ _ _ _ (by simp [hB]))
  have HP := Lib.hid (show ∀ W, Below B w W → DevP W A n c A1 n1 c1 A2 n2 c2 d from fun W h => hp.below (by rw [hB]; exact h))
  have HV := Lib.hid (show ∀ v0 v1 v2, Dv.val d v0 v1 v2 = .agg #[.int .i64 sz, v0, v1, v2, .int .i64 fu, .bool dn] from fun v0 v1 v2 => by unfold Dv.val; rw [hsz, hfu, hdn])
  have HB1 := Lib.hid hb1
  have HW1 := Lib.hid hw1
  have HL := Lib.hid (And.intro l0 (And.intro l1 l2))
  clear hp hb1 hw1 l0 l1 l2 hok
  unfold Dv.val
  rw [hB, hsz, hfu, hdn]
  clear hsz hfu hdn
  go_enter Try.func14, Try.ntmps14
  go_wp2_with (first
    | ((at_builtin; rw [HW1.out]; clear hB; refine Dv.append_nil rfl _ 23 rfl (B + 2) 9 j0 (.string ByteArray.empty) 1 16 Try.underlying23 hj hy0 hy1 hy2 rfl (by decide) A n c (Dv.strs d.blocks) rfl (HP.out _ HB1.out).b.src.1 (HP.out _ HB1.out).b.src.2.1 (HP.out _ HB1.out).b.src.2.2 (Dv.strs_one _) (by unfold maxLen; omega) (by omega) (by omega) ?_; intro v2 w2 ho2 hg2; obtain ⟨Q2, q2, hv2⟩ := own_slice ho2; subst hv2; have hb2 : Below B w w2 := HB1.out.grown hg2 (by omega) (fun _ h => by cases h); have X2 := Lib.hid (X1.out.grown hg2 (by simp)); have R2 := Lib.hid (R1.out.grown hg2 (by simp)); obtain ⟨p0, p1, p2, p3, p4, p5, f0, f1, f2, f3, f4, f5⟩ := X2.out.s; have O2 := Lib.hid ho2; have hs2 := hg2.size; have HB2 := Lib.hid (hb2.setCell (p := ⟨B, 1, none⟩) (Nat.le_refl _) (.slice Q2 n q2)); clear ho2 hg2 hb2))
    | ((at_builtin; refine Dv.append_nil rfl _ 22 rfl (B + 2) 3 i0 (.int .i64 0) 1 8 Try.underlying22 hi hz0 hz1 hz2 rfl (by decide) A1 n1 c1 (Dv.ints d.torn) rfl (HP.out _ HB2.out).t.src.1 (HP.out _ HB2.out).t.src.2.1 (HP.out _ HB2.out).t.src.2.2 (Dv.ints_one _) (by unfold maxLen; omega) (by omega) (by simp; omega) ?_; intro v3 w3 ho3 hg3; obtain ⟨Q3, q3, hv3⟩ := own_slice ho3; subst hv3; have hb3 : Below B w w3 := HB2.out.grown hg3 (by simp; omega) (fun _ h => by cases h); have X3 := Lib.hid ((X2.out.set1 (.slice Q2 n q2)).grown hg3 (by simp)); have R3 := Lib.hid ((R2.out.other (a := ⟨B, 1, none⟩) (by simp) (.slice Q2 n q2)).grown hg3 (by simp)); clear p0 p1 p2 p3 p4 p5 f0 f1 f2 f3 f4 f5; obtain ⟨p0, p1, p2, p3, p4, p5, f0, f1, f2, f3, f4, f5⟩ := X3.out.s; have O3 := Lib.hid ho3; have hs3 : B + 2 ≤ w3.heap.size := (by have h := hg3.size; simp at h; omega); have O23 := Lib.hid (own_below (ownsRow_setCell_other O2.out (Lib.ownBlock_ne O2.out X2.out.h (by decide)) (.slice Q2 n q2)) (((Below.refl _ _).grown hg3 (Nat.le_refl _) (fun _ h => by cases h)))); have HB3 := Lib.hid (hb3.setCell (p := ⟨B, 2, none⟩) (Nat.le_refl _) (.slice Q3 n1 q3)); clear ho3 hg3 hb3))
    | ((at_builtin; refine Dv.append_nil rfl _ 22 rfl w3.heap.size 3 i0 (.int .i64 0) 1 8 Try.underlying22 hi hz0 hz1 hz2 rfl (by decide) A2 n2 c2 (Dv.ints d.bad) rfl (HP.out _ HB3.out).f.src.1 (HP.out _ HB3.out).f.src.2.1 (HP.out _ HB3.out).f.src.2.2 (Dv.ints_one _) (by unfold maxLen; omega) (by omega) (by simp) ?_; intro v4 w4 ho4 hg4; obtain ⟨Q4, q4, hv4⟩ := own_slice ho4; subst hv4; have hb4 : Below B w w4 := HB3.out.grown hg4 (by simp; omega) (fun _ h => by cases h); have X4 := Lib.hid ((X3.out.set2 (.slice Q3 n1 q3)).grown hg4 (by simp)); have R4 := Lib.hid ((R3.out.other (a := ⟨B, 2, none⟩) (by simp) (.slice Q3 n1 q3)).grown hg4 (by simp)); clear p0 p1 p2 p3 p4 p5 f0 f1 f2 f3 f4 f5; obtain ⟨p0, p1, p2, p3, p4, p5, f0, f1, f2, f3, f4, f5⟩ := X4.out.s; obtain ⟨r0, r1, r2, r3, r4, r5, e0, e1, e2, e3, e4, e5⟩ := R4.out.s; have O4 := Lib.hid ho4; have hs4 : B + 2 ≤ w4.heap.size := (by have h := hg4.size; simp at h; omega); have hbb := ((Below.refl _ _).grown hg4 (Nat.le_refl _) (fun _ h => by cases h)); have O24 := Lib.hid (own_below (ownsRow_setCell_other O23.out (Lib.ownBlock_ne O23.out X3.out.h (by decide)) (.slice Q3 n1 q3)) hbb); have O34 := Lib.hid (own_below (ownsRow_setCell_other O3.out (Lib.ownBlock_ne O3.out X3.out.h (by decide)) (.slice Q3 n1 q3)) hbb); have HB4 := Lib.hid (hb4.setCell (p := ⟨B, 3, none⟩) (Nat.le_refl _) (.slice Q4 n2 q4)); clear ho4 hg4 hb4 hbb))
    | fail)
  have XR := ((R4.out.other (a := ⟨B, 3, none⟩) (by simp) (.slice Q4 n2 q4)).st (.int .i64 sz) (.slice Q2 n q2) (.slice Q3 n1 q3) (.slice Q4 n2 q4) (.int .i64 fu) (.bool dn)).s
  obtain ⟨s0, s1, s2, s3, s4, s5, _, _, _, _, _, _⟩ := XR
  exact bodyPost_ret (v := .agg #[.int .i64 sz, .slice Q2 n q2, .slice Q3 n1 q3, .slice Q4 n2 q4, .int .i64 fu, .bool dn]) (by simp [results, Try.results14, go_sem, s0, s1, s2, s3, s4, s5]) rfl
    ⟨_, rfl, ⟨.slice Q2 n q2, .slice Q3 n1 q3, .slice Q4 n2 q4, (HV.out _ _ _).symm, by rw [HL.out.1]; exact own_mono (own_st6 (own_cell O24.out (by show B < _; omega) _) (by omega) _ _ _ _ _ _) (by omega),
      by rw [HL.out.2.1]; exact own_mono (own_st6 (own_cell O34.out (by show B < _; omega) _) (by omega) _ _ _ _ _ _) (by omega),
      by rw [HL.out.2.2]; exact own_mono (own_st6 (own_cell O4.out (by show B < _; omega) _) (by omega) _ _ _ _ _ _) (by omega),
      fun g h1 h2 => by have a1 := (O3.out.lt g h1).2; have a2 := (O4.out.lt g h2).1; omega⟩, below_st6 HB4.out (by omega) _ _ _ _ _ _⟩

/-- 'make([]string, n)' -/
theorem Dv.run_make (n : Nat) (hn : n ≤ 512) (W : World) : (Instr.makeSlice 23 (.int .i64 (n : Int)) (.int .i64 (n : Int))).run Try.prog W = .ok (.slice (some ⟨W.heap.size, 0, none⟩) n n) (W.alloc (.cells (List.replicate n (Value.string ByteArray.empty)).toArray 9)) := by
  obtain ⟨j0, hj, hy0, hy1, hy2⟩ := info_parts info_str
  have h := Go.run_make (P := Try.prog) W 23 9 j0 (.string ByteArray.empty) Try.underlying23 hj hy0 .i64 .i64 (n : Int) (n : Int) (by omega) (by omega) (by rw [hy2]; omega) (by omega)
  have e1 : madeCells (Value.string ByteArray.empty).cells (((n : Nat) : Int).toNat * j0.size) = (List.replicate n (Value.string ByteArray.empty)).toArray := by
    rw [hy1]
    apply Array.toList_inj.1
    have e2 : (Value.string ByteArray.empty).cells = #[Value.string ByteArray.empty] := rfl
    rw [e2, toList_madeCells_one]
    simp
  rw [e1] at h
  simpa using h
theorem Dv.made (W : World) (n : Nat) (hn : n ≤ 512) : SlIn (W.alloc (.cells (Array.replicate n (Value.string ByteArray.empty)) 9)) (some ⟨W.heap.size, 0, none⟩) n n (Dv.strs (List.replicate n ByteArray.empty)) := by
  refine ⟨⟨by simp, Nat.le_refl _, fun _ => ⟨W.heap.size, 0, rfl, by simp, fun i hi => ?_⟩⟩, (by intro h; cases h), by omega⟩
  have hi' : i < n := by simpa using hi
  rw [Nat.zero_add, cell_new_at _ _ _ _ rfl]
  simp [hi']

theorem Dv.made_own (W : World) (n : Nat) (hn : n ≤ 512) (B : Nat) (hB : B ≤ W.heap.size) : (W.alloc (.cells (Array.replicate n (Value.string ByteArray.empty)) 9)).ownsRow B 9 1 (.slice (some ⟨W.heap.size, 0, none⟩) n n) n (Dv.strs (List.replicate n ByteArray.empty)) :=
  ⟨by simp, .inr ⟨W.heap.size, n, _, rfl, hB, heap_alloc_new _ _, Nat.le_refl _, by unfold maxLen; omega, by simp, by simp⟩⟩
theorem Dv.new_no {a b : Int} (h : a < 16 ∨ 64 < a ∨ b < 1 ∨ 512 < b) : Dv.new a b = (Dv.none', 1) := by unfold Dv.new; rw [if_pos h]
theorem Dv.new_yes {a b : Int} (h : ¬ (a < 16 ∨ 64 < a ∨ b < 1 ∨ 512 < b)) : Dv.new a b = (⟨a, List.replicate b.toNat ByteArray.empty, [], [], 0, false⟩, 0) := by unfold Dv.new; rw [if_neg h]

set_option maxRecDepth 100000 in
theorem rnewD_any (a b : Int) (w : World) :
    Calls Try.prog 29 #[.int .i64 a, .int .i64 b] w fun e w' => ∃ v, e = .returned (.tuple #[v, .int .i64 (Dv.new a b).2]) ∧ DevN w' w.heap.size v (Dv.new a b).1 ∧ Below w.heap.size w w' := by
  obtain ⟨B, hB⟩ : ∃ B, w.heap.size = B := ⟨_, rfl⟩
  obtain ⟨w1, hw1⟩ : ∃ V, w.alloc (.cells #[.int .i64 0, .slice none 0 0, .slice none 0 0, .slice none 0 0, .int .i64 0, .bool false] 25) = V := ⟨_, rfl⟩
  have hb1 : Below B w w1 := by rw [← hw1, ← hB]; exact (Below.refl _ _).alloc (Nat.le_refl _) _
  have hs1 : w1.heap.size = B + 1 := by rw [← hw1]; simp [hB]
  have R1 := Lib.hid (show Box6 w1 B 25 (.int .i64 0) (.slice none 0 0) (.slice none 0 0) (.slice none 0 0) (.int .i64 0) (.bool false) from by rw [← hw1]; exact Box6.new _ _ _ _ _ _ _ _ _ hB)
  have HB1 := Lib.hid hb1
  have HW1 := Lib.hid hw1
  clear hb1 hw1
  rw [hB]
  by_cases k : a < 16 ∨ 64 < a ∨ b < 1 ∨ 512 < b
  · have HF := Lib.hid (Dv.new_no k)
    rw [HF.out]
    go_enter Try.func29, Try.ntmps29
    by_cases k1 : a < 16
    · have d1 : decide (a < 16) = true := by simpa using k1
      go_wp2_with fail
      rw [HW1.out]
      clear hB
      obtain ⟨s0, s1, s2, s3, s4, s5, _, _, _, _, _, _⟩ := R1.out.s
      exact bodyPost_ret (v := .tuple #[Dv.val Dv.none' (.slice none 0 0) (.slice none 0 0) (.slice none 0 0), .int .i64 1]) (by simp [results, Try.results29, go_sem, s0, s1, s2, s3, s4, s5, Dv.val, Dv.none']) rfl ⟨_, rfl, DevN.none' _ _, HB1.out⟩
    have d1 : decide (a < 16) = false := by simpa using k1
    by_cases k2 : 64 < a
    · have d2 : decide (64 < a) = true := by simpa using k2
      go_wp2_with fail
      rw [HW1.out]
      clear hB
      obtain ⟨s0, s1, s2, s3, s4, s5, _, _, _, _, _, _⟩ := R1.out.s
      exact bodyPost_ret (v := .tuple #[Dv.val Dv.none' (.slice none 0 0) (.slice none 0 0) (.slice none 0 0), .int .i64 1]) (by simp [results, Try.results29, go_sem, s0, s1, s2, s3, s4, s5, Dv.val, Dv.none']) rfl ⟨_, rfl, DevN.none' _ _, HB1.out⟩
    have d2 : decide (64 < a) = false := by simpa using k2
    by_cases k3 : b < 1
    · have d3 : decide (b < 1) = true := by simpa using k3
      go_wp2_with fail
      rw [HW1.out]
      clear hB
      obtain ⟨s0, s1, s2, s3, s4, s5, _, _, _, _, _, _⟩ := R1.out.s
      exact bodyPost_ret (v := .tuple #[Dv.val Dv.none' (.slice none 0 0) (.slice none 0 0) (.slice none 0 0), .int .i64 1]) (by simp [results, Try.results29, go_sem, s0, s1, s2, s3, s4, s5, Dv.val, Dv.none']) rfl ⟨_, rfl, DevN.none' _ _, HB1.out⟩
    have d3 : decide (b < 1) = false := by simpa using k3
    have d4 : decide (512 < b) = true := by simp; omega
    go_wp2_with fail
    rw [HW1.out]
    clear hB
    obtain ⟨s0, s1, s2, s3, s4, s5, _, _, _, _, _, _⟩ := R1.out.s
    exact bodyPost_ret (v := .tuple #[Dv.val Dv.none' (.slice none 0 0) (.slice none 0 0) (.slice none 0 0), .int .i64 1]) (by simp [results, Try.results29, go_sem, s0, s1, s2, s3, s4, s5, Dv.val, Dv.none']) rfl ⟨_, rfl, DevN.none' _ _, HB1.out⟩
  · have HF := Lib.hid (Dv.new_yes k)
    rw [HF.out]
    obtain ⟨n, rfl⟩ := Int.eq_ofNat_of_zero_le (show 0 ≤ b by omega)
    have hn : n ≤ 512 := by omega
    have d1 : decide (a < 16) = false := by simp; omega
    have d2 : decide (64 < a) = false := by simp; omega
    have d3 : decide ((n : Int) < 1) = false := by simp; omega
    have d4 : decide ((512 : Int) < (n : Int)) = false := by simp; omega
    have hmk := Dv.run_make n hn
    clear k
    go_enter Try.func29, Try.ntmps29
    clear HW1 HB1 R1 hs1 w1
    go_wp2_with fail
    have hs2 : (w.alloc (.cells #[.int .i64 a, .slice (some ⟨B + 1, 0, none⟩) n n, .slice none 0 0, .slice none 0 0, .int .i64 0, .bool false] 25)).heap.size = B + 1 := by simp [hB]
    have HM := Dv.made_own (w.alloc (.cells #[.int .i64 a, .slice (some ⟨B + 1, 0, none⟩) n n, .slice none 0 0, .slice none 0 0, .int .i64 0, .bool false] 25)) n hn B (by rw [hs2]; omega)
    rw [hs2] at HM
    have XR := (Box6.new w B 25 (.int .i64 a) (.slice (some ⟨B + 1, 0, none⟩) n n) (.slice none 0 0) (.slice none 0 0) (.int .i64 0) (.bool false) hB).alloc (.cells (Array.replicate n (Value.string ByteArray.empty)) 9)
    obtain ⟨s0, s1, s2, s3, s4, s5, _, _, _, _, _, _⟩ := XR.s
    have hb2 : Below B w ((w.alloc (.cells #[.int .i64 a, .slice (some ⟨B + 1, 0, none⟩) n n, .slice none 0 0, .slice none 0 0, .int .i64 0, .bool false] 25)).alloc (.cells (Array.replicate n (Value.string ByteArray.empty)) 9)) := by
      rw [← hB]; exact ((Below.refl _ _).alloc (Nat.le_refl _) _).alloc (by simp) _
    clear hB
    exact bodyPost_ret (v := .tuple #[.agg #[.int .i64 a, .slice (some ⟨B + 1, 0, none⟩) n n, .slice none 0 0, .slice none 0 0, .int .i64 0, .bool false], .int .i64 0]) (by simp [results, Try.results29, go_sem, s0, s1, s2, s3, s4, s5]) rfl
      ⟨_, rfl, ⟨⟨_, _, _, rfl, by simpa using HM, World.ownsRow_nil _ _ _ _, World.ownsRow_nil _ _ _ _⟩, by simp; omega, by simp, by simp, fun s hs => by have := (List.mem_replicate.1 hs).2; subst this; simp⟩, hb2⟩

end Go.Proofs.Ythdkidiemhfffaa
