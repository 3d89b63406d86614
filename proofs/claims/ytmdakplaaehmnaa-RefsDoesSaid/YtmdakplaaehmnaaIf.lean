/-
  Contracts of the reference of refs: Add.
-/
import Derived.Test.YtmdakplaaehmnaaIe
import Derived.Test.YtmdakplaaehmnaaCut3
import Derived.Deep.AppendLies
import Derived.Deep.RegionLaw
import Derived.Laws.AppendOwnNone
namespace Go.Proofs.Ytmdakplaaehmnaa
open Go.RowKit
set_option maxHeartbeats 4000000

/-- 'append([]T(nil), x...)' in a list of operations -/
theorem wpList_append_nil3 {P : Program} {w : World} {ops : Array Oper} {rest : List Oper} {o : Oper} {a : Act} {Q : Exit → Act → World → Prop}
    (hg : o.guard = none) (x : Operand) (t : TypeId) (hop : o.op = Op.call { callee := Callee.builtin Builtin.append, args := #[.const (.slice none 0 0), x], argTypes := #[t, t] })
    (base : Nat) (e : TypeId) (i : TypeInfo) (z : Value) (size bytes : Nat) (h1 : P.underlying t = some (.slice e)) (h2 : P.info? e = some i) (h3 : i.zero = some z) (h4 : i.size = size) (h5 : i.bytes = bytes) (h6 : z.cells.size = size) (h7 : 0 < size)
    (ao : Option Addr) (m c : Nat) (news : List Value) (hx : a.eval x = .slice ao m c) (hao : ao = none → m = 0 ∧ c = 0) (hn : news.length = m * size) (hc : ∀ ad, ao = some ad → ∀ j u, news[j]? = some u → w.cell? (ad.add j) = some u) (h1c : ∀ u ∈ news, u.oneCell' = true)
    (b1 : m ≤ maxLen) (b2 : m * bytes ≤ 140737488355328) (hB : base ≤ w.heap.size)
    (hK : ∀ v' w', w'.ownsRow base e size v' m news → w.grownBy w' none → wpList P ops Q rest (a.put o.dst v') w') :
    wpList P ops Q (o :: rest) a w := by
  refine wpList_plain hg fun K hK2 => ?_
  have hs : a.eval (.const (.slice none 0 0)) = .slice none 0 0 := rfl
  cases ao with
  | none =>
    obtain ⟨rfl, rfl⟩ := hao rfl
    obtain rfl : news = [] := List.eq_nil_of_length_eq_zero (by simpa using hn)
    have hrun := run_append_owned_none (P := P) (w := w) base t o.type e i size h1 h2 (.slice none 0 0) 0 [] (World.ownsRow_nil w base e size)
    unfold Oper.wp
    simp [execOp, hop, resolve, invoke, builtin, hs, hx, hrun, Result.andThen]
    exact hK2 _ _ (hK _ _ (World.ownsRow_nil w base e size) ⟨rfl, rfl, rfl, Nat.le_refl _, fun _ _ _ => rfl⟩)
  | some ad =>
    obtain ⟨v', w', hrun, r1, r2, _⟩ := run_append_own (P := P) w base t o.type e i z size bytes h1 h2 h3 h4 h5 h6 h7 (.slice none 0 0) 0 [] (World.ownsRow_nil w base e size) ad m c news hn (hc ad rfl) h1c (by rw [Nat.zero_add]; exact b1) (by rw [Nat.zero_add]; exact b2) hB
    rw [Nat.zero_add, List.nil_append] at r1
    unfold Oper.wp
    simp [execOp, hop, resolve, invoke, builtin, hs, hx, hrun, Result.andThen]
    exact hK2 _ _ (hK v' w' r1 r2)

theorem cell_frozen_one {w : World} {b : Nat} {x : Value} {t : TypeId} (h : w.heap[b]? = some (.cells #[x] t (0, 0))) : w.cell? ⟨b, 0, none⟩ = some x ∧ w.frozen? ⟨b, 0, none⟩ = false := by
  constructor
  · simp [World.cell?, h]
  · simp [World.frozen?, h]
theorem Im.idx_cells {w : World} {A : Option Addr} {n c : Nat} {l : List Im.Rw} (h : RowsIn w A n c l) (hA : A = none → c = 0) :
    (A = none → n = 0 ∧ c = 0) ∧ (∀ ad, A = some ad → ∀ j u, (Im.cells l)[j]? = some u → w.cell? (ad.add j) = some u) := by
  obtain ⟨h1, h2, h3⟩ := h
  refine ⟨fun e => ?_, fun ad e j u hu => ?_⟩
  · by_cases h0 : 0 < n
    · obtain ⟨g, o, hq, _⟩ := h3 h0
      rw [e] at hq; cases hq
    · exact ⟨by omega, hA e⟩
  · have hj : j < (Im.cells l).length := (List.getElem?_eq_some_iff.1 hu).1
    rw [Im.cells_length] at hj
    obtain ⟨g, o, hq, _, hc⟩ := h3 (by omega)
    rw [e] at hq
    injection hq with hq
    subst hq
    have e1 : (⟨g, o, none⟩ : Addr).add j = ⟨g, o + j, none⟩ := by unfold Addr.add; split <;> simp_all
    rw [e1]
    obtain ⟨i, hi, hr⟩ : ∃ i, i < l.length ∧ (j = i * 3 ∨ j = i * 3 + 1 ∨ j = i * 3 + 2) := ⟨j / 3, by omega, by omega⟩
    have hg := Im.cells_get l i hi
    have hc' := hc i hi
    rcases hr with rfl | rfl | rfl
    · rw [hg.1] at hu; injection hu with hu; rw [← hu]; exact hc'.1
    · rw [hg.2.1] at hu; injection hu with hu; rw [← hu, ← Nat.add_assoc]; exact hc'.2.1
    · rw [hg.2.2] at hu; injection hu with hu; rw [← hu, ← Nat.add_assoc]; exact hc'.2.2

theorem Im.add_casesD (l : List Im.Rw) (s : List UInt8) {D : Int} (hD : Dm.sum s = D) :
    (Im.chk l ≠ 0 ∧ Im.add l s = ([], false, 2)) ∨ (Im.chk l = 0 ∧ 16384 < s.length ∧ Im.add l s = ([], false, 4)) ∨
    (Im.chk l = 0 ∧ s.length ≤ 16384 ∧ ∃ h : Im.find l (D) < l.length, l[Im.find l (D)].1 = D ∧
      ((l[Im.find l (D)].2.2 ≠ s ∧ Im.add l s = ([], false, 8)) ∨ (l[Im.find l (D)].2.2 = s ∧ l[Im.find l (D)].2.1 = 2147483646 ∧ Im.add l s = ([], false, 4)) ∨
       (l[Im.find l (D)].2.2 = s ∧ l[Im.find l (D)].2.1 ≠ 2147483646 ∧ Im.add l s = (l.set (Im.find l (D)) (D, l[Im.find l (D)].2.1 + 1, s), false, 0)))) ∨
    (Im.chk l = 0 ∧ s.length ≤ 16384 ∧ (∀ h : Im.find l (D) < l.length, D < l[Im.find l (D)].1) ∧
      ((l.length = 1024 ∧ Im.add l s = ([], false, 4)) ∨ (l.length < 1024 ∧ Im.add l s = (l.take (Im.find l (D)) ++ (D, 1, s) :: l.drop (Im.find l (D)), true, 0)))) := by
  subst hD
  exact Im.add_cases l s

theorem Im.cells_setc (l : List Im.Rw) (k : Int) : ∀ (j : Nat) (hj : j < l.length), Im.cells (l.set j (l[j].1, k, l[j].2.2)) = (Im.cells l).set (j * 3 + 1) (.int .i64 k) := by
  intro j hj
  have hc := Im.cells_get l j hj
  have hlen := Im.cells_length l
  rw [Im.cells_set]
  refine List.ext_getElem? fun i => ?_
  simp only [List.getElem?_set, List.length_set, hlen]
  by_cases h1 : j * 3 + 2 = i
  · subst h1
    rw [if_pos rfl, if_pos (by omega), if_neg (by omega), hc.2.2]
  by_cases h2 : j * 3 + 1 = i
  · subst h2
    rw [if_neg (by omega), if_pos rfl, if_pos rfl]
  by_cases h3 : j * 3 = i
  · subst h3
    rw [if_neg (by omega), if_neg (by omega), if_pos rfl, if_pos (by omega), if_neg (by omega), hc.1]
  · rw [if_neg h1, if_neg h2, if_neg h3, if_neg h2]
theorem Im.cells_put (l : List Im.Rw) (x : Im.Rw) (j : Nat) : Im.cells (l.take j ++ x :: l.drop j) = (Im.cells l).take (j * 3) ++ [.int .i64 x.1, .int .i64 x.2.1, .string (Cm.b x.2.2)] ++ (Im.cells l).drop (j * 3) := by
  rw [Im.cells_append, Im.cells_cons, Im.cells_take, Im.cells_drop]; simp
theorem RowsOwn.form {w : World} {B : Nat} {v : Value} {l : List Im.Rw} (h : RowsOwn w B v l) (hn : 0 < l.length) : ∃ g c, v = .slice (some ⟨g, 0, none⟩) l.length c ∧ B ≤ g ∧ g < w.heap.size ∧ l.length ≤ c := by
  rcases h.2 with ⟨_, h0⟩ | ⟨g, cap, cur, hv, hB, hg, hn, _⟩
  · omega
  · exact ⟨g, cap, hv, hB, lt_of_block hg, hn⟩
theorem RowsOwn.ne {w : World} {B g c n b : Nat} {x : Value} {l : List Im.Rw} (h : RowsOwn w B (.slice (some ⟨g, 0, none⟩) n c) l) (hx : w.heap[b]? = some (.cells #[x] 25 (0, 0))) : g ≠ b := by
  rintro rfl
  rcases h.2 with ⟨h0, _⟩ | ⟨g', cap, cur, hv, hB, hg, hn, _⟩
  · cases h0
  · injection hv with hv
    injection hv with hv
    injection hv with hv
    subst hv
    rw [hg] at hx
    injection hx with hx
    injection hx with _ hx
    exact absurd hx (by decide)
theorem RowsOwn.ne' {w : World} {B b : Nat} {v x : Value} {l : List Im.Rw} (h : RowsOwn w B v l) (hv : v.ownBlock = some b) (hx : w.heap[b]? = some (.cells #[x] 25 (0, 0))) : False := by
  rcases h.2 with ⟨rfl, _⟩ | ⟨g', cap, cur, rfl, hB, hg, hn, _⟩
  · cases hv
  · injection hv with hv
    subst hv
    rw [hg] at hx
    injection hx with hx
    injection hx with _ hx
    exact absurd hx (by decide)
theorem RowsOwn.setc {w : World} {B g c n : Nat} {l : List Im.Rw} (h : RowsOwn w B (.slice (some ⟨g, 0, none⟩) n c) l) (hn : l.length = n) {j : Nat} (hj : j < l.length) (k : Int) :
    RowsOwn (w.setCell ⟨g, j * 3 + 1, none⟩ (.int .i64 k)) B (.slice (some ⟨g, 0, none⟩) n c) (l.set j (l[j].1, k, l[j].2.2)) := by
  subst hn
  unfold RowsOwn
  rw [Im.cells_setc, List.length_set]
  exact (World.ownsRow.stored h (j * 3 + 1) (.int .i64 k)).1

theorem RowsOwn.setFar {w : World} {B g c n : Nat} {l : List Im.Rw} (h : RowsOwn w B (.slice (some ⟨g, 0, none⟩) n c) l) {a : Addr} (ha : g ≠ a.block) (u : Value) : RowsOwn (w.setCell a u) B (.slice (some ⟨g, 0, none⟩) n c) l :=
  ownsRow_setCell_other h (fun e => ha (by injection e)) u

set_option maxRecDepth 100000 in
theorem raddI_any (A : Option Addr) (n c : Nat) (l : List Im.Rw) (S : ByteArray) (w : World) (hl : RowsIn w A n c l) (hA : A = none → c = 0) (hz : ∀ x ∈ l, x.2.2.length ≤ 9223372036854775807) (hn : n ≤ 17592186044416) (hS : S.size ≤ maxLen) :
    Calls Try.prog 23 #[.agg #[.slice A n c], .string S] w fun e w' => ∃ v, e = .returned (.tuple #[.agg #[v], .bool (Im.add l S.data.toList).2.1, .int .i64 (Im.add l S.data.toList).2.2]) ∧ RowsOwn w' w.heap.size v (Im.add l S.data.toList).1 ∧ Below w.heap.size w w' := by
  obtain ⟨i0, hi, hz0, hz1, hz2⟩ := info_parts info_row
  have hln := hl.1
  obtain ⟨B, hB⟩ : ∃ B, w.heap.size = B := ⟨_, rfl⟩
  obtain ⟨w1, hw1⟩ : ∃ V, (w.alloc (.cells #[.slice A n c] 25)).alloc (.cells #[.slice none 0 0] 25) = V := ⟨_, rfl⟩
  have hb1 : Below B w w1 := by rw [← hw1, ← hB]; exact ((Below.refl _ _).alloc (Nat.le_refl _) _).alloc (by simp) _
  have hs1 : w1.heap.size = B + 2 := by rw [← hw1]; simp [hB]
  have g3 : w1.cell? ⟨B, 0, none⟩ = some (.slice A n c) := by
    rw [← hw1, ← hB, World.cell?_alloc_lt _ _ _ (by simp), cell_new_at _ _ _ _ rfl]; rfl
  have x4 : w1.heap[B + 1]? = some (.cells #[.slice none 0 0] 25 (0, 0)) := by
    have e : (w.alloc (.cells #[.slice A n c] 25)).heap.size = B + 1 := by simp [hB]
    rw [← hw1, ← e]; exact heap_alloc_new _ _
  obtain ⟨s, hs⟩ : ∃ s, S.data.toList = s := ⟨_, rfl⟩
  have hss : S.size = s.length := by rw [← hs]; exact Array.length_toList.symm
  obtain ⟨D, hD⟩ : ∃ D, Dm.sum s = D := ⟨_, rfl⟩
  have hsum := fun V => rsum_any S V hS
  rw [hs, hD] at hsum
  rw [hs]
  have CS := Lib.hid hsum
  have CK := Lib.hid (fun V (hV : Below w.heap.size w V) => rchkI_any A n c l V (hl.below hV) hz hn)
  have CF := Lib.hid (fun V (hV : Below w.heap.size w V) => rfindI_any A n c l D V (hl.below hV) hn)
  have HL := Lib.hid hl
  have HLN := Lib.hid hln
  have X4 := Lib.hid x4
  have HW1 := Lib.hid hw1
  have HB1 := Lib.hid hb1
  have HBE := Lib.hid hB
  have HSE := Lib.hid hs
  have HSS := Lib.hid hss
  have HDE := Lib.hid hD
  have HAN := Lib.hid hA
  clear hl hw1 hb1 hln x4 hz hs hss hD hsum hA
  rw [hB] at CK CF ⊢
  go_enter Try.func23, Try.ntmps23
  go_wp2_with fail
  rw [HW1.out]
  clear hB
  rcases Im.add_casesD l s HDE.out with ⟨hc, hF⟩ | ⟨hc, hlong, hF⟩ | ⟨hc, hshort, hfi, hfe, hR⟩ | ⟨hc, hshort, hno, hR⟩
  · rw [Im.chk_two hc] at CK
    have HF := Lib.hid hF
    clear hc hF
    go_wp2_with (first | (go_at_call 19; with_reducible refine (CK.out _ HB1.out).mono ?_; rintro e w2 ⟨rfl, hb2⟩; have HB2 := Lib.hid (show Below B w w2 from HB1.out.trans (hb2.mono (by omega))); have g5 := (hb2.cell (p := ⟨B, 0, none⟩) (by show B < _; omega)).trans g3; have x5 := (hb2.block (B + 1) (by omega)).trans X4.out; obtain ⟨t5, f5⟩ := cell_frozen_one x5; have X5 := Lib.hid x5; clear x5; have hs2 := hb2.size; clear hb2) | fail)
    have r5 := World.cell?_setCell_same _ _ (.slice none 0 0) t5
    exact bodyPost_ret (v := .tuple #[.agg #[.slice none 0 0], .bool false, .int .i64 2]) (by simp [results, Try.results23, go_sem, r5]) rfl ⟨.slice none 0 0, by rw [HF.out], by rw [HF.out]; exact RowsOwn.nil _ _, HB2.out.setCell (by show B ≤ B + 1; omega) _⟩
  · rw [hc] at CK
    have HF := Lib.hid hF
    have e1 : decide ((16384 : Int) < (S.size : Int)) = true := by have := HSS.out; simp; omega
    clear hc hF hlong
    go_wp2_with (first | (go_at_call 19; with_reducible refine (CK.out _ HB1.out).mono ?_; rintro e w2 ⟨rfl, hb2⟩; have HB2 := Lib.hid (show Below B w w2 from HB1.out.trans (hb2.mono (by omega))); have g5 := (hb2.cell (p := ⟨B, 0, none⟩) (by show B < _; omega)).trans g3; have x5 := (hb2.block (B + 1) (by omega)).trans X4.out; obtain ⟨t5, f5⟩ := cell_frozen_one x5; have X5 := Lib.hid x5; clear x5; have hs2 := hb2.size; clear hb2) | fail)
    have r5 := World.cell?_setCell_same _ _ (.slice none 0 0) t5
    exact bodyPost_ret (v := .tuple #[.agg #[.slice none 0 0], .bool false, .int .i64 4]) (by simp [results, Try.results23, go_sem, r5]) rfl ⟨.slice none 0 0, by rw [HF.out], by rw [HF.out]; exact RowsOwn.nil _ _, HB2.out.setCell (by show B ≤ B + 1; omega) _⟩
  · have e1 : decide ((16384 : Int) < (S.size : Int)) = false := by have := HSS.out; simp; omega
    have hnl : n ≤ 1024 := by have := (Im.chk_zero hc).1; have := HLN.out; omega
    rw [hc] at CK
    have hhas : Im.has l D = true := by unfold Im.has; rw [List.getElem?_eq_getElem hfi]; simpa using hfe
    rw [hhas] at CF
    obtain ⟨p, hp⟩ : ∃ p, Im.find l D = p := ⟨_, rfl⟩
    rw [hp] at CF
    have hpl : p < l.length := by rw [← hp]; exact hfi
    obtain ⟨x, hx⟩ : ∃ x, l[p] = x := ⟨_, rfl⟩
    have hxx : l[Im.find l D] = x := by simp only [hp]; exact hx
    rw [hxx, hp] at hR
    rw [hxx] at hfe
    obtain ⟨a, ct, t⟩ := x
    simp only at hR hfe
    subst hfe
    obtain ⟨T, hT⟩ : ∃ T, Cm.b t = T := ⟨_, rfl⟩
    have hTl : T.data.toList = t := by rw [← hT, Cm.b_list]
    have hpn : p < n := by rw [← HLN.out]; exact hpl
    have HPL := Lib.hid hpl
    have HX := Lib.hid hx
    have HTT := Lib.hid hT
    have j1 : (0 : Int) ≤ (p : Int) := by omega
    have j2 : (p : Int) < (n : Int) := by omega
    clear hhas hp hx hxx hT hfi
    rcases hR with ⟨hne, hF⟩ | ⟨rfl, hct, hF⟩ | ⟨rfl, hct, hF⟩
    · have q1 : (T.toList == S.toList) = false := str_ne (fun e => hne (by rw [← hTl, e, HSE.out]))
      have HF := Lib.hid hF
      clear hF hne hc hTl
      go_wp2_with (first | (go_at_call 19; with_reducible refine (CK.out _ HB1.out).mono ?_; rintro e w2 ⟨rfl, hb2⟩; have HB2 := Lib.hid (show Below B w w2 from HB1.out.trans (hb2.mono (by omega))); have g5 := (hb2.cell (p := ⟨B, 0, none⟩) (by show B < _; omega)).trans g3; have x5 := (hb2.block (B + 1) (by omega)).trans X4.out; obtain ⟨t5, f5⟩ := cell_frozen_one x5; have X5 := Lib.hid x5; clear x5; have hs2 := hb2.size; clear hb2) | (go_at_call 33; with_reducible refine (CS.out _).mono ?_; rintro e w3 ⟨rfl, rfl⟩) | (go_at_call 40; with_reducible refine (CF.out _ HB2.out).mono ?_; rintro e w3 ⟨rfl, hb3⟩; have HB3 := Lib.hid (show Below B w w3 from HB2.out.trans (hb3.mono (HBE.out ▸ HB2.out.size))); have g6 := (hb3.cell (p := ⟨B, 0, none⟩) (by show B < _; omega)).trans g5; have x6 := (hb3.block (B + 1) (by omega)).trans X5.out; obtain ⟨t6, f6⟩ := cell_frozen_one x6; have X6 := Lib.hid x6; clear x6; have hs3 := hb3.size; clear hb3) | (at_builtin; refine wpList_append_nil3 rfl _ 23 rfl B 37 i0 (.agg #[.int .i64 0, .int .i64 0, .string ByteArray.empty]) 3 32 Try.underlying23 hi hz0 hz1 hz2 rfl (by decide) A n c (Im.cells l) rfl (Im.idx_cells HL.out HAN.out).1 (by rw [Im.cells_length, HLN.out]) (Im.idx_cells (HL.out.below (by rw [HBE.out]; exact HB3.out)) HAN.out).2 (Im.cells_one l) (by unfold maxLen; omega) (by omega) (by have := HBE.out; have := HB3.out.size; omega) ?_; intro v4 w4 ho4 hg4; have hO4 : RowsOwn w4 B v4 l := (by unfold RowsOwn; rw [HLN.out]; exact ho4); obtain ⟨g4, c4, hv4, hgB, hgl, hgc⟩ := RowsOwn.form hO4 (Nat.lt_of_le_of_lt (Nat.zero_le _) HPL.out); rw [HLN.out] at hv4 hgc; subst hv4; obtain ⟨⟨y0, y1, y2⟩, fz⟩ := RowsOwn.rd hO4 HLN.out HPL.out; rw [HX.out] at y0 y1 y2; simp only at y0 y1 y2; rw [HTT.out] at y2; have fz1 := fz (p * 3 + 1); have hg4b : B ≤ w4.heap.size := (by omega); have x7 := (hg4.block (B + 1) (by omega) (by simp)).trans X6.out; obtain ⟨t7, f7⟩ := cell_frozen_one x7; have hgne : g4 ≠ B + 1 := RowsOwn.ne hO4 x7; have X7 := Lib.hid x7; have HO4 := Lib.hid hO4; have HB4 := Lib.hid (show Below B w w4 from HB3.out.grown hg4 (by omega) (fun _ h => by cases h)); clear ho4 hO4 hg4 x7 fz) | fail)
      have r7 := World.cell?_setCell_same _ _ (.slice none 0 0) t7
      exact bodyPost_ret (v := .tuple #[.agg #[.slice none 0 0], .bool false, .int .i64 8]) (by simp [results, Try.results23, go_sem, r7]) rfl ⟨.slice none 0 0, by rw [HF.out], by rw [HF.out]; exact RowsOwn.nil _ _, HB4.out.setCell (by show B ≤ B + 1; omega) _⟩
    · have q1 : (T.toList == S.toList) = true := str_same (bytes_ext (by rw [hTl, HSE.out]))
      have HF := Lib.hid hF
      subst hct
      clear hF hc hTl
      go_wp2_with (first | (go_at_call 19; with_reducible refine (CK.out _ HB1.out).mono ?_; rintro e w2 ⟨rfl, hb2⟩; have HB2 := Lib.hid (show Below B w w2 from HB1.out.trans (hb2.mono (by omega))); have g5 := (hb2.cell (p := ⟨B, 0, none⟩) (by show B < _; omega)).trans g3; have x5 := (hb2.block (B + 1) (by omega)).trans X4.out; obtain ⟨t5, f5⟩ := cell_frozen_one x5; have X5 := Lib.hid x5; clear x5; have hs2 := hb2.size; clear hb2) | (go_at_call 33; with_reducible refine (CS.out _).mono ?_; rintro e w3 ⟨rfl, rfl⟩) | (go_at_call 40; with_reducible refine (CF.out _ HB2.out).mono ?_; rintro e w3 ⟨rfl, hb3⟩; have HB3 := Lib.hid (show Below B w w3 from HB2.out.trans (hb3.mono (HBE.out ▸ HB2.out.size))); have g6 := (hb3.cell (p := ⟨B, 0, none⟩) (by show B < _; omega)).trans g5; have x6 := (hb3.block (B + 1) (by omega)).trans X5.out; obtain ⟨t6, f6⟩ := cell_frozen_one x6; have X6 := Lib.hid x6; clear x6; have hs3 := hb3.size; clear hb3) | (at_builtin; refine wpList_append_nil3 rfl _ 23 rfl B 37 i0 (.agg #[.int .i64 0, .int .i64 0, .string ByteArray.empty]) 3 32 Try.underlying23 hi hz0 hz1 hz2 rfl (by decide) A n c (Im.cells l) rfl (Im.idx_cells HL.out HAN.out).1 (by rw [Im.cells_length, HLN.out]) (Im.idx_cells (HL.out.below (by rw [HBE.out]; exact HB3.out)) HAN.out).2 (Im.cells_one l) (by unfold maxLen; omega) (by omega) (by have := HBE.out; have := HB3.out.size; omega) ?_; intro v4 w4 ho4 hg4; have hO4 : RowsOwn w4 B v4 l := (by unfold RowsOwn; rw [HLN.out]; exact ho4); obtain ⟨g4, c4, hv4, hgB, hgl, hgc⟩ := RowsOwn.form hO4 (Nat.lt_of_le_of_lt (Nat.zero_le _) HPL.out); rw [HLN.out] at hv4 hgc; subst hv4; obtain ⟨⟨y0, y1, y2⟩, fz⟩ := RowsOwn.rd hO4 HLN.out HPL.out; rw [HX.out] at y0 y1 y2; simp only at y0 y1 y2; rw [HTT.out] at y2; have fz1 := fz (p * 3 + 1); have hg4b : B ≤ w4.heap.size := (by omega); have x7 := (hg4.block (B + 1) (by omega) (by simp)).trans X6.out; obtain ⟨t7, f7⟩ := cell_frozen_one x7; have hgne : g4 ≠ B + 1 := RowsOwn.ne hO4 x7; have X7 := Lib.hid x7; have HO4 := Lib.hid hO4; have HB4 := Lib.hid (show Below B w w4 from HB3.out.grown hg4 (by omega) (fun _ h => by cases h)); clear ho4 hO4 hg4 x7 fz) | fail)
      have r7 := World.cell?_setCell_same _ _ (.slice none 0 0) t7
      exact bodyPost_ret (v := .tuple #[.agg #[.slice none 0 0], .bool false, .int .i64 4]) (by simp [results, Try.results23, go_sem, r7]) rfl ⟨.slice none 0 0, by rw [HF.out], by rw [HF.out]; exact RowsOwn.nil _ _, HB4.out.setCell (by show B ≤ B + 1; omega) _⟩
    · have q1 : (T.toList == S.toList) = true := str_same (bytes_ext (by rw [hTl, HSE.out]))
      obtain ⟨_, _, hct0, hct1⟩ := (Im.chk_zero hc).2.1 _ (List.getElem_mem HPL.out)
      rw [HX.out] at hct0 hct1
      simp only at hct0 hct1
      have q2 : (ct == 2147483646) = false := beq_eq_false_iff_ne.2 hct
      have HF := Lib.hid hF
      clear hF hc hTl
      go_wp2_with (first | (go_at_call 19; with_reducible refine (CK.out _ HB1.out).mono ?_; rintro e w2 ⟨rfl, hb2⟩; have HB2 := Lib.hid (show Below B w w2 from HB1.out.trans (hb2.mono (by omega))); have g5 := (hb2.cell (p := ⟨B, 0, none⟩) (by show B < _; omega)).trans g3; have x5 := (hb2.block (B + 1) (by omega)).trans X4.out; obtain ⟨t5, f5⟩ := cell_frozen_one x5; have X5 := Lib.hid x5; clear x5; have hs2 := hb2.size; clear hb2) | (go_at_call 33; with_reducible refine (CS.out _).mono ?_; rintro e w3 ⟨rfl, rfl⟩) | (go_at_call 40; with_reducible refine (CF.out _ HB2.out).mono ?_; rintro e w3 ⟨rfl, hb3⟩; have HB3 := Lib.hid (show Below B w w3 from HB2.out.trans (hb3.mono (HBE.out ▸ HB2.out.size))); have g6 := (hb3.cell (p := ⟨B, 0, none⟩) (by show B < _; omega)).trans g5; have x6 := (hb3.block (B + 1) (by omega)).trans X5.out; obtain ⟨t6, f6⟩ := cell_frozen_one x6; have X6 := Lib.hid x6; clear x6; have hs3 := hb3.size; clear hb3) | (at_builtin; refine wpList_append_nil3 rfl _ 23 rfl B 37 i0 (.agg #[.int .i64 0, .int .i64 0, .string ByteArray.empty]) 3 32 Try.underlying23 hi hz0 hz1 hz2 rfl (by decide) A n c (Im.cells l) rfl (Im.idx_cells HL.out HAN.out).1 (by rw [Im.cells_length, HLN.out]) (Im.idx_cells (HL.out.below (by rw [HBE.out]; exact HB3.out)) HAN.out).2 (Im.cells_one l) (by unfold maxLen; omega) (by omega) (by have := HBE.out; have := HB3.out.size; omega) ?_; intro v4 w4 ho4 hg4; have hO4 : RowsOwn w4 B v4 l := (by unfold RowsOwn; rw [HLN.out]; exact ho4); obtain ⟨g4, c4, hv4, hgB, hgl, hgc⟩ := RowsOwn.form hO4 (Nat.lt_of_le_of_lt (Nat.zero_le _) HPL.out); rw [HLN.out] at hv4 hgc; subst hv4; obtain ⟨⟨y0, y1, y2⟩, fz⟩ := RowsOwn.rd hO4 HLN.out HPL.out; rw [HX.out] at y0 y1 y2; simp only at y0 y1 y2; rw [HTT.out] at y2; have fz1 := fz (p * 3 + 1); have hg4b : B ≤ w4.heap.size := (by omega); have x7 := (hg4.block (B + 1) (by omega) (by simp)).trans X6.out; obtain ⟨t7, f7⟩ := cell_frozen_one x7; have hgne : g4 ≠ B + 1 := RowsOwn.ne hO4 x7; have X7 := Lib.hid x7; have HO4 := Lib.hid hO4; have HB4 := Lib.hid (show Below B w w4 from HB3.out.grown hg4 (by omega) (fun _ h => by cases h)); clear ho4 hO4 hg4 x7 fz) | fail)
      have t8 := (World.cell?_setCell_other w4 ⟨g4, p * 3 + 1, none⟩ ⟨B + 1, 0, none⟩ (.int .i64 (ct + 1)) (fun e => hgne (congrArg Addr.block e))).trans t7
      have r7 := World.cell?_setCell_same _ _ (.slice (some ⟨g4, 0, none⟩) n c4) t8
      have HO8 := Lib.hid (show RowsOwn ((w4.setCell ⟨g4, p * 3 + 1, none⟩ (.int .i64 (ct + 1))).setCell ⟨B + 1, 0, none⟩ (.slice (some ⟨g4, 0, none⟩) n c4)) B (.slice (some ⟨g4, 0, none⟩) n c4) (l.set p (a, ct + 1, t)) from by
        have h := (RowsOwn.setc HO4.out HLN.out HPL.out (ct + 1)).setFar (a := ⟨B + 1, 0, none⟩) hgne (.slice (some ⟨g4, 0, none⟩) n c4)
        rw [HX.out] at h
        exact h)
      exact bodyPost_ret (v := .tuple #[.agg #[.slice (some ⟨g4, 0, none⟩) n c4], .bool false, .int .i64 0]) (by simp [results, Try.results23, go_sem, r7]) rfl ⟨.slice (some ⟨g4, 0, none⟩) n c4, by rw [HF.out], by rw [HF.out]; exact HO8.out, (HB4.out.setCell (by show B ≤ g4; omega) _).setCell (by show B ≤ B + 1; omega) _⟩
  · have e1 : decide ((16384 : Int) < (S.size : Int)) = false := by have := HSS.out; simp; omega
    have hnl : n ≤ 1024 := by have := (Im.chk_zero hc).1; have := HLN.out; omega
    rw [hc] at CK
    have hhas : Im.has l D = false := by
      unfold Im.has
      by_cases hf : Im.find l D < l.length
      · rw [List.getElem?_eq_getElem hf]
        have := hno hf
        simp; omega
      · rw [List.getElem?_eq_none (by omega)]; rfl
    rw [hhas] at CF
    obtain ⟨p, hp⟩ : ∃ p, Im.find l D = p := ⟨_, rfl⟩
    have hpn : p ≤ n := by rw [← hp, ← HLN.out]; exact Im.find_le l D
    rw [hp] at CF hR
    clear hhas hp hno
    rcases hR with ⟨hlen, hF⟩ | ⟨hlen, hF⟩
    · have HF := Lib.hid hF
      rw [HLN.out] at hlen
      have q2 : ((n : Int) == 1024) = true := by rw [hlen]; rfl
      clear hF hc hlen
      go_wp2_with (first | (go_at_call 19; with_reducible refine (CK.out _ HB1.out).mono ?_; rintro e w2 ⟨rfl, hb2⟩; have HB2 := Lib.hid (show Below B w w2 from HB1.out.trans (hb2.mono (by omega))); have g5 := (hb2.cell (p := ⟨B, 0, none⟩) (by show B < _; omega)).trans g3; have x5 := (hb2.block (B + 1) (by omega)).trans X4.out; obtain ⟨t5, f5⟩ := cell_frozen_one x5; have X5 := Lib.hid x5; clear x5; have hs2 := hb2.size; clear hb2) | (go_at_call 33; with_reducible refine (CS.out _).mono ?_; rintro e w3 ⟨rfl, rfl⟩) | (go_at_call 40; with_reducible refine (CF.out _ HB2.out).mono ?_; rintro e w3 ⟨rfl, hb3⟩; have HB3 := Lib.hid (show Below B w w3 from HB2.out.trans (hb3.mono (HBE.out ▸ HB2.out.size))); have g6 := (hb3.cell (p := ⟨B, 0, none⟩) (by show B < _; omega)).trans g5; have x6 := (hb3.block (B + 1) (by omega)).trans X5.out; obtain ⟨t6, f6⟩ := cell_frozen_one x6; have X6 := Lib.hid x6; clear x6; have hs3 := hb3.size; clear hb3) | (at_builtin; refine wpList_append_nil3 rfl _ 23 rfl B 37 i0 (.agg #[.int .i64 0, .int .i64 0, .string ByteArray.empty]) 3 32 Try.underlying23 hi hz0 hz1 hz2 rfl (by decide) A n c (Im.cells l) rfl (Im.idx_cells HL.out HAN.out).1 (by rw [Im.cells_length, HLN.out]) (Im.idx_cells (HL.out.below (by rw [HBE.out]; exact HB3.out)) HAN.out).2 (Im.cells_one l) (by unfold maxLen; omega) (by omega) (by have := HBE.out; have := HB3.out.size; omega) ?_; intro v4 w4 ho4 hg4; have hO4 : RowsOwn w4 B v4 l := (by unfold RowsOwn; rw [HLN.out]; exact ho4); obtain ⟨A4, c4, hv4, _⟩ := own_rows hO4; rw [HLN.out] at hv4; subst hv4; have x7 := (hg4.block (B + 1) (by omega) (by simp)).trans X6.out; obtain ⟨t7, f7⟩ := cell_frozen_one x7; have hs4 := hg4.size; have X7 := Lib.hid x7; have HR4 := Lib.hid ho4; have HO4 := Lib.hid hO4; have HB4 := Lib.hid (show Below B w w4 from HB3.out.grown hg4 (by omega) (fun _ h => by cases h)); clear ho4 hO4 hg4 x7) | (at_builtin; refine wpList_append_lies _ rfl _ _ 23 rfl B 37 i0 (.agg #[.int .i64 0, .int .i64 0, .string ByteArray.empty]) 3 32 Try.underlying23 hi hz0 hz1 hz2 rfl (by decide) _ _ _ rfl (World.ownsRow.alloc HR4.out _) ⟨w4.heap.size, 0, none⟩ 1 1 [.int .i64 0, .int .i64 0, .string ByteArray.empty] rfl rfl (cell_three_new _ _ _ _ _) (by simp [Value.oneCell']) (by omega) (by unfold maxLen; omega) (by omega) (by simp; omega) _ rfl ?_; intro gq cap5 w5 hown5 hgrow5 hat5 hlt5; have HO5 := Lib.hid hown5; have HG5 := Lib.hid hgrow5; have HA5 := Lib.hid hat5; clear hown5 hgrow5 hat5) | fail)
      have r7 := World.cell?_setCell_same _ _ (.slice none 0 0) t7
      exact bodyPost_ret (v := .tuple #[.agg #[.slice none 0 0], .bool false, .int .i64 4]) (by simp [results, Try.results23, go_sem, r7]) rfl ⟨.slice none 0 0, by rw [HF.out], by rw [HF.out]; exact RowsOwn.nil _ _, HB4.out.setCell (by show B ≤ B + 1; omega) _⟩
    · have HF := Lib.hid hF
      rw [HLN.out] at hlen
      have q2 : ((n : Int) == 1024) = false := beq_eq_false_iff_ne.2 (by omega)
      clear hF hc
      go_wp2_with (first | (go_at_call 19; with_reducible refine (CK.out _ HB1.out).mono ?_; rintro e w2 ⟨rfl, hb2⟩; have HB2 := Lib.hid (show Below B w w2 from HB1.out.trans (hb2.mono (by omega))); have g5 := (hb2.cell (p := ⟨B, 0, none⟩) (by show B < _; omega)).trans g3; have x5 := (hb2.block (B + 1) (by omega)).trans X4.out; obtain ⟨t5, f5⟩ := cell_frozen_one x5; have X5 := Lib.hid x5; clear x5; have hs2 := hb2.size; clear hb2) | (go_at_call 33; with_reducible refine (CS.out _).mono ?_; rintro e w3 ⟨rfl, rfl⟩) | (go_at_call 40; with_reducible refine (CF.out _ HB2.out).mono ?_; rintro e w3 ⟨rfl, hb3⟩; have HB3 := Lib.hid (show Below B w w3 from HB2.out.trans (hb3.mono (HBE.out ▸ HB2.out.size))); have g6 := (hb3.cell (p := ⟨B, 0, none⟩) (by show B < _; omega)).trans g5; have x6 := (hb3.block (B + 1) (by omega)).trans X5.out; obtain ⟨t6, f6⟩ := cell_frozen_one x6; have X6 := Lib.hid x6; clear x6; have hs3 := hb3.size; clear hb3) | (at_builtin; refine wpList_append_nil3 rfl _ 23 rfl B 37 i0 (.agg #[.int .i64 0, .int .i64 0, .string ByteArray.empty]) 3 32 Try.underlying23 hi hz0 hz1 hz2 rfl (by decide) A n c (Im.cells l) rfl (Im.idx_cells HL.out HAN.out).1 (by rw [Im.cells_length, HLN.out]) (Im.idx_cells (HL.out.below (by rw [HBE.out]; exact HB3.out)) HAN.out).2 (Im.cells_one l) (by unfold maxLen; omega) (by omega) (by have := HBE.out; have := HB3.out.size; omega) ?_; intro v4 w4 ho4 hg4; have hO4 : RowsOwn w4 B v4 l := (by unfold RowsOwn; rw [HLN.out]; exact ho4); obtain ⟨A4, c4, hv4, _⟩ := own_rows hO4; rw [HLN.out] at hv4; subst hv4; have x7 := (hg4.block (B + 1) (by omega) (by simp)).trans X6.out; obtain ⟨t7, f7⟩ := cell_frozen_one x7; have hs4 := hg4.size; have X7 := Lib.hid x7; have HR4 := Lib.hid ho4; have HO4 := Lib.hid hO4; have HB4 := Lib.hid (show Below B w w4 from HB3.out.grown hg4 (by omega) (fun _ h => by cases h)); clear ho4 hO4 hg4 x7) | (at_builtin; refine wpList_append_lies _ rfl _ _ 23 rfl B 37 i0 (.agg #[.int .i64 0, .int .i64 0, .string ByteArray.empty]) 3 32 Try.underlying23 hi hz0 hz1 hz2 rfl (by decide) _ _ _ rfl (World.ownsRow.alloc HR4.out _) ⟨w4.heap.size, 0, none⟩ 1 1 [.int .i64 0, .int .i64 0, .string ByteArray.empty] rfl rfl (cell_three_new _ _ _ _ _) (by simp [Value.oneCell']) (by omega) (by unfold maxLen; omega) (by omega) (by simp; omega) _ rfl ?_; intro gq cap5 w5 hown5 hgrow5 hat5 hlt5; have HO5 := Lib.hid hown5; have HG5 := Lib.hid hgrow5; have HA5 := Lib.hid hat5; clear hown5 hgrow5 hat5) | fail)
      have hcap : n + 1 ≤ cap5 := World.ownsRow.fits3 HO5.out
      have ew : IntKind.i64.wrap ((p : Int) + 1) = (p : Int) + 1 := by rw [IntKind.wrap_i64]; omega
      have ew3 : ((p : Int) + 1).toNat = p + 1 := by omega
      have k1 : (0 : Int) ≤ (p : Int) + 1 := by omega
      have k2 : (p : Int) + 1 ≤ (n : Int) + 1 := by omega
      have k3 : (0 : Int) ≤ (p : Int) := by omega
      have k4 : (p : Int) ≤ (n : Int) + 1 := by omega
      have k5 : ¬ cap5 = p := by omega
      have k6 : (p : Int) < (n : Int) + 1 := by omega
      have hBg : B ≤ gq := (World.ownsRow.lt HO5.out gq rfl).1
      have x8 : w5.drew.heap[B + 1]? = some (.cells #[.slice none 0 0] 25 (0, 0)) := (HG5.out.block (B + 1) (by simp; omega) (fun e => RowsOwn.ne' HO4.out e.symm X7.out)).trans ((Below.heap_alloc _ _ _ (by omega)).trans X7.out)
      have hgqn : gq ≠ B + 1 := by
        rcases HA5.out with h | h
        · intro e; subst e; exact RowsOwn.ne' HO4.out h X7.out
        · simp at h; omega
      by_cases hcp : cap5 = p + 1
      · obtain rfl : p = n := by omega
        subst hcp
        obtain ⟨w6, hrun, ho6, hb6, hk6⟩ := own_shift3 (P := Try.prog) (w := w5.drew) (T := 23) (ty := 3) Try.underlying23 hi hz1 (by rw [Im.cells_length, HLN.out]) HO5.out (Im.cells_one l) (Nat.le_refl _) (some ⟨gq, 0, none⟩) 0 1 (fun h => absurd h (by omega))
        rw [Nat.sub_self, Nat.add_sub_cancel_left] at hrun
        have HRUN := Lib.hid hrun
        obtain ⟨s0, r0⟩ := World.ownsRow.cellSome3 ho6 (p * 3) (by omega)
        obtain ⟨s1, r1⟩ := World.ownsRow.cellSome3 ho6 (p * 3 + 1) (by omega)
        obtain ⟨s2, r2⟩ := World.ownsRow.cellSome3 ho6 (p * 3 + 2) (by omega)
        have f0 := World.ownsRow.frozenAt ho6 (p * 3)
        have f1 := World.ownsRow.frozenAt ho6 (p * 3 + 1)
        have f2 := World.ownsRow.frozenAt ho6 (p * 3 + 2)
        have HO6 := Lib.hid ho6
        have HB6 := Lib.hid hb6
        have x9 := (hk6 (B + 1) (fun e => hgqn e.symm)).trans x8
        obtain ⟨t9, f9⟩ := cell_frozen_one x9
        clear hrun ho6 hb6 hk6 x8 x9
        go_region_law (refine step_copy_known3 rfl (.tmp 67) (.tmp 70) 23 rfl _ _ _ w6 (by simp [Act.eval, Act.put]) (by simp [Act.eval, Act.put]) HRUN.out ?_)
        go_wp2_with fail
        have cb : Cm.b s = S := by rw [← HSE.out, Cm.b_of]
        have HO7 := (World.ownsRow.stored (World.ownsRow.stored (World.ownsRow.stored HO6.out (p * 3) (.int .i64 D)).1 (p * 3 + 1) (.int .i64 1)).1 (p * 3 + 2) (.string S)).1
        have cp := Im.cells_put l (D, 1, s) p
        simp only at cp
        rw [cb] at cp
        rw [shifted3_set _ _ _ _ _ _ (by rw [Im.cells_length, HLN.out]) (by omega), ← cp] at HO7
        have hl9 : (l.take p ++ (D, 1, s) :: l.drop p).length = p + 1 := by have := HLN.out; simp only [List.length_append, List.length_cons, List.length_take, List.length_drop]; omega
        have HO8 : RowsOwn (((w6.setCell ⟨gq, p * 3, none⟩ (.int .i64 D)).setCell ⟨gq, p * 3 + 1, none⟩ (.int .i64 1)).setCell ⟨gq, p * 3 + 2, none⟩ (.string S)) B (.slice (some ⟨gq, 0, none⟩) (p + 1) (p + 1)) (l.take p ++ (D, 1, s) :: l.drop p) := by
          unfold RowsOwn; rw [hl9]; exact HO7
        have t10 := (World.cell?_setCell_other (((w6.setCell ⟨gq, p * 3, none⟩ (.int .i64 D)).setCell ⟨gq, p * 3 + 1, none⟩ (.int .i64 1))) ⟨gq, p * 3 + 2, none⟩ ⟨B + 1, 0, none⟩ (.string S) (fun e => hgqn (congrArg Addr.block e))).trans ((World.cell?_setCell_other (w6.setCell ⟨gq, p * 3, none⟩ (.int .i64 D)) ⟨gq, p * 3 + 1, none⟩ ⟨B + 1, 0, none⟩ (.int .i64 1) (fun e => hgqn (congrArg Addr.block e))).trans ((World.cell?_setCell_other w6 ⟨gq, p * 3, none⟩ ⟨B + 1, 0, none⟩ (.int .i64 D) (fun e => hgqn (congrArg Addr.block e))).trans t9))
        have r7 := World.cell?_setCell_same _ _ (.slice (some ⟨gq, 0, none⟩) (p + 1) (p + 1)) t10
        have HB7 : Below B w w6 := (((HB4.out.alloc (by have := HBE.out; have := HB4.out.size; omega) _).grown HG5.out (by have := HBE.out; have := HB4.out.size; simp; omega) (fun b hb => (World.ownsRow.lt HR4.out _ hb).1)).drew).trans (HB6.out.mono hBg)
        exact bodyPost_ret (v := .tuple #[.agg #[.slice (some ⟨gq, 0, none⟩) (p + 1) (p + 1)], .bool true, .int .i64 0]) (by simp [results, Try.results23, go_sem, r7]) rfl ⟨.slice (some ⟨gq, 0, none⟩) (p + 1) (p + 1), by rw [HF.out], by rw [HF.out]; exact HO8.setFar (a := ⟨B + 1, 0, none⟩) hgqn _, (((HB7.setCell (p := ⟨gq, p * 3, none⟩) hBg _).setCell (p := ⟨gq, p * 3 + 1, none⟩) hBg _).setCell (p := ⟨gq, p * 3 + 2, none⟩) hBg _).setCell (p := ⟨B + 1, 0, none⟩) (by show B ≤ B + 1; omega) _⟩
      · obtain ⟨w6, hrun, ho6, hb6, hk6⟩ := own_shift3 (P := Try.prog) (w := w5.drew) (T := 23) (ty := 3) Try.underlying23 hi hz1 (by rw [Im.cells_length, HLN.out]) HO5.out (Im.cells_one l) hpn (some ⟨gq, (p + 1) * 3, none⟩) (cap5 - (p + 1)) (cap5 - p) (fun _ => rfl)
        have HRUN := Lib.hid hrun
        obtain ⟨s0, r0⟩ := World.ownsRow.cellSome3 ho6 (p * 3) (by omega)
        obtain ⟨s1, r1⟩ := World.ownsRow.cellSome3 ho6 (p * 3 + 1) (by omega)
        obtain ⟨s2, r2⟩ := World.ownsRow.cellSome3 ho6 (p * 3 + 2) (by omega)
        have f0 := World.ownsRow.frozenAt ho6 (p * 3)
        have f1 := World.ownsRow.frozenAt ho6 (p * 3 + 1)
        have f2 := World.ownsRow.frozenAt ho6 (p * 3 + 2)
        have HO6 := Lib.hid ho6
        have HB6 := Lib.hid hb6
        have x9 := (hk6 (B + 1) (fun e => hgqn e.symm)).trans x8
        obtain ⟨t9, f9⟩ := cell_frozen_one x9
        clear hrun ho6 hb6 hk6 x8 x9
        go_region_law (refine step_copy_known3 rfl (.tmp 67) (.tmp 70) 23 rfl _ _ _ w6 (by simp [Act.eval, Act.put]) (by simp [Act.eval, Act.put]) HRUN.out ?_)
        go_wp2_with fail
        have cb : Cm.b s = S := by rw [← HSE.out, Cm.b_of]
        have HO7 := (World.ownsRow.stored (World.ownsRow.stored (World.ownsRow.stored HO6.out (p * 3) (.int .i64 D)).1 (p * 3 + 1) (.int .i64 1)).1 (p * 3 + 2) (.string S)).1
        have cp := Im.cells_put l (D, 1, s) p
        simp only at cp
        rw [cb] at cp
        rw [shifted3_set _ _ _ _ _ _ (by rw [Im.cells_length, HLN.out]) (by omega), ← cp] at HO7
        have hl9 : (l.take p ++ (D, 1, s) :: l.drop p).length = n + 1 := by have := HLN.out; simp only [List.length_append, List.length_cons, List.length_take, List.length_drop]; omega
        have HO8 : RowsOwn (((w6.setCell ⟨gq, p * 3, none⟩ (.int .i64 D)).setCell ⟨gq, p * 3 + 1, none⟩ (.int .i64 1)).setCell ⟨gq, p * 3 + 2, none⟩ (.string S)) B (.slice (some ⟨gq, 0, none⟩) (n + 1) cap5) (l.take p ++ (D, 1, s) :: l.drop p) := by
          unfold RowsOwn; rw [hl9]; exact HO7
        have t10 := (World.cell?_setCell_other (((w6.setCell ⟨gq, p * 3, none⟩ (.int .i64 D)).setCell ⟨gq, p * 3 + 1, none⟩ (.int .i64 1))) ⟨gq, p * 3 + 2, none⟩ ⟨B + 1, 0, none⟩ (.string S) (fun e => hgqn (congrArg Addr.block e))).trans ((World.cell?_setCell_other (w6.setCell ⟨gq, p * 3, none⟩ (.int .i64 D)) ⟨gq, p * 3 + 1, none⟩ ⟨B + 1, 0, none⟩ (.int .i64 1) (fun e => hgqn (congrArg Addr.block e))).trans ((World.cell?_setCell_other w6 ⟨gq, p * 3, none⟩ ⟨B + 1, 0, none⟩ (.int .i64 D) (fun e => hgqn (congrArg Addr.block e))).trans t9))
        have r7 := World.cell?_setCell_same _ _ (.slice (some ⟨gq, 0, none⟩) (n + 1) cap5) t10
        have HB7 : Below B w w6 := (((HB4.out.alloc (by have := HBE.out; have := HB4.out.size; omega) _).grown HG5.out (by have := HBE.out; have := HB4.out.size; simp; omega) (fun b hb => (World.ownsRow.lt HR4.out _ hb).1)).drew).trans (HB6.out.mono hBg)
        exact bodyPost_ret (v := .tuple #[.agg #[.slice (some ⟨gq, 0, none⟩) (n + 1) cap5], .bool true, .int .i64 0]) (by simp [results, Try.results23, go_sem, r7]) rfl ⟨.slice (some ⟨gq, 0, none⟩) (n + 1) cap5, by rw [HF.out], by rw [HF.out]; exact HO8.setFar (a := ⟨B + 1, 0, none⟩) hgqn _, (((HB7.setCell (p := ⟨gq, p * 3, none⟩) hBg _).setCell (p := ⟨gq, p * 3 + 1, none⟩) hBg _).setCell (p := ⟨gq, p * 3 + 2, none⟩) hBg _).setCell (p := ⟨B + 1, 0, none⟩) (by show B ≤ B + 1; omega) _⟩

end Go.Proofs.Ytmdakplaaehmnaa
