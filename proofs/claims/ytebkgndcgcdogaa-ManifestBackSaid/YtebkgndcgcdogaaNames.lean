/-
  Slices of structs of two numbers: what they read as, rows of one's own.
-/
import Derived.Test.YtebkgndcgcdogaaRows
import Derived.Test.YtebkgndcgcdogaaKit2
import Derived.Test.YtebkgndcgcdogaaVm
namespace Go.Proofs.Ytebkgndcgcdogaa
open Go.RowKit

/-- the slice (A, n, c) reads as the pairs l -/
def NamesIn (w : World) (A : Option Addr) (n c : Nat) (l : List Vm.Nm) : Prop :=
  l.length = n ∧ n ≤ c ∧ (0 < n → ∃ g o, A = some ⟨g, o, none⟩ ∧ g < w.heap.size ∧ ∀ i (h : i < l.length), w.cell? ⟨g, o + i * 2, none⟩ = some (.int .i64 l[i].1) ∧ w.cell? ⟨g, o + i * 2 + 1, none⟩ = some (.int .i64 l[i].2))
theorem NamesIn.below {w w' : World} {A : Option Addr} {n c : Nat} {l : List Vm.Nm} (h : NamesIn w A n c l) (hb : Below w.heap.size w w') : NamesIn w' A n c l := by
  obtain ⟨h1, h2, h3⟩ := h
  refine ⟨h1, h2, fun hn => ?_⟩
  obtain ⟨g, o, hA, hg, hc⟩ := h3 hn
  exact ⟨g, o, hA, Nat.lt_of_lt_of_le hg hb.size, fun i hi => ⟨(hb.cell (p := ⟨g, o + i * 2, none⟩) hg).trans (hc i hi).1, (hb.cell (p := ⟨g, o + i * 2 + 1, none⟩) hg).trans (hc i hi).2⟩⟩
theorem NamesIn.at {w : World} {A : Option Addr} {n c : Nat} {l : List Vm.Nm} (h : NamesIn w A n c l) {i : Nat} (hi : i < n) :
    ∃ g o, A = some ⟨g, o, none⟩ ∧ g < w.heap.size ∧ ∃ hz : i < l.length, w.cell? ⟨g, o + i * 2, none⟩ = some (.int .i64 l[i].1) ∧ w.cell? ⟨g, o + i * 2 + 1, none⟩ = some (.int .i64 l[i].2) := by
  obtain ⟨h1, h2, h3⟩ := h
  obtain ⟨g, o, hA, hg, hc⟩ := h3 (by omega)
  exact ⟨g, o, hA, hg, by omega, (hc i (by omega)).1, (hc i (by omega)).2⟩
theorem NamesIn.nil (w : World) (A : Option Addr) (c : Nat) : NamesIn w A 0 c [] := ⟨rfl, Nat.zero_le _, fun h => absurd h (by omega)⟩

def Vm.cells (l : List Vm.Nm) : List Value := l.flatMap (fun x => [Value.int .i64 x.1, Value.int .i64 x.2])
theorem Vm.cells_snoc (l : List Vm.Nm) (x : Vm.Nm) : Vm.cells (l ++ [x]) = Vm.cells l ++ [Value.int .i64 x.1, Value.int .i64 x.2] := by
  unfold Vm.cells; rw [List.flatMap_append]; simp
theorem Vm.cells_append (l k : List Vm.Nm) : Vm.cells (l ++ k) = Vm.cells l ++ Vm.cells k := by
  unfold Vm.cells; rw [List.flatMap_append]
theorem Vm.cells_take (l : List Vm.Nm) : ∀ j, Vm.cells (l.take j) = (Vm.cells l).take (j * 2) := by
  induction l with
  | nil => intro j; simp [Vm.cells]
  | cons x l ih =>
    intro j
    cases j with
    | zero => simp [Vm.cells]
    | succ j =>
      have e : ∀ z : List Vm.Nm, Vm.cells (x :: z) = Value.int .i64 x.1 :: Value.int .i64 x.2 :: Vm.cells z := fun z => rfl
      rw [List.take_succ_cons, e, e, ih j, show (j + 1) * 2 = j * 2 + 1 + 1 by omega, List.take_succ_cons, List.take_succ_cons]
theorem Vm.cells_drop (l : List Vm.Nm) : ∀ j, Vm.cells (l.drop j) = (Vm.cells l).drop (j * 2) := by
  induction l with
  | nil => intro j; simp [Vm.cells]
  | cons x l ih =>
    intro j
    cases j with
    | zero => simp [Vm.cells]
    | succ j =>
      have e : ∀ z : List Vm.Nm, Vm.cells (x :: z) = Value.int .i64 x.1 :: Value.int .i64 x.2 :: Vm.cells z := fun z => rfl
      rw [List.drop_succ_cons, e, ih j, show (j + 1) * 2 = j * 2 + 1 + 1 by omega, List.drop_succ_cons, List.drop_succ_cons]
theorem Vm.cells_one (l : List Vm.Nm) : ∀ u ∈ Vm.cells l, u.oneCell' = true := fun u hu => by
  unfold Vm.cells at hu
  obtain ⟨x, _, hx⟩ := List.mem_flatMap.1 hu
  simp only [List.mem_cons, List.not_mem_nil, or_false] at hx
  rcases hx with rfl | rfl <;> rfl
theorem Vm.cells_put (o : List Vm.Nm) (x : Vm.Nm) (j : Nat) : Vm.cells (o.take j ++ x :: o.drop j) = (Vm.cells o).take (j * 2) ++ [.int .i64 x.1, .int .i64 x.2] ++ (Vm.cells o).drop (j * 2) := by
  have e : ∀ z : List Vm.Nm, Vm.cells (x :: z) = Value.int .i64 x.1 :: Value.int .i64 x.2 :: Vm.cells z := fun z => rfl
  have e2 : ∀ y z : List Vm.Nm, Vm.cells (y ++ z) = Vm.cells y ++ Vm.cells z := fun y z => by unfold Vm.cells; rw [List.flatMap_append]
  rw [e2, e, Vm.cells_take, Vm.cells_drop]; simp
theorem Vm.cells_length (l : List Vm.Nm) : (Vm.cells l).length = l.length * 2 := by
  induction l with
  | nil => rfl
  | cons x l ih => show (Vm.cells l).length + 2 = _; rw [ih, List.length_cons]; omega
theorem Vm.cells_get (l : List Vm.Nm) : ∀ (i : Nat) (h : i < l.length), (Vm.cells l)[i * 2]? = some (.int .i64 l[i].1) ∧ (Vm.cells l)[i * 2 + 1]? = some (.int .i64 l[i].2) := by
  induction l with
  | nil => intro i h; exact absurd h (by simp)
  | cons x l ih =>
    intro i h
    cases i with
    | zero => exact ⟨rfl, rfl⟩
    | succ i =>
      have e : Vm.cells (x :: l) = Value.int .i64 x.1 :: Value.int .i64 x.2 :: Vm.cells l := rfl
      rw [e, show (i + 1) * 2 = i * 2 + 1 + 1 by omega, List.getElem?_cons_succ, List.getElem?_cons_succ, List.getElem?_cons_succ, List.getElem?_cons_succ]
      exact ih i (by simpa using h)

/-- a row of names of one's own -/
def NamesOwn (w : World) (B : Nat) (v : Value) (l : List Vm.Nm) : Prop := w.ownsRow B 59 2 v l.length (Vm.cells l)
theorem NamesOwn.nil (w : World) (B : Nat) : NamesOwn w B (.slice none 0 0) [] := World.ownsRow_nil _ _ _ _
theorem NamesOwn.below {w w' : World} {B : Nat} {v : Value} {l : List Vm.Nm} (h : NamesOwn w B v l) (hb : Below w.heap.size w w') : NamesOwn w' B v l := own_below h hb
theorem NamesOwn.mono {w : World} {B B' : Nat} {v : Value} {l : List Vm.Nm} (h : NamesOwn w B v l) (hB : B' ≤ B) : NamesOwn w B' v l := own_mono h hB
/-- what an owned value looks like, and how it reads -/
theorem own_names {w : World} {B : Nat} {v : Value} {l : List Vm.Nm} (h : NamesOwn w B v l) : ∃ A c, v = .slice A l.length c ∧ NamesIn w A l.length c l := by
  unfold NamesOwn at h
  rcases h.2 with ⟨rfl, h0⟩ | ⟨g, cap, cur, hv, _, hg, hn, _⟩
  · refine ⟨none, 0, by rw [h0], rfl, by omega, fun hn => absurd hn (by omega)⟩
  · subst hv
    refine ⟨some ⟨g, 0, none⟩, cap, rfl, rfl, hn, fun _ => ⟨g, 0, rfl, lt_of_block hg, fun i hi => ?_⟩⟩
    have hc := Vm.cells_get l i hi
    have h1 := h.cells rfl (i * 2) _ hc.1
    have h2 := h.cells rfl (i * 2 + 1) _ hc.2
    have e1 : ∀ k, (⟨g, 0, none⟩ : Addr).add k = ⟨g, 0 + k, none⟩ := fun k => by unfold Addr.add; split <;> simp_all
    rw [e1] at h1 h2
    exact ⟨h1, by rw [Nat.add_assoc]; exact h2⟩
theorem cell_two_new (w : World) (x y : Value) (t : TypeId) : ∀ j u, [x, y][j]? = some u → (w.alloc (.cells #[x, y] t)).cell? ((⟨w.heap.size, 0, none⟩ : Addr).add j) = some u := by
  intro j u hj
  have e1 : ∀ k, (⟨w.heap.size, 0, none⟩ : Addr).add k = ⟨w.heap.size, 0 + k, none⟩ := fun k => by unfold Addr.add; split <;> simp_all
  rw [e1, cell_new_at _ _ _ _ rfl, Nat.zero_add]
  simpa using hj
theorem NamesOwn.setCell {w : World} {B : Nat} {v : Value} {l : List Vm.Nm} (h : NamesOwn w B v l) {a : Addr} (ha : a.block < B) (u : Value) : NamesOwn (w.setCell a u) B v l :=
  ownsRow_setCell_other h (fun e => by have := (World.ownsRow.lt h _ e).1; omega) u
theorem NamesOwn.alloc {w : World} {B : Nat} {v : Value} {l : List Vm.Nm} (h : NamesOwn w B v l) (o : Obj) : NamesOwn (w.alloc o) B v l := World.ownsRow.alloc h _
theorem info_name : (Try.prog.info? 59).map (fun i => (i.zero, i.size, i.bytes)) = some (some (.agg #[.int .i64 0, .int .i64 0]), 2, 16) := by kernel_rfl

end Go.Proofs.Ytebkgndcgcdogaa
