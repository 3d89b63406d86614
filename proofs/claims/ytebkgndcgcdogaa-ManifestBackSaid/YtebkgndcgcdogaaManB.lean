/-
  Maps of one's own whose keys are names (pairs of numbers) and whose elements are of a plain type: read as functions.
  Maps of one's own whose keys are names and whose elements are slices: read as functions to values.
  Contracts of manifest: contents (and slices.Contains at strings).
-/
import Derived.Test.YtebkgndcgcdogaaNames
import Derived.Maps.OwnSet
import Derived.DeepKeys4
import Derived.Test.YtebkgndcgcdogaaManA
import Derived.Test.YtebkgndcgcdogaaVf
import Derived.Deep.RegionLaw
import Derived.Deep.AppendLies
namespace Go.Proofs.Ytebkgndcgcdogaa
open Go.RowKit

theorem laidN : laidOutB Try.prog = true := by kernel_rfl

theorem nkeyed : Maps.Keyed Try.prog 59 :=
  Maps.Keyed.of_law (deep_law_laid laidN (m := 2) (by omega) (of_decide_eq_true (by kernel_rfl)) (by kernel_rfl) (by rw [Try.underlying59]))

def Vm.nkv (x : Vm.Nm) : Value := .agg #[.int .i64 x.1, .int .i64 x.2]
def Vm.wf (x : Vm.Nm) : Prop := (-9223372036854775808 ≤ x.1 ∧ x.1 ≤ 9223372036854775807) ∧ (-9223372036854775808 ≤ x.2 ∧ x.2 ≤ 9223372036854775807)

theorem nkey_some (x : Vm.Nm) (h : Vm.wf x) : ∃ l, keyOf Try.prog 59 (Vm.nkv x) = some l := by
  have wa : (Lit.int .i64 x.1).wf = true := WalkArith.wf_i64 h.1
  have wb : (Lit.int .i64 x.2).wf = true := WalkArith.wf_i64 h.2
  have hk : Try.prog.keyType 59 = true := by kernel_rfl
  have hc : Try.prog.cellsOf 59 = 2 := by kernel_rfl
  have hi : Try.prog.cellsOf 3 = 1 := by kernel_rfl
  obtain ⟨m, hm⟩ : ∃ m, Try.prog.types.size = m + 1 := ⟨Try.prog.types.size - 1, by have : 0 < Try.prog.types.size := of_decide_eq_true (by kernel_rfl); omega⟩
  unfold keyOf Vm.nkv
  simp only [Try.underlying59]
  rw [if_pos (by simp [hk, Value.formed, Try.underlying59, hc]), hm]
  unfold Program.keyLits
  simp only [Try.underlying59, Value.cells]
  rw [if_pos (by rw [hc]; simp)]
  simp [hi, Program.keyLits, Try.underlying3, wa, wb]

noncomputable def nkl (x : Vm.Nm) : Lit := (keyOf Try.prog 59 (Vm.nkv x)).getD (.bool false)
theorem nkl_eq {x : Vm.Nm} (h : Vm.wf x) : keyOf Try.prog 59 (Vm.nkv x) = some (nkl x) := by
  obtain ⟨l, hl⟩ := nkey_some x h
  unfold nkl
  rw [hl]; rfl
attribute [irreducible] nkl
theorem nkl_inj {x y : Vm.Nm} (hx : Vm.wf x) (hy : Vm.wf y) (h : nkl x = nkl y) : x = y := by
  have e2 := nkl_eq hy
  rw [← h] at e2
  have e := nkeyed.inj (nkl_eq hx) e2
  unfold Vm.nkv at e
  obtain ⟨a, b⟩ := x
  obtain ⟨c, d⟩ := y
  simp at e
  rw [e.1, e.2]
theorem nkl_key {x : Vm.Nm} (h : Vm.wf x) : WideAt.IsKeyLit (nkl x) := by
  have h2 := nkl_eq h
  generalize nkl x = l at h2 ⊢
  exact nkeyed.key h2

/-- an element of a plain type is told by what it reads as -/
theorem plain_shape {P : Program} {e : TypeId} {v : Value} {z : DataW Unit × List MemPlace} (h : plainElem P e v = some z) :
    (∃ x, v = .bool x ∧ z.1 = .lit (.bool x)) ∨ (∃ q a, v = .int q a ∧ z.1 = .lit (.int q a)) ∨ ∃ s : ByteArray, v = .string s ∧ z.1 = .lit (.string s.data.toList) := by
  unfold plainElem at h
  split at h
  · cases h; exact .inl ⟨_, rfl, rfl⟩
  · split at h
    · rename_i hq
      cases h
      obtain ⟨rfl, _⟩ := hq
      exact .inr (.inl ⟨_, _, rfl, rfl⟩)
    · cases h
  · split at h
    · cases h; exact .inr (.inr ⟨_, rfl, rfl⟩)
    · cases h
  · cases h

theorem plain_inj {P : Program} {e : TypeId} {u v : Value} {d : DataW Unit} {p q : List MemPlace} (hu : plainElem P e u = some (d, p)) (hv : plainElem P e v = some (d, q)) : u = v := by
  rcases plain_shape hu with ⟨x, rfl, h1⟩ | ⟨k, a, rfl, h1⟩ | ⟨s, rfl, h1⟩ <;> rcases plain_shape hv with ⟨y, rfl, h2⟩ | ⟨k', a', rfl, h2⟩ | ⟨s', rfl, h2⟩ <;> simp only at h1 h2 <;> rw [h1] at h2 <;> simp at h2
  · rw [h2]
  · rw [h2.1, h2.2]
  · rw [ByteArray.ext h2]

/-- block b of w is a map of names: it has f's keys and values -/
def NMap (w : World) (e : TypeId) (b n : Nat) (f : Vm.Nm → Option Value) : Prop :=
  ∃ D : DataW Unit, w.ownsMap Try.prog 59 (plainElem Try.prog e) b n D ∧ Maps.IsMap D ∧ ∀ x, Vm.wf x → (f x = none → Maps.has D (nkl x) = false) ∧ ∀ u, f x = some u → Maps.has D (nkl x) = true ∧ ∃ d, plainElem Try.prog e u = some (d, []) ∧ ∀ z, D.atKey (nkl x) z = d

theorem NMap.made (w : World) (e : TypeId) : NMap (w.alloc (.map #[] 0)) e w.heap.size 0 (fun _ => none) :=
  ⟨.map [], World.ownsMap_made _ _ _ _, ⟨[], rfl⟩, fun x _ => ⟨fun _ => rfl, fun u h => by cases h⟩⟩
theorem NMap.of_block {w w' : World} {e : TypeId} {b n : Nat} {f : Vm.Nm → Option Value} (h : NMap w e b n f) (hb : w'.heap[b]? = w.heap[b]?) : NMap w' e b n f := by
  obtain ⟨D, ⟨es, clock, h1, h2, h3, h4⟩, h5, h6⟩ := h
  exact ⟨D, ⟨es, clock, hb.trans h1, h2, h3, h4⟩, h5, h6⟩
theorem NMap.below {w w' : World} {B : Nat} {e : TypeId} {b n : Nat} {f : Vm.Nm → Option Value} (h : NMap w e b n f) (hB : Below B w w') (hb : b < B) : NMap w' e b n f := h.of_block (hB.block b hb)
theorem NMap.lt {w : World} {e : TypeId} {b n : Nat} {f : Vm.Nm → Option Value} (h : NMap w e b n f) : b < w.heap.size := by
  obtain ⟨D, h1, _⟩ := h
  exact h1.lt
theorem NMap.mono {w : World} {e : TypeId} {b n m : Nat} {f : Vm.Nm → Option Value} (h : NMap w e b n f) (hn : n ≤ m) : NMap w e b m f := by
  obtain ⟨D, h1, h2⟩ := h
  exact ⟨D, h1.mono hn, h2⟩

/-- 'v, ok := m[x]' -/
theorem NMap.look {w : World} {t e : TypeId} {b n : Nat} {f : Vm.Nm → Option Value} (h : NMap w e b n f) (ht : Try.prog.underlying t = some (.map 59 e)) {z : Value} (hz : (zeroValue e).run Try.prog w = .ok z w) {zd : DataW Unit} {zp : List MemPlace} (hzd : plainElem Try.prog e z = some (zd, zp)) {x : Vm.Nm} (hx : Vm.wf x) :
    (Instr.lookup t (.map (some b)) (Vm.nkv x) true).run Try.prog w = .ok (.tuple #[(f x).getD z, .bool (f x).isSome]) w := by
  obtain ⟨D, h1, h2, h3⟩ := h
  obtain ⟨v, ps, hrun, hv⟩ := h1.look_ok nkeyed ht hz hzd (nkl_eq hx)
  obtain ⟨g0, g1⟩ := h3 x hx
  rw [hrun]
  cases hf : f x with
  | none =>
    have hh := g0 hf
    rw [Maps.atKey_of_not_has hh] at hv
    rw [plain_inj hv hzd, hh]
    rfl
  | some u =>
    obtain ⟨hh, d, hd, hat⟩ := g1 u hf
    rw [hat] at hv
    rw [plain_inj hv hd, hh]
    rfl

/-- 'm[x]' -/
theorem NMap.look1 {w : World} {t e : TypeId} {b n : Nat} {f : Vm.Nm → Option Value} (h : NMap w e b n f) (ht : Try.prog.underlying t = some (.map 59 e)) {z : Value} (hz : (zeroValue e).run Try.prog w = .ok z w) {zd : DataW Unit} {zp : List MemPlace} (hzd : plainElem Try.prog e z = some (zd, zp)) {x : Vm.Nm} (hx : Vm.wf x) :
    (Instr.lookup t (.map (some b)) (Vm.nkv x) false).run Try.prog w = .ok ((f x).getD z) w := by
  obtain ⟨D, h1, h2, h3⟩ := h
  obtain ⟨v, ps, hrun, hv⟩ := h1.lookup nkeyed ht hz hzd (nkl_eq hx)
  obtain ⟨g0, g1⟩ := h3 x hx
  rw [hrun]
  cases hf : f x with
  | none =>
    rw [Maps.atKey_of_not_has (g0 hf)] at hv
    rw [plain_inj hv hzd]
    rfl
  | some u =>
    obtain ⟨hh, d, hd, hat⟩ := g1 u hf
    rw [hat] at hv
    rw [plain_inj hv hd]
    rfl

/-- 'm[x] = v' -/
theorem NMap.store {w : World} {t e : TypeId} {b n : Nat} {f : Vm.Nm → Option Value} (h : NMap w e b n f) (ht : Try.prog.underlying t = some (.map 59 e)) (hn : n < maxLen) {x : Vm.Nm} (hx : Vm.wf x) {v : Value} {d : DataW Unit} (hv : plainElem Try.prog e v = some (d, [])) :
    ∃ w', (Instr.mapUpdate t (.map (some b)) (Vm.nkv x) v).run Try.prog w = .ok () w' ∧ NMap w' e b (n + 1) (fun y => if y = x then some v else f y) ∧ Below b w w' ∧ ∀ k, k ≠ b → w'.heap[k]? = w.heap[k]? ∨ w.heap.size ≤ k := by
  have hlt := h.lt
  obtain ⟨D, h1, h2, h3⟩ := h
  obtain ⟨w', hrun, hown, hg⟩ := h1.update nkeyed ht hn (nkl_eq hx) hv
  have hk := nkl_key hx
  refine ⟨w', hrun, ⟨D.put (nkl x) d, hown, h2.put _ _, fun y hy => ?_⟩, ⟨hg.os, hg.tape, hg.output, hg.size, fun k hk => hg.block k (by omega) (fun e => by injection e with e; omega)⟩, fun k hk => ?_⟩
  · dsimp only
    by_cases hyx : y = x
    · subst hyx
      rw [if_pos rfl]
      refine ⟨fun h => (by cases h), fun u hu => ?_⟩
      injection hu with hu
      subst hu
      exact ⟨Maps.has_put_same h2 hk d, d, hv, fun z => Maps.atKey_put_same h2 hk d z⟩
    · rw [if_neg hyx]
      have hne : nkl y ≠ nkl x := fun e => hyx (nkl_inj hy hx e)
      rw [Maps.has_put_other hne]
      obtain ⟨g0, g1⟩ := h3 y hy
      refine ⟨g0, fun u hu => ?_⟩
      obtain ⟨a, d', b', c⟩ := g1 u hu
      exact ⟨a, d', b', fun z => by rw [Maps.atKey_put_other hne]; exact c z⟩
  · by_cases hk2 : k < w.heap.size
    · exact .inl (hg.block k hk2 (fun e => hk (by injection e)))
    · exact .inr (by omega)

end Go.Proofs.Ytebkgndcgcdogaa

namespace Go.Proofs.Ytebkgndcgcdogaa
open Go.RowKit

/-- an element is read as it stands -/
def sElem (v : Value) : Option (DataW Value × List MemPlace) := some (.held v, [])

/-- block b of w is a map of names: it has f's keys and values -/
def SMap (w : World) (b n : Nat) (f : Vm.Nm → Option Value) : Prop :=
  ∃ D : DataW Value, w.ownsMap Try.prog 59 sElem b n D ∧ Maps.IsMap D ∧ ∀ x, Vm.wf x → (f x = none → Maps.has D (nkl x) = false) ∧ ∀ u, f x = some u → Maps.has D (nkl x) = true ∧ ∀ z, D.atKey (nkl x) z = .held u

theorem SMap.made (w : World) : SMap (w.alloc (.map #[] 0)) w.heap.size 0 (fun _ => none) :=
  ⟨.map [], World.ownsMap_made _ _ _ _, ⟨[], rfl⟩, fun x _ => ⟨fun _ => rfl, fun u h => by cases h⟩⟩
theorem SMap.of_block {w w' : World} {b n : Nat} {f : Vm.Nm → Option Value} (h : SMap w b n f) (hb : w'.heap[b]? = w.heap[b]?) : SMap w' b n f := by
  obtain ⟨D, ⟨es, clock, h1, h2, h3, h4⟩, h5, h6⟩ := h
  exact ⟨D, ⟨es, clock, hb.trans h1, h2, h3, h4⟩, h5, h6⟩
theorem SMap.below {w w' : World} {B : Nat} {b n : Nat} {f : Vm.Nm → Option Value} (h : SMap w b n f) (hB : Below B w w') (hb : b < B) : SMap w' b n f := h.of_block (hB.block b hb)
theorem SMap.lt {w : World} {b n : Nat} {f : Vm.Nm → Option Value} (h : SMap w b n f) : b < w.heap.size := by
  obtain ⟨D, h1, _⟩ := h
  exact h1.lt
theorem SMap.mono {w : World} {b n m : Nat} {f : Vm.Nm → Option Value} (h : SMap w b n f) (hn : n ≤ m) : SMap w b m f := by
  obtain ⟨D, h1, h2⟩ := h
  exact ⟨D, h1.mono hn, h2⟩

/-- 'm[x]' -/
theorem SMap.look1 {w : World} {t e : TypeId} {b n : Nat} {f : Vm.Nm → Option Value} (h : SMap w b n f) (ht : Try.prog.underlying t = some (.map 59 e)) {z : Value} (hz : (zeroValue e).run Try.prog w = .ok z w) {x : Vm.Nm} (hx : Vm.wf x) :
    (Instr.lookup t (.map (some b)) (Vm.nkv x) false).run Try.prog w = .ok ((f x).getD z) w := by
  obtain ⟨D, h1, h2, h3⟩ := h
  obtain ⟨v, ps, hrun, hv⟩ := h1.lookup nkeyed ht hz (zd := .held z) (zp := []) rfl (nkl_eq hx)
  obtain ⟨g0, g1⟩ := h3 x hx
  rw [hrun]
  unfold sElem at hv
  cases hf : f x with
  | none =>
    rw [Maps.atKey_of_not_has (g0 hf)] at hv
    simp only [Option.some.injEq, Prod.mk.injEq, DataW.held.injEq] at hv
    rw [hv.1]
    rfl
  | some u =>
    obtain ⟨hh, hat⟩ := g1 u hf
    rw [hat] at hv
    simp only [Option.some.injEq, Prod.mk.injEq, DataW.held.injEq] at hv
    rw [hv.1]
    rfl

/-- 'm[x] = v' -/
theorem SMap.store {w : World} {t e : TypeId} {b n : Nat} {f : Vm.Nm → Option Value} (h : SMap w b n f) (ht : Try.prog.underlying t = some (.map 59 e)) (hn : n < maxLen) {x : Vm.Nm} (hx : Vm.wf x) (v : Value) :
    ∃ w', (Instr.mapUpdate t (.map (some b)) (Vm.nkv x) v).run Try.prog w = .ok () w' ∧ SMap w' b (n + 1) (fun y => if y = x then some v else f y) ∧ Below b w w' ∧ ∀ k, k ≠ b → k < w.heap.size → w'.heap[k]? = w.heap[k]? := by
  have hlt := h.lt
  obtain ⟨D, h1, h2, h3⟩ := h
  obtain ⟨w', hrun, hown, hg⟩ := h1.update (d := .held v) (ps := []) nkeyed ht hn (nkl_eq hx) rfl
  have hk := nkl_key hx
  refine ⟨w', hrun, ⟨D.put (nkl x) (.held v), hown, h2.put _ _, fun y hy => ?_⟩, ⟨hg.os, hg.tape, hg.output, hg.size, fun k hk => hg.block k (by omega) (fun e => by injection e with e; omega)⟩, fun k hk hk2 => ?_⟩
  · dsimp only
    by_cases hyx : y = x
    · subst hyx
      rw [if_pos rfl]
      refine ⟨fun h => (by cases h), fun u hu => ?_⟩
      injection hu with hu
      subst hu
      exact ⟨Maps.has_put_same h2 hk _, fun z => Maps.atKey_put_same h2 hk _ z⟩
    · rw [if_neg hyx]
      have hne : nkl y ≠ nkl x := fun e => hyx (nkl_inj hy hx e)
      rw [Maps.has_put_other hne]
      obtain ⟨g0, g1⟩ := h3 y hy
      refine ⟨g0, fun u hu => ?_⟩
      obtain ⟨a, c⟩ := g1 u hu
      exact ⟨a, fun z => by rw [Maps.atKey_put_other hne]; exact c z⟩
  · exact hg.block k hk2 (fun e => hk (by injection e))

/-! what is kept of the chunks of one name: the first, and the first that is another one -/
def Vm.fill (acc : List (List UInt8)) (s : List UInt8) : List (List UInt8) := if acc.length < 2 ∧ s ∉ acc then acc ++ [s] else acc
def Vm.duo (l : List (List UInt8)) : List (List UInt8) := l.foldl Vm.fill []
theorem Vm.duo_snoc (l : List (List UInt8)) (s : List UInt8) : Vm.duo (l ++ [s]) = Vm.fill (Vm.duo l) s := by unfold Vm.duo; rw [List.foldl_append]; rfl
theorem Vm.fill_full {acc : List (List UInt8)} (h : ¬ acc.length < 2) (s : List UInt8) : Vm.fill acc s = acc := by unfold Vm.fill; rw [if_neg (fun k => h k.1)]
theorem Vm.fill_in {acc : List (List UInt8)} {s : List UInt8} (h : s ∈ acc) : Vm.fill acc s = acc := by unfold Vm.fill; rw [if_neg (fun k => k.2 h)]
theorem Vm.fill_new {acc : List (List UInt8)} {s : List UInt8} (h : acc.length < 2) (k : s ∉ acc) : Vm.fill acc s = acc ++ [s] := by unfold Vm.fill; rw [if_pos ⟨h, k⟩]
theorem Vm.fold_full : ∀ (r acc : List (List UInt8)), ¬ acc.length < 2 → r.foldl Vm.fill acc = acc
  | [], _, _ => rfl
  | s :: r, acc, h => by rw [List.foldl_cons, Vm.fill_full h, Vm.fold_full r acc h]
theorem Vm.fold_one (x : List UInt8) : ∀ r : List (List UInt8), ((∀ y ∈ r, y = x) ∧ r.foldl Vm.fill [x] = [x]) ∨ ((∃ y ∈ r, y ≠ x) ∧ (r.foldl Vm.fill [x]).length = 2)
  | [] => .inl ⟨by simp, rfl⟩
  | y :: r => by
    by_cases h : y = x
    · subst h
      rw [List.foldl_cons, Vm.fill_in (List.mem_singleton.2 rfl)]
      rcases Vm.fold_one y r with ⟨h1, h2⟩ | ⟨⟨z, h1, h3⟩, h2⟩
      · exact .inl ⟨fun z hz => by rcases List.mem_cons.1 hz with e | e; exact e; exact h1 z e, h2⟩
      · exact .inr ⟨⟨z, List.mem_cons_of_mem _ h1, h3⟩, h2⟩
    · rw [List.foldl_cons, Vm.fill_new (by simp) (fun e => h (List.mem_singleton.1 e)), Vm.fold_full _ _ (by simp)]
      exact .inr ⟨⟨y, List.mem_cons_self .., h⟩, by simp⟩
theorem Vm.duo_spec (l : List (List UInt8)) : (l = [] ∧ Vm.duo l = []) ∨ (∃ x r, l = x :: r ∧ (∀ y ∈ r, y = x) ∧ Vm.duo l = [x]) ∨ ∃ x r, l = x :: r ∧ (∃ y ∈ r, y ≠ x) ∧ (Vm.duo l).length = 2 := by
  cases l with
  | nil => exact .inl ⟨rfl, rfl⟩
  | cons x r =>
    have e : Vm.duo (x :: r) = r.foldl Vm.fill [x] := by
      unfold Vm.duo; rw [List.foldl_cons, Vm.fill_new (by simp) (by simp)]; rfl
    rw [e]
    rcases Vm.fold_one x r with ⟨h1, h2⟩ | ⟨h1, h2⟩
    · exact .inr (.inl ⟨x, r, rfl, h1, h2⟩)
    · exact .inr (.inr ⟨x, r, rfl, h1, h2⟩)
theorem Vm.duo_len (l : List (List UInt8)) : (Vm.duo l).length ≤ 2 := by
  rcases Vm.duo_spec l with ⟨_, h⟩ | ⟨_, _, _, _, h⟩ | ⟨_, _, _, _, h⟩
  · rw [h]; simp
  · rw [h]; simp
  · rw [h]; exact Nat.le_refl _

/-- block b of w is the map of the chunks cs by their names -/
def CMap (w : World) (b : Nat) (cs : List (List UInt8)) : Prop :=
  ∃ (m : Nat) (f : Vm.Nm → Option Value), m ≤ cs.length ∧ SMap w b m f ∧
    (∀ x, Vm.wf x → (f x = none ∧ Vm.duo (Vm.pick x cs) = []) ∨ ∃ v, f x = some v ∧ Vm.duo (Vm.pick x cs) ≠ [] ∧ w.ownsRow (b + 1) 9 1 v (Vm.duo (Vm.pick x cs)).length ((Vm.duo (Vm.pick x cs)).map Cm.str)) ∧
    ∀ x y u v, Vm.wf x → Vm.wf y → f x = some u → f y = some v → x ≠ y → u.ownBlock ≠ v.ownBlock
theorem CMap.lt {w : World} {b : Nat} {cs : List (List UInt8)} (h : CMap w b cs) : b < w.heap.size := by
  obtain ⟨m, f, _, h2, _⟩ := h
  exact h2.lt
theorem CMap.below {w w' : World} {b : Nat} {cs : List (List UInt8)} (h : CMap w b cs) (hB : Below w.heap.size w w') : CMap w' b cs := by
  have hl := h.lt
  obtain ⟨m, f, h1, h2, h3, h4⟩ := h
  refine ⟨m, f, h1, h2.below hB hl, fun x hx => ?_, h4⟩
  rcases h3 x hx with h | ⟨v, e1, e2, e3⟩
  · exact .inl h
  · exact .inr ⟨v, e1, e2, own_below e3 hB⟩
theorem CMap.made (w : World) : CMap (w.alloc (.map #[] 0)) w.heap.size [] :=
  ⟨0, fun _ => none, Nat.le_refl _, SMap.made w, fun x _ => .inl ⟨rfl, rfl⟩, fun x y u v _ _ h => by cases h⟩
/-- what the map says at a name -/
theorem CMap.look {w : World} {b : Nat} {cs : List (List UInt8)} (h : CMap w b cs) {x : Vm.Nm} (hx : Vm.wf x) :
    ∃ v, (Instr.lookup 72 (.map (some b)) (Vm.nkv x) false).run Try.prog w = .ok v w ∧ w.ownsRow (b + 1) 9 1 v (Vm.duo (Vm.pick x cs)).length ((Vm.duo (Vm.pick x cs)).map Cm.str) := by
  obtain ⟨m, f, h1, h2, h3, h4⟩ := h
  have hlk := h2.look1 (t := 72) (e := 26) Try.underlying72 (z := .slice none 0 0) (by kernel_rfl) hx
  rcases h3 x hx with ⟨e1, e2⟩ | ⟨v, e1, _, e3⟩
  · rw [e1] at hlk
    rw [e2]
    exact ⟨_, hlk, World.ownsRow_nil _ _ _ _⟩
  · rw [e1] at hlk
    exact ⟨v, hlk, e3⟩
/-- a chunk that changes nothing -/
theorem CMap.skip {w : World} {b : Nat} {cs : List (List UInt8)} (h : CMap w b cs) (s : List UInt8) (hs : Vm.fill (Vm.duo (Vm.pick (Vm.nm s) cs)) s = Vm.duo (Vm.pick (Vm.nm s) cs)) : CMap w b (cs ++ [s]) := by
  obtain ⟨m, f, h1, h2, h3, h4⟩ := h
  have hp : ∀ x, Vm.duo (Vm.pick x (cs ++ [s])) = Vm.duo (Vm.pick x cs) := fun x => by
    unfold Vm.pick
    rw [List.filter_append]
    by_cases hx : Vm.nm s = x
    · subst hx
      rw [List.filter_cons, if_pos (by simp), List.filter_nil]
      rw [Vm.duo_snoc]
      exact hs
    · rw [List.filter_cons, if_neg (by simp [hx]), List.filter_nil, List.append_nil]
  refine ⟨m, f, by simp; omega, h2, fun x hx => ?_, h4⟩
  rw [hp x]
  exact h3 x hx
/-- what stands in the map, laid for the append and the store -/
theorem CMap.grow {w w4 w5 : World} {b g cap : Nat} {cs : List (List UInt8)} {s : List UInt8} {f : Vm.Nm → Option Value} {m : Nat} {v : Value} (hs : Vm.wf (Vm.nm s)) (hm : m ≤ cs.length)
    (h3 : ∀ x, Vm.wf x → (f x = none ∧ Vm.duo (Vm.pick x cs) = []) ∨ ∃ v, f x = some v ∧ Vm.duo (Vm.pick x cs) ≠ [] ∧ w.ownsRow (b + 1) 9 1 v (Vm.duo (Vm.pick x cs)).length ((Vm.duo (Vm.pick x cs)).map Cm.str))
    (h4 : ∀ x y u v, Vm.wf x → Vm.wf y → f x = some u → f y = some v → x ≠ y → u.ownBlock ≠ v.ownBlock)
    (hv : (f (Vm.nm s) = none ∧ v = .slice none 0 0) ∨ f (Vm.nm s) = some v)
    (hf : Vm.fill (Vm.duo (Vm.pick (Vm.nm s) cs)) s = Vm.duo (Vm.pick (Vm.nm s) cs) ++ [s])
    (ho : w4.ownsRow (b + 1) 9 1 (.slice (some ⟨g, 0, none⟩) ((Vm.duo (Vm.pick (Vm.nm s) cs)).length + 1) cap) ((Vm.duo (Vm.pick (Vm.nm s) cs)).length + 1) ((Vm.duo (Vm.pick (Vm.nm s) cs)).map Cm.str ++ [Cm.str s]))
    (hg : ∀ k, k < w.heap.size → some k ≠ v.ownBlock → w4.heap[k]? = w.heap[k]?) (hat : v.ownBlock = some g ∨ w.heap.size ≤ g)
    (hM : SMap w5 b (m + 1) (fun y => if y = Vm.nm s then some (.slice (some ⟨g, 0, none⟩) ((Vm.duo (Vm.pick (Vm.nm s) cs)).length + 1) cap) else f y))
    (h5 : ∀ k, k ≠ b → k < w4.heap.size → w5.heap[k]? = w4.heap[k]?) (hsz : w.heap.size ≤ w4.heap.size) : CMap w5 b (cs ++ [s]) := by
  have hp : ∀ x, x ≠ Vm.nm s → Vm.pick x (cs ++ [s]) = Vm.pick x cs := fun x hx => by
    unfold Vm.pick
    rw [List.filter_append]
    rw [List.filter_cons, if_neg (by simp [Ne.symm hx]), List.filter_nil, List.append_nil]
  have hps : Vm.duo (Vm.pick (Vm.nm s) (cs ++ [s])) = Vm.duo (Vm.pick (Vm.nm s) cs) ++ [s] := by
    unfold Vm.pick
    rw [List.filter_append]
    rw [List.filter_cons, if_pos (by simp), List.filter_nil]
    rw [Vm.duo_snoc]
    exact hf
  have keep : ∀ {W W' : World} {u : Value} {n : Nat} {xs : List Value}, W.ownsRow (b + 1) 9 1 u n xs → (∀ k, u.ownBlock = some k → W'.heap[k]? = W.heap[k]?) → W'.ownsRow (b + 1) 9 1 u n xs := by
    intro W W' u n xs h k
    refine ⟨h.1, h.2.imp id ?_⟩
    rintro ⟨g, cap, cur, hv, hB, hg, r⟩
    exact ⟨g, cap, cur, hv, hB, (k g (by rw [hv]; rfl)).trans hg, r⟩
  have old : ∀ x u, Vm.wf x → f x = some u → x ≠ Vm.nm s → ∀ k, u.ownBlock = some k → b + 1 ≤ k ∧ k < w.heap.size ∧ some k ≠ v.ownBlock := by
    intro x u hx hu hne k hk
    rcases h3 x hx with ⟨e1, _⟩ | ⟨u', e1, _, e3⟩
    · rw [hu] at e1; cases e1
    · rw [hu] at e1
      injection e1 with e1
      subst e1
      have hl := World.ownsRow.lt e3 _ hk
      refine ⟨hl.1, hl.2, fun e => ?_⟩
      rcases hv with ⟨_, rfl⟩ | hv
      · cases e
      · exact h4 x (Vm.nm s) u v hx hs hu hv hne (by rw [hk, e])
  refine ⟨m + 1, _, by simp; omega, hM, fun x hx => ?_, fun x y u u' hx hy hu hu' hne => ?_⟩
  · by_cases hxs : x = Vm.nm s
    · subst hxs
      try dsimp only
      rw [if_pos rfl, hps]
      refine .inr ⟨_, rfl, by simp, ?_⟩
      rw [List.length_append, List.map_append]
      exact keep ho (fun k hk => h5 k (by have := (World.ownsRow.lt ho _ hk).1; omega) (World.ownsRow.lt ho _ hk).2)
    · rw [if_neg hxs, hp x hxs]
      rcases h3 x hx with h | ⟨u, e1, e2, e3⟩
      · exact .inl h
      · refine .inr ⟨u, e1, e2, keep e3 (fun k hk => ?_)⟩
        obtain ⟨q1, q2, q3⟩ := old x u hx e1 hxs k hk
        exact (h5 k (by omega) (by omega)).trans (hg k q2 q3)
  · try dsimp only at hu hu'
    have new : ∀ z t, Vm.wf z → f z = some t → z ≠ Vm.nm s → t.ownBlock ≠ some g := fun z t hz ht hne e => by
      obtain ⟨q1, q2, q3⟩ := old z t hz ht hne g e
      rcases hat with h | h
      · exact q3 h.symm
      · omega
    by_cases hxs : x = Vm.nm s
    · rw [if_pos hxs] at hu
      rw [if_neg (fun e => hne (hxs.trans e.symm))] at hu'
      injection hu with hu
      subst hu
      exact fun e => new y u' hy hu' (fun e => hne (hxs.trans e.symm)) e.symm
    · rw [if_neg hxs] at hu
      by_cases hys : y = Vm.nm s
      · rw [if_pos hys] at hu'
        injection hu' with hu'
        subst hu'
        exact new x u hx hu hxs
      · rw [if_neg hys] at hu'
        exact h4 x y u u' hx hy hu hu' hne

end Go.Proofs.Ytebkgndcgcdogaa

namespace Go.Proofs.Ytebkgndcgcdogaa
open Go.RowKit
set_option maxHeartbeats 2000000

theorem sidx_any (A : Option Addr) (n c : Nat) (l : List (List UInt8)) (s : ByteArray) (w : World) (hl : CellsIn w A n c (l.map Cm.str)) (hn : n ≤ 17592186044416) :
    Calls Try.prog 80 #[.slice A n c, .string s] w fun e w' => ∃ k : Int, e = .returned (.int .i64 k) ∧ (0 ≤ k ↔ s.data.toList ∈ l) ∧ -1 ≤ k ∧ k ≤ n ∧ w' = w := by
  have hln : l.length = n := by have := hl.1; simpa using this
  have HL := Lib.hid hl
  clear hl
  go_enter Try.func80, Try.ntmps80
  go_wp2_with fail
  go_loopw [8] (fun i wr => ∃ k : Nat, k ≤ n ∧ i = .int .i64 k ∧ wr = w ∧ ∀ j (hj : j < l.length), j < k → l[j] ≠ s.data.toList) (fun i _ => n - (intOf i).toNat)
  case atStart => exact ⟨0, Nat.zero_le _, rfl, (by first | rfl | trivial), fun j _ hj => absurd hj (Nat.not_lt_zero _)⟩
  case round =>
    obtain ⟨k, hk, rfl, rfl, hne⟩ := hrel
    by_cases hlt : k < n
    · have d8 : decide ((k : Int) < (n : Int)) = true := by simp; omega
      obtain ⟨g, o, rfl, hg, hz, y0⟩ := HL.out.at hlt
      rw [List.getElem_map] at y0
      have hkl : k < l.length := by omega
      obtain ⟨x, hx⟩ : ∃ x, Cm.b l[k] = x := ⟨_, rfl⟩
      unfold Cm.str at y0
      rw [hx] at y0
      have hxl : x.data.toList = l[k] := by rw [← hx, Cm.b_list]
      have j3 : (0 : Int) ≤ (k : Int) := by omega
      have j4 : (k : Int) < (n : Int) := by omega
      by_cases he : s = x
      · have e1 : (s.toList == x.toList) = true := str_same he
        have HM := Lib.hid (show (0 ≤ (k : Int) ↔ s.data.toList ∈ l) from ⟨fun _ => by rw [he, hxl]; exact List.getElem_mem hkl, fun _ => by omega⟩)
        clear hx hxl hz hne he
        go_wp2_with fail
        go_ret
        exact ⟨k, rfl, HM.out, by omega, by omega, rfl⟩
      · have e1 : (s.toList == x.toList) = false := str_ne he
        have HM := Lib.hid (show ∀ j (hj : j < l.length), j < k + 1 → l[j] ≠ s.data.toList from fun j hj h => by
          by_cases e : j = k
          · subst e; rw [← hxl]; exact fun e => he (bytes_ext e.symm)
          · exact hne j hj (by omega))
        clear hx hxl hz hne he
        go_wp2_with fail
        go_roundw
        case rel => exact ⟨k + 1, by omega, by go_num, (by first | rfl | trivial), HM.out⟩
        case measure => simp [intOf]; omega
    · obtain rfl : k = n := by omega
      have d8 : decide ((k : Int) < (k : Int)) = false := by simp
      have HM := Lib.hid (show (0 ≤ (-1 : Int) ↔ s.data.toList ∈ l) from ⟨fun h => absurd h (by decide), fun h => by
        obtain ⟨j, hj, e⟩ := List.mem_iff_getElem.1 h
        exact absurd e (hne j hj (by omega))⟩)
      clear hne
      go_wp2_with fail
      go_ret
      exact ⟨-1, rfl, HM.out, by omega, by omega, rfl⟩

theorem shas_any (A : Option Addr) (n c : Nat) (l : List (List UInt8)) (s : ByteArray) (w : World) (hl : CellsIn w A n c (l.map Cm.str)) (hn : n ≤ 17592186044416) :
    Calls Try.prog 64 #[.slice A n c, .string s] w fun e w' => e = .returned (.bool (decide (s.data.toList ∈ l))) ∧ w' = w := by
  have HI := Lib.hid (sidx_any A n c l s w hl hn)
  clear hl
  go_enter Try.func64, Try.ntmps64
  go_wp2_with fail
  refine HI.out.mono ?_
  rintro e w' ⟨k, rfl, hk, h1, h2, rfl⟩
  have HF := Lib.hid (show decide (s.data.toList ∈ l) = decide (0 ≤ k) from decide_eq_decide.2 hk.symm)
  clear hk
  go_wp2_with fail
  go_ret
  exact ⟨by rw [HF.out]; rfl, rfl⟩

theorem Vm.nm_wf {s : List UInt8} (h : s.length ≤ 9223372036854775807) : Vm.wf (Vm.nm s) := by
  have h1 := Dm.sum_lt s
  unfold Vm.wf Vm.nm
  simp only
  omega

set_option maxRecDepth 100000 in
theorem contents_any (A : Option Addr) (n c : Nat) (cs : List (List UInt8)) (w : World) (hc : CellsIn w A n c (cs.map Cm.str)) (hz : ∀ x ∈ cs, x.length ≤ 9223372036854775807) (hn : n ≤ 17592186044416) :
    Calls Try.prog 44 #[.slice A n c] w fun e w' => ∃ b, e = .returned (.map (some b)) ∧ w.heap.size ≤ b ∧ Below w.heap.size w w' ∧ CMap w' b cs := by
  have hln : cs.length = n := by have := hc.1; simpa using this
  have mk : (Instr.makeMap 72 none).run Try.prog w = .ok (.map (some w.heap.size)) (w.alloc (.map #[] 0)) := run_makeMap _ w
  obtain ⟨B, hB⟩ : ∃ B, w.heap.size = B := ⟨_, rfl⟩
  obtain ⟨w1, hw1⟩ : ∃ V, w.alloc (.map #[] 0) = V := ⟨_, rfl⟩
  have hb1 : Below B w w1 := by rw [← hw1, ← hB]; exact (Below.refl _ _).alloc (Nat.le_refl _) _
  have hm1 : CMap w1 B [] := by rw [← hw1, ← hB]; exact CMap.made w
  have HC := Lib.hid hc
  have HW1 := Lib.hid hw1
  have HB1 := Lib.hid hb1
  have HM1 := Lib.hid hm1
  have HBE := Lib.hid hB
  obtain ⟨i0, hi, hz0, hz1, hz2⟩ := info_parts info_str
  rw [hw1, hB] at mk
  clear hc hw1 hb1 hm1
  rw [hB]
  clear hB
  go_enter Try.func44, Try.ntmps44
  go_wp2_with fail
  clear mk
  go_loopw [11] (fun i wr => ∃ k : Nat, k ≤ n ∧ i = .int .i64 k ∧ Below B w wr ∧ CMap wr B (cs.take k)) (fun i wr => n - (intOf i).toNat)
  case atStart => exact ⟨0, by omega, rfl, HB1.out, by rw [List.take_zero]; exact HM1.out⟩
  case round =>
    obtain ⟨k, hk, rfl, hBr, hMr⟩ := hrel
    have hBl := hMr.lt
    by_cases hlt : k < n
    · have d8 : decide ((k : Int) < (n : Int)) = true := by simp; omega
      obtain ⟨g, o, rfl, hg, hzl, y0⟩ := HC.out.at hlt
      rw [List.getElem_map] at y0
      have hkl : k < cs.length := by omega
      obtain ⟨x, hx⟩ : ∃ x, Cm.b cs[k] = x := ⟨_, rfl⟩
      unfold Cm.str at y0
      rw [hx] at y0
      rw [HBE.out] at hg
      have z0 := (hBr.cell (p := ⟨g, o + k, none⟩) hg).trans y0
      obtain ⟨s, hs⟩ : ∃ s, cs[k] = s := ⟨_, rfl⟩
      have hxl : x.data.toList = s := by rw [← hx, Cm.b_list, hs]
      have hxs : x.size = s.length := by rw [← hxl]; simp
      have hsm : s.length ≤ 9223372036854775807 := by rw [← hs]; exact hz _ (List.getElem_mem hkl)
      have hxm : x.size ≤ 9223372036854775807 := by omega
      have hwf : Vm.wf (Vm.nm s) := Vm.nm_wf hsm
      have hxb : Cm.str s = .string x := by unfold Cm.str; rw [← hs, hx]
      have htk : cs.take (k + 1) = cs.take k ++ [s] := by rw [← hs]; exact List.take_succ_eq_append_getElem hkl
      have hN := mname_any x
      rw [hxl] at hN
      obtain ⟨D, hD⟩ : ∃ D, Dm.sum s = D := ⟨_, rfl⟩
      have hnm : Vm.nm s = (D, (x.size : Int)) := by unfold Vm.nm; rw [hD, hxs]
      have HN := Lib.hid (show ∀ V : World, Calls Try.prog 43 #[.string x] V fun e w' => e = .returned (.agg #[.int .i64 D, .int .i64 (x.size : Int)]) ∧ Below V.heap.size V w' from fun V => by
        have h := hN V (by unfold maxLen; omega)
        rw [hnm] at h
        exact h)
      have HBr := Lib.hid hBr
      have HMr := Lib.hid hMr
      have HTK := Lib.hid htk
      have HXL := Lib.hid hxl
      have HWF := Lib.hid hwf
      have HNM := Lib.hid hnm
      have HXB := Lib.hid hxb
      have hcl : (cs.take k).length = k := by rw [List.length_take]; omega
      have HCL := Lib.hid hcl
      clear hBr hMr y0 hx hzl hs hxl hxs hsm hwf hxb htk hN hD hnm hg hcl
      go_wp2_with fail
      refine (HN.out _).mono ?_
      rintro e w2 ⟨rfl, hB2⟩
      have hMw : CMap (w2.alloc (.cells #[.int .i64 D, .int .i64 (x.size : Int)] 59)) B (cs.take k) := (HMr.out.below hB2).below ((Below.refl _ _).alloc (Nat.le_refl _) _)
      have hsr : B ≤ wr.heap.size := by have := HBr.out.size; rw [HBE.out] at this; exact this
      have hBw : Below B w (w2.alloc (.cells #[.int .i64 D, .int .i64 (x.size : Int)] 59)) := (HBr.out.trans (hB2.mono hsr)).alloc (Nat.le_trans hsr hB2.size) _
      have hl2 : B < w2.heap.size := Nat.lt_of_lt_of_le hBl hB2.size
      obtain ⟨nb, hnb⟩ : ∃ nb, w2.heap.size = nb := ⟨_, rfl⟩
      obtain ⟨wq, hwq⟩ : ∃ V, w2.alloc (.cells #[.int .i64 D, .int .i64 (x.size : Int)] 59) = V := ⟨_, rfl⟩
      have hk0 : wq.heap[nb]? = some (.cells #[.int .i64 D, .int .i64 (x.size : Int)] 59 (0, 0)) := by rw [← hwq, ← hnb]; exact heap_alloc_new _ _
      have hsq : wq.heap.size = nb + 1 := by rw [← hwq]; simp [hnb]
      rw [hwq] at hMw hBw
      have HWQ := Lib.hid hwq
      have q0 : wq.cell? ⟨nb, 0, none⟩ = some (.int .i64 D) := by simp [World.cell?, hk0]
      have q1 : wq.cell? ⟨nb, 1, none⟩ = some (.int .i64 (x.size : Int)) := by simp [World.cell?, hk0]
      obtain ⟨T, hT⟩ : ∃ T, Vm.duo (Vm.pick (Vm.nm s) (cs.take k)) = T := ⟨_, rfl⟩
      have hT2 : T.length ≤ 2 := by rw [← hT]; exact Vm.duo_len _
      obtain ⟨v, hlk, hov⟩ := hMw.look HWF.out
      rw [hT] at hov
      have HLK0 := Lib.hid hlk
      rw [HNM.out] at hlk
      have hlk : (Instr.lookup 72 (.map (some B)) (.agg #[.int .i64 D, .int .i64 (x.size : Int)]) false).run Try.prog (w2.alloc (.cells #[.int .i64 D, .int .i64 (x.size : Int)] 59)) = .ok v (w2.alloc (.cells #[.int .i64 D, .int .i64 (x.size : Int)] 59)) := by rw [HWQ.out]; exact hlk
      obtain ⟨A1, c1, rfl, hci⟩ := own_cells hov
      have HMW := Lib.hid hMw
      have HBW := Lib.hid hBw
      have HCI := Lib.hid hci
      have HT := Lib.hid hT
      have HOV := Lib.hid hov
      have hBnb : B < nb := by omega
      have HNB := Lib.hid hnb
      have HK0 := Lib.hid hk0
      have HSQ := Lib.hid hsq
      clear hsq
      clear hMw hBw hov hci hT hB2 hwq hnb hk0
      by_cases hfull : T.length < 2
      · have e0 : decide ((T.length : Int) < 2) = true := by simp; omega
        have HS := Lib.hid (fun V h => shas_any A1 T.length c1 T x V h (by omega))
        rw [HXL.out] at HS
        by_cases hin : s ∈ T
        · rw [decide_eq_true hin] at HS
          have HM2 := Lib.hid (show CMap wq B (cs.take (k + 1)) by rw [HTK.out]; exact HMW.out.skip s (by rw [HT.out]; exact Vm.fill_in hin))
          clear hin
          go_wp2_with (first | (go_at_call 64; refine (HS.out _ (by rw [HWQ.out]; exact HCI.out)).mono ?_; rintro e w' ⟨rfl, rfl⟩) | fail)
          go_roundw
          case rel => exact ⟨k + 1, by omega, by go_num, by rw [HWQ.out]; exact HBW.out, by rw [HWQ.out]; exact HM2.out⟩
          case measure => simp [intOf]; omega
        · rw [decide_eq_false hin] at HS
          go_wp2_with (first | (go_at_call 64; refine (HS.out _ (by rw [HWQ.out]; exact HCI.out)).mono ?_; rintro e w' ⟨rfl, rfl⟩) | fail)
          rw [HWQ.out]
          simp only [HNB.out]
          have p0 : wq.drew.cell? ⟨nb, 0, none⟩ = some (.int .i64 D) := q0
          have p1 : wq.drew.cell? ⟨nb, 1, none⟩ = some (.int .i64 (x.size : Int)) := q1
          have hnq : nb < wq.heap.size := by rw [HSQ.out]; omega
          have p2 : (wq.drew.alloc (.cells #[.string x] 9)).cell? ⟨nb, 0, none⟩ = some (.int .i64 D) := (World.cell?_alloc_lt _ _ _ hnq).trans p0
          have p3 : (wq.drew.alloc (.cells #[.string x] 9)).cell? ⟨nb, 1, none⟩ = some (.int .i64 (x.size : Int)) := (World.cell?_alloc_lt _ _ _ hnq).trans p1
          have hown : wq.drew.ownsRow (B + 1) 9 1 (.slice A1 T.length c1) T.length (T.map Cm.str) := HOV.out
          have hBq : B < wq.heap.size := by rw [HSQ.out]; omega
          obtain ⟨m, f, hm, hS, h3, h4⟩ := HMW.out
          have hrl : ∀ b', (Value.slice A1 T.length c1).ownBlock = some b' → B + 1 ≤ b' ∧ b' < wq.heap.size := fun b' hb' => World.ownsRow.lt HOV.out _ hb'
          have hfv : (f (Vm.nm s) = none ∧ Value.slice A1 T.length c1 = .slice none 0 0) ∨ f (Vm.nm s) = some (.slice A1 T.length c1) := by
            have h := hS.look1 (t := 72) (e := 26) Try.underlying72 (z := .slice none 0 0) (by kernel_rfl) HWF.out
            rw [HLK0.out] at h
            injection h with h
            cases hf : f (Vm.nm s) with
            | none => rw [hf] at h; exact .inl ⟨rfl, h⟩
            | some u => rw [hf] at h; exact .inr (by rw [h]; rfl)
          have hne : (Value.slice A1 T.length c1).ownBlock ≠ some nb := by
            intro e
            rcases HOV.out.2 with ⟨h, _⟩ | ⟨g', cap', cur', hv, _, hg', _⟩
            · rw [h] at e; cases e
            · rw [hv] at e
              have e : some g' = some nb := e
              injection e with e
              rw [e, HK0.out] at hg'
              injection hg' with hg'
              injection hg' with _ h2 _
              exact absurd h2 (by decide)
          have HNE := Lib.hid hne
          clear hne
          have HRL := Lib.hid hrl
          have HFV := Lib.hid hfv
          have HS' := Lib.hid hS
          have H3 := Lib.hid h3
          have H4 := Lib.hid h4
          have hml : m ≤ k := by rw [← HCL.out]; exact hm
          have hmx : m < maxLen := by unfold maxLen; omega
          have HIN := Lib.hid (show Vm.fill (Vm.duo (Vm.pick (Vm.nm s) (cs.take k))) s = Vm.duo (Vm.pick (Vm.nm s) (cs.take k)) ++ [s] by rw [HT.out]; exact Vm.fill_new hfull hin)
          clear hin hrl hfv hS h3 h4 hlk
          go_region_law (refine step_append_lies _ rfl (.tmp 31) (.tmp 33) 26 rfl (B + 1) 9 i0 (.string ByteArray.empty) 1 16 Try.underlying26 hi hz0 hz1 hz2 rfl (by decide) (.slice A1 T.length c1) T.length (T.map Cm.str) (by simp [Act.eval]) (World.ownsRow.alloc hown _) ⟨wq.heap.size, 0, none⟩ 1 1 [.string x] (by simp [Act.eval]) rfl (cell_one_new _ _ _) (by simp [Value.oneCell']) (by omega) (by unfold maxLen; omega) (by omega) (by simp <;> omega) _ rfl ?_; intro g4 cap4 w4 hown4 hgrow4 hat4 hlt4; have S4 := Lib.hid (HS'.out.of_block (w' := w4) ((hgrow4.block B (by simp <;> omega) (fun e => by have := HRL.out _ e.symm; omega)).trans (Below.heap_alloc wq.drew _ _ (by exact hBq)))); obtain ⟨w5, hrun, hM5, hB5, h5⟩ := S4.out.store (t := 72) Try.underlying72 hmx HWF.out (.slice (some ⟨g4, 0, none⟩) (T.length + 1) cap4); have hrun : (Instr.mapUpdate 72 (.map (some B)) (.agg #[.int .i64 D, .int .i64 (x.size : Int)]) (.slice (some ⟨g4, 0, none⟩) (T.length + 1) cap4)).run Try.prog w4 = .ok () w5 := (by rw [HNM.out] at hrun; exact hrun); have hk4 : w4.heap[nb]? = some (.cells #[.int .i64 D, .int .i64 (x.size : Int)] 59 (0, 0)) := (hgrow4.block nb (by simp <;> omega) (fun e => HNE.out e.symm)).trans ((Below.heap_alloc wq.drew _ _ hnq).trans HK0.out); have d0 : w4.cell? ⟨nb, 0, none⟩ = some (.int .i64 D) := (by simp [World.cell?, hk4]); have d1 : w4.cell? ⟨nb, 1, none⟩ = some (.int .i64 (x.size : Int)) := (by simp [World.cell?, hk4]); clear hk4; have HO4 := Lib.hid hown4; have HG4 := Lib.hid hgrow4; have HA4 := Lib.hid hat4; have HM5 := Lib.hid hM5; have HB5 := Lib.hid hB5; have H5 := Lib.hid h5; clear hown4 hgrow4 hat4 hlt4 hM5 hB5 h5)
          all_goals have HBX := Lib.hid (show Below B w w5 from ((HBW.out.drew.alloc (show B ≤ wq.heap.size by omega) _).grown HG4.out (by simp <;> omega) (fun b hb => by have := (HRL.out b hb).1; omega)).trans HB5.out)
          all_goals have HMX := Lib.hid (show CMap w5 B (cs.take (k + 1)) from by
            rw [HTK.out]
            refine CMap.grow (w := wq) (w4 := w4) (v := .slice A1 T.length c1) (g := g4) (cap := cap4) HWF.out hm H3.out H4.out HFV.out HIN.out ?_ (fun q h1 h2 => (HG4.out.block q (by simp <;> omega) h2).trans (Below.heap_alloc wq.drew _ _ h1)) (HA4.out.imp id (fun h => by rw [h]; simp)) ?_ H5.out (by have := HG4.out.size; simp at this; omega)
            · rw [HT.out, HXB.out]; exact HO4.out
            · rw [HT.out]; exact HM5.out)
          all_goals go_wp2
          all_goals go_roundw
          case rel => exact ⟨k + 1, by omega, by go_num, HBX.out, HMX.out⟩
          case measure => simp [intOf]; omega
          case rel => exact ⟨k + 1, by omega, by go_num, HBX.out, HMX.out⟩
          case measure => simp [intOf]; omega
          case rel => exact ⟨k + 1, by omega, by go_num, HBX.out, HMX.out⟩
          case measure => simp [intOf]; omega
      · have e0 : decide ((T.length : Int) < 2) = false := by simp; omega
        have HM2 := Lib.hid (show CMap wq B (cs.take (k + 1)) by rw [HTK.out]; exact HMW.out.skip s (by rw [HT.out]; exact Vm.fill_full hfull s))
        go_wp2_with fail
        go_roundw
        case rel => exact ⟨k + 1, by omega, by go_num, by rw [HWQ.out]; exact HBW.out, by rw [HWQ.out]; exact HM2.out⟩
        case measure => simp [intOf]; omega
    · obtain rfl : k = n := by omega
      have d8 : decide ((k : Int) < (k : Int)) = false := by simp
      have HE := Lib.hid (show cs.take k = cs from List.take_of_length_le (by omega))
      have HM := Lib.hid hMr
      clear hMr
      go_wp2_with fail
      go_ret
      exact ⟨B, rfl, Nat.le_refl _, hBr, by rw [← HE.out]; exact HM.out⟩

end Go.Proofs.Ytebkgndcgcdogaa
