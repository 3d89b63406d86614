/-
  Rows of one's own with three cells an element: copied onto, widened, cleared; and slices.Insert at rows.
-/
import Derived.Test.YtmdakplaaehmnaaIf
import Derived.Test.YtmdakplaaehmnaaCut3
import Derived.Lib.AppendZerosOnto
import Derived.Lib.Overlaps
import Derived.Laws.Externs
import Derived.Laws.NewBlocks
import Derived.Shelf.Spec.SlicesInsert
namespace Go.Proofs.Ytmdakplaaehmnaa
open Go.RowKit Go.Lib
set_option maxHeartbeats 4000000

/-- k elements are copied from anywhere onto a row of one's own -/
theorem own_copy3 {P : Program} {w : World} {base : Nat} {e T ty : TypeId} {i : TypeInfo} (hu : P.underlying T = some (.slice e)) (hi : P.info? e = some i) (hsz : i.size = 3)
    {g m cap j k : Nat} {xs vs : List Value} (hown : w.ownsRow base e 3 (.slice (some ⟨g, 0, none⟩) m cap) m xs) (hv : vs.length = k * 3) (h1 : ∀ u ∈ vs, u.oneCell' = true) (hj : j + k ≤ m)
    (src : Addr) (dl dc sl sc : Nat) (hmin : Nat.min sl dl = k) (hsrc : ∀ q v, vs[q]? = some v → w.cell? (src.add q) = some v) :
    ∃ w', (Builtin.copy_ #[T, T] ty #[.slice (some ⟨g, j * 3, none⟩) dl dc, .slice (some src) sl sc]).run P w = .ok (goInt (k : Int)) w' ∧
      w'.ownsRow base e 3 (.slice (some ⟨g, 0, none⟩) m cap) m (xs.take (j * 3) ++ vs ++ xs.drop (j * 3 + k * 3)) ∧ Below g w w' ∧ (∀ b, b ≠ g → w'.heap[b]? = w.heap[b]?) ∧ w'.heap.size = w.heap.size := by
  rcases hown.2 with ⟨h', _⟩ | ⟨g', cap', cur, h', hB, hg, hnc, hcm, hcs, htake⟩
  · simp at h'
  simp only [Value.slice.injEq, Option.some.injEq, Addr.mk.injEq, and_true, true_and] at h'
  obtain ⟨rfl, rfl⟩ := h'
  have hx := hown.1
  have hmin2 : Nat.min sl dl * i.size = vs.length := by rw [hmin, hsz, hv]
  have hload := run_loadCells_list (P := P) w src vs hsrc
  have hst := run_storeCells_at P g (j * 3) e vs 0 cur w hg (by rw [hv, hcs]; omega) h1
  refine ⟨w.setRow g (cur.toList.take (j * 3 + 0) ++ vs ++ cur.toList.drop (j * 3 + 0 + vs.length)).toArray, ?_, ?_, ?_, ?_, ?_⟩
  · clear hown htake hsrc
    simp only [Builtin.copy_, List.getElem?_toArray, List.getElem?_cons_zero, List.getElem?_cons_succ, Sem.run_bind, run_underlying hu, Builtin.lenOf, Builtin.firstCells, sizeOf, typeInfo, Result.andThen_ok]
    rw [hmin] at hmin2
    have hp : ∀ W : World, Sem.run P program W = .ok P W := fun W => rfl
    simp only [Sem.run_pure, Result.andThen_ok, hp, hi, hmin]
    simp only [hmin2, hload, Result.andThen_ok, hst]
  · have hcl : cur.toList.length = cap * 3 := by rw [Array.length_toList, hcs]
    refine ⟨by simp only [List.length_append, List.length_take, List.length_drop, hx, hv]; omega, .inr ⟨g, cap, _, rfl, hB, setRow_heap _ _ _ _ _ _ hg, hnc, hcm, ?_, ?_⟩⟩
    · simp [hv, hcs]; omega
    · have e2 : cur.toList.take (j * 3 + 0) = xs.take (j * 3) := by
        rw [← htake, List.take_take]; congr 1; omega
      have e3 : (cur.toList.drop (j * 3 + k * 3)).take (m * 3 - (j * 3 + k * 3)) = xs.drop (j * 3 + k * 3) := by
        rw [← htake, List.drop_take]
      rw [e2, hv, Nat.add_zero]
      have hl1 : (xs.take (j * 3) ++ vs).length = j * 3 + k * 3 := by simp [hx, hv]; omega
      rw [List.toList_toArray, List.take_append, hl1, List.take_of_length_le (by rw [hl1]; omega), e3]
  · exact ⟨rfl, rfl, rfl, by simp [World.setRow], fun k hk => setRow_other w g k _ (by omega)⟩
  · exact fun k hk => setRow_other w g k _ hk
  · simp [World.setRow]

/-- a row of one's own with room, read as one longer -/
theorem own_wide3 {w : World} {base : Nat} {e : TypeId} {g m cap : Nat} {xs : List Value} (hown : w.ownsRow base e 3 (.slice (some ⟨g, 0, none⟩) m cap) m xs) (hc : m + 1 ≤ cap) :
    ∃ z0 z1 z2, w.ownsRow base e 3 (.slice (some ⟨g, 0, none⟩) (m + 1) cap) (m + 1) (xs ++ [z0, z1, z2]) := by
  rcases hown.2 with ⟨h', _⟩ | ⟨g', cap', cur, h', hB, hg, hnc, hcm, hcs, htake⟩
  · simp at h'
  simp only [Value.slice.injEq, Option.some.injEq, Addr.mk.injEq, and_true, true_and] at h'
  obtain ⟨rfl, rfl⟩ := h'
  have hcl : cur.toList.length = cap * 3 := by rw [Array.length_toList, hcs]
  have h3 : ((cur.toList.drop (m * 3)).take 3).length = 3 := by simp; omega
  have e : cur.toList.take ((m + 1) * 3) = xs ++ (cur.toList.drop (m * 3)).take 3 := by
    rw [show (m + 1) * 3 = m * 3 + 3 by omega, List.take_add, htake]
  generalize (cur.toList.drop (m * 3)).take 3 = q at h3 e
  match q, h3 with
  | [z0, z1, z2], _ =>
    exact ⟨z0, z1, z2, by simp [hown.1]; omega, .inr ⟨g, cap, cur, rfl, hB, hg, hc, hcm, hcs, e⟩⟩

/-- 'clear' of one element behind the last one -/
theorem run_clear3 {P : Program} {w : World} {base : Nat} {e T ty : TypeId} {z : Value} (hu : P.underlying T = some (.slice e)) (hz : ∀ w, (zeroValue e).run P w = .ok z w) {z0 z1 z2 : Value} (hzc : z.cells = #[z0, z1, z2]) (h1 : ∀ u ∈ [z0, z1, z2], u.oneCell' = true)
    {g m cap : Nat} {xs : List Value} (hown : w.ownsRow base e 3 (.slice (some ⟨g, 0, none⟩) m cap) m xs) (hc : m + 1 ≤ cap) (c : Nat) :
    ∃ w', (Builtin.clear_ #[T] ty #[.slice (some ⟨g, m * 3, none⟩) 1 c]).run P w = .ok (.tuple #[]) w' ∧
      w'.ownsRow base e 3 (.slice (some ⟨g, 0, none⟩) m cap) m xs ∧ Below g w w' ∧ (∀ b, b ≠ g → w'.heap[b]? = w.heap[b]?) ∧ w'.heap.size = w.heap.size := by
  rcases hown.2 with ⟨h', _⟩ | ⟨g', cap', cur, h', hB, hg, hnc, hcm, hcs, htake⟩
  · simp at h'
  simp only [Value.slice.injEq, Option.some.injEq, Addr.mk.injEq, and_true, true_and] at h'
  obtain ⟨rfl, rfl⟩ := h'
  have hx := hown.1
  have hq : (Builtin.zeroCells z.cells 1).toList = [z0, z1, z2] := by
    rw [hzc]
    show ((Array.range (1 * 3)).map fun i => (#[z0, z1, z2])[i % 3]!).toList = _
    rw [show Array.range (1 * 3) = #[0, 1, 2] by decide]
    simp
  have hst := run_storeCells_at P g (m * 3) e [z0, z1, z2] 0 cur w hg (by simp [hcs]; omega) h1
  obtain ⟨W, hW⟩ : ∃ W, w.setRow g (cur.toList.take (m * 3 + 0) ++ [z0, z1, z2] ++ cur.toList.drop (m * 3 + 0 + [z0, z1, z2].length)).toArray = W := ⟨_, rfl⟩
  refine ⟨W, ?_, ?_, ?_, ?_, ?_⟩
  · rw [hW] at hst
    clear hown htake hW
    simp only [Builtin.clear_, List.getElem?_toArray, List.getElem?_cons_zero, Sem.run_bind, run_underlying hu, Result.andThen_ok, Sem.run_pure, hz, hq, hst]
  · refine ⟨hx, .inr ⟨g, cap, (cur.toList.take (m * 3 + 0) ++ [z0, z1, z2] ++ cur.toList.drop (m * 3 + 0 + [z0, z1, z2].length)).toArray, rfl, hB, by rw [← hW]; exact setRow_heap _ _ _ _ _ _ hg, hnc, hcm, ?_, ?_⟩⟩
    · simp [hcs]; omega
    · rw [List.toList_toArray, Nat.add_zero, htake, List.append_assoc, List.take_append_of_le_length (by rw [hx]; exact Nat.le_refl _), List.take_of_length_le (by rw [hx]; exact Nat.le_refl _)]
  · rw [← hW]; exact ⟨rfl, rfl, rfl, by simp [World.setRow], fun k hk => setRow_other w g k _ (by omega)⟩
  · intro k hk; rw [← hW]; exact setRow_other w g k _ hk
  · rw [← hW]; simp [World.setRow]

end Go.Proofs.Ytmdakplaaehmnaa
