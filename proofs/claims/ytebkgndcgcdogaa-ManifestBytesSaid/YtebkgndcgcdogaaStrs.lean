/-
  A slice of strings that came in: how it reads, and what the bound on the bulk gives of it.
-/
import Derived.Test.YtebkgndcgcdogaaChE
import Derived.Test.YtebkgndcgcdogaaBulk
import Derived.Deep.Strs
namespace Go.Proofs.Ytebkgndcgcdogaa
open Go.RowKit
section
open Go.ChangeShapes Go.WideShapes Go.ChangeAt
/-- what the datum of such a slice is -/
def StrsDatum {H : Type} (l : List (List UInt8)) (c : Nat) (d : DataW H) : Prop := (d = .nil ∧ c = 0 ∧ l = []) ∨ ∃ sp, d = .slice (l.map fun x => .lit (.string x)) sp ∧ l.length + sp.length = c
theorem strsIn_of {H : Type} {enc : TypeId × Value → H} {P : Program} {W : World} {base : Nat} {held : Bool} {t e : TypeId} {A : Option Addr} {n c : Nat} {d : DataW H} {p : List MemPlace}
    (ht : P.underlying t = some (.slice e)) (he : P.underlying e = some .string) (hc : P.cellsOf e = 1) (h : DataW.Trod enc P W base (fun _ => true) held t (.slice A n c) d p) :
    ∃ l : List (List UInt8), CellsIn W A n c (l.map Cm.str) ∧ (A = none → c = 0) ∧ StrsDatum l c d := by
  obtain ⟨fuel, hf⟩ := h
  rcases Deep.open_strs ht he hc hf with ⟨hcs, hx⟩ | ⟨x, len, cc, m, Sx, hcs, _, hl, _, hm, hx, hcell⟩
  · simp [Value.cells] at hcs
    obtain ⟨rfl, rfl, rfl⟩ := hcs
    have hd : d = .nil := by cases hx; rfl
    exact ⟨[], CellsIn.nil W, fun _ => rfl, .inl ⟨hd, rfl, rfl⟩⟩
  · simp [Value.cells] at hcs
    obtain ⟨rfl, rfl, rfl⟩ := hcs
    rw [if_pos rfl] at hm
    subst hm
    refine ⟨(List.range n).map (fun i => (Sx i).data.toList), ?_, ?_, ?_⟩
    · refine ⟨by simp, hl, fun hn => ?_⟩
      obtain ⟨b, off, spot⟩ := x
      have hspot : spot = none := by simpa [Addr.add] using World.cell?_spot (hcell 0 (by omega)).1
      subst hspot
      have hat : ∀ i, i < m → W.cell? ⟨b, off + i, none⟩ = some (.string (Sx i)) := fun i hi => by
        rw [← Go.WideShapes.add_plain]; exact (hcell i hi).1
      refine ⟨b, off, rfl, World.block_lt_of_cell? W _ (hat 0 (by omega)), fun i hi => ?_⟩
      have hi' : i < n := by simpa using hi
      rw [hat i (by omega)]
      simp [Cm.str, Cm.b_of]
    · intro h; cases h
    · have hd : d = .slice ((List.range n).map fun i => .lit (.string (Sx i).data.toList)) ((List.range (m - n)).map fun j => .lit (.string (Sx (n + j)).data.toList)) := by cases hx; rfl
      refine .inr ⟨(List.range (m - n)).map fun j => .lit (.string (Sx (n + j)).data.toList), ?_, ?_⟩
      · rw [hd, List.map_map]; rfl
      · simp; omega
end
namespace bulks
theorem strs_sum {H : Type} : ∀ l : List (List UInt8), l.flatten.length + l.length ≤ Rows.uptoBulkAll (H := H) (l.map fun x => .lit (.string x))
  | [] => by simp [Rows.uptoBulkAll]
  | x :: r => by
    have := strs_sum (H := H) r
    simp only [List.map_cons, Rows.uptoBulkAll, Rows.uptoBulk, List.flatten_cons, List.length_append, List.length_cons]
    omega
theorem strs_small {H : Type} {ds : List (DataW H)} (hk : Rows.uptoSmall H ds = true) (j : Nat) {d : DataW H} {l : List (List UInt8)} {c : Nat} (hd : ds[j]? = some d) (hi : StrsDatum l c d) : l.flatten.length + l.length ≤ 1048576 := by
  rcases hi with ⟨_, _, rfl⟩ | ⟨sp, rfl, _⟩
  · simp
  · have h1 := mem_le (List.mem_of_getElem? hd)
    have h2 := small hk
    have h3 := strs_sum (H := H) l
    simp only [Rows.uptoBulk] at h1
    omega
end bulks
end Go.Proofs.Ytebkgndcgcdogaa
