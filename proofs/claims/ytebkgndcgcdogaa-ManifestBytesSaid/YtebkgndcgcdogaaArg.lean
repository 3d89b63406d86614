/-
  Arguments: a struct of a number and a slice of structs of two numbers; a slice of strings without a bound on the bulk.
-/
import Derived.Test.YtebkgndcgcdogaaStrs
import Derived.Test.YtebkgndcgcdogaaNames
import Derived.Deep.SlicePairs
import Derived.SizedLaws
namespace Go.Proofs.Ytebkgndcgcdogaa
open Go.RowKit
section
open Go.ChangeShapes Go.WideShapes Go.ChangeAt

theorem weights_all {H : Type} {P : Program} {e : TypeId} {d : DataW H} {n : Nat} : ∀ {ds : List (DataW H)}, d ∈ ds → n ∈ d.weights P e → n ∈ DataW.weightsAll P e ds
  | [], h, _ => by cases h
  | x :: r, h, hn => by
    simp only [DataW.weightsAll, List.mem_append]
    rcases List.mem_cons.1 h with rfl | h
    · exact .inl hn
    · exact .inr (weights_all h hn)

theorem strs_sized {H : Type} {P : Program} {ts : List TypeId} {ds : List (DataW H)} (h : (DataW.weightsEach P ts ds).all (· ≤ reachBytes) = true) {j : Nat} {t e : TypeId} {c : Nat} {d : DataW H} {l : List (List UInt8)} (ht : ts[j]? = some t) (hd : ds[j]? = some d)
    (hu : P.underlying t = some (.slice e)) (hi : StrsDatum l c d) : c * P.bytesOf e ≤ 140737488351232 ∧ ∀ x ∈ l, x.length ≤ 140737488351232 := by
  rcases hi with ⟨_, rfl, rfl⟩ | ⟨sp, rfl, hl⟩
  · exact ⟨by simp, fun x hx => nomatch hx⟩
  · refine ⟨?_, fun x hx => ?_⟩
    · have := sized_slice h ht hd hu
      rw [List.length_map, hl] at this
      simpa [reachBytes] using this
    · have h1 : x.length ∈ (DataW.slice (l.map fun x => DataW.lit (.string x)) sp : DataW H).weights P t := by
        simp only [DataW.weights, hu, List.mem_cons, List.mem_append]
        exact .inr (.inl (weights_all (d := .lit (.string x)) (List.mem_map.2 ⟨x, hx, rfl⟩) (by simp [DataW.weights])))
      have h2 : x.length ≤ reachBytes := of_decide_eq_true (List.all_eq_true.1 h _ (DataW.weights_mem_each ht hd _ h1))
      simpa only [reachBytes] using h2

theorem agg_names_sized {H : Type} {P : Program} {ts : List TypeId} {ds : List (DataW H)} (h : (DataW.weightsEach P ts ds).all (· ≤ reachBytes) = true) {j : Nat} {t ft e : TypeId} {parts : List (DataW H)} {fs : Array Field} {i c : Nat} {d : DataW H}
    (ht : ts[j]? = some t) (hd : ds[j]? = some (.agg parts)) (hu : P.underlying t = some (.struct fs)) (hf : (fs.toList.map (·.type))[i]? = some ft) (hp : parts[i]? = some d) (he : P.underlying ft = some (.slice e)) (hi : IntsDatum c d) : c * P.bytesOf e ≤ 140737488351232 := by
  rcases hi with ⟨_, rfl⟩ | ⟨el, sp, rfl, hl⟩
  · simp
  · have := sized_agg h ht hd hu hf hp (n := (el.length + sp.length) * P.bytesOf e) (by simp [DataW.weights, he])
    rw [hl] at this
    simpa [reachBytes] using this

theorem namesIn_of {H : Type} {enc : TypeId × Value → H} {P : Program} {W : World} {base : Nat} {held : Bool} {t e : TypeId} {f0 f1 : Field} {fuel : Nat} {v : Value} {y : DataW H × List MemPlace}
    (ht : P.underlying t = some (.slice e)) (he : P.underlying e = some (.struct #[f0, f1])) (ce : P.cellsOf e = 2) (o0 : f0.offset = 0) (o1 : f1.offset = 1) (c0 : P.cellsOf f0.type = 1) (c1 : P.cellsOf f1.type = 1)
    (u0 : P.underlying f0.type = some (.int .i64)) (u1 : P.underlying f1.type = some (.int .i64)) (h : DataW.trod enc P W base (fun _ => true) held fuel t [v] = some y) :
    ∃ (A : Option Addr) (n c : Nat) (l : List Vm.Nm), v = .slice A n c ∧ NamesIn W A n c l ∧ IntsDatum c y.1 := by
  rcases Deep.open_slice_pairs ht he ce o0 o1 c0 c1 h with ⟨hcs, hx⟩ | ⟨x, len, cc, m, k, V0, V1, D0, D1, P0, P1, hcs, _, hl, _, hm, hx, hat⟩
  · simp at hcs
    subst hcs
    exact ⟨none, 0, 0, [], rfl, NamesIn.nil W none 0, .inl ⟨by rw [hx], rfl⟩⟩
  · simp at hcs
    subst hcs
    rw [if_pos rfl] at hm
    subst hm
    refine ⟨_, len, m, (List.range len).map fun i => (intOf (V0 i), intOf (V1 i)), rfl, ⟨by simp, hl, fun hn => ?_⟩, .inr ?_⟩
    · obtain ⟨b, off, spot⟩ := x
      have hspot : spot = none := by simpa [Addr.add] using World.cell?_spot (hat 0 (by omega)).1
      subst hspot
      refine ⟨b, off, rfl, ?_, fun i hi => ?_⟩
      · have := (hat 0 (by omega)).1
        rw [Go.WideShapes.add_plain] at this
        exact World.block_lt_of_cell? W _ this
      · have hi' : i < len := by simpa using hi
        obtain ⟨h0, h1, h2, h3⟩ := hat i (by omega)
        rw [Go.WideShapes.add_plain] at h0 h1
        obtain ⟨z0, e0, _, _⟩ := DataW.trod_int u0 h2
        obtain ⟨z1, e1, _, _⟩ := DataW.trod_int u1 h3
        have e0 : V0 i = .int .i64 z0 := (List.cons.inj e0).1
        have e1 : V1 i = .int .i64 z1 := (List.cons.inj e1).1
        simp only [List.getElem_map, List.getElem_range]
        rw [h0]
        rw [Nat.add_assoc, h1, e0, e1]
        exact ⟨rfl, rfl⟩
    · rw [hx]
      exact ⟨_, _, rfl, by simp; omega⟩
end
end Go.Proofs.Ytebkgndcgcdogaa
