/-
  Arguments: a struct of one slice of rows (structs of two numbers and a text).
-/
import Derived.Test.YtmdakplaaehmnaaRw
import Derived.Deep.SlicePairs
import Derived.ChangeSame
import Derived.SizedLaws
import Derived.Lib.SmallJoins
namespace Go.Proofs.Ytmdakplaaehmnaa
open Go.RowKit
section
open Go.ChangeShapes Go.WideShapes Go.ChangeAt Go.Deep

theorem open_agg1 {H : Type} {enc : TypeId × Value → H} {P : Program} {w : World} {base : Nat} {spare : Nat → Bool} {held : Bool} {r : Reach} {b0 : Nat} {t : TypeId} {f0 : Field} {v : Value} {d : DataW H} {p : List MemPlace} (hs : P.underlying t = some (.struct #[f0])) (o0 : f0.offset = 0) (k0 : P.cellsOf f0.type = 1) (hC : P.cellsOf t = 1)
    (hv : Value.okWide P w r b0 t v) (h : DataW.Trod enc P w base spare held t v d p) :
    ∃ (v0 : Value) (y0 : DataW H × List MemPlace) (n : Nat), v = .agg #[v0] ∧ d = .agg [y0.1] ∧ p = y0.2 ∧ DataW.trod enc P w base spare held n f0.type [v0] = some y0 := by
  obtain ⟨cs, rfl, hsz⟩ := okWide_struct hs hv
  obtain ⟨c0, rfl⟩ : ∃ c0, cs = #[c0] := by
    have hl : cs.toList.length = 1 := by rw [Array.length_toList, hsz, hC]
    match hc : cs.toList, hl with
    | [c0], _ => exact ⟨c0, by rw [← Array.toArray_toList (xs := cs), hc]⟩
  obtain ⟨fuel, hf⟩ := h
  obtain ⟨y0, n, hx, _, h0⟩ := trod_struct1 hs hf
  simp only [Prod.mk.injEq] at hx
  exact ⟨c0, y0, n, rfl, hx.1, hx.2, by simpa [Value.cells, o0, k0] using h0⟩

theorem rowsIn_of {H : Type} {enc : TypeId × Value → H} {P : Program} {W : World} {base : Nat} {held : Bool} {t e : TypeId} {f0 f1 f2 : Field} {fuel : Nat} {v : Value} {y : DataW H × List MemPlace}
    (ht : P.underlying t = some (.slice e)) (he : P.underlying e = some (.struct #[f0, f1, f2])) (ce : P.cellsOf e = 3) (o0 : f0.offset = 0) (o1 : f1.offset = 1) (o2 : f2.offset = 2) (c0 : P.cellsOf f0.type = 1) (c1 : P.cellsOf f1.type = 1) (c2 : P.cellsOf f2.type = 1)
    (u0 : P.underlying f0.type = some (.int .i64)) (u1 : P.underlying f1.type = some (.int .i64)) (u2 : P.underlying f2.type = some .string) (h : DataW.trod enc P W base (fun _ => true) held fuel t [v] = some y) :
    ∃ (A : Option Addr) (n c : Nat) (l : List Im.Rw), v = .slice A n c ∧ RowsIn W A n c l ∧ (A = none → c = 0) ∧ (∀ x ∈ l, ∃ el sp p0 p1, y.1 = .slice el sp ∧ DataW.agg [p0, p1, .lit (.string x.2.2)] ∈ el) ∧ IntsDatum c y.1 := by
  rcases open_slice ht h with ⟨hcs, hx⟩ | ⟨x, len, cap, m, n, D, Pl, hcs, hb, hl, _, hmm, hx, hat⟩
  · simp at hcs
    subst hcs
    exact ⟨none, 0, 0, [], rfl, RowsIn.nil W none 0, fun _ => rfl, fun x hx => absurd hx (by simp), .inl ⟨by rw [hx], rfl⟩⟩
  · simp at hcs
    subst hcs
    rw [if_pos rfl] at hmm
    subst hmm
    have each : ∀ i, i < m → ∃ q : Im.Rw, W.cell? (x.add (i * 3)) = some (.int .i64 q.1) ∧ W.cell? (x.add (i * 3 + 1)) = some (.int .i64 q.2.1) ∧ W.cell? (x.add (i * 3 + 2)) = some (.string (Cm.b q.2.2)) ∧ ∃ p0 p1, D i = .agg [p0, p1, .lit (.string q.2.2)] := by
      intro i hi
      obtain ⟨cs', h1, h2⟩ := hat i hi
      rw [ce] at h1
      obtain ⟨_, hlen, hcell⟩ := World.cells?_some h1
      obtain ⟨xs, k, hk, hxy, _, hxl, hf⟩ := DataW.trod_struct he h2
      match xs, hxl, cs', hlen with
      | [y0, y1, y2], _, [v0, v1, v2], _ =>
        have g0 := hf 0 f0 rfl
        have g1 := hf 1 f1 rfl
        have g2 := hf 2 f2 rfl
        simp [o0, o1, o2, c0, c1, c2] at g0 g1 g2
        have e0 := hcell 0 (by omega)
        have e1 := hcell 1 (by omega)
        have e2 := hcell 2 (by omega)
        rw [add_add] at e0 e1 e2
        obtain ⟨z0, q0, _, _⟩ := DataW.trod_int u0 g0
        obtain ⟨z1, q1, _, _⟩ := DataW.trod_int u1 g1
        obtain ⟨s2, q2, x2, _⟩ := DataW.trod_string u2 g2
        obtain rfl : v0 = _ := (List.cons.inj q0).1
        obtain rfl : v1 = _ := (List.cons.inj q1).1
        obtain rfl : v2 = _ := (List.cons.inj q2).1
        refine ⟨(z0, z1, s2.data.toList), by simpa using e0, by simpa using e1, ?_, ?_⟩
        · rw [Cm.b_of]; simpa using e2
        · refine ⟨y0.1, y1.1, ?_⟩
          simp only [Prod.mk.injEq] at hxy
          rw [hxy.1, x2]
          rfl
    obtain ⟨q, hq⟩ := choose_lt each
    refine ⟨_, len, m, (List.range len).map q, rfl, ⟨by simp, hl, fun hn => ?_⟩, fun e => (by cases e), fun r hr => ?_, .inr ?_⟩
    · obtain ⟨b, off, spot⟩ := x
      have hspot : spot = none := by simpa [Addr.add] using World.cell?_spot (hq 0 (by omega)).1
      subst hspot
      refine ⟨b, off, rfl, ?_, fun i hi => ?_⟩
      · have := (hq 0 (by omega)).1
        rw [Go.WideShapes.add_plain] at this
        exact World.block_lt_of_cell? W _ this
      · have hi' : i < len := by simpa using hi
        obtain ⟨h0, h1, h2, _⟩ := hq i (by omega)
        rw [Go.WideShapes.add_plain] at h0 h1 h2
        simp only [List.getElem_map, List.getElem_range]
        exact ⟨h0, by rw [Nat.add_assoc]; exact h1, by rw [Nat.add_assoc]; exact h2⟩
    · obtain ⟨i, hi, rfl⟩ := List.mem_map.1 hr
      obtain ⟨p0, p1, hD⟩ := (hq i (by have := List.mem_range.1 hi; omega)).2.2.2
      refine ⟨(List.range len).map D, _, p0, p1, by rw [hx], ?_⟩
      rw [← hD]
      exact List.mem_map.2 ⟨i, hi, rfl⟩
    · rw [hx]
      exact ⟨_, _, rfl, by simp; omega⟩
theorem weights_all3 {H : Type} {P : Program} {e : TypeId} {d : DataW H} {n : Nat} : ∀ {ds : List (DataW H)}, d ∈ ds → n ∈ d.weights P e → n ∈ DataW.weightsAll P e ds
  | [], h, _ => by cases h
  | x :: r, h, hn => by
    simp only [DataW.weightsAll, List.mem_append]
    rcases List.mem_cons.1 h with rfl | h
    · exact .inl hn
    · exact .inr (weights_all3 h hn)
theorem row_text_sized {H : Type} {P : Program} {ts : List TypeId} {ds : List (DataW H)} (h : (DataW.weightsEach P ts ds).all (· ≤ reachBytes) = true) {j : Nat} {t ft e : TypeId} {parts : List (DataW H)} {fs : Array Field} {f0 f1 f2 : Field} {i : Nat} {d : DataW H} {s : List UInt8}
    (ht : ts[j]? = some t) (hd : ds[j]? = some (.agg parts)) (hu : P.underlying t = some (.struct fs)) (hf : (fs.toList.map (·.type))[i]? = some ft) (hp : parts[i]? = some d) (he : P.underlying ft = some (.slice e)) (hg : P.underlying e = some (.struct #[f0, f1, f2]))
    (hr : ∃ el sp p0 p1, d = .slice el sp ∧ DataW.agg [p0, p1, .lit (.string s)] ∈ el) : s.length ≤ 140737488355328 := by
  obtain ⟨el, sp, p0, p1, rfl, hm⟩ := hr
  have h2 : s.length ∈ (DataW.agg [p0, p1, .lit (.string s)] : DataW H).weights P e := by
    simp only [DataW.weights, hg]
    exact DataW.weights_mem_each (j := 2) (t := f2.type) (d := .lit (.string s)) (by rfl) (by rfl) _ (by simp [DataW.weights])
  have := sized_agg h ht hd hu hf hp (n := s.length) (by
    simp only [DataW.weights, he, List.mem_cons, List.mem_append]
    exact .inr (.inl (weights_all3 hm h2)))
  have h3 : s.length ≤ 140737488351232 := by simpa only [reachBytes] using this
  omega
theorem agg_rows_sized {H : Type} {P : Program} {ts : List TypeId} {ds : List (DataW H)} (h : (DataW.weightsEach P ts ds).all (· ≤ reachBytes) = true) {j : Nat} {t ft e : TypeId} {parts : List (DataW H)} {fs : Array Field} {i c : Nat} {d : DataW H}
    (ht : ts[j]? = some t) (hd : ds[j]? = some (.agg parts)) (hu : P.underlying t = some (.struct fs)) (hf : (fs.toList.map (·.type))[i]? = some ft) (hp : parts[i]? = some d) (he : P.underlying ft = some (.slice e)) (hi : IntsDatum c d) : c * P.bytesOf e ≤ 140737488351232 := by
  rcases hi with ⟨_, rfl⟩ | ⟨el, sp, rfl, hl⟩
  · simp
  · have := sized_agg h ht hd hu hf hp (n := (el.length + sp.length) * P.bytesOf e) (by simp [DataW.weights, he])
    rw [hl] at this
    simpa [reachBytes] using this
end
end Go.Proofs.Ytmdakplaaehmnaa
