/-
  Helpers for the walks with decks: lists of strings that are read alone, variables that hold an index, rows of one's own beside a deck.
-/
import Derived.Test.YtmdakplaaehmnaaMkI
import Derived.Test.YtmdakplaaehmnaaIp
import Derived.Test.YtmdakplaaehmnaaIs
import Derived.Deep.AppendSrc
import Derived.Deep.RegionLaw
namespace Go.Proofs.Ytmdakplaaehmnaa
open Go.RowKit

theorem KeptBut.refl (g : Nat) (w : World) : KeptBut g w w := ⟨Nat.le_refl _, fun _ _ _ => rfl⟩
theorem KeptBut.below {g : Nat} {w w' : World} (h : Below w.heap.size w w') : KeptBut g w w' := ⟨h.size, fun b hb _ => h.block b hb⟩
theorem KeptBut.own {g : Nat} {w w' : World} (hk : KeptBut g w w') {B : Nat} {e : TypeId} {size : Nat} {v : Value} {n : Nat} {xs : List Value} (h : w.ownsRow B e size v n xs) (hg : g < B) : w'.ownsRow B e size v n xs := by
  refine ⟨h.1, h.2.imp id ?_⟩
  rintro ⟨b, cap, cur, rfl, hB, hb, r⟩
  exact ⟨b, cap, cur, rfl, hB, (hk.2 b (lt_of_block hb) (by omega)).trans hb, r⟩
theorem DeckIn.keep {w0 w w' : World} {A : Option Addr} {n c g : Nat} (h : DeckIn w0 A n c g w) (hb : Below (g + 1) w w') : DeckIn w0 A n c g w' := by
  obtain ⟨h1, h2, k, hk, h3⟩ := h
  exact ⟨h1.trans (hb.mono (by omega)), h2, k, hk, (hb.block g (by omega)).trans h3⟩

/-- strings that are read from the beginning of a block behind block g -/
def LIn (w : World) (g : Nat) (A : Option Addr) (n c : Nat) (ts : List ByteArray) : Prop :=
  ts.length = n ∧ n ≤ c ∧ (0 < n → ∃ b, A = some ⟨b, 0, none⟩ ∧ g < b ∧ b < w.heap.size ∧ ∀ i (h : i < ts.length), w.cell? ⟨b, i, none⟩ = some (.string ts[i]))
theorem LIn.kept {w w' : World} {g : Nat} {A : Option Addr} {n c : Nat} {ts : List ByteArray} (h : LIn w g A n c ts) (hk : KeptBut g w w') : LIn w' g A n c ts := by
  obtain ⟨h1, h2, h3⟩ := h
  refine ⟨h1, h2, fun hn => ?_⟩
  obtain ⟨b, hA, hg, hb, hc⟩ := h3 hn
  exact ⟨b, hA, hg, Nat.lt_of_lt_of_le hb hk.1, fun i hi => (hk.cell (p := ⟨b, i, none⟩) hb (by show b ≠ g; omega)).trans (hc i hi)⟩
theorem LIn.below {w w' : World} {g : Nat} {A : Option Addr} {n c : Nat} {ts : List ByteArray} (h : LIn w g A n c ts) (hb : Below w.heap.size w w') : LIn w' g A n c ts := h.kept (.below hb)
theorem LIn.at {w : World} {g : Nat} {A : Option Addr} {n c : Nat} {ts : List ByteArray} (h : LIn w g A n c ts) {i : Nat} (hi : i < n) : ∃ b, A = some ⟨b, 0, none⟩ ∧ g < b ∧ b < w.heap.size ∧ ∃ hz : i < ts.length, w.cell? ⟨b, i, none⟩ = some (.string ts[i]) := by
  obtain ⟨h1, h2, h3⟩ := h
  obtain ⟨b, hA, hg, hb, hc⟩ := h3 (by omega)
  exact ⟨b, hA, hg, hb, by omega, hc i (by omega)⟩
theorem LIn.setVar {w : World} {g x : Nat} {A : Option Addr} {n c : Nat} {ts : List ByteArray} {a : Option Addr} {p q : Nat} {t : TypeId} (h : LIn w g A n c ts) (hx : w.heap[x]? = some (.cells #[.slice a p q] t (0, 0))) (v : Value) : LIn (w.setCell ⟨x, 0, none⟩ v) g A n c ts := by
  obtain ⟨h1, h2, h3⟩ := h
  refine ⟨h1, h2, fun hn => ?_⟩
  obtain ⟨b, hA, hg, hb, hc⟩ := h3 hn
  have hne : b ≠ x := fun e => by
    subst e
    have := hc 0 (by omega)
    simp [World.cell?, hx] at this
  exact ⟨b, hA, hg, by simpa [World.setCell] using hb, fun i hi => (World.cell?_setCell_other _ _ _ _ (fun e => hne (congrArg Addr.block e).symm)).trans (hc i hi)⟩
theorem LIn.own {w : World} {g B : Nat} {e : TypeId} {A : Option Addr} {n c : Nat} {ts : List ByteArray} (h : w.ownsRow B e 1 (.slice A n c) n (ts.map Value.string)) (hg : g < B) : LIn w g A n c ts := by
  have hl : ts.length = n := by have := h.1; simpa using this
  rcases h.2 with ⟨hv, h0⟩ | ⟨b, cap, cur, hv, hB, hb, hn, _⟩
  · injection hv with e1 e2 e3
    subst h0 e1 e3
    exact ⟨hl, Nat.le_refl _, fun h => absurd h (by omega)⟩
  · injection hv with e1 e2 e3
    subst e1 e3
    refine ⟨hl, hn, fun _ => ⟨b, rfl, by omega, lt_of_block hb, fun i hi => ?_⟩⟩
    have := h.cells rfl i (.string ts[i]) (by simp [hi])
    have e1 : (⟨b, 0, none⟩ : Addr).add i = ⟨b, 0 + i, none⟩ := by unfold Addr.add; split <;> simp_all
    rw [e1, Nat.zero_add] at this
    exact this

/-- a variable that holds an index is written: the rows of another one stay -/
theorem RowsIn.setVar {w : World} {A : Option Addr} {n c x : Nat} {l : List Im.Rw} {u : Value} {t : TypeId} (h : RowsIn w A n c l) (hx : w.heap[x]? = some (.cells #[u] t (0, 0))) (v : Value) : RowsIn (w.setCell ⟨x, 0, none⟩ v) A n c l := by
  obtain ⟨h1, h2, h3⟩ := h
  refine ⟨h1, h2, fun hn => ?_⟩
  obtain ⟨b, o, hA, hb, hc⟩ := h3 hn
  have hne : b ≠ x := fun e => by
    subst e
    obtain ⟨c1, c2, c3⟩ := hc 0 (by omega)
    rw [Nat.zero_mul, Nat.add_zero] at c3
    simp [World.cell?, hx] at c3
  have far : ∀ q, (w.setCell ⟨x, 0, none⟩ v).cell? ⟨b, q, none⟩ = w.cell? ⟨b, q, none⟩ := fun q => World.cell?_setCell_other _ _ _ _ (fun e => hne (congrArg Addr.block e).symm)
  exact ⟨b, o, hA, by simpa [World.setCell] using hb, fun i hi => by rw [far, far, far]; exact hc i hi⟩
theorem Im.Arg.setVar {w : World} {A : Option Addr} {n c x : Nat} {l : List Im.Rw} {u : Value} {t : TypeId} (h : Im.Arg w A n c l) (hx : w.heap[x]? = some (.cells #[u] t (0, 0))) (v : Value) : Im.Arg (w.setCell ⟨x, 0, none⟩ v) A n c l := ⟨h.1.setVar hx v, h.2⟩
theorem Im.Arg.kept {w w' w0 : World} {A A0 : Option Addr} {n c n0 c0 g : Nat} {l : List Im.Rw} (h : Im.Arg w A n c l) (hd : DeckIn w0 A0 n0 c0 g w) (hk : KeptBut g w w') : Im.Arg w' A n c l := ⟨h.1.kept hd hk, h.2⟩
theorem var_far {w : World} {x y q : Nat} {o : Obj} (h : w.heap[y]? = some o) (hne : y ≠ x) (v : Value) : (w.setCell ⟨x, q, none⟩ v).heap[y]? = some o := (Below.heap_setCell _ _ _ _ hne).trans h
theorem var_alloc {w : World} {y : Nat} {o : Obj} (h : w.heap[y]? = some o) (p : Obj) : (w.alloc p).heap[y]? = some o := (Below.heap_alloc _ _ _ (by rcases Nat.lt_or_ge y w.heap.size with h' | h'; exact h'; rw [Array.getElem?_eq_none h'] at h; cases h)).trans h

/-- an append whose run is known, as a step of a region that draws -/
theorem step_append_known {P : Program} {ops : Array Oper} {o : Oper} {a : Act} {w : World} {K : Act → World → Prop} {Q : Exit → Act → World → Prop} {E : Prop} (hgd : o.guard = none) (s x : Operand) (T : TypeId)
    (ho : o.op = .call { callee := .builtin .append, args := #[s, x], argTypes := #[T, T] }) (u v r : Value) (w' : World) (hd : a.eval s = u) (hs : a.eval x = v) (hrun : (Builtin.append_ #[T, T] o.type #[u, v]).run P w = .ok r w')
    (hK : K (a.put o.dst r) w') : if Region.wanted o (yielded ops a.tmps) = true then Oper.wp P o a w K Q else E := by
  have hw : Region.wanted o (yielded ops a.tmps) = true := by simp [Region.wanted, hgd]
  rw [if_pos hw]
  unfold Oper.wp
  simp [execOp, ho, resolve, invoke, builtin, hd, hs, hrun, Result.andThen]
  exact hK

/-- 'append(l[:k:k], l[k+1:]...)' where something lies behind place k: a new row without that string -/
theorem run_without {w : World} {g k n c : Nat} {A : Option Addr} {ts : List ByteArray} (h : LIn w g A n c ts) (hk : k + 1 < n) (hn : n ≤ 4096) (b : Nat) (hA : A = some ⟨b, 0, none⟩) (ty : TypeId) (sc : Nat) :
    ∃ (A' : Option Addr) (c' : Nat) (w' : World), (Builtin.append_ #[34, 34] ty #[.slice (some ⟨b, 0, none⟩) k k, .slice (some ⟨b, k + 1, none⟩) (n - (k + 1)) sc]).run Try.prog w = .ok (.slice A' (n - 1) c') w' ∧ Below w.heap.size w w' ∧ (g < w.heap.size → LIn w' g A' (n - 1) c' (ts.eraseIdx k)) := by
  obtain ⟨i0, hi, hz0, hz1, hz2⟩ := info_parts info_str
  obtain ⟨h1, h2, h3⟩ := h
  obtain ⟨b', hA', hgb, hb, hc⟩ := h3 (by omega)
  rw [hA] at hA'
  injection hA' with hA'
  injection hA' with hA'
  subst hA'
  have hold : (Builtin.firstCells i0.size k (.slice (some ⟨b, 0, none⟩) k k)).run Try.prog w.drew = .ok ((ts.take k).map Value.string).toArray w.drew := by
    rw [hz1]
    exact run_firstCells_some w.drew 1 k ⟨b, 0, none⟩ k k ((ts.take k).map Value.string) (by rw [List.length_map, List.length_take]; simp only [Nat.min_def]; split <;> omega) (fun j v hj => by
      rw [Addr.add_lit, Nat.zero_add]
      rw [List.getElem?_map, List.getElem?_take] at hj
      split at hj
      · rw [List.getElem?_eq_getElem (by omega)] at hj
        simp only [Option.map_some, Option.some.injEq] at hj
        rw [← hj]
        exact hc j (by omega)
      · cases hj)
  have hsrc : Src Try.prog i0.size 34 (.slice (some ⟨b, k + 1, none⟩) (n - (k + 1)) sc) (n - (k + 1)) ((ts.drop (k + 1)).map Value.string) w := by
    rw [hz1]
    exact Src.ofSlice w Try.underlying34 ⟨b, k + 1, none⟩ (n - (k + 1)) sc ((ts.drop (k + 1)).map Value.string) (by rw [List.length_map, List.length_drop]; omega) (fun j u hj => by
      rw [Addr.add_lit]
      rw [List.getElem?_map, List.getElem?_drop] at hj
      have hjl : k + 1 + j < ts.length := by
        rcases Nat.lt_or_ge (k + 1 + j) ts.length with h | h
        · exact h
        · rw [List.getElem?_eq_none h] at hj; cases hj
      rw [List.getElem?_eq_getElem hjl] at hj
      simp only [Option.map_some, Option.some.injEq] at hj
      rw [← hj]
      exact hc _ hjl) (fun u hu => by
      obtain ⟨x, _, rfl⟩ := List.mem_map.1 hu
      rfl)
  have hrun := run_append_grow_src (P := Try.prog) (w := w) 34 34 ty 9 i0 _ Try.underlying34 hi hz0 (some ⟨b, 0, none⟩) k k _ hold _ _ _ hsrc (by omega) (by omega) (by rw [hz2]; exact growslice_fits (by omega) (by omega))
  rw [show k + (n - (k + 1)) = n - 1 by omega] at hrun
  refine ⟨_, _, _, hrun, ((Below.refl _ w).drew).alloc (Nat.le_refl _) _, fun hgs => ⟨?_, ?_, fun _ => ⟨w.heap.size, rfl, hgs, by simp, fun i hi => ?_⟩⟩⟩
  · rw [List.length_eraseIdx, if_pos (by omega)]; omega
  · exact grownCap_ge w _ _ _
  · rw [World.cell?_alloc_at (w := w.drew) _ _ w.heap.size i rfl]
    have hl : (ts.eraseIdx k).length = n - 1 := by rw [List.length_eraseIdx, if_pos (by omega)]; omega
    have e : (List.map Value.string (ts.take k) ++ List.map Value.string (ts.drop (k + 1))) = (ts.eraseIdx k).map Value.string := by rw [List.eraseIdx_eq_take_drop_succ, List.map_append]
    rw [e, Array.getElem?_append_left (by simp; omega)]
    simp [hi]

end Go.Proofs.Ytmdakplaaehmnaa
