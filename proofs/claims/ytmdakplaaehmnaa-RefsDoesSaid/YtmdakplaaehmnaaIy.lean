/-
  What RefsCounts' walk keeps from round to round; the deck's More.
-/
import Derived.Test.YtmdakplaaehmnaaIx
import Derived.Test.YtmdakplaaehmnaaIr
namespace Go.Proofs.Ytmdakplaaehmnaa
open Go.RowKit
set_option maxHeartbeats 2000000

set_option maxRecDepth 100000 in
theorem more_any (A : Option Addr) (n c g k : Nat) (w : World) (hh : w.heap[g]? = some (.cells #[.slice A n c, .int .i64 (k : Nat)] 53 (0, 0))) :
    Calls Try.prog 28 #[.pointer (some ⟨g, 0, none⟩)] w fun e w' => e = .returned (.bool (decide (k < n))) ∧ w' = w.drew := by
  have c0 : w.cell? ⟨g, 0, none⟩ = some (.slice A n c) := by simp [World.cell?, hh]
  have c1 : w.cell? ⟨g, 1, none⟩ = some (.int .i64 (k : Nat)) := by simp [World.cell?, hh]
  clear hh
  go_enter Try.func28, Try.ntmps28
  go_wp2
  go_region
  all_goals go_wp2
  all_goals go_ret
  all_goals exact ⟨rfl, rfl⟩

theorem own_apart {w : World} {B B' : Nat} {e e' : TypeId} {size size' : Nat} {v v' : Value} {n n' : Nat} {xs xs' : List Value} (h : w.ownsRow B e size v n xs) (h' : w.ownsRow B' e' size' v' n' xs') (hne : e ≠ e') : v.ownBlock = none ∨ v.ownBlock ≠ v'.ownBlock := by
  rcases h.2 with ⟨rfl, _⟩ | ⟨b, cap, cur, rfl, _, hb, _⟩
  · exact .inl rfl
  · rcases h'.2 with ⟨rfl, _⟩ | ⟨b', cap', cur', rfl, _, hb', _⟩
    · exact .inr (fun e => by cases e)
    · refine .inr fun e => ?_
      injection e with e
      have e : b = b' := e
      subst e
      rw [hb] at hb'
      injection hb' with hb'
      injection hb' with _ ht
      exact hne ht
theorem own_notvar {w : World} {B x : Nat} {e T : TypeId} {size : Nat} {v : Value} {n : Nat} {xs : List Value} {cs : Array Value} (h : w.ownsRow B e size v n xs) (hx : w.heap[x]? = some (.cells cs T (0, 0))) (hne : e ≠ T) : v.ownBlock ≠ some x := by
  rcases h.2 with ⟨rfl, _⟩ | ⟨b, cap, cur, rfl, _, hb, _⟩
  · exact fun e => by cases e
  · intro e
    injection e with e
    have e : b = x := e
    subst e
    rw [hb] at hx
    injection hx with hx
    injection hx with _ ht
    exact hne ht

theorem Im.small_mul {x : Int} {l : List UInt8} (h0 : 0 ≤ x) (h1 : x ≤ 60) (hl : l.length ≤ 3) : 0 ≤ x * (l.length : Int) ∧ x * (l.length : Int) ≤ 180 :=
  ⟨Int.mul_nonneg h0 (by omega), Int.mul_le_mul h1 (show (l.length : Int) ≤ 3 by omega) (by omega) (by omega)⟩
theorem Im.up_pos {N : List UInt8 → Int} {s t : List UInt8} {k : Int} (h : 0 < Im.up N s k t) : 0 < N t ∨ t = s := by
  unfold Im.up at h
  split at h
  · rename_i e; exact .inr e
  · exact .inl h
def Value.ofN (N : List UInt8 → Int) (T : ByteArray) : Value := .int .i64 (N T.data.toList)
/-- what is kept: the texts seen, their counts, the index, the deck, the variable x -/
structure CntIn (w0 w : World) (A : Option Addr) (n c g B j : Nat) (s5 s6 : Value) (ts : List ByteArray) (N : List UInt8 → Int) (A' : Option Addr) (n' c' : Nat) (lx : List Im.Rw) : Prop where
  len : ts.length ≤ j
  small : ∀ T ∈ ts, T.size ≤ 3
  nodup : (ts.map fun T => T.data.toList).Nodup
  texts : w.ownsRow (g + 1) 9 1 s5 ts.length (ts.map Value.string)
  counts : w.ownsRow (g + 1) 3 1 s6 ts.length (ts.map (Value.ofN N))
  cover : ∀ t, 0 < N t → t ∈ ts.map fun T => T.data.toList
  bound : ∀ t, N t ≤ j
  has : Im.Has lx N
  fine : Im.fine j lx
  rows : RowsOwn w (g + 1) (.slice A' n' c') lx
  rlen : lx.length = n'
  deck : DeckIn w0 A n c g w
  var : w.heap[B]? = some (.cells #[.slice A' n' c'] 25 (0, 0))
  gB : g < B

section
variable {w0 w w' : World} {A : Option Addr} {n c g B j : Nat} {s5 s6 : Value} {ts : List ByteArray} {N : List UInt8 → Int} {A' : Option Addr} {n' c' : Nat} {lx : List Im.Rw}
theorem CntIn.blt (h : CntIn w0 w A n c g B j s5 s6 ts N A' n' c' lx) : B < w.heap.size := lt_of_block h.var
theorem CntIn.keep (h : CntIn w0 w A n c g B j s5 s6 ts N A' n' c' lx) (hk : KeptBut g w w') (hd : DeckIn w0 A n c g w') : CntIn w0 w' A n c g B j s5 s6 ts N A' n' c' lx :=
  { h with texts := hk.own h.texts (Nat.lt_succ_self g), counts := hk.own h.counts (Nat.lt_succ_self g), rows := hk.own h.rows (Nat.lt_succ_self g), deck := hd, var := (hk.2 B h.blt (by have := h.gB; omega)).trans h.var }
theorem CntIn.below (h : CntIn w0 w A n c g B j s5 s6 ts N A' n' c' lx) (hb : Below w.heap.size w w') : CntIn w0 w' A n c g B j s5 s6 ts N A' n' c' lx := h.keep (.below hb) (h.deck.kept hb).1
theorem CntIn.alloc (h : CntIn w0 w A n c g B j s5 s6 ts N A' n' c' lx) (o : Obj) : CntIn w0 (w.alloc o) A n c g B j s5 s6 ts N A' n' c' lx := h.below ((Below.refl _ _).alloc (Nat.le_refl _) _)
theorem CntIn.next (h : CntIn w0 w A n c g B j s5 s6 ts N A' n' c' lx) : CntIn w0 w A n c g B (j + 1) s5 s6 ts N A' n' c' lx :=
  { h with len := by have := h.len; omega, bound := fun t => by have := h.bound t; omega, fine := h.fine.mono (by omega) }
theorem CntIn.arg (h : CntIn w0 w A n c g B j s5 s6 ts N A' n' c' lx) (hj : j ≤ 60) : Im.Arg w A' n' c' lx := by
  obtain ⟨A1, c1, hv, hr⟩ := h.rows.arg (by have := h.fine.1; omega) (fun x hx => by have := (h.fine.2.1 x hx).1; omega)
  injection hv with e1 e2 e3
  subst e1 e2 e3
  exact hr
/-- the variable x and the count of one text are written -/
theorem CntIn.step {b cb m : Nat} (h : CntIn w0 w A n c g B j s5 (.slice (some ⟨b, 0, none⟩) m cb) ts N A' n' c' lx) (hm : ts.length = m) {A2 : Option Addr} {n2 c2 : Nat} {l2 : List Im.Rw} (hr : RowsOwn w (g + 1) (.slice A2 n2 c2) l2) (hl : l2.length = n2) {p : Nat} (hp : p < ts.length) (k : Int)
    (hN : ∀ t, Im.up N ts[p].data.toList k t ≤ j) (hpos : ∀ t, 0 < Im.up N ts[p].data.toList k t → 0 < N t ∨ t = ts[p].data.toList) (hh : Im.Has l2 (Im.up N ts[p].data.toList k)) (hf : Im.fine j l2) (hw : w0.heap.size ≤ g) :
    CntIn w0 ((w.setCell ⟨B, 0, none⟩ (.slice A2 n2 c2)).setCell ⟨b, p, none⟩ (.int .i64 (N ts[p].data.toList + k))) A n c g B j s5 (.slice (some ⟨b, 0, none⟩) m cb) ts (Im.up N ts[p].data.toList k) A2 n2 c2 l2 := by
  subst hm
  have hgB := h.gB
  have v1 := own_notvar h.texts h.var (by decide)
  have v2 := own_notvar h.counts h.var (by decide)
  have v3 := own_notvar hr h.var (by decide)
  have a1 := own_apart h.texts h.counts (by decide)
  have a3 := own_apart hr h.counts (by decide)
  have hb := (World.ownsRow.lt h.counts b rfl)
  have hbB : b ≠ B := fun e => v2 (by rw [← e]; rfl)
  have t1 : ∀ {e : TypeId} {sz m : Nat} {v : Value} {xs : List Value}, w.ownsRow (g + 1) e sz v m xs → v.ownBlock ≠ some B → (v.ownBlock = none ∨ v.ownBlock ≠ some b) → ((w.setCell ⟨B, 0, none⟩ (.slice A2 n2 c2)).setCell ⟨b, p, none⟩ (.int .i64 (N ts[p].data.toList + k))).ownsRow (g + 1) e sz v m xs := fun ho h1 h2 =>
    ownsRow_setCell_other (ownsRow_setCell_other ho (fun e => h1 e) _) (fun e => by rcases h2 with h2 | h2; rw [h2] at e; cases e; exact h2 e) _
  have c1 := ownsRow_setCell_other (a := ⟨B, 0, none⟩) h.counts (fun e => v2 e) (.slice A2 n2 c2)
  have c2' := (World.ownsRow.stored c1 p (.int .i64 (N ts[p].data.toList + k))).1
  have hset : (ts.map (Value.ofN N)).set p (.int .i64 (N ts[p].data.toList + k)) = ts.map (Value.ofN (Im.up N ts[p].data.toList k)) := by
    refine List.ext_getElem (by simp) fun i h1 h2 => ?_
    simp only [List.length_map] at h2
    rw [List.getElem_set, List.getElem_map, List.getElem_map]
    split
    · rename_i e; subst e; unfold Value.ofN; rw [Im.up_self]
    · rename_i e
      unfold Value.ofN
      rw [Im.up_other]
      intro hh
      exact e ((List.getElem_inj (i := p) (j := i) (h₀ := by simpa using hp) (h₁ := by simpa using h2) h.nodup).1 (by simpa using hh.symm))
  rw [hset] at c2'
  refine { len := h.len, small := h.small, nodup := h.nodup, texts := t1 h.texts v1 a1, counts := c2', cover := fun t ht => ?_, bound := hN, has := hh, fine := hf, rows := t1 hr v3 a3, rlen := hl, deck := ?_, var := ?_, gB := hgB }
  · rcases hpos t ht with h1 | rfl
    · exact h.cover t h1
    · exact List.mem_map.2 ⟨ts[p], List.getElem_mem hp, rfl⟩
  · exact (h.deck.setCell (a := ⟨B, 0, none⟩) (by show B ≠ g; omega) (by show w0.heap.size ≤ B; omega) _).setCell (a := ⟨b, p, none⟩) (by show b ≠ g; omega) (by show w0.heap.size ≤ b; omega) _
  · exact var_far (one_set h.var) (fun e => hbB e.symm) _

theorem grown_block {w w' : World} {row : Option Nat} (hg : w.grownBy w' row) {x : Nat} {o : Obj} (h : w.heap[x]? = some o) (hne : row ≠ some x) : w'.heap[x]? = some o :=
  (hg.block x (by rcases Nat.lt_or_ge x w.heap.size with h' | h'; exact h'; rw [Array.getElem?_eq_none h'] at h; cases h) (fun e => hne e.symm)).trans h
/-- one more text is laid down -/
theorem CntIn.mid (h : CntIn w0 w A n c g B j s5 s6 ts N A' n' c' lx) {w5 : World} {o1 : Obj} (hg5 : (w.alloc o1).grownBy w5 s5.ownBlock) :
    w5.ownsRow (g + 1) 3 1 s6 ts.length (ts.map (Value.ofN N)) ∧ RowsOwn w5 (g + 1) (.slice A' n' c') lx ∧ DeckIn w0 A n c g w5 ∧ w5.heap[B]? = some (.cells #[.slice A' n' c'] 25 (0, 0)) ∧ w.heap.size ≤ w5.heap.size := by
  have ht := World.ownsRow.alloc h.texts o1
  have hc := World.ownsRow.alloc h.counts o1
  have hr := World.ownsRow.alloc h.rows o1
  have hv := var_alloc h.var o1
  have hb : Below (g + 1) w w5 := grown_below hg5 (Below.refl _ _) h.deck.lt (fun k hk => (World.ownsRow.lt h.texts k hk).1)
  exact ⟨hc.kept hg5 (own_apart hc ht (by decide)), hr.kept hg5 (own_apart hr ht (by decide)), h.deck.keep hb, grown_block hg5 hv (own_notvar ht hv (by decide)), hb.size⟩
theorem CntIn.push (h : CntIn w0 w A n c g B j s5 s6 ts N A' n' c' lx) {T : ByteArray} {w5 w6 : World} {o1 o2 : Obj} {v5 v6 : Value} (ho5 : w5.ownsRow (g + 1) 9 1 v5 (ts.length + 1) (ts.map Value.string ++ [.string T])) (hg5 : (w.alloc o1).grownBy w5 s5.ownBlock)
    (ho6 : w6.ownsRow (g + 1) 3 1 v6 (ts.length + 1) (ts.map (Value.ofN N) ++ [.int .i64 0])) (hg6 : (w5.alloc o2).grownBy w6 s6.ownBlock) (hT : T.size ≤ 3) (hnew : T.data.toList ∉ ts.map fun T => T.data.toList) (hlen : ts.length + 1 ≤ j) :
    CntIn w0 w6 A n c g B j v5 v6 (ts ++ [T]) N A' n' c' lx := by
  obtain ⟨hc, hr, hd, hv, hs⟩ := h.mid hg5
  have hc2 := World.ownsRow.alloc hc o2
  have hr2 := World.ownsRow.alloc hr o2
  have ht2 := World.ownsRow.alloc ho5 o2
  have hv2 := var_alloc hv o2
  have hb : Below (g + 1) w5 w6 := grown_below hg6 (Below.refl _ _) hd.lt (fun k hk => (World.ownsRow.lt hc k hk).1)
  have h0 : N T.data.toList = 0 := by
    rcases Int.lt_or_le 0 (N T.data.toList) with hp | hp
    · exact absurd (h.cover _ hp) hnew
    · have := h.has.2.1 T.data.toList; omega
  refine { len := by simpa using hlen, small := fun U hU => ?_, nodup := ?_, texts := ?_, counts := ?_, cover := fun t ht => ?_, bound := h.bound, has := h.has, fine := h.fine, rows := hr2.kept hg6 (own_apart hr2 hc2 (by decide)), rlen := h.rlen, deck := hd.keep hb, var := grown_block hg6 hv2 (own_notvar hc2 hv2 (by decide)), gB := h.gB }
  · rcases List.mem_append.1 hU with h1 | h1
    · exact h.small U h1
    · rw [List.mem_singleton.1 h1]; exact hT
  · rw [List.map_append, List.nodup_append]
    refine ⟨h.nodup, by simp, fun a ha b hb e => ?_⟩
    simp only [List.map_cons, List.map_nil, List.mem_singleton] at hb
    subst e hb
    exact hnew ha
  · rw [List.map_append, List.length_append]
    exact ht2.kept hg6 (own_apart ht2 hc2 (by decide))
  · rw [List.map_append, List.length_append]
    have e : ([T].map (Value.ofN N)) = [.int .i64 0] := by simp [Value.ofN, h0]
    rw [e]
    exact ho6
  · rw [List.map_append]
    exact List.mem_append_left _ (h.cover t ht)
end

end Go.Proofs.Ytmdakplaaehmnaa
