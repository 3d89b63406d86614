/-
  Mathematics of refs, third part: an index is what its digests give.
  Mathematics of refs, fourth part: the order in which texts are added does not matter.
-/
import Derived.Test.YtmdakplaaehmnaaIn
namespace Go.Proofs.Ytmdakplaaehmnaa.Im

/-- what a digest gives -/
def look : List Rw → Int → Option (Int × List UInt8)
  | [], _ => none
  | r :: l, d => if r.1 = d then some r.2 else look l d
theorem look_none {l : List Rw} {d : Int} (h : ∀ r ∈ l, r.1 ≠ d) : look l d = none := by
  induction l with
  | nil => rfl
  | cons r l ih =>
    rw [look, if_neg (h r (by simp)), ih (fun x hx => h x (by simp [hx]))]
theorem look_mem {l : List Rw} {d : Int} {v : Int × List UInt8} (h : look l d = some v) : (d, v) ∈ l := by
  induction l with
  | nil => cases h
  | cons r l ih =>
    rw [look] at h
    split at h
    · rename_i e
      injection h with h
      subst h e
      exact List.mem_cons_self ..
    · exact List.mem_cons_of_mem _ (ih h)
theorem look_of {l : List Rw} (hA : Asc l) {d : Int} {v : Int × List UInt8} (h : (d, v) ∈ l) : look l d = some v := by
  induction l with
  | nil => cases h
  | cons r l ih =>
    obtain ⟨h1, h2⟩ := List.pairwise_cons.1 hA
    rw [look]
    rcases List.mem_cons.1 h with rfl | h
    · rw [if_pos rfl]
    · have := h1 _ h
      rw [if_neg (by show r.1 ≠ d; simp only at this; omega)]
      exact ih h2 h
theorem look_ext : ∀ {l k : List Rw}, Asc l → Asc k → (∀ d, look l d = look k d) → l = k
  | [], [], _, _, _ => rfl
  | [], b :: k, _, _, h => by have := h b.1; simp [look] at this
  | a :: l, [], _, _, h => by have := h a.1; simp [look] at this
  | a :: l, b :: k, hl, hk, h => by
    obtain ⟨l1, l2⟩ := List.pairwise_cons.1 hl
    obtain ⟨k1, k2⟩ := List.pairwise_cons.1 hk
    have e : a.1 = b.1 := by
      rcases Int.lt_trichotomy a.1 b.1 with g | g | g
      · have h1 := h a.1
        rw [look_none (l := b :: k) (fun x hx => by
          rcases List.mem_cons.1 hx with rfl | hx
          · omega
          · have := k1 x hx; omega)] at h1
        simp [look] at h1
      · exact g
      · have h1 := h b.1
        rw [look_none (l := a :: l) (fun x hx => by
          rcases List.mem_cons.1 hx with rfl | hx
          · omega
          · have := l1 x hx; omega)] at h1
        simp [look] at h1
    have e2 : a.2 = b.2 := by
      have h1 := h a.1
      rw [look, look, if_pos rfl, if_pos e.symm] at h1
      injection h1
    have e3 : a = b := Prod.ext e e2
    subst e3
    rw [look_ext l2 k2 (fun d => by
      have h1 := h d
      rw [look, look] at h1
      by_cases hd : a.1 = d
      · subst hd
        rw [look_none (fun x hx => by have := l1 x hx; omega), look_none (fun x hx => by have := k1 x hx; omega)]
      · rw [if_neg hd, if_neg hd] at h1
        exact h1)]

def cnt : Option (Int × List UInt8) → Int
  | none => 0
  | some v => v.1
/-- adding turns one digest alone -/
theorem look_add {l : List Rw} {s : List UInt8} (h : (add l s).2.2 = 0) (d : Int) :
    look (add l s).1 d = (if d = Dm.sum s then some (cnt (look l (Dm.sum s)) + 1, s) else look l d) ∧ ∀ v, look l (Dm.sum s) = some v → v.2 = s := by
  obtain ⟨h0, hc⟩ := add_chk h
  obtain ⟨z1, z2, z3⟩ := chk_zero h0
  have hA := (chk_zero hc).2.2
  rcases add_cases l s with ⟨_, e⟩ | ⟨_, _, e⟩ | ⟨_, hs, hi, hd, ⟨_, e⟩ | ⟨_, _, e⟩ | ⟨ht, hm, e⟩⟩ | ⟨_, hs, hn, ⟨_, e⟩ | ⟨hl, e⟩⟩
  · rw [e] at h; cases h
  · rw [e] at h; cases h
  · rw [e] at h; cases h
  · rw [e] at h; cases h
  · rw [e] at hA ⊢
    simp only at hA ⊢
    have hin : l[find l (Dm.sum s)] ∈ l := List.getElem_mem hi
    have hlk : look l (Dm.sum s) = some l[find l (Dm.sum s)].2 := look_of z3 (by
      have : (Dm.sum s, l[find l (Dm.sum s)].2) = l[find l (Dm.sum s)] := Prod.ext hd.symm rfl
      rw [this]; exact hin)
    refine ⟨?_, fun v hv => by rw [hlk] at hv; injection hv with hv; rw [← hv]; exact ht⟩
    by_cases hds : d = Dm.sum s
    · subst hds
      rw [if_pos rfl, hlk]
      exact look_of hA (List.mem_set hi _)
    · rw [if_neg hds]
      cases hq : look l d with
      | none =>
        refine look_none fun r hr hrd => ?_
        rcases List.mem_or_eq_of_mem_set hr with hr | rfl
        · have := look_of z3 (d := d) (v := r.2) (by rw [← hrd]; exact hr)
          rw [hq] at this; cases this
        · exact hds hrd.symm
      | some v =>
        have hm := look_mem hq
        obtain ⟨i, hi', hv⟩ := List.mem_iff_getElem.1 hm
        refine look_of hA (List.mem_iff_getElem.2 ⟨i, by simpa using hi', ?_⟩)
        rw [List.getElem_set_ne (fun e => ?_)]
        · exact hv
        · subst e
          rw [hv] at hd
          exact hds hd
  · rw [e] at h; cases h
  · rw [e] at hA ⊢
    simp only at hA ⊢
    have hnone : look l (Dm.sum s) = none := look_none fun r hr hrd => by
      obtain ⟨i, hi, rfl⟩ := List.mem_iff_getElem.1 hr
      by_cases hif : find l (Dm.sum s) ≤ i
      · have := find_gt z3 hn i hi hif; omega
      · have := find_lt hi (by omega : i < find l (Dm.sum s)); omega
    refine ⟨?_, fun v hv => by rw [hnone] at hv; cases hv⟩
    have hmm : ∀ r : Rw, r ∈ l.take (find l (Dm.sum s)) ++ (Dm.sum s, 1, s) :: l.drop (find l (Dm.sum s)) ↔ r = (Dm.sum s, 1, s) ∨ r ∈ l := fun r => by
      constructor
      · intro hr
        rcases List.mem_append.1 hr with hr | hr
        · exact .inr (List.mem_of_mem_take hr)
        · rcases List.mem_cons.1 hr with rfl | hr
          · exact .inl rfl
          · exact .inr (List.mem_of_mem_drop hr)
      · rintro (rfl | hr)
        · simp
        · rw [← List.take_append_drop (find l (Dm.sum s)) l] at hr
          rcases List.mem_append.1 hr with hr | hr
          · exact List.mem_append_left _ hr
          · exact List.mem_append_right _ (List.mem_cons_of_mem _ hr)
    by_cases hds : d = Dm.sum s
    · subst hds
      rw [if_pos rfl, hnone]
      exact look_of hA ((hmm _).2 (.inl rfl))
    · rw [if_neg hds]
      cases hq : look l d with
      | none =>
        refine look_none fun r hr hrd => ?_
        rcases (hmm r).1 hr with rfl | hr
        · exact hds hrd.symm
        · have := look_of z3 (d := d) (v := r.2) (by rw [← hrd]; exact hr)
          rw [hq] at this; cases this
      | some v => exact look_of hA ((hmm _).2 (.inr (look_mem hq)))

end Go.Proofs.Ytmdakplaaehmnaa.Im

namespace Go.Proofs.Ytmdakplaaehmnaa.Im

theorem look_at {l : List Rw} (hA : Asc l) {d : Int} (hi : find l d < l.length) (hd : l[find l d].1 = d) : look l d = some l[find l d].2 := look_of hA (by
  have : (d, l[find l d].2) = l[find l d] := Prod.ext hd.symm rfl
  rw [this]; exact List.getElem_mem hi)
theorem look_not {l : List Rw} (hA : Asc l) {d : Int} (hn : ∀ h : find l d < l.length, d < l[find l d].1) : look l d = none := look_none fun r hr hrd => by
  obtain ⟨i, hi, rfl⟩ := List.mem_iff_getElem.1 hr
  by_cases hif : find l d ≤ i
  · have := find_gt hA hn i hi hif; omega
  · have := find_lt hi (by omega : i < find l d); omega

/-- when adding has no error, and how long the index then is -/
theorem add_ok (l : List Rw) (s : List UInt8) : (add l s).2.2 = 0 ↔ chk l = 0 ∧ s.length ≤ 16384 ∧ ((∃ v, look l (Dm.sum s) = some v ∧ v.2 = s ∧ v.1 ≠ 2147483646) ∨ (look l (Dm.sum s) = none ∧ l.length < 1024)) := by
  rcases add_cases l s with ⟨h0, e⟩ | ⟨_, hs, e⟩ | ⟨h0, hs, hi, hd, hR⟩ | ⟨h0, hs, hn, hR⟩
  · rw [e]; exact ⟨fun h => (by cases h), fun h => absurd h.1 h0⟩
  · rw [e]; exact ⟨fun h => (by cases h), fun h => (by omega)⟩
  · have hA := (chk_zero h0).2.2
    have hl := look_at hA hi hd
    rcases hR with ⟨ht, e⟩ | ⟨ht, hm, e⟩ | ⟨ht, hm, e⟩ <;> rw [e]
    · refine ⟨fun h => (by cases h), fun h => ?_⟩
      rcases h.2.2 with ⟨v, hv, h1, _⟩ | ⟨hv, _⟩ <;> rw [hl] at hv
      · injection hv with hv; subst hv; exact absurd h1 ht
      · cases hv
    · refine ⟨fun h => (by cases h), fun h => ?_⟩
      rcases h.2.2 with ⟨v, hv, _, h1⟩ | ⟨hv, _⟩ <;> rw [hl] at hv
      · injection hv with hv; subst hv; exact absurd hm h1
      · cases hv
    · exact ⟨fun _ => ⟨h0, hs, .inl ⟨_, hl, ht, hm⟩⟩, fun _ => rfl⟩
  · have hA := (chk_zero h0).2.2
    have hl := look_not hA hn
    have h24 := (chk_zero h0).1
    rcases hR with ⟨hl2, e⟩ | ⟨hl2, e⟩ <;> rw [e]
    · refine ⟨fun h => (by cases h), fun h => ?_⟩
      rcases h.2.2 with ⟨v, hv, _, _⟩ | ⟨_, h1⟩
      · rw [hl] at hv; cases hv
      · omega
    · exact ⟨fun _ => ⟨h0, hs, .inr ⟨hl, hl2⟩⟩, fun _ => rfl⟩
theorem add_len {l : List Rw} {s : List UInt8} (h : (add l s).2.2 = 0) : (look l (Dm.sum s) = none → (add l s).1.length = l.length + 1) ∧ l.length ≤ (add l s).1.length := by
  rcases add_cases l s with ⟨h0, e⟩ | ⟨_, hs, e⟩ | ⟨h0, hs, hi, hd, ⟨_, e⟩ | ⟨_, _, e⟩ | ⟨_, _, e⟩⟩ | ⟨h0, hs, hn, ⟨_, e⟩ | ⟨_, e⟩⟩
  · rw [e] at h; cases h
  · rw [e] at h; cases h
  · rw [e] at h; cases h
  · rw [e] at h; cases h
  · rw [look_at (chk_zero h0).2.2 hi hd, e]
    exact ⟨fun h => (by cases h), (by simp)⟩
  · rw [e] at h; cases h
  · rw [e]
    have := find_le l (Dm.sum s)
    constructor
    · intro _; simp only [List.length_append, List.length_take, List.length_cons, List.length_drop]; omega
    · simp only [List.length_append, List.length_take, List.length_cons, List.length_drop]; omega
theorem add_swap {l : List Rw} {s t : List UInt8} (h1 : (add l s).2.2 = 0) (h2 : (add (add l s).1 t).2.2 = 0) :
    (add l t).2.2 = 0 ∧ (add (add l t).1 s).2.2 = 0 ∧ (add (add l t).1 s).1 = (add (add l s).1 t).1 := by
  by_cases hst : Dm.sum s = Dm.sum t
  · have h3 := (look_add h1 (Dm.sum t)).1
    rw [if_pos hst.symm] at h3
    have h4 := (look_add h2 0).2 _ h3
    simp only at h4
    subst h4
    exact ⟨h1, h2, rfl⟩
  · obtain ⟨c0, hs, hS⟩ := (add_ok l s).1 h1
    obtain ⟨c1, ht, hT⟩ := (add_ok _ t).1 h2
    have e1 : look (add l s).1 (Dm.sum t) = look l (Dm.sum t) := by rw [(look_add h1 _).1, if_neg (fun e => hst e.symm)]
    rw [e1] at hT
    have hle := (add_len h1).2
    have g1 : (add l t).2.2 = 0 := (add_ok l t).2 ⟨c0, ht, hT.imp id (fun h => ⟨h.1, by omega⟩)⟩
    have e2 : look (add l t).1 (Dm.sum s) = look l (Dm.sum s) := by rw [(look_add g1 _).1, if_neg hst]
    have k24 := (chk_zero (add_chk h2).2).1
    have g2 : (add (add l t).1 s).2.2 = 0 := (add_ok _ s).2 ⟨(add_chk g1).2, hs, by
      rw [e2]
      refine hS.imp id (fun h => ⟨h.1, ?_⟩)
      rcases hT with ⟨v, hv, _⟩ | ⟨hv, hl⟩
      · have hlen : (add l t).1.length = l.length := by
          rcases add_cases l t with ⟨_, e⟩ | ⟨_, _, e⟩ | ⟨_, _, _, _, ⟨_, e⟩ | ⟨_, _, e⟩ | ⟨_, _, e⟩⟩ | ⟨q0, _, hn, _⟩
          · rw [e] at g1; cases g1
          · rw [e] at g1; cases g1
          · rw [e] at g1; cases g1
          · rw [e] at g1; cases g1
          · rw [e]; simp
          · rw [look_not (chk_zero q0).2.2 hn] at hv; cases hv
        rw [hlen]; exact h.2
      · have := (add_len h1).1 h.1
        have := (add_len g1).1 hv
        omega⟩
    refine ⟨g1, g2, look_ext (chk_zero (add_chk g2).2).2.2 (chk_zero (add_chk h2).2).2.2 fun d => ?_⟩
    rw [(look_add g2 d).1, (look_add h2 d).1, (look_add g1 d).1, (look_add h1 d).1, e1, e2]
    by_cases d1 : d = Dm.sum s
    · subst d1; rw [if_pos rfl, if_neg hst, if_pos rfl]
    · rw [if_neg d1]
      by_cases d2 : d = Dm.sum t
      · subst d2; rw [if_pos rfl, if_pos rfl]
      · rw [if_neg d2, if_neg d2, if_neg d1]

/-- all texts of a list, one after the other, without an error, make x -/
def Adds : List Rw → List (List UInt8) → List Rw → Prop
  | l, [], x => l = x
  | l, s :: r, x => (add l s).2.2 = 0 ∧ Adds (add l s).1 r x
theorem Adds.snoc {x : List Rw} {s : List UInt8} : ∀ {r : List (List UInt8)} {l y : List Rw}, Adds l r y → (add y s).2.2 = 0 → (add y s).1 = x → Adds l (r ++ [s]) x
  | [], _, _, h, h2, h3 => by cases h; exact ⟨h2, h3⟩
  | _ :: _, _, _, h, h2, h3 => ⟨h.1, h.2.snoc h2 h3⟩
/-- any one of them first -/
theorem Adds.first {x : List Rw} : ∀ {r : List (List UInt8)} {l : List Rw}, Adds l r x → ∀ (k : Nat) (hk : k < r.length), (add l r[k]).2.2 = 0 ∧ Adds (add l r[k]).1 (r.eraseIdx k) x
  | [], _, _, k, hk => absurd hk (by simp)
  | s :: r, l, h, 0, _ => h
  | s :: r, l, h, k + 1, hk => by
    obtain ⟨h1, h2⟩ := h
    obtain ⟨g1, g2⟩ := Adds.first h2 k (by simpa using hk)
    obtain ⟨f1, f2, f3⟩ := add_swap h1 g1
    refine ⟨f1, ?_⟩
    rw [List.eraseIdx_cons_succ]
    exact ⟨f2, by rw [List.getElem_cons_succ, f3]; exact g2⟩

end Go.Proofs.Ytmdakplaaehmnaa.Im
