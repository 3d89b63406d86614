/-
  Mathematics of refs, third part: an index is what its digests give.
-/
import Derived.Test.YtmdakplaaehmnaaIn
namespace Go.Proofs.Ytmdakplaaehmnaa.Im

/-- what a digest gives -/
def look : List Rw → Int → Option (Int × List UInt8)
  | [], _ => none
  | r :: l, d => if r.1 = d then some r.2 else look l d
theorem look_none {l : List Rw} {d : Int} (h : ∀ r ∈ l, r.1 ≠ d) : look l d = none := by
  induction l with
  | nil => rfl
  | cons r l ih =>
    rw [look, if_neg (h r (by simp)), ih (fun x hx => h x (by simp [hx]))]
theorem look_mem {l : List Rw} {d : Int} {v : Int × List UInt8} (h : look l d = some v) : (d, v) ∈ l := by
  induction l with
  | nil => cases h
  | cons r l ih =>
    rw [look] at h
    split at h
    · rename_i e
      injection h with h
      subst h e
      exact List.mem_cons_self ..
    · exact List.mem_cons_of_mem _ (ih h)
theorem look_of {l : List Rw} (hA : Asc l) {d : Int} {v : Int × List UInt8} (h : (d, v) ∈ l) : look l d = some v := by
  induction l with
  | nil => cases h
  | cons r l ih =>
    obtain ⟨h1, h2⟩ := List.pairwise_cons.1 hA
    rw [look]
    rcases List.mem_cons.1 h with rfl | h
    · rw [if_pos rfl]
    · have := h1 _ h
      rw [if_neg (by show r.1 ≠ d; simp only at this; omega)]
      exact ih h2 h
theorem look_ext : ∀ {l k : List Rw}, Asc l → Asc k → (∀ d, look l d = look k d) → l = k
  | [], [], _, _, _ => rfl
  | [], b :: k, _, _, h => by have := h b.1; simp [look] at this
  | a :: l, [], _, _, h => by have := h a.1; simp [look] at this
  | a :: l, b :: k, hl, hk, h => by
    obtain ⟨l1, l2⟩ := List.pairwise_cons.1 hl
    obtain ⟨k1, k2⟩ := List.pairwise_cons.1 hk
    have e : a.1 = b.1 := by
      rcases Int.lt_trichotomy a.1 b.1 with g | g | g
      · have h1 := h a.1
        rw [look_none (l := b :: k) (fun x hx => by
          rcases List.mem_cons.1 hx with rfl | hx
          · omega
          · have := k1 x hx; omega)] at h1
        simp [look] at h1
      · exact g
      · have h1 := h b.1
        rw [look_none (l := a :: l) (fun x hx => by
          rcases List.mem_cons.1 hx with rfl | hx
          · omega
          · have := l1 x hx; omega)] at h1
        simp [look] at h1
    have e2 : a.2 = b.2 := by
      have h1 := h a.1
      rw [look, look, if_pos rfl, if_pos e.symm] at h1
      injection h1
    have e3 : a = b := Prod.ext e e2
    subst e3
    rw [look_ext l2 k2 (fun d => by
      have h1 := h d
      rw [look, look] at h1
      by_cases hd : a.1 = d
      · subst hd
        rw [look_none (fun x hx => by have := l1 x hx; omega), look_none (fun x hx => by have := k1 x hx; omega)]
      · rw [if_neg hd, if_neg hd] at h1
        exact h1)]

def cnt : Option (Int × List UInt8) → Int
  | none => 0
  | some v => v.1
/-- adding turns one digest alone -/
theorem look_add {l : List Rw} {s : List UInt8} (h : (add l s).2.2 = 0) (d : Int) :
    look (add l s).1 d = (if d = Dm.sum s then some (cnt (look l (Dm.sum s)) + 1, s) else look l d) ∧ ∀ v, look l (Dm.sum s) = some v → v.2 = s := by
  obtain ⟨h0, hc⟩ := add_chk h
  obtain ⟨z1, z2, z3⟩ := chk_zero h0
  have hA := (chk_zero hc).2.2
  rcases add_cases l s with ⟨_, e⟩ | ⟨_, _, e⟩ | ⟨_, hs, hi, hd, ⟨_, e⟩ | ⟨_, _, e⟩ | ⟨ht, hm, e⟩⟩ | ⟨_, hs, hn, ⟨_, e⟩ | ⟨hl, e⟩⟩
  · rw [e] at h; cases h
  · rw [e] at h; cases h
  · rw [e] at h; cases h
  · rw [e] at h; cases h
  · rw [e] at hA ⊢
    simp only at hA ⊢
    have hin : l[find l (Dm.sum s)] ∈ l := List.getElem_mem hi
    have hlk : look l (Dm.sum s) = some l[find l (Dm.sum s)].2 := look_of z3 (by
      have : (Dm.sum s, l[find l (Dm.sum s)].2) = l[find l (Dm.sum s)] := Prod.ext hd.symm rfl
      rw [this]; exact hin)
    refine ⟨?_, fun v hv => by rw [hlk] at hv; injection hv with hv; rw [← hv]; exact ht⟩
    by_cases hds : d = Dm.sum s
    · subst hds
      rw [if_pos rfl, hlk]
      exact look_of hA (List.mem_set hi _)
    · rw [if_neg hds]
      cases hq : look l d with
      | none =>
        refine look_none fun r hr hrd => ?_
        rcases List.mem_or_eq_of_mem_set hr with hr | rfl
        · have := look_of z3 (d := d) (v := r.2) (by rw [← hrd]; exact hr)
          rw [hq] at this; cases this
        · exact hds hrd.symm
      | some v =>
        have hm := look_mem hq
        obtain ⟨i, hi', hv⟩ := List.mem_iff_getElem.1 hm
        refine look_of hA (List.mem_iff_getElem.2 ⟨i, by simpa using hi', ?_⟩)
        rw [List.getElem_set_ne (fun e => ?_)]
        · exact hv
        · subst e
          rw [hv] at hd
          exact hds hd
  · rw [e] at h; cases h
  · rw [e] at hA ⊢
    simp only at hA ⊢
    have hnone : look l (Dm.sum s) = none := look_none fun r hr hrd => by
      obtain ⟨i, hi, rfl⟩ := List.mem_iff_getElem.1 hr
      by_cases hif : find l (Dm.sum s) ≤ i
      · have := find_gt z3 hn i hi hif; omega
      · have := find_lt hi (by omega : i < find l (Dm.sum s)); omega
    refine ⟨?_, fun v hv => by rw [hnone] at hv; cases hv⟩
    have hmm : ∀ r : Rw, r ∈ l.take (find l (Dm.sum s)) ++ (Dm.sum s, 1, s) :: l.drop (find l (Dm.sum s)) ↔ r = (Dm.sum s, 1, s) ∨ r ∈ l := fun r => by
      constructor
      · intro hr
        rcases List.mem_append.1 hr with hr | hr
        · exact .inr (List.mem_of_mem_take hr)
        · rcases List.mem_cons.1 hr with rfl | hr
          · exact .inl rfl
          · exact .inr (List.mem_of_mem_drop hr)
      · rintro (rfl | hr)
        · simp
        · rw [← List.take_append_drop (find l (Dm.sum s)) l] at hr
          rcases List.mem_append.1 hr with hr | hr
          · exact List.mem_append_left _ hr
          · exact List.mem_append_right _ (List.mem_cons_of_mem _ hr)
    by_cases hds : d = Dm.sum s
    · subst hds
      rw [if_pos rfl, hnone]
      exact look_of hA ((hmm _).2 (.inl rfl))
    · rw [if_neg hds]
      cases hq : look l d with
      | none =>
        refine look_none fun r hr hrd => ?_
        rcases (hmm r).1 hr with rfl | hr
        · exact hds hrd.symm
        · have := look_of z3 (d := d) (v := r.2) (by rw [← hrd]; exact hr)
          rw [hq] at this; cases this
      | some v => exact look_of hA ((hmm _).2 (.inr (look_mem hq)))

end Go.Proofs.Ytmdakplaaehmnaa.Im
