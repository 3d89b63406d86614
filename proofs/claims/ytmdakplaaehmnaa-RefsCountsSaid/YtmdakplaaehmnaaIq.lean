/-
  Mathematics of refs, fifth part: dropping and looking up by what the digests give.
-/
import Derived.Test.YtmdakplaaehmnaaIp
import Derived.Test.YtmdakplaaehmnaaIg
namespace Go.Proofs.Ytmdakplaaehmnaa.Im

theorem look_has {l : List Rw} (hA : Asc l) {d : Int} : (has l d = true ↔ ∃ v, look l d = some v) := by
  rw [has_iff hA]
  constructor
  · rintro ⟨r, hr, e⟩
    exact ⟨r.2, look_of hA (by have : (d, r.2) = r := Prod.ext e.symm rfl
                               rw [this]; exact hr)⟩
  · rintro ⟨v, hv⟩
    exact ⟨_, look_mem hv, rfl⟩
/-- what looking up gives -/
theorem get_look {l : List Rw} (h0 : chk l = 0) (d : Int) : get l d = match look l d with | some v => (v.2, v.1, 0) | none => ([], 0, 6) := by
  have hA := (chk_zero h0).2.2
  cases hh : has l d with
  | true =>
    obtain ⟨hi, e⟩ := has_row hh
    rw [get_has h0 hh hi, look_at hA hi e]
  | false =>
    rw [get_not h0 hh]
    cases hq : look l d with
    | none => rfl
    | some v => have := (look_has hA (d := d)).2 ⟨v, hq⟩; rw [hh] at this; cases this
/-- dropping turns one digest alone -/
theorem look_drop {l : List Rw} {d : Int} (h : (drop l d).2.2 = 0) : chk l = 0 ∧ chk (drop l d).1 = 0 ∧ ∃ v, look l d = some v ∧ (drop l d).2.1 = decide (v.1 = 1) ∧ ∀ e, look (drop l d).1 e = if e = d then (if v.1 = 1 then none else some (v.1 - 1, v.2)) else look l e := by
  rcases drop_cases l d with ⟨_, e⟩ | ⟨_, _, e⟩ | ⟨h0, hh, hi, hd, hR⟩
  · rw [e] at h; cases h
  · rw [e] at h; cases h
  · obtain ⟨z1, z2, z3⟩ := chk_zero h0
    have hl := look_at z3 hi hd
    have hin : l[find l d] ∈ l := List.getElem_mem hi
    obtain ⟨r1, r2, r3, r4⟩ := z2 _ hin
    rcases hR with ⟨hp, e⟩ | ⟨hp, e⟩ <;> rw [e]
    · have hk : chk (l.set (find l d) (d, l[find l d].2.1 - 1, l[find l d].2.2)) = 0 := by
        refine chk_of (by simpa using z1) (fun r hr => ?_) (asc_set z3 hi (by rw [hd]))
        rcases List.mem_or_eq_of_mem_set hr with hr | rfl
        · have := z2 r hr; unfold okR; simpa using this
        · unfold okR
          simp only [decide_eq_true_eq]
          exact ⟨r1, hd.symm.trans r2, by omega, by omega⟩
      refine ⟨h0, hk, _, hl, by symm; simp only [decide_eq_false_iff_not]; omega, fun q => ?_⟩
      have hA := (chk_zero hk).2.2
      by_cases hq : q = d
      · subst hq
        rw [if_pos rfl, if_neg (by omega)]
        exact look_of hA (List.mem_set hi _)
      · rw [if_neg hq]
        cases hw : look l q with
        | none =>
          refine look_none fun r hr hrd => ?_
          rcases List.mem_or_eq_of_mem_set hr with hr | rfl
          · have := look_of z3 (d := q) (v := r.2) (by rw [← hrd]; exact hr)
            rw [hw] at this; cases this
          · exact hq hrd.symm
        | some v =>
          obtain ⟨i, hi', hv⟩ := List.mem_iff_getElem.1 (look_mem hw)
          refine look_of hA (List.mem_iff_getElem.2 ⟨i, by simpa using hi', ?_⟩)
          rw [List.getElem_set_ne (fun e => ?_)]
          · exact hv
          · subst e
            rw [hv] at hd
            exact hq hd
    · have hsub : (l.eraseIdx (find l d)).Sublist l := List.eraseIdx_sublist ..
      have hA : Asc (l.eraseIdx (find l d)) := z3.sublist hsub
      have hk : chk (l.eraseIdx (find l d)) = 0 := chk_of (by have := hsub.length_le; omega) (fun r hr => by have := z2 r (hsub.subset hr); unfold okR; simpa using this) hA
      refine ⟨h0, hk, _, hl, by symm; simp only [decide_eq_true_eq]; omega, fun q => ?_⟩
      have hmm : ∀ r : Rw, r ∈ l.eraseIdx (find l d) ↔ r ∈ l ∧ r.1 ≠ d := fun r => by
        constructor
        · intro hr
          refine ⟨hsub.subset hr, fun e => ?_⟩
          obtain ⟨i, hi', hv⟩ := List.mem_eraseIdx_iff_getElem.1 hr
          obtain ⟨hne, hv⟩ := hv
          rcases Nat.lt_or_gt_of_ne hne with g | g
          · have := List.pairwise_iff_getElem.1 z3 _ _ (by omega) hi g
            rw [hv, hd] at this; omega
          · have := List.pairwise_iff_getElem.1 z3 _ _ hi (by omega) g
            rw [hv, hd] at this; omega
        · rintro ⟨hr, hne⟩
          obtain ⟨i, hi', hv⟩ := List.mem_iff_getElem.1 hr
          refine List.mem_eraseIdx_iff_getElem.2 ⟨i, hi', fun e => ?_, hv⟩
          subst e
          rw [hv] at hd
          exact hne hd
      by_cases hq : q = d
      · subst hq
        rw [if_pos rfl, if_pos (by omega)]
        exact look_none fun r hr => ((hmm r).1 hr).2
      · rw [if_neg hq]
        cases hw : look l q with
        | none =>
          refine look_none fun r hr hrd => ?_
          have := look_of z3 (d := q) (v := r.2) (by rw [← hrd]; exact ((hmm r).1 hr).1)
          rw [hw] at this; cases this
        | some v => exact look_of hA ((hmm _).2 ⟨look_mem hw, hq⟩)

end Go.Proofs.Ytmdakplaaehmnaa.Im
