/-
  Mathematics of refs, second part: what was added is found and dropped again.
-/
import Derived.Test.YtmdakplaaehmnaaIs
namespace Go.Proofs.Ytmdakplaaehmnaa.Im

theorem get_at {l : List Rw} {d : Int} {p : Nat} {r : Rw} (h0 : chk l = 0) (hf : find l d = p) (hp : l[p]? = some r) (hr : r.1 = d) : get l d = (r.2.2, r.2.1, 0) := by
  unfold get
  rw [if_neg (by simp [h0]), hf, hp]
  simp only
  rw [if_pos hr]
theorem drop_more {l : List Rw} {d : Int} {p : Nat} {r : Rw} (h0 : chk l = 0) (hf : find l d = p) (hp : l[p]? = some r) (hr : r.1 = d) (hc : 0 < r.2.1 - 1) : drop l d = (l.set p (r.1, r.2.1 - 1, r.2.2), false, 0) := by
  unfold drop
  rw [if_neg (by simp [h0]), hf, hp]
  simp only
  rw [if_pos hr, if_pos hc]
theorem drop_last {l : List Rw} {d : Int} {p : Nat} {r : Rw} (h0 : chk l = 0) (hf : find l d = p) (hp : l[p]? = some r) (hr : r.1 = d) (hc : ¬ 0 < r.2.1 - 1) : drop l d = (l.eraseIdx p, true, 0) := by
  unfold drop
  rw [if_neg (by simp [h0]), hf, hp]
  simp only
  rw [if_pos hr, if_neg hc]

/-- adding, then dropping and looking up -/
theorem back {l : List Rw} {s : List UInt8} (h : (add l s).2.2 = 0) :
    drop (add l s).1 (Dm.sum s) = (l, (add l s).2.1, 0) ∧ ∃ k : Int, get (add l s).1 (Dm.sum s) = (s, k, 0) ∧ 1 ≤ k ∧ k < 2147483647 ∧ (decide (k = 1) = (add l s).2.1) := by
  obtain ⟨h0, hc⟩ := add_chk h
  obtain ⟨z1, z2, z3⟩ := chk_zero h0
  rcases add_cases l s with ⟨_, e⟩ | ⟨_, _, e⟩ | ⟨_, hs, hi, hd, ⟨_, e⟩ | ⟨_, _, e⟩ | ⟨ht, hm, e⟩⟩ | ⟨_, hs, hn, ⟨_, e⟩ | ⟨hl, e⟩⟩
  · rw [e] at h; cases h
  · rw [e] at h; cases h
  · rw [e] at h; cases h
  · rw [e] at h; cases h
  · obtain ⟨_, _, c0, c1⟩ := z2 _ (List.getElem_mem hi)
    rw [e] at hc ⊢
    simp only at hc ⊢
    obtain ⟨p, hp⟩ : ∃ p, find l (Dm.sum s) = p := ⟨_, rfl⟩
    have hpl : p < l.length := by rw [← hp]; exact hi
    have hlt : ∀ j (hj : j < l.length), j < p → l[j].1 < Dm.sum s := fun j hj hjp => find_lt hj (by rw [hp]; exact hjp)
    have ex : ∃ x, l[p] = x := ⟨_, rfl⟩
    obtain ⟨x, hx⟩ := ex
    have hxx : l[find l (Dm.sum s)] = x := by simp only [hp]; exact hx
    rw [hxx] at hd ht hm c0 c1 hc ⊢
    rw [hp] at hc ⊢
    obtain ⟨a, c, t⟩ := x
    simp only at hd ht hm c0 c1 hc ⊢
    subst hd ht
    have hf : find (l.set p (Dm.sum t, c + 1, t)) (Dm.sum t) = p := find_eq (by simp; omega) (fun j hj hjp => by
      rw [List.getElem_set_ne (by omega)]
      exact hlt j (by simpa using hj) hjp) (fun _ => by rw [List.getElem_set_self]; exact Int.le_refl _)
    have hg : (l.set p (Dm.sum t, c + 1, t))[p]? = some (Dm.sum t, c + 1, t) := List.getElem?_set_self hpl
    refine ⟨?_, c + 1, ?_, by omega, by omega, by simp; omega⟩
    · rw [drop_more hc hf hg rfl (by show 0 < c + 1 - 1; omega), List.set_set]
      simp only [Int.add_sub_cancel]
      rw [← hx, List.set_getElem_self]
    · rw [get_at hc hf hg rfl]
  · rw [e] at h; cases h
  · rw [e] at hc ⊢
    simp only at hc ⊢
    obtain ⟨p, hp⟩ : ∃ p, find l (Dm.sum s) = p := ⟨_, rfl⟩
    have hpl : p ≤ l.length := by rw [← hp]; exact find_le _ _
    have hlt : ∀ j (hj : j < l.length), j < p → l[j].1 < Dm.sum s := fun j hj hjp => find_lt hj (by rw [hp]; exact hjp)
    rw [hp] at hc ⊢
    have htl : (l.take p).length = p := by simp; omega
    have hg : (l.take p ++ (Dm.sum s, 1, s) :: l.drop p)[p]? = some (Dm.sum s, 1, s) := by rw [List.getElem?_append_right (by omega), htl]; simp
    have hf : find (l.take p ++ (Dm.sum s, 1, s) :: l.drop p) (Dm.sum s) = p := find_eq (by simp; omega) (fun j hj hjp => by
      rw [List.getElem_append_left (by omega), List.getElem_take]
      exact hlt j (by omega) hjp) (fun hj => by
        have := List.getElem?_eq_getElem hj
        rw [hg] at this
        injection this with this
        rw [← this]
        exact Int.le_refl _)
    refine ⟨?_, 1, ?_, by omega, by omega, by simp⟩
    · rw [drop_last hc hf hg rfl (by simp)]
      rw [List.eraseIdx_append_of_length_le (by omega), htl]
      simp
    · rw [get_at hc hf hg rfl]

end Go.Proofs.Ytmdakplaaehmnaa.Im
