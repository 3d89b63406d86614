/-
  Plain mathematics of layer 9 (refs): rows, valid indexes, adding, dropping, looking up, totals. No program is named here.
-/
import Derived.Test.YtmdakplaaehmnaaDm
namespace Go.Proofs.Ytmdakplaaehmnaa.Im

/-- digest, count, text -/
abbrev Rw := Int × Int × List UInt8
def okR (r : Rw) : Bool := decide (r.2.2.length ≤ 16384 ∧ r.1 = Dm.sum r.2.2 ∧ 1 ≤ r.2.1 ∧ r.2.1 < 2147483647)
/-- strictly ascending digests -/
def Asc (l : List Rw) : Prop := l.Pairwise fun x y => x.1 < y.1
open Classical in
noncomputable def chk (l : List Rw) : Int := if l.length ≤ 1024 ∧ l.all okR = true ∧ Asc l then 0 else 2
theorem chk_zero {l : List Rw} (h : chk l = 0) : l.length ≤ 1024 ∧ (∀ r ∈ l, r.2.2.length ≤ 16384 ∧ r.1 = Dm.sum r.2.2 ∧ 1 ≤ r.2.1 ∧ r.2.1 < 2147483647) ∧ Asc l := by
  unfold chk at h
  split at h
  · rename_i h1
    refine ⟨h1.1, fun r hr => ?_, h1.2.2⟩
    have := List.all_eq_true.1 h1.2.1 r hr
    simpa [okR] using this
  · cases h
theorem chk_of {l : List Rw} (h1 : l.length ≤ 1024) (h2 : ∀ r ∈ l, okR r = true) (h3 : Asc l) : chk l = 0 := by
  unfold chk; rw [if_pos ⟨h1, List.all_eq_true.2 h2, h3⟩]
theorem chk_two {l : List Rw} (h : chk l ≠ 0) : chk l = 2 := by
  unfold chk at h ⊢
  split
  · rename_i h1; rw [if_pos h1] at h; exact absurd rfl h
  · rfl
theorem chk_long {l : List Rw} (h : 1024 < l.length) : chk l = 2 := by
  unfold chk; rw [if_neg (fun k => by omega)]
theorem chk_bad {l : List Rw} {i : Nat} (hi : i < l.length) (h : okR l[i] = false) : chk l = 2 := by
  unfold chk
  rw [if_neg]
  rintro ⟨_, h2, _⟩
  have := List.all_eq_true.1 h2 _ (List.getElem_mem hi)
  rw [h] at this; cases this
theorem chk_order {l : List Rw} {i : Nat} (hi : i + 1 < l.length) (h : ¬ l[i].1 < l[i + 1].1) : chk l = 2 := by
  unfold chk
  rw [if_neg]
  rintro ⟨_, _, h3⟩
  exact h (List.pairwise_iff_getElem.1 h3 i (i + 1) (by omega) hi (by omega))
/-- neighbours are enough -/
theorem asc_of {l : List Rw} (h : ∀ i (hi : i + 1 < l.length), l[i].1 < l[i + 1].1) : Asc l := by
  refine List.pairwise_iff_getElem.2 fun i j hi hj hij => ?_
  obtain ⟨k, rfl⟩ : ∃ k, j = i + k + 1 := ⟨j - i - 1, by omega⟩
  clear hij
  induction k with
  | zero => exact h i hj
  | succ k ih => exact Int.lt_trans (ih (by omega)) (h (i + k + 1) hj)
theorem chk_ok {l : List Rw} (h1 : l.length ≤ 1024) (h2 : ∀ i (hi : i < l.length), okR l[i] = true) (h3 : ∀ i (hi : i + 1 < l.length), l[i].1 < l[i + 1].1) : chk l = 0 :=
  chk_of h1 (fun r hr => by obtain ⟨i, hi, rfl⟩ := List.mem_iff_getElem.1 hr; exact h2 i hi) (asc_of h3)

/-! the place of a digest -/
def find (l : List Rw) (d : Int) : Nat := l.findIdx fun r => decide (d ≤ r.1)
theorem find_le (l : List Rw) (d : Int) : find l d ≤ l.length := List.findIdx_le_length
theorem find_lt {l : List Rw} {d : Int} {j : Nat} (hj : j < l.length) (h : j < find l d) : l[j].1 < d := by
  have := List.not_of_lt_findIdx h
  simp only [decide_eq_false_iff_not, Int.not_le] at this
  simpa using this
theorem find_ge {l : List Rw} {d : Int} (h : find l d < l.length) : d ≤ l[find l d].1 := by
  have := List.findIdx_getElem (w := h)
  unfold find
  simpa using this
/-- what a search must give -/
theorem find_eq {l : List Rw} {d : Int} {i : Nat} (hi : i ≤ l.length) (h1 : ∀ j (hj : j < l.length), j < i → l[j].1 < d) (h2 : ∀ hi : i < l.length, d ≤ l[i].1) : find l d = i := by
  rcases Nat.lt_trichotomy (find l d) i with h | h | h
  · have hl : find l d < l.length := by omega
    have a := h1 _ hl h
    have b := find_ge hl
    omega
  · exact h
  · have hl : i < l.length := Nat.lt_of_lt_of_le h (find_le l d)
    have a := h2 hl
    have b := find_lt hl h
    omega
/-- the row of a digest is there -/
def has (l : List Rw) (d : Int) : Bool := (l[find l d]?).any fun r => decide (r.1 = d)
theorem has_iff {l : List Rw} (hA : Asc l) (d : Int) : has l d = true ↔ ∃ r ∈ l, r.1 = d := by
  unfold has
  constructor
  · intro h
    cases hq : l[find l d]? with
    | none => rw [hq] at h; cases h
    | some r =>
      rw [hq] at h
      obtain ⟨hl, e⟩ := List.getElem?_eq_some_iff.1 hq
      exact ⟨r, by rw [← e]; exact List.getElem_mem hl, by simpa using h⟩
  · rintro ⟨r, hr, e⟩
    obtain ⟨i, hi, rfl⟩ := List.mem_iff_getElem.1 hr
    have hf : find l d = i := find_eq (by omega) (fun j hj hji => by rw [← e]; exact List.pairwise_iff_getElem.1 hA j i hj hi hji) (fun _ => by omega)
    rw [hf, List.getElem?_eq_getElem hi]
    simpa using e

/-! what the calls answer -/
noncomputable def add (l : List Rw) (s : List UInt8) : List Rw × Bool × Int :=
  if chk l ≠ 0 then ([], false, 2) else if 16384 < s.length then ([], false, 4) else
    match l[find l (Dm.sum s)]? with
    | some r => if r.1 = Dm.sum s then (if r.2.2 ≠ s then ([], false, 8) else if r.2.1 = 2147483646 then ([], false, 4) else (l.set (find l (Dm.sum s)) (r.1, r.2.1 + 1, r.2.2), false, 0))
      else if l.length = 1024 then ([], false, 4) else (l.take (find l (Dm.sum s)) ++ (Dm.sum s, 1, s) :: l.drop (find l (Dm.sum s)), true, 0)
    | none => if l.length = 1024 then ([], false, 4) else (l.take (find l (Dm.sum s)) ++ (Dm.sum s, 1, s) :: l.drop (find l (Dm.sum s)), true, 0)
noncomputable def drop (l : List Rw) (d : Int) : List Rw × Bool × Int :=
  if chk l ≠ 0 then ([], false, 2) else
    match l[find l d]? with
    | some r => if r.1 = d then (if 0 < r.2.1 - 1 then (l.set (find l d) (r.1, r.2.1 - 1, r.2.2), false, 0) else (l.eraseIdx (find l d), true, 0)) else ([], false, 6)
    | none => ([], false, 6)
noncomputable def get (l : List Rw) (d : Int) : List UInt8 × Int × Int :=
  if chk l ≠ 0 then ([], 0, 2) else
    match l[find l d]? with
    | some r => if r.1 = d then (r.2.2, r.2.1, 0) else ([], 0, 6)
    | none => ([], 0, 6)
def once (l : List Rw) : Int := (l.map fun r => (r.2.2.length : Int)).foldr (· + ·) 0
def all (l : List Rw) : Int := (l.map fun r => (r.2.2.length : Int) * r.2.1).foldr (· + ·) 0
noncomputable def tot (l : List Rw) : Int × Int × Int := if chk l ≠ 0 then (0, 0, 2) else (once l, all l, 0)

/-! adding -/
theorem add_cases (l : List Rw) (s : List UInt8) :
    (chk l ≠ 0 ∧ add l s = ([], false, 2)) ∨ (chk l = 0 ∧ 16384 < s.length ∧ add l s = ([], false, 4)) ∨
    (chk l = 0 ∧ s.length ≤ 16384 ∧ ∃ h : find l (Dm.sum s) < l.length, l[find l (Dm.sum s)].1 = Dm.sum s ∧
      ((l[find l (Dm.sum s)].2.2 ≠ s ∧ add l s = ([], false, 8)) ∨ (l[find l (Dm.sum s)].2.2 = s ∧ l[find l (Dm.sum s)].2.1 = 2147483646 ∧ add l s = ([], false, 4)) ∨
       (l[find l (Dm.sum s)].2.2 = s ∧ l[find l (Dm.sum s)].2.1 ≠ 2147483646 ∧ add l s = (l.set (find l (Dm.sum s)) (Dm.sum s, l[find l (Dm.sum s)].2.1 + 1, s), false, 0)))) ∨
    (chk l = 0 ∧ s.length ≤ 16384 ∧ (∀ h : find l (Dm.sum s) < l.length, Dm.sum s < l[find l (Dm.sum s)].1) ∧
      ((l.length = 1024 ∧ add l s = ([], false, 4)) ∨ (l.length < 1024 ∧ add l s = (l.take (find l (Dm.sum s)) ++ (Dm.sum s, 1, s) :: l.drop (find l (Dm.sum s)), true, 0)))) := by
  by_cases h1 : chk l = 0
  · by_cases h2 : 16384 < s.length
    · exact .inr (.inl ⟨h1, h2, by unfold add; rw [if_neg (by simp [h1]), if_pos h2]⟩)
    · have hl := (chk_zero h1).1
      by_cases h3 : find l (Dm.sum s) < l.length
      · have hq : l[find l (Dm.sum s)]? = some l[find l (Dm.sum s)] := List.getElem?_eq_getElem h3
        by_cases h4 : l[find l (Dm.sum s)].1 = Dm.sum s
        · refine .inr (.inr (.inl ⟨h1, by omega, h3, h4, ?_⟩))
          by_cases h5 : l[find l (Dm.sum s)].2.2 = s
          · by_cases h6 : l[find l (Dm.sum s)].2.1 = 2147483646
            · refine .inr (.inl ⟨h5, h6, ?_⟩)
              unfold add
              rw [if_neg (by simp [h1]), if_neg h2, hq]
              simp only
              rw [if_pos h4, if_neg (by simp [h5]), if_pos h6]
            · refine .inr (.inr ⟨h5, h6, ?_⟩)
              unfold add
              rw [if_neg (by simp [h1]), if_neg h2, hq]
              simp only
              rw [if_pos h4, if_neg (by simp [h5]), if_neg h6, h4, h5]
          · refine .inl ⟨h5, ?_⟩
            unfold add
            rw [if_neg (by simp [h1]), if_neg h2, hq]
            simp only
            rw [if_pos h4, if_pos h5]
        · refine .inr (.inr (.inr ⟨h1, by omega, fun _ => ?_, ?_⟩))
          · have := find_ge h3
            omega
          · by_cases h5 : l.length = 1024
            · refine .inl ⟨h5, ?_⟩
              unfold add
              rw [if_neg (by simp [h1]), if_neg h2, hq]
              simp only
              rw [if_neg h4, if_pos h5]
            · refine .inr ⟨by omega, ?_⟩
              unfold add
              rw [if_neg (by simp [h1]), if_neg h2, hq]
              simp only
              rw [if_neg h4, if_neg h5]
      · have hq : l[find l (Dm.sum s)]? = none := List.getElem?_eq_none (by omega)
        refine .inr (.inr (.inr ⟨h1, by omega, fun h => absurd h h3, ?_⟩))
        by_cases h5 : l.length = 1024
        · refine .inl ⟨h5, ?_⟩
          unfold add
          rw [if_neg (by simp [h1]), if_neg h2, hq]
          simp only
          rw [if_pos h5]
        · refine .inr ⟨by omega, ?_⟩
          unfold add
          rw [if_neg (by simp [h1]), if_neg h2, hq]
          simp only
          rw [if_neg h5]
  · exact .inl ⟨h1, by unfold add; rw [if_pos h1]⟩
theorem asc_set {l : List Rw} (hA : Asc l) {i : Nat} (hi : i < l.length) {r : Rw} (hr : r.1 = l[i].1) : Asc (l.set i r) := by
  refine List.pairwise_iff_getElem.2 fun a b ha hb hab => ?_
  rw [List.length_set] at ha hb
  have h := List.pairwise_iff_getElem.1 hA a b ha hb hab
  rw [List.getElem_set, List.getElem_set]
  by_cases e1 : i = a
  · subst e1
    rw [if_pos rfl, if_neg (by omega), hr]; exact h
  · rw [if_neg e1]
    by_cases e2 : i = b
    · subst e2; rw [if_pos rfl, hr]; exact h
    · rw [if_neg e2]; exact h
theorem asc_put {l : List Rw} (hA : Asc l) {i : Nat} {r : Rw} (h1 : ∀ j (hj : j < l.length), j < i → l[j].1 < r.1) (h2 : ∀ j (hj : j < l.length), i ≤ j → r.1 < l[j].1) : Asc (l.take i ++ r :: l.drop i) := by
  have hd : (l.take i ++ l.drop i).Pairwise fun x y => x.1 < y.1 := by rw [List.take_append_drop]; exact hA
  obtain ⟨ha, hb, hc⟩ := List.pairwise_append.1 hd
  refine List.pairwise_append.2 ⟨ha, List.pairwise_cons.2 ⟨fun x hx => ?_, hb⟩, fun x hx y hy => ?_⟩
  · obtain ⟨j, hj, rfl⟩ := List.mem_iff_getElem.1 hx
    rw [List.getElem_drop]
    rw [List.length_drop] at hj
    exact h2 _ (by omega) (by omega)
  · rcases List.mem_cons.1 hy with rfl | hy
    · obtain ⟨j, hj, rfl⟩ := List.mem_iff_getElem.1 hx
      rw [List.length_take] at hj
      rw [List.getElem_take]
      exact h1 j (by omega) (by omega)
    · exact hc x hx y hy
/-- what lies behind the place is greater -/
theorem find_gt {l : List Rw} (hA : Asc l) {d : Int} (h : ∀ h : find l d < l.length, d < l[find l d].1) : ∀ j (hj : j < l.length), find l d ≤ j → d < l[j].1 := fun j hj hfj => by
  have h0 : find l d < l.length := by omega
  have h1 := h h0
  by_cases e : find l d = j
  · simpa [e] using h1
  · have := List.pairwise_iff_getElem.1 hA (find l d) j h0 hj (by omega)
    omega
theorem add_chk {l : List Rw} {s : List UInt8} (h : (add l s).2.2 = 0) : chk l = 0 ∧ chk (add l s).1 = 0 := by
  rcases add_cases l s with ⟨_, e⟩ | ⟨_, _, e⟩ | ⟨h1, h2, h3, h4, ⟨_, e⟩ | ⟨_, _, e⟩ | ⟨h5, h6, e⟩⟩ | ⟨h1, h2, h3, ⟨_, e⟩ | ⟨h4, e⟩⟩
  · rw [e] at h; cases h
  · rw [e] at h; cases h
  · rw [e] at h; cases h
  · rw [e] at h; cases h
  · refine ⟨h1, ?_⟩
    obtain ⟨a, b, c⟩ := chk_zero h1
    rw [e]
    refine chk_of (by simpa using a) (fun r hr => ?_) (asc_set c h3 h4.symm)
    rcases List.mem_or_eq_of_mem_set hr with hr | rfl
    · have := b r hr; unfold okR; simpa using this
    · have := b _ (List.getElem_mem h3)
      unfold okR
      simp only [decide_eq_true_eq]
      refine ⟨h2, (by first | rfl | trivial), ?_, ?_⟩ <;> omega
  · rw [e] at h; cases h
  · refine ⟨h1, ?_⟩
    obtain ⟨a, b, c⟩ := chk_zero h1
    rw [e]
    refine chk_of ?_ (fun r hr => ?_) (asc_put c (fun j hj hji => find_lt hj hji) (find_gt c h3))
    · have := find_le l (Dm.sum s)
      simp only [List.length_append, List.length_take, List.length_cons, List.length_drop]; omega
    · rcases List.mem_append.1 hr with hr | hr
      · have := b r (List.mem_of_mem_take hr); unfold okR; simpa using this
      · rcases List.mem_cons.1 hr with rfl | hr
        · unfold okR; simp only [decide_eq_true_eq]; exact ⟨h2, (by first | rfl | trivial), by decide, by decide⟩
        · have := b r (List.mem_of_mem_drop hr); unfold okR; simpa using this

end Go.Proofs.Ytmdakplaaehmnaa.Im
