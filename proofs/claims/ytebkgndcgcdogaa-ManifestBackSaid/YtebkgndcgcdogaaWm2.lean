/-
  Plain arithmetic of layer 1, second part: texts and lists as bytes. No program is named here.
-/
import Derived.Test.YtebkgndcgcdogaaWm
namespace Go.Proofs.Ytebkgndcgcdogaa.Wm

/-- the number of bytes or elements: the number, the index behind it, the error -/
def lenR (s : List UInt8) (k most : Int) : Int × Int × Int :=
  if (int s k).2.2 ≠ 0 then (0, 0, (int s k).2.2) else if (int s k).1 < 0 then (0, 0, 2) else if most < (int s k).1 then (0, 0, 4) else int s k
def text (s : List UInt8) (k most : Int) : List UInt8 × Int × Int :=
  if (lenR s k most).2.2 ≠ 0 then ([], 0, (lenR s k most).2.2)
  else if (s.length : Int) - (lenR s k most).2.1 < (lenR s k most).1 then ([], 0, 3)
  else ((s.drop (lenR s k most).2.1.toNat).take (lenR s k most).1.toNat, (lenR s k most).2.1 + (lenR s k most).1, 0)
def listFrom (s : List UInt8) : Nat → Int → List Int → List Int × Int × Int
  | 0, k, acc => (acc, k, 0)
  | n + 1, k, acc => if (int s k).2.2 ≠ 0 then ([], 0, (int s k).2.2) else listFrom s n (int s k).2.1 (acc ++ [(int s k).1])
def list (s : List UInt8) (k most : Int) : List Int × Int × Int :=
  if (lenR s k most).2.2 ≠ 0 then ([], 0, (lenR s k most).2.2) else listFrom s (lenR s k most).1.toNat (lenR s k most).2.1 []
def encT (t : List UInt8) : List UInt8 := encI t.length ++ t
def encL (l : List Int) : List UInt8 := encI l.length ++ l.flatMap encI

/-- an int -/
def I64 (x : Int) : Prop := -9223372036854775808 ≤ x ∧ x ≤ 9223372036854775807

theorem int_cases (s : List UInt8) (k : Int) : (∃ e, e ≠ 0 ∧ int s k = (0, 0, e)) ∨
    (∃ x q, int s k = (x, q, 0) ∧ 0 ≤ k ∧ k < q ∧ q ≤ s.length ∧ I64 x) := by
  have D0 : ∀ (l : List UInt8) (i u k : Nat), (D l i u k).2.2 ≠ 0 → D l i u k = (0, 0, (D l i u k).2.2) := by
    intro l
    induction l with
    | nil => intro i u k _; rfl
    | cons b l ih =>
      intro i u k h
      simp only [D] at h ⊢
      split
      · rfl
      · rename_i h1
        rw [if_neg h1] at h
        split
        · rename_i h2
          rw [if_pos h2] at h
          exact ih _ _ _ h
        · rename_i h2
          rw [if_neg h2] at h
          split
          · rfl
          · rename_i h3
            rw [if_neg h3] at h
            exact absurd rfl h
  by_cases h : (int s k).2.2 = 0
  · right
    obtain ⟨x, q, e, he⟩ : ∃ x q e, int s k = (x, q, e) := ⟨_, _, _, rfl⟩
    rw [he] at h
    have h : e = 0 := h
    subst h
    obtain ⟨h0, h1, r, hr, hq, hx⟩ := int_canon he
    have hl := congrArg List.length hr
    have := (encI_length x).1
    simp only [List.length_drop, List.length_append] at hl
    exact ⟨x, q, he, h0, by omega, by omega, hx⟩
  · left
    refine ⟨_, h, ?_⟩
    unfold int at h ⊢
    split
    · rfl
    · rename_i hk
      rw [if_neg hk] at h
      exact D0 _ _ _ _ h

theorem lenR_cases (s : List UInt8) (k most : Int) : (∃ e, e ≠ 0 ∧ lenR s k most = (0, 0, e)) ∨
    (∃ x q, lenR s k most = (x, q, 0) ∧ int s k = (x, q, 0) ∧ 0 ≤ x ∧ x ≤ most ∧ 0 ≤ k ∧ k < q ∧ q ≤ s.length ∧ x ≤ 9223372036854775807) := by
  rcases int_cases s k with ⟨e, he, h⟩ | ⟨x, q, h, h0, h1, h2, h3⟩
  · exact .inl ⟨e, he, by unfold lenR; rw [h]; simp [he]⟩
  · by_cases hx : x < 0
    · exact .inl ⟨2, by decide, by unfold lenR; rw [h]; simp [hx]⟩
    · by_cases hm : most < x
      · exact .inl ⟨4, by decide, by unfold lenR; rw [h]; simp [hx, hm]⟩
      · exact .inr ⟨x, q, by unfold lenR; rw [h]; simp [hx, hm], h, by omega, by omega, h0, h1, h2, h3.2⟩

theorem lenR_enc (a : List UInt8) (n : Nat) (r : List UInt8) (most : Int) (hn : (n : Int) ≤ 9223372036854775807) :
    lenR (a ++ (encI n ++ r)) a.length most = if most < n then (0, 0, 4) else ((n : Int), (a.length : Int) + (encI n).length, 0) := by
  have h := int_enc a n r (by omega) hn
  unfold lenR
  rw [h]
  by_cases hm : most < n
  · simp [hm]
  · simp [hm]

theorem text_enc (a t r : List UInt8) (most : Int) (hn : (t.length : Int) ≤ 9223372036854775807) (hm : (t.length : Int) ≤ most) :
    text (a ++ (encT t ++ r)) a.length most = (t, (a.length : Int) + (encT t).length, 0) := by
  have h := lenR_enc a t.length (t ++ r) most hn
  rw [if_neg (by omega)] at h
  have e : a ++ (encT t ++ r) = a ++ (encI t.length ++ (t ++ r)) := by simp [encT]
  unfold text
  rw [e, h]
  simp only [ne_eq, not_true_eq_false, if_false]
  have hl : ((a ++ (encI t.length ++ (t ++ r))).length : Int) = a.length + (encI (t.length : Int)).length + t.length + r.length := by
    simp [List.length_append]; omega
  rw [if_neg (by rw [hl]; omega)]
  have hd : (a ++ (encI (t.length : Int) ++ (t ++ r))).drop ((a.length : Int) + ((encI (t.length : Int)).length : Int)).toNat = t ++ r := by
    have e1 : ((a.length : Int) + ((encI (t.length : Int)).length : Int)).toNat = (a ++ encI (t.length : Int)).length := by simp; omega
    rw [e1, ← List.append_assoc, List.drop_left]
  rw [hd]
  refine Prod.ext ?_ (Prod.ext ?_ rfl)
  · simp
  · simp [encT]; omega

theorem listFrom_enc (l : List Int) : ∀ (a r : List UInt8) (acc : List Int), (∀ x ∈ l, I64 x) →
    listFrom (a ++ (l.flatMap encI ++ r)) l.length a.length acc = (acc ++ l, (a.length : Int) + (l.flatMap encI).length, 0) := by
  induction l with
  | nil => intro a r acc _; simp [listFrom]
  | cons x l ih =>
    intro a r acc hx
    have e : a ++ ((x :: l).flatMap encI ++ r) = a ++ (encI x ++ (l.flatMap encI ++ r)) := by simp
    have h := int_enc a x (l.flatMap encI ++ r) (hx x (by simp)).1 (hx x (by simp)).2
    simp only [List.length_cons, listFrom]
    rw [e, h]
    simp only [ne_eq, not_true_eq_false, if_false]
    have e2 : a ++ (encI x ++ (l.flatMap encI ++ r)) = (a ++ encI x) ++ (l.flatMap encI ++ r) := by simp
    have e3 : (a.length : Int) + (encI x).length = ((a ++ encI x).length : Int) := by simp
    rw [e2, e3, ih (a ++ encI x) r (acc ++ [x]) (fun y hy => hx y (by simp [hy]))]
    refine Prod.ext ?_ (Prod.ext ?_ rfl)
    · simp
    · simp; omega

theorem list_enc (a r : List UInt8) (l : List Int) (most : Int) (hn : (l.length : Int) ≤ 9223372036854775807) (hm : (l.length : Int) ≤ most) (hl : ∀ x ∈ l, I64 x) :
    list (a ++ (encL l ++ r)) a.length most = (l, (a.length : Int) + (encL l).length, 0) := by
  have h := lenR_enc a l.length (l.flatMap encI ++ r) most hn
  rw [if_neg (by omega)] at h
  have e : a ++ (encL l ++ r) = a ++ (encI l.length ++ (l.flatMap encI ++ r)) := by simp [encL]
  unfold list
  rw [e, h]
  simp only [ne_eq, not_true_eq_false, if_false, Int.toNat_natCast]
  have e2 : a ++ (encI (l.length : Int) ++ (l.flatMap encI ++ r)) = (a ++ encI (l.length : Int)) ++ (l.flatMap encI ++ r) := by simp
  have e3 : (a.length : Int) + (encI (l.length : Int)).length = ((a ++ encI (l.length : Int)).length : Int) := by simp
  rw [e2, e3, listFrom_enc l _ r [] hl]
  refine Prod.ext ?_ (Prod.ext ?_ rfl)
  · simp
  · simp [encL]; omega

/-- cut short -/
theorem lenR_short (n : Nat) (c : Nat) (most : Int) (hn : (n : Int) ≤ 9223372036854775807) (hc : c < (encI n).length) (r : List UInt8) : lenR ((encI n ++ r).take c) 0 most = (0, 0, 3) := by
  have e : (encI n ++ r).take c = (encI n).take c := List.take_append_of_le_length (by omega)
  have h := int_short n c (by omega) hn hc
  unfold lenR
  rw [e, h]
  simp
theorem text_short (t : List UInt8) (c : Nat) (most : Int) (hn : (t.length : Int) ≤ 9223372036854775807) (hm : (t.length : Int) ≤ most) (hc : c < (encT t).length) : text ((encT t).take c) 0 most = ([], 0, 3) := by
  by_cases h : c < (encI t.length).length
  · have h1 := lenR_short t.length c most hn h t
    unfold text
    rw [encT, h1]
    simp
  · have hc' : c < (encI (t.length : Int)).length + t.length := by simpa [encT] using hc
    have e : (encT t).take c = encI t.length ++ t.take (c - (encI t.length).length) := by
      rw [encT, List.take_append, List.take_of_length_le (by omega)]
    have h1 := lenR_enc [] t.length (t.take (c - (encI t.length).length)) most hn
    rw [if_neg (by omega)] at h1
    simp only [List.nil_append, List.length_nil] at h1
    unfold text
    rw [e]
    have h1 : lenR (encI (t.length : Int) ++ t.take (c - (encI t.length).length)) 0 most = ((t.length : Int), (((encI (t.length : Int)).length : Nat) : Int), 0) := by
      have := h1
      simpa using this
    rw [h1]
    simp only [ne_eq, not_true_eq_false, if_false]
    rw [if_pos (by simp; omega)]
theorem listFrom_short (l : List Int) : ∀ (a : List UInt8) (acc : List Int) (c : Nat), (∀ x ∈ l, I64 x) → c < (l.flatMap encI).length →
    listFrom (a ++ (l.flatMap encI).take c) l.length a.length acc = ([], 0, 3) := by
  induction l with
  | nil => intro a acc c _ h; simp at h
  | cons x l ih =>
    intro a acc c hx hc
    simp only [List.length_cons, listFrom, List.flatMap_cons]
    by_cases h : c < (encI x).length
    · have e : (encI x ++ l.flatMap encI).take c = (encI x).take c := List.take_append_of_le_length (by omega)
      have h1 : int (a ++ (encI x).take c) a.length = (0, 0, 3) := by
        unfold int
        rw [if_neg (by simp; omega), Int.toNat_natCast, List.drop_left]
        exact D_short 9 (zz x) 0 0 a.length c (by omega) (by simpa using zz_lt x (hx x (by simp)).1 (hx x (by simp)).2) h
      rw [e, h1]
      simp
    · have e : (encI x ++ l.flatMap encI).take c = encI x ++ (l.flatMap encI).take (c - (encI x).length) := by
        rw [List.take_append, List.take_of_length_le (by omega)]
      have h1 := int_enc a x ((l.flatMap encI).take (c - (encI x).length)) (hx x (by simp)).1 (hx x (by simp)).2
      rw [e, h1]
      simp only [ne_eq, not_true_eq_false, if_false]
      have e2 : a ++ (encI x ++ (l.flatMap encI).take (c - (encI x).length)) = (a ++ encI x) ++ (l.flatMap encI).take (c - (encI x).length) := by simp
      have e3 : (a.length : Int) + (encI x).length = ((a ++ encI x).length : Int) := by simp
      rw [e2, e3]
      refine ih _ _ _ (fun y hy => hx y (by simp [hy])) ?_
      simp only [List.flatMap_cons, List.length_append] at hc
      omega
theorem list_short (l : List Int) (c : Nat) (most : Int) (hn : (l.length : Int) ≤ 9223372036854775807) (hm : (l.length : Int) ≤ most) (hl : ∀ x ∈ l, I64 x) (hc : c < (encL l).length) : list ((encL l).take c) 0 most = ([], 0, 3) := by
  by_cases h : c < (encI l.length).length
  · have h1 := lenR_short l.length c most hn h (l.flatMap encI)
    unfold list
    rw [encL, h1]
    simp
  · have e : (encL l).take c = encI l.length ++ (l.flatMap encI).take (c - (encI l.length).length) := by
      rw [encL, List.take_append, List.take_of_length_le (by omega)]
    have h1 := lenR_enc [] l.length ((l.flatMap encI).take (c - (encI l.length).length)) most hn
    rw [if_neg (by omega)] at h1
    have h1 : lenR (encI (l.length : Int) ++ (l.flatMap encI).take (c - (encI l.length).length)) 0 most = ((l.length : Int), (((encI (l.length : Int)).length : Nat) : Int), 0) := by
      simpa using h1
    unfold list
    rw [e, h1]
    simp only [ne_eq, not_true_eq_false, if_false, Int.toNat_natCast]
    refine listFrom_short l _ _ _ hl ?_
    have : (encL l).length = (encI (l.length : Int)).length + (l.flatMap encI).length := by simp [encL]
    omega

/-- the elements are no more than the bytes -/
theorem listFrom_cases (s : List UInt8) (n : Nat) : ∀ (k : Int) (acc : List Int), (∃ e, e ≠ 0 ∧ listFrom s n k acc = ([], 0, e)) ∨ (∃ l q, listFrom s n k acc = (acc ++ l, q, 0) ∧ l.length = n) := by
  induction n with
  | zero => intro k acc; exact .inr ⟨[], k, by simp [listFrom], rfl⟩
  | succ n ih =>
    intro k acc
    simp only [listFrom]
    by_cases h : (int s k).2.2 ≠ 0
    · rw [if_pos h]; exact .inl ⟨_, h, rfl⟩
    · rw [if_neg h]
      rcases ih (int s k).2.1 (acc ++ [(int s k).1]) with ⟨e, he, h2⟩ | ⟨l, q, h2, hl⟩
      · exact .inl ⟨e, he, h2⟩
      · exact .inr ⟨(int s k).1 :: l, q, by rw [h2]; simp, by simp [hl]⟩

theorem flatMap_length (l : List Int) : (l.flatMap encI).length ≤ 10 * l.length := by
  induction l with
  | nil => simp
  | cons x l ih => have := (encI_length x).2; simp only [List.flatMap_cons, List.length_append, List.length_cons]; omega
theorem flatMap_take_succ (l : List Int) (k : Nat) (h : k < l.length) : (l.take (k + 1)).flatMap encI = (l.take k).flatMap encI ++ encI l[k] := by
  rw [List.take_succ_eq_append_getElem h, List.flatMap_append]; simp

end Go.Proofs.Ytebkgndcgcdogaa.Wm
