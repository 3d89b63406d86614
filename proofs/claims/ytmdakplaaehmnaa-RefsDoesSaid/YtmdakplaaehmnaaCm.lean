/-
  Plain mathematics of layer 4 (chunk): weights, the first chunk of a text, its chunks. No program is named here.
-/
import Derived.WalkKit
namespace Go.Proofs.Ytmdakplaaehmnaa.Cm

/-- the sum over the first k of some numbers, each and one times its place -/
def ws (f : Nat → Nat) : Nat → Nat
  | 0 => 0
  | k + 1 => ws f k + (f k + 1) * (k + 1)
theorem ws_congr {f g : Nat → Nat} (k : Nat) (h : ∀ i, i < k → f i = g i) : ws f k = ws g k := by
  induction k with
  | zero => rfl
  | succ k ih => rw [ws, ws, ih (fun i hi => h i (by omega)), h k (by omega)]
theorem ws_le {f : Nat → Nat} (hf : ∀ i, f i ≤ 255) (k : Nat) : ws f k ≤ 256 * k * k := by
  induction k with
  | zero => exact Nat.le_refl _
  | succ k ih =>
    rw [ws]
    have h1 := Nat.mul_le_mul_right (k + 1) (show f k + 1 ≤ 256 by have := hf k; omega)
    have h2 : 256 * (k + 1) * (k + 1) = 256 * k * k + 256 * k + 256 * (k + 1) := by
      rw [Nat.mul_add 256 k 1, Nat.add_mul, Nat.mul_add (256 * k) k 1]
      omega
    omega

/-- byte i -/
def by' (s : List UInt8) (i : Nat) : Nat := (s.getD i 0).toNat
theorem by_lt (s : List UInt8) (i : Nat) : by' s i ≤ 255 := by
  have := (s.getD i 0).toNat_lt
  unfold by'; omega
/-- the weight of the last bytes -/
def wt (s : List UInt8) (w : Nat) : Nat := ws (fun i => by' s (s.length - min w s.length + i)) (min w s.length)
theorem wt_le (s : List UInt8) (w : Nat) : wt s w ≤ 256 * s.length * s.length := by
  have h := ws_le (fun i => by_lt s (s.length - min w s.length + i)) (min w s.length)
  have h1 : min w s.length ≤ s.length := Nat.min_le_right _ _
  have h2 := Nat.mul_le_mul (Nat.mul_le_mul_left 256 h1) h1
  exact Nat.le_trans h h2

/-- a cutting -/
structure C where
  L : Nat
  M : Nat
  W : Nat
  K : Nat
/-- a valid one -/
structure C.ok (c : C) : Prop where
  l4 : 4 ≤ c.L
  lm : c.L ≤ c.M
  m256 : c.M ≤ 256
  w1 : 1 ≤ c.W
  wl : c.W ≤ c.L
  k1 : 1 ≤ c.K
  k1024 : c.K ≤ 1024

/-- may a chunk of n bytes end there -/
def at' (c : C) (s : List UInt8) (n : Nat) : Bool := decide (wt (s.take n) c.W % c.K = 0)
/-- the greatest length of the first chunk -/
def most (c : C) (s : List UInt8) : Nat := min c.M s.length
def seek (p : Nat → Bool) (m : Nat) : Nat → Nat → Nat
  | 0, _ => m
  | f + 1, n => if n < m then (if p n then n else seek p m f (n + 1)) else m
/-- the length of the first chunk -/
def fl (c : C) (s : List UInt8) : Nat := seek (at' c s) (most c s) (most c s) c.L
/-- what it is -/
def Is (p : Nat → Bool) (l m r : Nat) : Prop := (r = m ∨ (l ≤ r ∧ r < m ∧ p r = true)) ∧ ∀ i, l ≤ i → i < r → i < m → p i = false
theorem seek_is (p : Nat → Bool) (m : Nat) : ∀ f n, m ≤ n + f → Is p n m (seek p m f n) := by
  intro f
  induction f with
  | zero => intro n h; exact ⟨.inl rfl, fun i h1 h2 h3 => by omega⟩
  | succ f ih =>
    intro n h
    rw [seek]
    by_cases h1 : n < m
    · rw [if_pos h1]
      by_cases h2 : p n = true
      · rw [if_pos h2]; exact ⟨.inr ⟨Nat.le_refl _, h1, h2⟩, fun i h3 h4 _ => by omega⟩
      · rw [if_neg h2]
        obtain ⟨h3, h4⟩ := ih (n + 1) (by omega)
        refine ⟨?_, fun i h5 h6 h7 => ?_⟩
        · rcases h3 with h3 | ⟨h3, h5, h6⟩
          · exact .inl h3
          · exact .inr ⟨by omega, h5, h6⟩
        · by_cases hi : i = n
          · subst hi; simpa using h2
          · exact h4 i (by omega) h6 h7
    · rw [if_neg h1]; exact ⟨.inl rfl, fun i h1 h2 h3 => by omega⟩
theorem Is.eq {p : Nat → Bool} {l m r q : Nat} (h : Is p l m r) (g : Is p l m q) : r = q := by
  obtain ⟨h1, h2⟩ := h
  obtain ⟨g1, g2⟩ := g
  rcases h1 with h1 | ⟨h1, h3, h4⟩ <;> rcases g1 with g1 | ⟨g1, g3, g4⟩
  · omega
  · have := h2 q g1 (by omega) g3; rw [g4] at this; cases this
  · have := g2 r h1 (by omega) h3; rw [h4] at this; cases this
  · by_cases h5 : r < q
    · have := g2 r h1 h5 h3; rw [h4] at this; cases this
    · by_cases h6 : q < r
      · have := h2 q g1 h6 g3; rw [g4] at this; cases this
      · omega
theorem fl_is (c : C) (s : List UInt8) : Is (at' c s) c.L (most c s) (fl c s) := seek_is _ _ _ _ (by omega)
theorem fl_le (c : C) (s : List UInt8) : fl c s ≤ most c s := by
  rcases (fl_is c s).1 with h | ⟨_, h, _⟩
  · exact Nat.le_of_eq h
  · exact Nat.le_of_lt h
theorem most_len (c : C) (s : List UInt8) : most c s ≤ s.length := Nat.min_le_right _ _
theorem most_M (c : C) (s : List UInt8) : most c s ≤ c.M := Nat.min_le_left _ _
theorem fl_len (c : C) (s : List UInt8) : fl c s ≤ s.length := Nat.le_trans (fl_le c s) (most_len c s)
theorem fl_pos {c : C} (hc : c.ok) {s : List UInt8} (hs : s ≠ []) : 1 ≤ fl c s := by
  have h4 := hc.l4
  have h5 := hc.lm
  have hl : 0 < s.length := List.length_pos_iff.2 hs
  rcases (fl_is c s).1 with h | ⟨h, _, _⟩
  · rw [h, most]; omega
  · omega
/-- a chunk that is not the last one -/
theorem fl_L {c : C} (hc : c.ok) {s : List UInt8} (h : fl c s < s.length) : c.L ≤ fl c s := by
  have h5 := hc.lm
  rcases (fl_is c s).1 with h1 | ⟨h1, _, _⟩
  · rw [h1] at h ⊢; unfold most at h ⊢; omega
  · exact h1
/-- bytes behind a chunk that is not the last one do not matter -/
theorem fl_app {c : C} {s : List UInt8} (h : fl c s < s.length) (t : List UInt8) : fl c (s ++ t) = fl c s := by
  refine (fl_is c (s ++ t)).eq ?_
  have hm : most c s ≤ most c (s ++ t) := by unfold most; rw [List.length_append]; omega
  have ha : ∀ i, i ≤ s.length → at' c (s ++ t) i = at' c s i := fun i hi => by unfold at'; rw [List.take_append_of_le_length hi]
  obtain ⟨h1, h2⟩ := fl_is c s
  refine ⟨?_, fun i h3 h4 h5 => ?_⟩
  · rcases h1 with h1 | ⟨h1, h3, h4⟩
    · refine .inl ?_
      rw [h1] at h ⊢
      unfold most at h ⊢; rw [List.length_append]; omega
    · exact .inr ⟨h1, by omega, by rw [ha _ (by omega)]; exact h4⟩
  · rw [ha _ (by omega)]
    exact h2 i h3 h4 (Nat.lt_of_lt_of_le h4 (fl_le c s))
/-- the reference's way: the first place at which a chunk ends -/
def stop (c : C) (s : List UInt8) (n : Nat) : Prop := n = c.M ∨ (c.L ≤ n ∧ at' c s n = true) ∨ n = s.length
theorem fl_stop {c : C} (hc : c.ok) {s : List UInt8} {r : Nat} (hr : r ≤ s.length) (hs : stop c s r) (hn : ∀ j, 1 ≤ j → j < r → ¬ stop c s j) : fl c s = r := by
  have h4 := hc.l4
  have h5 := hc.lm
  have hM : r ≤ c.M := by
    by_cases h : c.M < r
    · exact absurd (.inl rfl) (hn c.M (by omega) h)
    · omega
  have hm : r ≤ most c s := by unfold most; omega
  refine (fl_is c s).eq ⟨?_, fun i h6 h7 h8 => ?_⟩
  · rcases hs with hs | ⟨h6, h7⟩ | hs
    · left; unfold most at *; omega
    · by_cases h8 : r < most c s
      · exact .inr ⟨h6, h8, h7⟩
      · left; omega
    · left; unfold most at *; omega
  · have := hn i (by omega) h7
    cases h9 : at' c s i with
    | false => rfl
    | true => exact absurd (.inr (.inl ⟨h6, h9⟩)) this

/-! the chunks -/
def cutF (c : C) : Nat → List UInt8 → List (List UInt8)
  | 0, _ => []
  | f + 1, s => if s = [] then [] else s.take (fl c s) :: cutF c f (s.drop (fl c s))
def cut (c : C) (s : List UInt8) : List (List UInt8) := cutF c s.length s
theorem cutF_nil (c : C) (f : Nat) : cutF c f [] = [] := by cases f <;> simp [cutF]
theorem cutF_eq {c : C} (hc : c.ok) : ∀ (f : Nat) (s : List UInt8), s.length ≤ f → cutF c f s = cutF c s.length s := by
  intro f
  induction f using Nat.strongRecOn with
  | _ f ih =>
    intro s hs
    by_cases h0 : s = []
    · subst h0; rw [cutF_nil, cutF_nil]
    · have hl : 0 < s.length := List.length_pos_iff.2 h0
      have h1 := fl_pos hc h0
      obtain ⟨f, rfl⟩ : ∃ g, f = g + 1 := ⟨f - 1, by omega⟩
      obtain ⟨n, hn⟩ : ∃ n, s.length = n + 1 := ⟨s.length - 1, by omega⟩
      rw [hn, cutF, cutF, if_neg h0, if_neg h0]
      have hd : (s.drop (fl c s)).length ≤ n := by rw [List.length_drop]; omega
      rw [ih f (by omega) _ (by omega), ← ih n (by omega) _ hd]
theorem cut_nil (c : C) : cut c [] = [] := rfl
theorem cut_cons {c : C} (hc : c.ok) {s : List UInt8} (h : s ≠ []) : cut c s = s.take (fl c s) :: cut c (s.drop (fl c s)) := by
  have hl : 0 < s.length := List.length_pos_iff.2 h
  obtain ⟨n, hn⟩ : ∃ n, s.length = n + 1 := ⟨s.length - 1, by omega⟩
  have h1 := fl_pos hc h
  unfold cut
  rw [hn, cutF, if_neg h, cutF_eq hc n _ (by rw [List.length_drop]; omega)]

/-- induction along the chunks -/
theorem along {c : C} (hc : c.ok) {P : List UInt8 → Prop} (h0 : P []) (h1 : ∀ s, s ≠ [] → P (s.drop (fl c s)) → P s) : ∀ s, P s := by
  intro s
  obtain ⟨n, hn⟩ : ∃ n, s.length = n := ⟨_, rfl⟩
  induction n using Nat.strongRecOn generalizing s with
  | _ n ih =>
    by_cases h : s = []
    · subst h; exact h0
    · have hl : 0 < s.length := List.length_pos_iff.2 h
      have := fl_pos hc h
      exact h1 s h (ih (s.drop (fl c s)).length (by rw [List.length_drop]; omega) _ rfl)
theorem cut_flat {c : C} (hc : c.ok) (s : List UInt8) : (cut c s).flatten = s := by
  refine along hc (P := fun s => (cut c s).flatten = s) rfl (fun s h ih => ?_) s
  rw [cut_cons hc h, List.flatten_cons, ih, List.take_append_drop]
/-- each chunk is the first one of what is behind those before it -/
theorem cut_at {c : C} (hc : c.ok) : ∀ (i : Nat) (s : List UInt8) (h : i < (cut c s).length), ∃ r : List UInt8, r ≠ [] ∧ s.drop ((cut c s).take i).flatten.length = r ∧ (cut c s)[i] = r.take (fl c r) ∧ (cut c s).drop i = cut c r ∧
    (i + 1 < (cut c s).length → fl c r < r.length) := by
  intro i
  induction i with
  | zero =>
    intro s h
    have h0 : s ≠ [] := fun e => by subst e; exact absurd h (by rw [cut_nil]; simp)
    refine ⟨s, h0, by simp, by simp only [cut_cons hc h0, List.getElem_cons_zero], by simp, fun h1 => ?_⟩
    rw [cut_cons hc h0] at h1
    have h2 : s.drop (fl c s) ≠ [] := fun e => by rw [e, cut_nil] at h1; simp at h1
    have := List.length_pos_iff.2 h2
    rw [List.length_drop] at this
    omega
  | succ i ih =>
    intro s h
    have h0 : s ≠ [] := fun e => by subst e; exact absurd h (by rw [cut_nil]; simp)
    have e := cut_cons hc h0
    have hl : (cut c s).length = (cut c (s.drop (fl c s))).length + 1 := by rw [e]; rfl
    obtain ⟨r, h1, h2, h3, h4, h5⟩ := ih (s.drop (fl c s)) (by omega)
    refine ⟨r, h1, ?_, ?_, ?_, fun h6 => h5 (by omega)⟩
    · rw [e, List.take_succ_cons, List.flatten_cons, List.length_append, ← List.drop_drop, List.length_take, Nat.min_eq_left (fl_len c s)]
      exact h2
    · rw [← h3]; simp only [e, List.getElem_cons_succ]
    · rw [e, List.drop_succ_cons]; exact h4
theorem cut_small {c : C} (hc : c.ok) (s : List UInt8) : ∀ x ∈ cut c s, 1 ≤ x.length ∧ x.length ≤ c.M := by
  refine along hc (P := fun s => ∀ x ∈ cut c s, 1 ≤ x.length ∧ x.length ≤ c.M) (fun x hx => by simp [cut_nil] at hx) (fun s h ih => ?_) s
  rw [cut_cons hc h]
  intro x hx
  rcases List.mem_cons.1 hx with rfl | hx
  · have h1 := fl_pos hc h
    have h2 := fl_len c s
    have h3 := Nat.le_trans (fl_le c s) (most_M c s)
    rw [List.length_take]; omega
  · exact ih x hx
theorem cut_len {c : C} (hc : c.ok) (s : List UInt8) : (cut c s).length ≤ s.length := by
  refine along hc (P := fun s => (cut c s).length ≤ s.length) (Nat.le_refl _) (fun s h ih => ?_) s
  have h1 := fl_pos hc h
  have h2 : 0 < s.length := List.length_pos_iff.2 h
  rw [cut_cons hc h, List.length_cons]
  rw [List.length_drop] at ih; omega
/-- as many chunks as there can be -/
theorem cut_count {c : C} (hc : c.ok) (s : List UInt8) : c.L * (cut c s).length ≤ s.length + c.L - 1 := by
  have h4 := hc.l4
  refine along hc (P := fun s => c.L * (cut c s).length ≤ s.length + c.L - 1) (by simp [cut_nil]) (fun s h ih => ?_) s
  rw [cut_cons hc h, List.length_cons, Nat.mul_add, Nat.mul_one]
  have h2 : 0 < s.length := List.length_pos_iff.2 h
  have h3 := fl_len c s
  by_cases h1 : fl c s < s.length
  · have := fl_L hc h1
    rw [List.length_drop] at ih; omega
  · have h5 : s.drop (fl c s) = [] := List.drop_of_length_le (by omega)
    rw [h5, cut_nil]; simp; omega
/-- chunks behind an end -/
theorem cut_drop {c : C} (hc : c.ok) (i : Nat) (s : List UInt8) (h : i ≤ (cut c s).length) : cut c (s.drop ((cut c s).take i).flatten.length) = (cut c s).drop i := by
  by_cases hi : i < (cut c s).length
  · obtain ⟨r, _, h2, _, h4, _⟩ := cut_at hc i s hi
    rw [h2, h4]
  · rw [List.take_of_length_le (by omega), cut_flat hc, List.drop_of_length_le (Nat.le_refl _), List.drop_of_length_le (by omega), cut_nil]
/-- more bytes behind a text change its last chunk alone -/
theorem cut_more {c : C} (hc : c.ok) (t s : List UInt8) : (cut c s).length - 1 ≤ (cut c (s ++ t)).length ∧ (cut c (s ++ t)).take ((cut c s).length - 1) = (cut c s).take ((cut c s).length - 1) := by
  refine along hc (P := fun s => (cut c s).length - 1 ≤ (cut c (s ++ t)).length ∧ (cut c (s ++ t)).take ((cut c s).length - 1) = (cut c s).take ((cut c s).length - 1)) (by simp [cut_nil]) (fun s h ih => ?_) s
  by_cases h1 : fl c s < s.length
  · have h2 : s ++ t ≠ [] := fun e => h (List.append_eq_nil_iff.1 e).1
    have e1 := cut_cons hc h
    have e2 := cut_cons hc h2
    rw [fl_app h1, List.take_append_of_le_length (by omega), List.drop_append_of_le_length (by omega)] at e2
    rw [e1, e2]
    have h3 : s.drop (fl c s) ≠ [] := fun e => by have := congrArg List.length e; rw [List.length_drop] at this; simp at this; omega
    have h4 : 0 < (cut c (s.drop (fl c s))).length := by rw [cut_cons hc h3]; simp
    obtain ⟨n, hn⟩ : ∃ n, (cut c (s.drop (fl c s))).length = n + 1 := ⟨(cut c (s.drop (fl c s))).length - 1, by omega⟩
    rw [hn] at ih
    simp only [List.length_cons, hn, Nat.add_sub_cancel] at ih ⊢
    refine ⟨by omega, ?_⟩
    rw [List.take_succ_cons, List.take_succ_cons, ih.2]
  · have h5 : s.drop (fl c s) = [] := List.drop_of_length_le (by omega)
    rw [cut_cons hc h, h5, cut_nil]
    simp

/-! ends -/
def endsF : Nat → List (List UInt8) → List Int
  | _, [] => []
  | a, x :: l => ((a + x.length : Nat) : Int) :: endsF (a + x.length) l
def ends (c : C) (s : List UInt8) : List Int := endsF 0 (cut c s)
theorem endsF_length (a : Nat) (l : List (List UInt8)) : (endsF a l).length = l.length := by
  induction l generalizing a with
  | nil => rfl
  | cons x l ih => simp [endsF, ih]
theorem endsF_get (l : List (List UInt8)) : ∀ (a i : Nat) (h : i < (endsF a l).length), (endsF a l)[i] = ((a + (l.take (i + 1)).flatten.length : Nat) : Int) := by
  induction l with
  | nil => intro a i h; simp [endsF] at h
  | cons x l ih =>
    intro a i h
    cases i with
    | zero => simp [endsF]
    | succ i =>
      simp only [endsF, List.getElem_cons_succ]
      rw [ih]
      simp only [List.take_succ_cons, List.flatten_cons, List.length_append]
      congr 1; omega

/-! how many of the last ones are the same -/
def com {α : Type} [DecidableEq α] : List α → List α → Nat
  | a :: x, b :: y => if a = b then com x y + 1 else 0
  | _, _ => 0
theorem com_le {α : Type} [DecidableEq α] (x y : List α) : com x y ≤ x.length ∧ com x y ≤ y.length := by
  induction x generalizing y with
  | nil => simp [com]
  | cons a x ih =>
    cases y with
    | nil => simp [com]
    | cons b y =>
      rw [com]
      have := ih y
      by_cases h : a = b
      · rw [if_pos h]; simp only [List.length_cons]; omega
      · rw [if_neg h]; omega
theorem com_ge {α : Type} [DecidableEq α] (z x y : List α) : z.length ≤ com (z ++ x) (z ++ y) := by
  induction z with
  | nil => exact Nat.zero_le _
  | cons a z ih => rw [List.cons_append, List.cons_append, com, if_pos rfl]; simp only [List.length_cons]; omega
/-- chunks at the end that are the same -/
def common (x y : List (List UInt8)) : Nat := com x.reverse y.reverse
theorem common_ge {x y z u v : List (List UInt8)} (hx : x = u ++ z) (hy : y = v ++ z) : z.length ≤ common x y := by
  subst hx hy
  unfold common
  rw [List.reverse_append, List.reverse_append]
  have := com_ge z.reverse u.reverse v.reverse
  rwa [List.length_reverse] at this
theorem com_drop {α : Type} [DecidableEq α] (x y : List α) (i : Nat) : com (x.drop i) (y.drop i) = if h : i < x.length ∧ i < y.length then (if x[i]'h.1 = y[i]'h.2 then com (x.drop (i + 1)) (y.drop (i + 1)) + 1 else 0) else 0 := by
  by_cases h : i < x.length ∧ i < y.length
  · rw [dif_pos h, List.drop_eq_getElem_cons h.1, List.drop_eq_getElem_cons h.2, com]
  · rw [dif_neg h]
    by_cases h1 : i < x.length
    · rw [List.drop_of_length_le (show y.length ≤ i by omega)]
      cases x.drop i <;> rfl
    · rw [List.drop_of_length_le (show x.length ≤ i by omega)]; rfl

/-! chunks of one length -/
def fixed (n : Nat) : Nat → List UInt8 → List (List UInt8)
  | 0, _ => []
  | f + 1, s => if s = [] then [] else s.take (min n s.length) :: fixed n f (s.drop (min n s.length))
theorem cut_fixed {c : C} (n : Nat) (hf : ∀ s, s ≠ [] → fl c s = min n s.length) : ∀ (f : Nat) (s : List UInt8), cutF c f s = fixed n f s := by
  intro f
  induction f with
  | zero => intro s; rfl
  | succ f ih =>
    intro s
    rw [cutF, fixed]
    by_cases h : s = []
    · rw [if_pos h, if_pos h]
    · rw [if_neg h, if_neg h, hf s h, ih]
theorem fl_one {c : C} (hc : c.ok) (h1 : c.K = 1) (s : List UInt8) : fl c s = min c.L s.length := by
  have h5 := hc.lm
  refine (fl_is c s).eq ⟨?_, fun i h2 h3 h4 => by omega⟩
  by_cases h : c.L < most c s
  · refine .inr ⟨?_, ?_, ?_⟩
    · unfold most at h; omega
    · unfold most at h ⊢; omega
    · unfold at'; rw [h1, Nat.mod_one]; rfl
  · left; unfold most at h ⊢; omega
theorem fl_even {c : C} (h1 : c.L = c.M) (s : List UInt8) : fl c s = min c.L s.length := by
  refine (fl_is c s).eq ⟨.inl (by unfold most; omega), fun i h2 h3 h4 => by omega⟩

end Go.Proofs.Ytmdakplaaehmnaa.Cm
