/-
  Plain mathematics of layer 8 (manifest): names, versions, changes, what is restored, bytes. No program is named here.
-/
import Derived.Test.YtebkgndcgcdogaaWm2
import Derived.Test.YtebkgndcgcdogaaDm
namespace Go.Proofs.Ytebkgndcgcdogaa.Vm

abbrev Nm := Int × Int
def okN (x : Nm) : Bool := decide (0 ≤ x.1 ∧ x.1 < 2147483647 ∧ 1 ≤ x.2 ∧ x.2 ≤ 256)
def chk (num : Int) (l : List Nm) : Int :=
  if num < 1 ∨ 2147483647 ≤ num then 1 else if 256 < l.length then 4 else if l.all okN = true then 0 else 2
theorem chk_zero {num : Int} {l : List Nm} (h : chk num l = 0) : 1 ≤ num ∧ num < 2147483647 ∧ l.length ≤ 256 ∧ ∀ x ∈ l, 0 ≤ x.1 ∧ x.1 < 2147483647 ∧ 1 ≤ x.2 ∧ x.2 ≤ 256 := by
  unfold chk at h
  split at h
  · cases h
  · split at h
    · cases h
    · split at h
      · rename_i h1 h2 h3
        refine ⟨by omega, by omega, by omega, fun x hx => ?_⟩
        have := List.all_eq_true.1 h3 x hx
        simpa [okN] using this
      · cases h
theorem chk_of {num : Int} {l : List Nm} (h1 : 1 ≤ num) (h2 : num < 2147483647) (h3 : l.length ≤ 256) (h4 : ∀ x ∈ l, okN x = true) : chk num l = 0 := by
  unfold chk
  rw [if_neg (by omega), if_neg (by omega), if_pos (List.all_eq_true.2 h4)]
theorem chk_cases (num : Int) (l : List Nm) : 0 ≤ chk num l ∧ chk num l ≤ 4 := by
  unfold chk; split <;> (try split) <;> (try split) <;> decide

/-! names of contents -/
def nm (s : List UInt8) : Nm := (Dm.sum s, (s.length : Int))
def okC (x : List UInt8) : Bool := decide (1 ≤ x.length ∧ x.length ≤ 256)
theorem okN_nm {s : List UInt8} (h : okC s = true) : okN (nm s) = true := by
  have h1 := Dm.sum_lt s
  unfold okC at h
  unfold okN nm
  simp at h ⊢
  omega
/-- two different ones have one name -/
def clash (l : List (List UInt8)) : Prop := ∃ x ∈ l, ∃ y ∈ l, nm x = nm y ∧ x ≠ y
open Classical in
noncomputable def ofV (num : Int) (l : List (List UInt8)) : Int × List Nm × Int :=
  if num < 1 ∨ 2147483647 ≤ num then (0, [], 1) else if 256 < l.length then (0, [], 4) else if l.all okC = true then (if clash l then (0, [], 8) else (num, l.map nm, 0)) else (0, [], 2)
theorem ofV_cases (num : Int) (l : List (List UInt8)) : (∃ e, ofV num l = (0, [], e) ∧ e ≠ 0 ∧ 0 ≤ e ∧ e ≤ 8) ∨
    (ofV num l = (num, l.map nm, 0) ∧ 1 ≤ num ∧ num < 2147483647 ∧ l.length ≤ 256 ∧ l.all okC = true ∧ ¬ clash l) := by
  unfold ofV
  split
  · exact .inl ⟨1, rfl, by decide, by decide, by decide⟩
  · split
    · exact .inl ⟨4, rfl, by decide, by decide, by decide⟩
    · split
      · split
        · exact .inl ⟨8, rfl, by decide, by decide, by decide⟩
        · rename_i h1 h2 h3 h4
          exact .inr ⟨rfl, by omega, by omega, by omega, h3, h4⟩
      · exact .inl ⟨2, rfl, by decide, by decide, by decide⟩
theorem ofV_len (num : Int) (l : List (List UInt8)) : (ofV num l).2.1.length ≤ 256 := by
  rcases ofV_cases num l with ⟨e, h, _⟩ | ⟨h, _, _, hl, _⟩
  · rw [h]; simp
  · rw [h]; simpa using hl
theorem ofV_chk {num : Int} {l : List (List UInt8)} (h : (ofV num l).2.2 = 0) : chk num (l.map nm) = 0 ∧ ofV num l = (num, l.map nm, 0) := by
  rcases ofV_cases num l with ⟨e, h1, h2, _⟩ | ⟨h1, h2, h3, h4, h5, _⟩
  · rw [h1] at h; exact absurd h h2
  · refine ⟨chk_of h2 h3 (by simpa using h4) ?_, h1⟩
    intro x hx
    obtain ⟨y, hy, rfl⟩ := List.mem_map.1 hx
    exact okN_nm (List.all_eq_true.1 h5 y hy)

/-! sizes -/
def sum2 (l : List Nm) : Int := (l.map (·.2)).foldr (· + ·) 0
def siz (num : Int) (l : List Nm) : Int × Int := if chk num l = 0 then (sum2 l, 0) else (0, chk num l)
theorem sum2_snoc (l : List Nm) (x : Nm) : sum2 (l ++ [x]) = sum2 l + x.2 := by
  induction l with
  | nil => simp [sum2]
  | cons y l ih =>
    have e : ∀ z : List Nm, sum2 (y :: z) = y.2 + sum2 z := fun z => rfl
    rw [List.cons_append, e, ih, e]; omega
theorem sum2_flat (l : List (List UInt8)) : sum2 (l.map nm) = (l.flatten.length : Int) := by
  induction l with
  | nil => rfl
  | cons x l ih =>
    have e : sum2 ((x :: l).map nm) = (nm x).2 + sum2 (l.map nm) := rfl
    rw [e, ih, List.flatten_cons, List.length_append]
    show (x.length : Int) + _ = _
    omega

/-! changes -/
def lt (x y : Nm) : Prop := x.1 < y.1 ∨ (x.1 = y.1 ∧ x.2 < y.2)
instance (x y : Nm) : Decidable (lt x y) := by unfold lt; infer_instance
theorem lt_irrefl (x : Nm) : ¬ lt x x := by unfold lt; omega
theorem lt_trans {x y z : Nm} (h : lt x y) (k : lt y z) : lt x z := by unfold lt at *; omega
theorem lt_asymm {x y : Nm} (h : lt x y) : ¬ lt y x := by unfold lt at *; omega
theorem lt_tri (x y : Nm) : lt x y ∨ x = y ∨ lt y x := by
  have : x = y ↔ x.1 = y.1 ∧ x.2 = y.2 := Prod.ext_iff
  rw [this]; unfold lt; omega
/-- the names of a that b has not, ascending, each once -/
def IsWo (a b r : List Nm) : Prop := r.Pairwise lt ∧ ∀ x, x ∈ r ↔ x ∈ a ∧ x ∉ b
theorem sorted_eq : ∀ (r s : List Nm), r.Pairwise lt → s.Pairwise lt → (∀ x, x ∈ r ↔ x ∈ s) → r = s := by
  intro r
  induction r with
  | nil =>
    intro s _ _ h
    cases s with
    | nil => rfl
    | cons y s => exact absurd ((h y).2 (List.mem_cons_self ..)) (by simp)
  | cons x r ih =>
    intro s hr hs h
    cases s with
    | nil => exact absurd ((h x).1 (List.mem_cons_self ..)) (by simp)
    | cons y s =>
      obtain ⟨hr1, hr2⟩ := List.pairwise_cons.1 hr
      obtain ⟨hs1, hs2⟩ := List.pairwise_cons.1 hs
      have hxy : x = y := by
        rcases lt_tri x y with hl | hl | hl
        · rcases List.mem_cons.1 ((h x).1 (List.mem_cons_self ..)) with e | e
          · exact e
          · exact absurd (lt_trans hl (hs1 x e)) (lt_irrefl x)
        · exact hl
        · rcases List.mem_cons.1 ((h y).2 (List.mem_cons_self ..)) with e | e
          · exact e.symm
          · exact absurd (lt_trans hl (hr1 y e)) (lt_irrefl y)
      subst hxy
      rw [ih s hr2 hs2 (fun z => ?_)]
      have hz := h z
      rw [List.mem_cons, List.mem_cons] at hz
      constructor
      · intro hm
        rcases hz.1 (.inr hm) with e | e
        · subst e; exact absurd (hr1 z hm) (lt_irrefl z)
        · exact e
      · intro hm
        rcases hz.2 (.inr hm) with e | e
        · subst e; exact absurd (hs1 z hm) (lt_irrefl z)
        · exact e
theorem IsWo.eq {a b r s : List Nm} (h : IsWo a b r) (k : IsWo a b s) : r = s := sorted_eq r s h.1 k.1 (fun x => (h.2 x).trans (k.2 x).symm)
/-- n goes in at i -/
theorem put_at {o : List Nm} {n : Nm} {i : Nat} (ho : o.Pairwise lt) (hi : i ≤ o.length) (h1 : ∀ j (h : j < o.length), i ≤ j → lt n o[j]) (h2 : i = 0 ∨ ∃ h : i - 1 < o.length, lt o[i - 1] n) :
    (o.take i ++ n :: o.drop i).Pairwise lt := by
  have hd : (o.take i ++ o.drop i).Pairwise lt := by rw [List.take_append_drop]; exact ho
  obtain ⟨ha, hb, hc⟩ := List.pairwise_append.1 hd
  refine List.pairwise_append.2 ⟨ha, List.pairwise_cons.2 ⟨fun x hx => ?_, hb⟩, fun x hx y hy => ?_⟩
  · obtain ⟨j, hj, rfl⟩ := List.mem_iff_getElem.1 hx
    rw [List.getElem_drop]
    rw [List.length_drop] at hj
    exact h1 _ (by omega) (by omega)
  · rcases List.mem_cons.1 hy with rfl | hy
    · obtain ⟨j, hj, rfl⟩ := List.mem_iff_getElem.1 hx
      rw [List.length_take] at hj
      rw [List.getElem_take]
      rcases h2 with h2 | ⟨hlt, h2⟩
      · omega
      · by_cases hji : j = i - 1
        · subst hji; exact h2
        · exact lt_trans (List.pairwise_iff_getElem.1 ho j (i - 1) (by omega) hlt (by omega)) h2
    · exact hc x hx y hy
def ins (n : Nm) : List Nm → List Nm
  | [] => [n]
  | y :: l => if lt n y then n :: y :: l else if n = y then y :: l else y :: ins n l
theorem mem_ins (n x : Nm) (l : List Nm) : x ∈ ins n l ↔ x = n ∨ x ∈ l := by
  induction l with
  | nil => simp [ins]
  | cons y l ih =>
    rw [ins]
    split
    · simp
    · split
      · rename_i _ h; subst h; simp
      · simp only [List.mem_cons, ih]
        constructor
        · rintro (h | h | h)
          · exact .inr (.inl h)
          · exact .inl h
          · exact .inr (.inr h)
        · rintro (h | h | h)
          · exact .inr (.inl h)
          · exact .inl h
          · exact .inr (.inr h)
theorem ins_sorted (n : Nm) (l : List Nm) (h : l.Pairwise lt) : (ins n l).Pairwise lt := by
  induction l with
  | nil => simp [ins]
  | cons y l ih =>
    obtain ⟨h1, h2⟩ := List.pairwise_cons.1 h
    rw [ins]
    split
    · rename_i hl
      refine List.pairwise_cons.2 ⟨fun x hx => ?_, h⟩
      rcases List.mem_cons.1 hx with rfl | hx
      · exact hl
      · exact lt_trans hl (h1 x hx)
    · split
      · exact h
      · rename_i hl hne
        refine List.pairwise_cons.2 ⟨fun x hx => ?_, ih h2⟩
        rcases (mem_ins n x l).1 hx with rfl | hx
        · rcases lt_tri x y with e | e | e
          · exact absurd e hl
          · exact absurd e hne
          · exact e
        · exact h1 x hx
def wo (a b : List Nm) : List Nm := (a.filter (fun x => decide (x ∉ b))).foldr ins []
theorem wo_is (a b : List Nm) : IsWo a b (wo a b) := by
  have h : ∀ l : List Nm, (l.foldr ins []).Pairwise lt ∧ ∀ x, x ∈ l.foldr ins [] ↔ x ∈ l := by
    intro l
    induction l with
    | nil => simp
    | cons y l ih =>
      refine ⟨ins_sorted _ _ ih.1, fun x => ?_⟩
      rw [List.foldr_cons, mem_ins, ih.2, List.mem_cons]
  refine ⟨(h _).1, fun x => ?_⟩
  rw [show wo a b = (a.filter (fun x => decide (x ∉ b))).foldr ins [] from rfl, (h _).2]
  simp
theorem IsWo.wo {a b r : List Nm} (h : IsWo a b r) : r = wo a b := h.eq (wo_is a b)
theorem sorted_len : ∀ {r l : List Nm}, r.Pairwise lt → (∀ x, x ∈ r → x ∈ l) → r.length ≤ l.length := by
  intro r
  induction r with
  | nil => intro l _ _; simp
  | cons x r ih =>
    intro l h hm
    obtain ⟨h1, h2⟩ := List.pairwise_cons.1 h
    have hx := hm x (List.mem_cons_self ..)
    have := ih (l := l.erase x) h2 (fun y hy => (List.mem_erase_of_ne (fun e => by subst e; exact lt_irrefl _ (h1 y hy))).2 (hm y (List.mem_cons_of_mem _ hy)))
    rw [List.length_erase_of_mem hx] at this
    have hl := List.length_pos_of_mem hx
    rw [List.length_cons]; omega
theorem wo_len (a b : List Nm) : (wo a b).length ≤ a.length := sorted_len (wo_is a b).1 (fun x hx => (((wo_is a b).2 x).1 hx).1)
theorem wo_self (a : List Nm) : wo a a = [] := by
  have h := (wo_is a a).2
  cases hw : wo a a with
  | nil => rfl
  | cons x l => rw [hw] at h; exact absurd ((h x).1 (List.mem_cons_self ..)) (by simp)
theorem IsWo.nil (b : List Nm) : IsWo [] b [] := ⟨List.Pairwise.nil, fun x => by simp⟩
theorem IsWo.skip {a b o : List Nm} {x : Nm} (h : IsWo a b o) (hx : x ∈ b ∨ x ∈ o) : IsWo (a ++ [x]) b o := by
  refine ⟨h.1, fun y => ?_⟩
  rw [h.2 y, List.mem_append, List.mem_singleton]
  constructor
  · rintro ⟨h1, h2⟩; exact ⟨.inl h1, h2⟩
  · rintro ⟨h1, h2⟩
    rcases h1 with h1 | rfl
    · exact ⟨h1, h2⟩
    · rcases hx with hx | hx
      · exact absurd hx h2
      · exact (h.2 y).1 hx
theorem IsWo.put {a b o : List Nm} {x : Nm} {i : Nat} (h : IsWo a b o) (hx : x ∉ b) (hi : i ≤ o.length) (h1 : ∀ j (h : j < o.length), i ≤ j → lt x o[j]) (h2 : i = 0 ∨ ∃ h : i - 1 < o.length, lt o[i - 1] x) :
    IsWo (a ++ [x]) b (o.take i ++ x :: o.drop i) := by
  refine ⟨put_at h.1 hi h1 h2, fun y => ?_⟩
  have hm : y ∈ o.take i ++ x :: o.drop i ↔ y = x ∨ y ∈ o := by
    rw [List.mem_append, List.mem_cons]
    have : y ∈ o ↔ y ∈ o.take i ∨ y ∈ o.drop i := by rw [← List.mem_append, List.take_append_drop]
    rw [this]
    constructor
    · rintro (h | h | h)
      · exact .inr (.inl h)
      · exact .inl h
      · exact .inr (.inr h)
    · rintro (h | h | h)
      · exact .inr (.inl h)
      · exact .inl h
      · exact .inr (.inr h)
  rw [hm, h.2 y, List.mem_append, List.mem_singleton]
  constructor
  · rintro (rfl | ⟨h1, h2⟩)
    · exact ⟨.inr rfl, hx⟩
    · exact ⟨.inl h1, h2⟩
  · rintro ⟨h1, h2⟩
    rcases h1 with h1 | rfl
    · exact .inr ⟨h1, h2⟩
    · exact .inl rfl
theorem IsWo.len {a b o : List Nm} (h : IsWo a b o) : o.length ≤ a.length := sorted_len h.1 (fun x hx => ((h.2 x).1 hx).1)
def chg (m : Int) (a : List Nm) (n : Int) (b : List Nm) : List Nm × List Nm × Int :=
  if chk m a = 0 then (if chk n b = 0 then (wo b a, wo a b, 0) else ([], [], chk n b)) else ([], [], chk m a)

/-! what is restored -/
def pick (n : Nm) (cs : List (List UInt8)) : List (List UInt8) := cs.filter (fun x => decide (nm x = n))
def resF (cs : List (List UInt8)) : List Nm → List UInt8 → List UInt8 × Int
  | [], acc => (acc, 0)
  | n :: l, acc => match pick n cs with
    | [] => ([], 6)
    | x :: r => if r.all (fun y => decide (y = x)) = true then resF cs l (acc ++ x) else ([], 8)
def res (num : Int) (l : List Nm) (cs : List (List UInt8)) : List UInt8 × Int := if chk num l = 0 then resF cs l [] else ([], chk num l)

theorem pick_snoc (n : Nm) (cs : List (List UInt8)) (j : Nat) (h : j < cs.length) : pick n (cs.take (j + 1)) = pick n (cs.take j) ++ (if nm cs[j] = n then [cs[j]] else []) := by
  unfold pick
  rw [List.take_succ_eq_append_getElem h, List.filter_append]
  congr 1
  by_cases hn : nm cs[j] = n
  · simp [hn]
  · simp [hn]
theorem pick_mem (n : Nm) (cs : List (List UInt8)) (y : List UInt8) : y ∈ pick n cs ↔ y ∈ cs ∧ nm y = n := by
  unfold pick; rw [List.mem_filter]; simp
/-- what has been found among the first chunks -/
def Got (n : Nm) (cs : List (List UInt8)) (found : Bool) (t : List UInt8) : Prop :=
  (found = false ∧ t = [] ∧ pick n cs = []) ∨ (found = true ∧ ∃ r, pick n cs = t :: r ∧ ∀ y ∈ r, y = t)
theorem Got.nil (n : Nm) : Got n [] false [] := .inl ⟨rfl, rfl, rfl⟩
theorem Got.skip {n : Nm} {cs : List (List UInt8)} {f : Bool} {t : List UInt8} {j : Nat} (h : Got n (cs.take j) f t) (hj : j < cs.length) (hn : nm cs[j] ≠ n) : Got n (cs.take (j + 1)) f t := by
  unfold Got at h ⊢
  rw [pick_snoc n cs j hj, if_neg hn, List.append_nil]
  exact h
theorem Got.first {n : Nm} {cs : List (List UInt8)} {t : List UInt8} {j : Nat} (h : Got n (cs.take j) false t) (hj : j < cs.length) (hn : nm cs[j] = n) : Got n (cs.take (j + 1)) true cs[j] := by
  rcases h with ⟨_, _, h⟩ | ⟨h, _⟩
  · refine .inr ⟨rfl, [], ?_, by simp⟩
    rw [pick_snoc n cs j hj, if_pos hn, h]; rfl
  · cases h
theorem Got.again {n : Nm} {cs : List (List UInt8)} {t : List UInt8} {j : Nat} (h : Got n (cs.take j) true t) (hj : j < cs.length) (hn : nm cs[j] = n) (he : cs[j] = t) : Got n (cs.take (j + 1)) true cs[j] := by
  rcases h with ⟨h, _⟩ | ⟨_, r, h, hr⟩
  · cases h
  · refine .inr ⟨rfl, r ++ [cs[j]], ?_, ?_⟩
    · rw [pick_snoc n cs j hj, if_pos hn, h, he]; rfl
    · intro y hy
      rcases List.mem_append.1 hy with hy | hy
      · rw [he]; exact hr y hy
      · simpa using hy
theorem Got.clash {n : Nm} {cs : List (List UInt8)} {t : List UInt8} {j : Nat} (h : Got n (cs.take j) true t) (hj : j < cs.length) (hn : nm cs[j] = n) (he : cs[j] ≠ t) (l : List Nm) (acc : List UInt8) : resF cs (n :: l) acc = ([], 8) := by
  rcases h with ⟨h, _⟩ | ⟨_, r, h, hr⟩
  · cases h
  · have e : pick n cs = t :: (r ++ pick n (cs.drop j)) := by
      have : cs = cs.take j ++ cs.drop j := (List.take_append_drop j cs).symm
      conv => lhs; rw [this]
      show (cs.take j ++ cs.drop j).filter _ = _
      rw [List.filter_append]
      show pick n (cs.take j) ++ pick n (cs.drop j) = _
      rw [h]; rfl
    rw [resF, e]
    have hm : cs[j] ∈ pick n (cs.drop j) := (pick_mem _ _ _).2 ⟨by rw [List.drop_eq_getElem_cons hj]; exact List.mem_cons_self .., hn⟩
    show (if (r ++ pick n (cs.drop j)).all (fun y => decide (y = t)) = true then _ else _) = _
    rw [if_neg]
    intro ha
    have := List.all_eq_true.1 ha cs[j] (List.mem_append_right _ hm)
    exact he (by simpa using this)
theorem Got.done {n : Nm} {cs : List (List UInt8)} {t : List UInt8} (h : Got n cs true t) (l : List Nm) (acc : List UInt8) : resF cs (n :: l) acc = resF cs l (acc ++ t) ∧ nm t = n := by
  rcases h with ⟨h, _⟩ | ⟨_, r, h, hr⟩
  · cases h
  · refine ⟨?_, ((pick_mem n cs t).1 (by rw [h]; exact List.mem_cons_self ..)).2⟩
    rw [resF, h]
    show (if r.all (fun y => decide (y = t)) = true then _ else _) = _
    rw [if_pos]
    exact List.all_eq_true.2 (fun y hy => by simpa using hr y hy)
theorem Got.none {n : Nm} {cs : List (List UInt8)} {t : List UInt8} (h : Got n cs false t) (l : List Nm) (acc : List UInt8) : resF cs (n :: l) acc = ([], 6) := by
  rcases h with ⟨_, _, h⟩ | ⟨h, _⟩
  · rw [resF, h]
  · cases h

/-! bytes -/
def flat (l : List Nm) : List Int := l.flatMap (fun x => [x.1, x.2])
def pairs : List Int → List Nm
  | a :: b :: l => (a, b) :: pairs l
  | _ => []
theorem pairs_flat (l : List Nm) : pairs (flat l) = l := by
  induction l with
  | nil => rfl
  | cons x l ih =>
    show (x.1, x.2) :: pairs (flat l) = x :: l
    rw [ih]
theorem flat_length (l : List Nm) : (flat l).length = 2 * l.length := by
  induction l with
  | nil => rfl
  | cons x l ih => show (flat l).length + 2 = _; rw [ih]; simp; omega
theorem pairs_length : ∀ l : List Int, (pairs l).length = l.length / 2
  | [] => by simp [pairs]
  | [_] => by simp [pairs]
  | a :: b :: l => by
    rw [pairs, List.length_cons, pairs_length l, List.length_cons, List.length_cons]; omega
theorem flat_snoc (l : List Nm) (x : Nm) : flat (l ++ [x]) = flat l ++ [x.1, x.2] := by
  unfold flat; rw [List.flatMap_append]; simp
theorem pairs_get : ∀ (l : List Int) (i : Nat) (h : i < (pairs l).length), ∃ (h0 : 2 * i < l.length) (h1 : 2 * i + 1 < l.length), (pairs l)[i] = (l[2 * i], l[2 * i + 1])
  | [], i, h => absurd h (by simp [pairs])
  | [_], i, h => absurd h (by simp [pairs])
  | a :: b :: l, 0, h => ⟨by simp, by simp, rfl⟩
  | a :: b :: l, i + 1, h => by
    have h' : i < (pairs l).length := by simpa [pairs] using h
    obtain ⟨h0, h1, e⟩ := pairs_get l i h'
    refine ⟨by simp; omega, by simp; omega, ?_⟩
    show (pairs l)[i] = _
    rw [e]
    simp only [show 2 * (i + 1) = 2 * i + 1 + 1 by omega, List.getElem_cons_succ]
def enc (num : Int) (l : List Nm) : List UInt8 × Int := if chk num l = 0 then (Wm.encI num ++ Wm.encL (flat l), 0) else ([], chk num l)
def dec (s : List UInt8) : Int × List Nm × Int :=
  if (Wm.int s 0).2.2 = 0 then
    (if (Wm.list s (Wm.int s 0).2.1 512).2.2 = 0 then
      (if (Wm.list s (Wm.int s 0).2.1 512).2.1 = s.length ∧ (Wm.list s (Wm.int s 0).2.1 512).1.length % 2 = 0 then
        (if chk (Wm.int s 0).1 (pairs (Wm.list s (Wm.int s 0).2.1 512).1) = 0 then ((Wm.int s 0).1, pairs (Wm.list s (Wm.int s 0).2.1 512).1, 0) else (0, [], chk (Wm.int s 0).1 (pairs (Wm.list s (Wm.int s 0).2.1 512).1)))
      else (0, [], 2))
    else (0, [], (Wm.list s (Wm.int s 0).2.1 512).2.2))
  else (0, [], (Wm.int s 0).2.2)
theorem dec_enc {num : Int} {l : List Nm} (h : chk num l = 0) : dec (Wm.encI num ++ Wm.encL (flat l)) = (num, l, 0) := by
  obtain ⟨h1, h2, h3, h4⟩ := chk_zero h
  have e1 := Wm.int_enc [] num (Wm.encL (flat l)) (by omega) (by omega)
  have hfl : (flat l).length ≤ 512 := by rw [flat_length]; omega
  have e2 := Wm.list_enc (Wm.encI num) [] (flat l) 512 (by omega) (by omega) (by
    intro x hx
    unfold flat at hx
    obtain ⟨y, hy, hx⟩ := List.mem_flatMap.1 hx
    obtain ⟨q1, q2, q3, q4⟩ := h4 y hy
    simp only [List.mem_cons, List.not_mem_nil, or_false] at hx
    rcases hx with rfl | rfl <;> (unfold Wm.I64; omega))
  simp only [List.nil_append, List.length_nil, List.append_nil, Int.natCast_zero, Int.zero_add] at e1 e2
  unfold dec
  rw [e1]
  simp only
  rw [e2]
  simp only [if_true]
  rw [if_pos ⟨by simp, by rw [flat_length]; omega⟩, pairs_flat, if_pos h]
theorem enc_inj {m n : Int} {a b : List Nm} (ha : chk m a = 0) (hb : chk n b = 0) (h : Wm.encI m ++ Wm.encL (flat a) = Wm.encI n ++ Wm.encL (flat b)) : m = n ∧ a = b := by
  have h1 := dec_enc ha
  rw [h, dec_enc hb] at h1
  injection h1 with e1 e2
  injection e2 with e2 _
  exact ⟨e1.symm, e2.symm⟩

end Go.Proofs.Ytebkgndcgcdogaa.Vm
