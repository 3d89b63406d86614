/-
  Mathematics of refs, fifth part: dropping and looking up by what the digests give.
  Mathematics of refs, sixth part: an index whose texts have given counts; what is added and dropped, and what the rows are together.
-/
import Derived.Test.YtmdakplaaehmnaaIp
import Derived.Test.YtmdakplaaehmnaaIg
import Derived.Test.YtmdakplaaehmnaaMkI
namespace Go.Proofs.Ytmdakplaaehmnaa.Im

theorem look_has {l : List Rw} (hA : Asc l) {d : Int} : (has l d = true ↔ ∃ v, look l d = some v) := by
  rw [has_iff hA]
  constructor
  · rintro ⟨r, hr, e⟩
    exact ⟨r.2, look_of hA (by have : (d, r.2) = r := Prod.ext e.symm rfl
                               rw [this]; exact hr)⟩
  · rintro ⟨v, hv⟩
    exact ⟨_, look_mem hv, rfl⟩
/-- what looking up gives -/
theorem get_look {l : List Rw} (h0 : chk l = 0) (d : Int) : get l d = match look l d with | some v => (v.2, v.1, 0) | none => ([], 0, 6) := by
  have hA := (chk_zero h0).2.2
  cases hh : has l d with
  | true =>
    obtain ⟨hi, e⟩ := has_row hh
    rw [get_has h0 hh hi, look_at hA hi e]
  | false =>
    rw [get_not h0 hh]
    cases hq : look l d with
    | none => rfl
    | some v => have := (look_has hA (d := d)).2 ⟨v, hq⟩; rw [hh] at this; cases this
/-- dropping turns one digest alone -/
theorem look_drop {l : List Rw} {d : Int} (h : (drop l d).2.2 = 0) : chk l = 0 ∧ chk (drop l d).1 = 0 ∧ ∃ v, look l d = some v ∧ (drop l d).2.1 = decide (v.1 = 1) ∧ ∀ e, look (drop l d).1 e = if e = d then (if v.1 = 1 then none else some (v.1 - 1, v.2)) else look l e := by
  rcases drop_cases l d with ⟨_, e⟩ | ⟨_, _, e⟩ | ⟨h0, hh, hi, hd, hR⟩
  · rw [e] at h; cases h
  · rw [e] at h; cases h
  · obtain ⟨z1, z2, z3⟩ := chk_zero h0
    have hl := look_at z3 hi hd
    have hin : l[find l d] ∈ l := List.getElem_mem hi
    obtain ⟨r1, r2, r3, r4⟩ := z2 _ hin
    rcases hR with ⟨hp, e⟩ | ⟨hp, e⟩ <;> rw [e]
    · have hk : chk (l.set (find l d) (d, l[find l d].2.1 - 1, l[find l d].2.2)) = 0 := by
        refine chk_of (by simpa using z1) (fun r hr => ?_) (asc_set z3 hi (by rw [hd]))
        rcases List.mem_or_eq_of_mem_set hr with hr | rfl
        · have := z2 r hr; unfold okR; simpa using this
        · unfold okR
          simp only [decide_eq_true_eq]
          exact ⟨r1, hd.symm.trans r2, by omega, by omega⟩
      refine ⟨h0, hk, _, hl, by symm; simp only [decide_eq_false_iff_not]; omega, fun q => ?_⟩
      have hA := (chk_zero hk).2.2
      by_cases hq : q = d
      · subst hq
        rw [if_pos rfl, if_neg (by omega)]
        exact look_of hA (List.mem_set hi _)
      · rw [if_neg hq]
        cases hw : look l q with
        | none =>
          refine look_none fun r hr hrd => ?_
          rcases List.mem_or_eq_of_mem_set hr with hr | rfl
          · have := look_of z3 (d := q) (v := r.2) (by rw [← hrd]; exact hr)
            rw [hw] at this; cases this
          · exact hq hrd.symm
        | some v =>
          obtain ⟨i, hi', hv⟩ := List.mem_iff_getElem.1 (look_mem hw)
          refine look_of hA (List.mem_iff_getElem.2 ⟨i, by simpa using hi', ?_⟩)
          rw [List.getElem_set_ne (fun e => ?_)]
          · exact hv
          · subst e
            rw [hv] at hd
            exact hq hd
    · have hsub : (l.eraseIdx (find l d)).Sublist l := List.eraseIdx_sublist ..
      have hA : Asc (l.eraseIdx (find l d)) := z3.sublist hsub
      have hk : chk (l.eraseIdx (find l d)) = 0 := chk_of (by have := hsub.length_le; omega) (fun r hr => by have := z2 r (hsub.subset hr); unfold okR; simpa using this) hA
      refine ⟨h0, hk, _, hl, by symm; simp only [decide_eq_true_eq]; omega, fun q => ?_⟩
      have hmm : ∀ r : Rw, r ∈ l.eraseIdx (find l d) ↔ r ∈ l ∧ r.1 ≠ d := fun r => by
        constructor
        · intro hr
          refine ⟨hsub.subset hr, fun e => ?_⟩
          obtain ⟨i, hi', hv⟩ := List.mem_eraseIdx_iff_getElem.1 hr
          obtain ⟨hne, hv⟩ := hv
          rcases Nat.lt_or_gt_of_ne hne with g | g
          · have := List.pairwise_iff_getElem.1 z3 _ _ (by omega) hi g
            rw [hv, hd] at this; omega
          · have := List.pairwise_iff_getElem.1 z3 _ _ hi (by omega) g
            rw [hv, hd] at this; omega
        · rintro ⟨hr, hne⟩
          obtain ⟨i, hi', hv⟩ := List.mem_iff_getElem.1 hr
          refine List.mem_eraseIdx_iff_getElem.2 ⟨i, hi', fun e => ?_, hv⟩
          subst e
          rw [hv] at hd
          exact hne hd
      by_cases hq : q = d
      · subst hq
        rw [if_pos rfl, if_pos (by omega)]
        exact look_none fun r hr => ((hmm r).1 hr).2
      · rw [if_neg hq]
        cases hw : look l q with
        | none =>
          refine look_none fun r hr hrd => ?_
          have := look_of z3 (d := q) (v := r.2) (by rw [← hrd]; exact ((hmm r).1 hr).1)
          rw [hw] at this; cases this
        | some v => exact look_of hA ((hmm _).2 ⟨look_mem hw, hq⟩)

end Go.Proofs.Ytmdakplaaehmnaa.Im

namespace Go.Proofs.Ytmdakplaaehmnaa.Im

/-- the index has just the texts with a count, with it -/
def Has (l : List Rw) (N : List UInt8 → Int) : Prop := chk l = 0 ∧ (∀ t, 0 ≤ N t) ∧ ∀ t c, look l (Dm.sum t) = some (c, t) ↔ c = N t ∧ 0 < c
def up (N : List UInt8 → Int) (s : List UInt8) (k : Int) : List UInt8 → Int := fun t => if t = s then N t + k else N t
theorem up_self (N : List UInt8 → Int) (s : List UInt8) (k : Int) : up N s k s = N s + k := by unfold up; rw [if_pos rfl]
theorem up_other {N : List UInt8 → Int} {s t : List UInt8} (k : Int) (h : t ≠ s) : up N s k t = N t := by unfold up; rw [if_neg h]
theorem Has.nil : Has [] (fun _ => 0) := ⟨chk_nil, fun _ => Int.le_refl 0, fun t c => by
  constructor
  · intro h; cases h
  · rintro ⟨rfl, h⟩; exact absurd h (by simp)⟩
theorem add_first {l : List Rw} {s : List UInt8} (e : (add l s).2.2 = 0) : (add l s).2.1 = (look l (Dm.sum s)).isNone := by
  rcases add_cases l s with ⟨_, h⟩ | ⟨_, _, h⟩ | ⟨h0, _, hi, hd, ⟨_, h⟩ | ⟨_, _, h⟩ | ⟨_, _, h⟩⟩ | ⟨h0, _, hn, ⟨_, h⟩ | ⟨_, h⟩⟩
  · rw [h] at e; cases e
  · rw [h] at e; cases e
  · rw [h] at e; cases e
  · rw [h] at e; cases e
  · rw [look_at (chk_zero h0).2.2 hi hd, h]; rfl
  · rw [h] at e; cases e
  · rw [look_not (chk_zero h0).2.2 hn, h]; rfl
theorem Has.one {l : List Rw} {N : List UInt8 → Int} (h : Has l N) {s : List UInt8} (hs : ∀ v, look l (Dm.sum s) = some v → v.2 = s) : cnt (look l (Dm.sum s)) = N s ∧ ((look l (Dm.sum s)).isNone = decide (N s = 0)) := by
  cases hq : look l (Dm.sum s) with
  | none =>
    have h0 : N s = 0 := by
      rcases Int.lt_or_le 0 (N s) with hp | hp
      · have := (h.2.2 s (N s)).2 ⟨rfl, hp⟩
        rw [hq] at this; cases this
      · have := h.2.1 s; omega
    rw [h0]; exact ⟨rfl, rfl⟩
  | some v =>
    obtain ⟨c, t⟩ := v
    have ht : t = s := hs _ hq
    subst ht
    obtain ⟨rfl, hp⟩ := (h.2.2 t c).1 hq
    refine ⟨rfl, ?_⟩
    have : ¬ N t = 0 := by omega
    simp [this]
theorem Has.add {l : List Rw} {N : List UInt8 → Int} (h : Has l N) {s : List UInt8} (e : (add l s).2.2 = 0) : (add l s).2.1 = decide (N s = 0) ∧ Has (add l s).1 (up N s 1) := by
  have hs := (look_add e 0).2
  obtain ⟨h1, h2⟩ := h.one hs
  refine ⟨by rw [add_first e, h2], (add_chk e).2, fun t => ?_, fun t c => ?_⟩
  · unfold up; split
    · have := h.2.1 t; omega
    · exact h.2.1 t
  · rw [(look_add e (Dm.sum t)).1, h1]
    by_cases hts : t = s
    · subst hts
      rw [if_pos rfl, up_self]
      constructor
      · intro hh; injection hh with hh; injection hh with hh _
        have := h.2.1 t
        exact ⟨hh.symm, by omega⟩
      · rintro ⟨rfl, _⟩; rfl
    · rw [up_other 1 hts]
      by_cases hd : Dm.sum t = Dm.sum s
      · rw [if_pos hd]
        constructor
        · intro hh; injection hh with hh; injection hh with _ hh; exact absurd hh.symm hts
        · intro hh
          have := (h.2.2 t c).2 hh
          rw [hd] at this
          exact absurd (hs _ this) hts
      · rw [if_neg hd]; exact h.2.2 t c
theorem Has.drop {l : List Rw} {N : List UInt8 → Int} (h : Has l N) {s : List UInt8} (hp : 0 < N s) : (drop l (Dm.sum s)).2.2 = 0 ∧ (drop l (Dm.sum s)).2.1 = decide (N s = 1) ∧ Has (drop l (Dm.sum s)).1 (up N s (-1)) := by
  have hl := (h.2.2 s (N s)).2 ⟨rfl, hp⟩
  have hA := (chk_zero h.1).2.2
  have he : (Im.drop l (Dm.sum s)).2.2 = 0 := by
    rcases drop_cases l (Dm.sum s) with ⟨h0, _⟩ | ⟨_, hh, _⟩ | ⟨_, _, _, _, ⟨_, e⟩ | ⟨_, e⟩⟩
    · exact absurd h.1 h0
    · have := (look_has hA (d := Dm.sum s)).2 ⟨_, hl⟩
      rw [hh] at this; cases this
    · rw [e]
    · rw [e]
  obtain ⟨_, hc, v, hv, hg, hL⟩ := look_drop he
  rw [hl] at hv
  injection hv with hv
  subst hv
  refine ⟨he, hg, hc, fun t => ?_, fun t c => ?_⟩
  · unfold up; split
    · rename_i e; subst e; omega
    · exact h.2.1 t
  · rw [hL]
    by_cases hts : t = s
    · subst hts
      rw [if_pos rfl, up_self]
      simp only
      by_cases h1 : N t = 1
      · rw [if_pos h1, h1]
        constructor
        · intro hh; cases hh
        · rintro ⟨rfl, hh⟩; omega
      · rw [if_neg h1]
        constructor
        · intro hh; injection hh with hh; injection hh with hh _; exact ⟨by omega, by omega⟩
        · rintro ⟨rfl, _⟩; rfl
    · rw [up_other _ hts]
      by_cases hd : Dm.sum t = Dm.sum s
      · rw [if_pos hd]
        constructor
        · intro hh
          split at hh
          · cases hh
          · injection hh with hh; injection hh with _ hh; exact absurd hh.symm hts
        · intro hh
          have := (h.2.2 t c).2 hh
          rw [hd, hl] at this
          injection this with this; injection this with _ this; exact absurd this.symm hts
      · rw [if_neg hd]; exact h.2.2 t c
theorem Has.get {l : List Rw} {N : List UInt8 → Int} (h : Has l N) {t : List UInt8} (hp : 0 < N t) : get l (Dm.sum t) = (t, N t, 0) := by
  rw [get_look h.1, (h.2.2 t (N t)).2 ⟨rfl, hp⟩]

/-! sums -/
def S (f : List UInt8 → Int) (q : List (List UInt8)) : Int := (q.map f).foldr (· + ·) 0
theorem S_snoc (f : List UInt8 → Int) (q : List (List UInt8)) (t : List UInt8) : S f (q ++ [t]) = S f q + f t := by
  induction q with
  | nil => simp [S]
  | cons y l ih =>
    unfold S at ih ⊢
    simp only [List.cons_append, List.map_cons, List.foldr_cons, ih]
    omega
theorem S_perm {f : List UInt8 → Int} {p q : List (List UInt8)} (h : p.Perm q) : S f p = S f q := by
  unfold S
  induction h with
  | nil => rfl
  | cons x _ ih => simp only [List.map_cons, List.foldr_cons, ih]
  | swap x y l => simp only [List.map_cons, List.foldr_cons]; omega
  | trans _ _ ih1 ih2 => exact ih1.trans ih2
theorem S_filter (f : List UInt8 → Int) (p : List UInt8 → Bool) (q : List (List UInt8)) : S f (q.filter p) = S (fun t => if p t = true then f t else 0) q := by
  unfold S
  induction q with
  | nil => rfl
  | cons x q ih =>
    rw [List.filter_cons, List.map_cons, List.foldr_cons, ← ih]
    split
    · rw [List.map_cons, List.foldr_cons]
    · omega
theorem S_bound {f : List UInt8 → Int} {C : Int} (hf : ∀ t, 0 ≤ f t ∧ f t ≤ C) (q : List (List UInt8)) : 0 ≤ S f q ∧ S f q ≤ q.length * C := by
  unfold S
  induction q with
  | nil => simp
  | cons x q ih =>
    have := hf x
    rw [List.map_cons, List.foldr_cons, List.length_cons]
    have e : ((q.length + 1 : Nat) : Int) * C = q.length * C + C := by rw [Int.natCast_add, Int.add_mul]; simp
    rw [e]
    omega
theorem S_bound' {f : List UInt8 → Int} {C : Int} (q : List (List UInt8)) (hf : ∀ t ∈ q, 0 ≤ f t ∧ f t ≤ C) : 0 ≤ S f q ∧ S f q ≤ q.length * C := by
  unfold S
  induction q with
  | nil => simp
  | cons x q ih =>
    have := hf x (by simp)
    have := ih (fun t ht => hf t (by simp [ht]))
    rw [List.map_cons, List.foldr_cons, List.length_cons]
    have e : ((q.length + 1 : Nat) : Int) * C = q.length * C + C := by rw [Int.natCast_add, Int.add_mul]; simp
    rw [e]
    omega

def f1 (N : List UInt8 → Int) : List UInt8 → Int := fun t => if 0 < N t then 1 else 0
def f2 (N : List UInt8 → Int) : List UInt8 → Int := fun t => if 0 < N t then t.length else 0
def f3 (N : List UInt8 → Int) : List UInt8 → Int := fun t => if 0 < N t then N t * t.length else 0
/-- the rows together -/
theorem Has.rows {l : List Rw} {N : List UInt8 → Int} (h : Has l N) {ts : List (List UInt8)} (hn : ts.Nodup) (hc : ∀ t, 0 < N t → t ∈ ts) :
    (l.length : Int) = S (f1 N) ts ∧ once l = S (f2 N) ts ∧ all l = S (f3 N) ts := by
  obtain ⟨z1, z2, z3⟩ := chk_zero h.1
  clear z1
  have hmem : ∀ r ∈ l, r.2.1 = N r.2.2 ∧ 0 < N r.2.2 := fun r hr => by
    have h1 := look_of z3 (d := Dm.sum r.2.2) (v := (r.2.1, r.2.2)) (by rw [← (z2 r hr).2.1]; exact hr)
    obtain ⟨a, b⟩ := (h.2.2 _ _).1 h1
    exact ⟨a, by omega⟩
  have hp : (l.map fun r => r.2.2).Perm (ts.filter fun t => decide (0 < N t)) := by
    refine (List.perm_ext_iff_of_nodup ?_ (hn.filter _)).2 fun t => ?_
    · refine List.pairwise_map.2 (List.Pairwise.imp_of_mem ?_ z3)
      intro x y hx hy hlt he
      rw [(z2 x hx).2.1, (z2 y hy).2.1, he] at hlt
      omega
    · rw [List.mem_map, List.mem_filter]
      constructor
      · rintro ⟨r, hr, rfl⟩
        have := (hmem r hr).2
        exact ⟨hc _ this, by simpa using this⟩
      · rintro ⟨_, ht⟩
        have ht : 0 < N t := by simpa using ht
        exact ⟨_, look_mem ((h.2.2 t (N t)).2 ⟨rfl, ht⟩), rfl⟩
  have hS : ∀ f : List UInt8 → Int, S f (l.map fun r => r.2.2) = S (fun t => if 0 < N t then f t else 0) ts := fun f => by
    rw [S_perm hp, S_filter]
    simp only [decide_eq_true_eq]
  refine ⟨?_, ?_, ?_⟩
  · have h1 := hS fun _ => 1
    unfold f1
    rw [← h1]
    unfold S
    clear h1 hS hp hmem z2 z3 h
    induction l with
    | nil => rfl
    | cons x l ih => simp only [List.length_cons, List.map_cons, List.foldr_cons, ← ih]; omega
  · have h1 := hS fun t => t.length
    unfold f2
    rw [← h1]
    unfold S once
    rw [List.map_map]; rfl
  · have h1 := hS fun t => N t * t.length
    unfold f3
    rw [← h1]
    unfold S all
    rw [List.map_map]
    congr 1
    refine List.map_congr_left fun r hr => ?_
    simp only [Function.comp]
    rw [(hmem r hr).1, Int.mul_comm]
theorem fine.drop {m : Nat} {l : List Rw} (h : fine m l) {d : Int} (e : (drop l d).2.2 = 0) : fine m (drop l d).1 := by
  have hk := (look_drop e).2.1
  rcases drop_cases l d with ⟨_, h1⟩ | ⟨_, _, h1⟩ | ⟨_, _, hf, _, ⟨_, h1⟩ | ⟨_, h1⟩⟩ <;> rw [h1] at hk ⊢
  · exact .nil _
  · exact .nil _
  · refine ⟨by simp only [List.length_set]; exact h.1, fun x hx => ?_, hk⟩
    rcases List.mem_or_eq_of_mem_set hx with h2 | rfl
    · exact h.2.1 x h2
    · have := h.2.1 _ (List.getElem_mem hf)
      exact ⟨this.1, by have := this.2; simp only; omega⟩
  · refine ⟨?_, fun x hx => h.2.1 x (List.mem_of_mem_eraseIdx hx), hk⟩
    have := h.1
    simp only [List.length_eraseIdx]
    split <;> omega
theorem fine.mono {m k : Nat} {l : List Rw} (h : fine m l) (hk : m ≤ k) : fine k l := ⟨Nat.le_trans h.1 hk, fun x hx => ⟨(h.2.1 x hx).1, by have := (h.2.1 x hx).2; omega⟩, h.2.2⟩
/-- counts of a list of texts: one turns -/
theorem counts_set {ts : List (List UInt8)} (hn : ts.Nodup) {k : Nat} (hk : k < ts.length) (N : List UInt8 → Int) (j : Int) : (ts.map N).set k (N ts[k] + j) = ts.map (up N ts[k] j) := by
  refine List.ext_getElem (by simp) fun i h1 h2 => ?_
  simp only [List.length_map] at h2
  rw [List.getElem_set, List.getElem_map, List.getElem_map]
  split
  · rename_i e; subst e; rw [up_self]
  · rename_i e
    rw [up_other]
    intro hh
    exact e ((List.getElem_inj hn).1 hh).symm

end Go.Proofs.Ytmdakplaaehmnaa.Im
