/-
  Mathematics of refs, fourth part: the order in which texts are added does not matter.
-/
import Derived.Test.YtmdakplaaehmnaaIo
namespace Go.Proofs.Ytmdakplaaehmnaa.Im

theorem look_at {l : List Rw} (hA : Asc l) {d : Int} (hi : find l d < l.length) (hd : l[find l d].1 = d) : look l d = some l[find l d].2 := look_of hA (by
  have : (d, l[find l d].2) = l[find l d] := Prod.ext hd.symm rfl
  rw [this]; exact List.getElem_mem hi)
theorem look_not {l : List Rw} (hA : Asc l) {d : Int} (hn : ∀ h : find l d < l.length, d < l[find l d].1) : look l d = none := look_none fun r hr hrd => by
  obtain ⟨i, hi, rfl⟩ := List.mem_iff_getElem.1 hr
  by_cases hif : find l d ≤ i
  · have := find_gt hA hn i hi hif; omega
  · have := find_lt hi (by omega : i < find l d); omega

/-- when adding has no error, and how long the index then is -/
theorem add_ok (l : List Rw) (s : List UInt8) : (add l s).2.2 = 0 ↔ chk l = 0 ∧ s.length ≤ 16384 ∧ ((∃ v, look l (Dm.sum s) = some v ∧ v.2 = s ∧ v.1 ≠ 2147483646) ∨ (look l (Dm.sum s) = none ∧ l.length < 1024)) := by
  rcases add_cases l s with ⟨h0, e⟩ | ⟨_, hs, e⟩ | ⟨h0, hs, hi, hd, hR⟩ | ⟨h0, hs, hn, hR⟩
  · rw [e]; exact ⟨fun h => (by cases h), fun h => absurd h.1 h0⟩
  · rw [e]; exact ⟨fun h => (by cases h), fun h => (by omega)⟩
  · have hA := (chk_zero h0).2.2
    have hl := look_at hA hi hd
    rcases hR with ⟨ht, e⟩ | ⟨ht, hm, e⟩ | ⟨ht, hm, e⟩ <;> rw [e]
    · refine ⟨fun h => (by cases h), fun h => ?_⟩
      rcases h.2.2 with ⟨v, hv, h1, _⟩ | ⟨hv, _⟩ <;> rw [hl] at hv
      · injection hv with hv; subst hv; exact absurd h1 ht
      · cases hv
    · refine ⟨fun h => (by cases h), fun h => ?_⟩
      rcases h.2.2 with ⟨v, hv, _, h1⟩ | ⟨hv, _⟩ <;> rw [hl] at hv
      · injection hv with hv; subst hv; exact absurd hm h1
      · cases hv
    · exact ⟨fun _ => ⟨h0, hs, .inl ⟨_, hl, ht, hm⟩⟩, fun _ => rfl⟩
  · have hA := (chk_zero h0).2.2
    have hl := look_not hA hn
    have h24 := (chk_zero h0).1
    rcases hR with ⟨hl2, e⟩ | ⟨hl2, e⟩ <;> rw [e]
    · refine ⟨fun h => (by cases h), fun h => ?_⟩
      rcases h.2.2 with ⟨v, hv, _, _⟩ | ⟨_, h1⟩
      · rw [hl] at hv; cases hv
      · omega
    · exact ⟨fun _ => ⟨h0, hs, .inr ⟨hl, hl2⟩⟩, fun _ => rfl⟩
theorem add_len {l : List Rw} {s : List UInt8} (h : (add l s).2.2 = 0) : (look l (Dm.sum s) = none → (add l s).1.length = l.length + 1) ∧ l.length ≤ (add l s).1.length := by
  rcases add_cases l s with ⟨h0, e⟩ | ⟨_, hs, e⟩ | ⟨h0, hs, hi, hd, ⟨_, e⟩ | ⟨_, _, e⟩ | ⟨_, _, e⟩⟩ | ⟨h0, hs, hn, ⟨_, e⟩ | ⟨_, e⟩⟩
  · rw [e] at h; cases h
  · rw [e] at h; cases h
  · rw [e] at h; cases h
  · rw [e] at h; cases h
  · rw [look_at (chk_zero h0).2.2 hi hd, e]
    exact ⟨fun h => (by cases h), (by simp)⟩
  · rw [e] at h; cases h
  · rw [e]
    have := find_le l (Dm.sum s)
    constructor
    · intro _; simp only [List.length_append, List.length_take, List.length_cons, List.length_drop]; omega
    · simp only [List.length_append, List.length_take, List.length_cons, List.length_drop]; omega
theorem add_swap {l : List Rw} {s t : List UInt8} (h1 : (add l s).2.2 = 0) (h2 : (add (add l s).1 t).2.2 = 0) :
    (add l t).2.2 = 0 ∧ (add (add l t).1 s).2.2 = 0 ∧ (add (add l t).1 s).1 = (add (add l s).1 t).1 := by
  by_cases hst : Dm.sum s = Dm.sum t
  · have h3 := (look_add h1 (Dm.sum t)).1
    rw [if_pos hst.symm] at h3
    have h4 := (look_add h2 0).2 _ h3
    simp only at h4
    subst h4
    exact ⟨h1, h2, rfl⟩
  · obtain ⟨c0, hs, hS⟩ := (add_ok l s).1 h1
    obtain ⟨c1, ht, hT⟩ := (add_ok _ t).1 h2
    have e1 : look (add l s).1 (Dm.sum t) = look l (Dm.sum t) := by rw [(look_add h1 _).1, if_neg (fun e => hst e.symm)]
    rw [e1] at hT
    have hle := (add_len h1).2
    have g1 : (add l t).2.2 = 0 := (add_ok l t).2 ⟨c0, ht, hT.imp id (fun h => ⟨h.1, by omega⟩)⟩
    have e2 : look (add l t).1 (Dm.sum s) = look l (Dm.sum s) := by rw [(look_add g1 _).1, if_neg hst]
    have k24 := (chk_zero (add_chk h2).2).1
    have g2 : (add (add l t).1 s).2.2 = 0 := (add_ok _ s).2 ⟨(add_chk g1).2, hs, by
      rw [e2]
      refine hS.imp id (fun h => ⟨h.1, ?_⟩)
      rcases hT with ⟨v, hv, _⟩ | ⟨hv, hl⟩
      · have hlen : (add l t).1.length = l.length := by
          rcases add_cases l t with ⟨_, e⟩ | ⟨_, _, e⟩ | ⟨_, _, _, _, ⟨_, e⟩ | ⟨_, _, e⟩ | ⟨_, _, e⟩⟩ | ⟨q0, _, hn, _⟩
          · rw [e] at g1; cases g1
          · rw [e] at g1; cases g1
          · rw [e] at g1; cases g1
          · rw [e] at g1; cases g1
          · rw [e]; simp
          · rw [look_not (chk_zero q0).2.2 hn] at hv; cases hv
        rw [hlen]; exact h.2
      · have := (add_len h1).1 h.1
        have := (add_len g1).1 hv
        omega⟩
    refine ⟨g1, g2, look_ext (chk_zero (add_chk g2).2).2.2 (chk_zero (add_chk h2).2).2.2 fun d => ?_⟩
    rw [(look_add g2 d).1, (look_add h2 d).1, (look_add g1 d).1, (look_add h1 d).1, e1, e2]
    by_cases d1 : d = Dm.sum s
    · subst d1; rw [if_pos rfl, if_neg hst, if_pos rfl]
    · rw [if_neg d1]
      by_cases d2 : d = Dm.sum t
      · subst d2; rw [if_pos rfl, if_pos rfl]
      · rw [if_neg d2, if_neg d2, if_neg d1]

/-- all texts of a list, one after the other, without an error, make x -/
def Adds : List Rw → List (List UInt8) → List Rw → Prop
  | l, [], x => l = x
  | l, s :: r, x => (add l s).2.2 = 0 ∧ Adds (add l s).1 r x
theorem Adds.snoc {x : List Rw} {s : List UInt8} : ∀ {r : List (List UInt8)} {l y : List Rw}, Adds l r y → (add y s).2.2 = 0 → (add y s).1 = x → Adds l (r ++ [s]) x
  | [], _, _, h, h2, h3 => by cases h; exact ⟨h2, h3⟩
  | _ :: _, _, _, h, h2, h3 => ⟨h.1, h.2.snoc h2 h3⟩
/-- any one of them first -/
theorem Adds.first {x : List Rw} : ∀ {r : List (List UInt8)} {l : List Rw}, Adds l r x → ∀ (k : Nat) (hk : k < r.length), (add l r[k]).2.2 = 0 ∧ Adds (add l r[k]).1 (r.eraseIdx k) x
  | [], _, _, k, hk => absurd hk (by simp)
  | s :: r, l, h, 0, _ => h
  | s :: r, l, h, k + 1, hk => by
    obtain ⟨h1, h2⟩ := h
    obtain ⟨g1, g2⟩ := Adds.first h2 k (by simpa using hk)
    obtain ⟨f1, f2, f3⟩ := add_swap h1 g1
    refine ⟨f1, ?_⟩
    rw [List.eraseIdx_cons_succ]
    exact ⟨f2, by rw [List.getElem_cons_succ, f3]; exact g2⟩

end Go.Proofs.Ytmdakplaaehmnaa.Im
