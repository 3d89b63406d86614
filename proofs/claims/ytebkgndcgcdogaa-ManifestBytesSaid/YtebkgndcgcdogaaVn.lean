/-
  Plain mathematics for the statements on layer 8: one more chunk, changes exchanged, a version from its chunks among others. No program is named here.
  Laws of manifest: a version that a deck has made is sound. No function of the program is named here.
-/
import Derived.Test.YtebkgndcgcdogaaVm
import Derived.Test.YtebkgndcgcdogaaLawVS
namespace Go.Proofs.Ytebkgndcgcdogaa.Vm

/-- what Of answers, for chunks of permitted lengths -/
theorem ofV_two {num : Int} {l : List (List UInt8)} (h1 : 1 ≤ num) (h2 : num < 2147483647) (h3 : l.length ≤ 256) (h4 : ∀ x ∈ l, 1 ≤ x.length ∧ x.length ≤ 256) :
    (ofV num l = (0, [], 8) ∧ clash l) ∨ (ofV num l = (num, l.map nm, 0) ∧ ¬ clash l) := by
  unfold ofV
  rw [if_neg (by omega), if_neg (by omega), if_pos (List.all_eq_true.2 (fun x hx => by have := h4 x hx; unfold okC; simp; exact this))]
  by_cases hc : clash l
  · rw [if_pos hc]; exact .inl ⟨rfl, hc⟩
  · rw [if_neg hc]; exact .inr ⟨rfl, hc⟩
theorem wo_nil {a b : List Nm} (h : ∀ x ∈ a, x ∈ b) : wo a b = [] := by
  have hw := (wo_is a b).2
  cases hc : wo a b with
  | nil => rfl
  | cons x l =>
    rw [hc] at hw
    have := (hw x).1 (List.mem_cons_self ..)
    exact absurd (h x this.1) this.2
theorem wo_one {a b : List Nm} {x : Nm} (h : x ∈ a) (hb : x ∉ b) (ha : ∀ y ∈ a, y ∈ b ∨ y = x) : wo a b = [x] := by
  refine ((wo_is a b).eq ⟨by simp, fun y => ?_⟩)
  rw [List.mem_singleton]
  constructor
  · rintro rfl; exact ⟨h, hb⟩
  · rintro ⟨h1, h2⟩
    rcases ha y h1 with h3 | h3
    · exact absurd h3 h2
    · exact h3
theorem app_out (l : List (List UInt8)) (m : List UInt8) : wo (l.map nm) ((l ++ [m]).map nm) = [] :=
  wo_nil (fun x hx => by rw [List.map_append]; exact List.mem_append_left _ hx)
theorem app_in (l : List (List UInt8)) (m : List UInt8) (h : ¬ clash (l ++ [m])) : wo ((l ++ [m]).map nm) (l.map nm) = if m ∈ l then [] else [nm m] := by
  by_cases hm : m ∈ l
  · rw [if_pos hm]
    refine wo_nil (fun x hx => ?_)
    rw [List.map_append, List.mem_append] at hx
    rcases hx with hx | hx
    · exact hx
    · simp at hx; rw [hx]; exact List.mem_map_of_mem hm
  · rw [if_neg hm]
    refine wo_one (by rw [List.map_append]; simp) (fun hx => ?_) (fun y hy => ?_)
    · obtain ⟨x, hx, he⟩ := List.mem_map.1 hx
      exact h ⟨x, List.mem_append_left _ hx, m, by simp, he, fun e => hm (e ▸ hx)⟩
    · rw [List.map_append, List.mem_append] at hy
      rcases hy with hy | hy
      · exact .inl hy
      · simp at hy; exact .inr hy
theorem clash_app {l : List (List UInt8)} {m : List UInt8} (h : ¬ clash (l ++ [m])) : ¬ clash l := fun ⟨x, hx, y, hy, e, hne⟩ => h ⟨x, List.mem_append_left _ hx, y, List.mem_append_left _ hy, e, hne⟩

/-- what is restored, if all chunks are there -/
theorem resF_all (mixed : List (List UInt8)) : ∀ (cs : List (List UInt8)) (acc : List UInt8), (∀ c ∈ cs, c ∈ mixed) → resF mixed (cs.map nm) acc = (acc ++ cs.flatten, 0) ∨ resF mixed (cs.map nm) acc = ([], 8) := by
  intro cs
  induction cs with
  | nil => intro acc _; left; simp [resF]
  | cons c cs ih =>
    intro acc h
    have hc : c ∈ pick (nm c) mixed := (pick_mem _ _ _).2 ⟨h c (List.mem_cons_self ..), rfl⟩
    rw [List.map_cons, resF]
    cases hp : pick (nm c) mixed with
    | nil => rw [hp] at hc; simp at hc
    | cons x r =>
      rw [hp] at hc
      show (if r.all (fun y => decide (y = x)) = true then resF mixed (cs.map nm) (acc ++ x) else ([], 8)) = _ ∨ (if r.all (fun y => decide (y = x)) = true then resF mixed (cs.map nm) (acc ++ x) else ([], 8)) = _
      by_cases ha : r.all (fun y => decide (y = x)) = true
      · rw [if_pos ha]
        have hcx : c = x := by
          rcases List.mem_cons.1 hc with e | e
          · exact e
          · simpa using List.all_eq_true.1 ha c e
        subst hcx
        rcases ih (acc ++ c) (fun y hy => h y (List.mem_cons_of_mem _ hy)) with e | e
        · left; rw [e, List.flatten_cons, List.append_assoc]
        · right; exact e
      · rw [if_neg ha]; right; rfl
/-- chunks, one after the other from some place on, and around -/
def around (cs : List (List UInt8)) (b : Nat) : Nat → List (List UInt8)
  | 0 => []
  | k + 1 => around cs b k ++ [cs.getD ((b + k) % cs.length) []]
theorem around_length (cs : List (List UInt8)) (b k : Nat) : (around cs b k).length = k := by
  induction k with
  | zero => rfl
  | succ k ih => rw [around, List.length_append, ih]; rfl
theorem around_mem (cs : List (List UInt8)) (b : Nat) : ∀ (k i : Nat), i < k → cs.getD ((b + i) % cs.length) [] ∈ around cs b k := by
  intro k
  induction k with
  | zero => intro i h; omega
  | succ k ih =>
    intro i h
    rw [around]
    by_cases e : i = k
    · subst e; exact List.mem_append_right _ (by simp)
    · exact List.mem_append_left _ (ih i (by omega))
theorem around_all (cs : List (List UInt8)) (b : Nat) : ∀ c ∈ cs, c ∈ around cs b cs.length := by
  intro c hc
  obtain ⟨t, ht, rfl⟩ := List.mem_iff_getElem.1 hc
  have hK : 0 < cs.length := by omega
  have hm := around_mem cs b cs.length ((t + cs.length - b % cs.length) % cs.length) (Nat.mod_lt _ hK)
  have hb := Nat.mod_lt b hK
  have e : (b + (t + cs.length - b % cs.length) % cs.length) % cs.length = t := by
    rw [Nat.add_mod, Nat.mod_mod, ← Nat.add_mod]
    have h1 : b = cs.length * (b / cs.length) + b % cs.length := (Nat.div_add_mod b cs.length).symm
    have h2 : b + (t + cs.length - b % cs.length) = t + cs.length * (b / cs.length + 1) := by
      rw [Nat.mul_add, Nat.mul_one]; omega
    rw [h2, Nat.add_mul_mod_self_left, Nat.mod_eq_of_lt ht]
  rw [e, List.getD_eq_getElem?_getD, List.getElem?_eq_getElem ht] at hm
  exact hm

end Go.Proofs.Ytebkgndcgcdogaa.Vm

namespace Go.Proofs.Ytebkgndcgcdogaa
open Go.RowKit

theorem Vm.made_chk {num : Int} {l : List Vm.Nm} (h : Vm.made num l) (hn : num ≠ 0) : Vm.chk num l = 0 := by
  rcases h.1 with ⟨h1, _⟩ | h1
  · exact absurd h1 hn
  · exact h1

end Go.Proofs.Ytebkgndcgcdogaa
