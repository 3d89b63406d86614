/-
  What RefsDoes' walk leans on: both packages' calls for any index.
-/
import Derived.Test.YtmdakplaaehmnaaLawIA
import Derived.Test.YtmdakplaaehmnaaIx
import Derived.Test.YtmdakplaaehmnaaLawIS
namespace Go.Proofs.Ytmdakplaaehmnaa
open Go.RowKit

/-- any index as an argument -/
def Im.Wide (w : World) (A : Option Addr) (n c : Nat) (l : List Im.Rw) : Prop := RowsIn w A n c l ∧ (A = none → c = 0) ∧ n ≤ 4398046511104 ∧ ∀ x ∈ l, x.2.2.length ≤ 140737488355328
theorem Im.Wide.below {w w' : World} {A : Option Addr} {n c : Nat} {l : List Im.Rw} (h : Im.Wide w A n c l) (hb : Below w.heap.size w w') : Im.Wide w' A n c l := ⟨h.1.below hb, h.2⟩
theorem Im.Wide.own {w : World} {B : Nat} {v : Value} {l : List Im.Rw} (h : RowsOwn w B v l) (hn : l.length ≤ 4096) (hx : ∀ x ∈ l, x.2.2.length ≤ 100000) : ∃ A n c, v = .slice A n c ∧ Im.Wide w A n c l := by
  obtain ⟨A, c, e, ha⟩ := h.arg hn hx
  exact ⟨A, l.length, c, e, ha.1, ha.2.1, by omega, fun x hx' => by have := hx x hx'; omega⟩
theorem Im.add_size (l : List Im.Rw) (s : List UInt8) : (Im.add l s).1.length ≤ 4096 ∧ ∀ x ∈ (Im.add l s).1, x.2.2.length ≤ 100000 := by
  by_cases h : (Im.add l s).2.2 = 0
  · obtain ⟨a, b, _⟩ := Im.chk_zero (Im.add_chk h).2
    exact ⟨by omega, fun x hx => by have := (b x hx).1; omega⟩
  · have e : (Im.add l s).1 = [] := by
      rcases Im.add_cases l s with ⟨_, e⟩ | ⟨_, _, e⟩ | ⟨_, _, _, _, ⟨_, e⟩ | ⟨_, _, e⟩ | ⟨_, _, e⟩⟩ | ⟨_, _, _, ⟨_, e⟩ | ⟨_, e⟩⟩
      · rw [e]
      · rw [e]
      · rw [e]
      · rw [e]
      · rw [e] at h; exact absurd rfl h
      · rw [e]
      · rw [e] at h; exact absurd rfl h
    rw [e]
    exact ⟨by simp, fun x hx => absurd hx (by simp)⟩
theorem Im.drop_size (l : List Im.Rw) (d : Int) : (Im.drop l d).1.length ≤ 4096 ∧ ∀ x ∈ (Im.drop l d).1, x.2.2.length ≤ 100000 := by
  rcases Im.drop_cases l d with ⟨_, e⟩ | ⟨_, _, e⟩ | ⟨h0, _, hf, _, ⟨_, e⟩ | ⟨_, e⟩⟩ <;> rw [e]
  · exact ⟨by simp, fun x hx => absurd hx (by simp)⟩
  · exact ⟨by simp, fun x hx => absurd hx (by simp)⟩
  · obtain ⟨a, b, _⟩ := Im.chk_zero h0
    refine ⟨by simp only [List.length_set]; omega, fun x hx => ?_⟩
    rcases List.mem_or_eq_of_mem_set hx with h2 | rfl
    · have := (b x h2).1; omega
    · have := (b _ (List.getElem_mem hf)).1; simp only; omega
  · obtain ⟨a, b, _⟩ := Im.chk_zero h0
    refine ⟨?_, fun x hx => by have := (b x (List.mem_of_mem_eraseIdx hx)).1; omega⟩
    simp only [List.length_eraseIdx]
    split <;> omega

structure DoesSays : Prop where
  pchk : ∀ A n c l w, Im.Wide w A n c l → Calls Try.prog 18 #[.agg #[.slice A n c]] w fun e w' => e = .returned (.int .i64 (Im.chk l)) ∧ Below w.heap.size w w'
  rchk : ∀ A n c l w, Im.Wide w A n c l → Calls Try.prog 19 #[.agg #[.slice A n c]] w fun e w' => e = .returned (.int .i64 (Im.chk l)) ∧ Below w.heap.size w w'
  padd : ∀ A n c l (S : ByteArray) w, Im.Wide w A n c l → S.size ≤ 100000 → Calls Try.prog 22 #[.agg #[.slice A n c], .string S] w fun e w' => ∃ A' n' c', e = .returned (.tuple #[.agg #[.slice A' n' c'], .bool (Im.add l S.data.toList).2.1, .int .i64 (Im.add l S.data.toList).2.2]) ∧ Im.Wide w' A' n' c' (Im.add l S.data.toList).1 ∧ Below w.heap.size w w'
  radd : ∀ A n c l (S : ByteArray) w, Im.Wide w A n c l → S.size ≤ 100000 → Calls Try.prog 23 #[.agg #[.slice A n c], .string S] w fun e w' => ∃ A' n' c', e = .returned (.tuple #[.agg #[.slice A' n' c'], .bool (Im.add l S.data.toList).2.1, .int .i64 (Im.add l S.data.toList).2.2]) ∧ Im.Wide w' A' n' c' (Im.add l S.data.toList).1 ∧ Below w.heap.size w w'
  pdrop : ∀ A n c l d w, Im.Wide w A n c l → Calls Try.prog 24 #[.agg #[.slice A n c], .int .i64 d] w fun e w' => ∃ A' n' c', e = .returned (.tuple #[.agg #[.slice A' n' c'], .bool (Im.drop l d).2.1, .int .i64 (Im.drop l d).2.2]) ∧ Im.Wide w' A' n' c' (Im.drop l d).1 ∧ Below w.heap.size w w'
  rdrop : ∀ A n c l d w, Im.Wide w A n c l → Calls Try.prog 25 #[.agg #[.slice A n c], .int .i64 d] w fun e w' => ∃ A' n' c', e = .returned (.tuple #[.agg #[.slice A' n' c'], .bool (Im.drop l d).2.1, .int .i64 (Im.drop l d).2.2]) ∧ Im.Wide w' A' n' c' (Im.drop l d).1 ∧ Below w.heap.size w w'
  pget : ∀ A n c l d w, Im.Wide w A n c l → Calls Try.prog 26 #[.agg #[.slice A n c], .int .i64 d] w fun e w' => e = .returned (.tuple #[.string (Cm.b (Im.get l d).1), .int .i64 (Im.get l d).2.1, .int .i64 (Im.get l d).2.2]) ∧ Below w.heap.size w w'
  rget : ∀ A n c l d w, Im.Wide w A n c l → Calls Try.prog 27 #[.agg #[.slice A n c], .int .i64 d] w fun e w' => e = .returned (.tuple #[.string (Cm.b (Im.get l d).1), .int .i64 (Im.get l d).2.1, .int .i64 (Im.get l d).2.2]) ∧ Below w.heap.size w w'
  ptot : ∀ A n c l w, Im.Wide w A n c l → Calls Try.prog 16 #[.agg #[.slice A n c]] w fun e w' => e = .returned (.tuple #[.int .i64 (Im.tot l).1, .int .i64 (Im.tot l).2.1, .int .i64 (Im.tot l).2.2]) ∧ Below w.heap.size w w'
  rtot : ∀ A n c l w, Im.Wide w A n c l → Calls Try.prog 17 #[.agg #[.slice A n c]] w fun e w' => e = .returned (.tuple #[.int .i64 (Im.tot l).1, .int .i64 (Im.tot l).2.1, .int .i64 (Im.tot l).2.2]) ∧ Below w.heap.size w w'
  psame : ∀ A A' n n' c c' l l' w, Im.Wide w A n c l → Im.Wide w A' n' c' l' → Calls Try.prog 20 #[.agg #[.slice A n c], .agg #[.slice A' n' c']] w fun e w' => e = .returned (.bool (decide (l = l'))) ∧ Below w.heap.size w w'
  rsame : ∀ A A' n n' c c' l l' w, Im.Wide w A n c l → Im.Wide w A' n' c' l' → Calls Try.prog 21 #[.agg #[.slice A n c], .agg #[.slice A' n' c']] w fun e w' => e = .returned (.bool (decide (l = l'))) ∧ Below w.heap.size w w'

end Go.Proofs.Ytmdakplaaehmnaa
