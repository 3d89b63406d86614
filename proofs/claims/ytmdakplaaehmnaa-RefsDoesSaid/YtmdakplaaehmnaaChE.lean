/-
  Contract of Ends.
-/
import Derived.Test.YtmdakplaaehmnaaChD
namespace Go.Proofs.Ytmdakplaaehmnaa
open Go.RowKit
set_option maxHeartbeats 1000000

/-- an answer of Cut -/
structure Cm.Good (m : Nat) (r : List (List UInt8) × Int) : Prop where
  len : r.1.length ≤ 256
  flat : r.1.flatten.length ≤ m
  err : r.2 = 0 ∨ (r.1 = [] ∧ r.2 ≠ 0 ∧ 0 ≤ r.2 ∧ r.2 ≤ 4)
theorem Cm.cutR_good {c : Cm.C} (hc : c.ok) (s : List UInt8) : Cm.Good s.length (Cm.cutR c s) := by
  unfold Cm.cutR
  by_cases h : (Cm.cut c s).length ≤ 256
  · rw [if_pos h]; exact ⟨h, by rw [Cm.cut_flat hc]; exact Nat.le_refl _, .inl rfl⟩
  · rw [if_neg h]; exact ⟨by simp, by simp, .inr ⟨rfl, by decide, by decide, by decide⟩⟩
theorem Cm.cutV_good (a b c d : Int) (s : List UInt8) : Cm.Good s.length (Cm.cutV a b c d s) := by
  unfold Cm.cutV
  cases hc : Cm.okB a b c d with
  | false => rw [if_neg (by decide)]; exact ⟨by simp, by simp, .inr ⟨rfl, by decide, by decide, by decide⟩⟩
  | true => rw [if_pos rfl]; exact Cm.cutR_good (Cm.ok_of hc).1 s
theorem Cm.cutV_ok {c : Cm.C} (hc : c.ok) (s : List UInt8) : Cm.cutV c.L c.M c.W c.K s = Cm.cutR c s := by
  have h1 := hc.l4; have h2 := hc.lm; have h3 := hc.m256; have h4 := hc.w1; have h5 := hc.wl; have h6 := hc.k1; have h7 := hc.k1024
  unfold Cm.cutV Cm.okB
  rw [if_pos (by simp; omega)]
  rfl

/-- a list of numbers and an error, as an answer -/
def Cm.RetI (B : Nat) (w : World) (r : List Int × Int) (e : Ending) (w' : World) : Prop :=
  ∃ v, e = .returned (.tuple #[v, .int .i64 r.2]) ∧ w'.ownsRow B 3 1 v r.1.length (r.1.map (Value.int .i64)) ∧ Below B w w'
theorem info_i64 : (Try.prog.info? 3).map (fun i => (i.zero, i.size, i.bytes)) = some (some (.int .i64 0), 1, 8) := by kernel_rfl

theorem Cm.flat_take (l : List (List UInt8)) (k : Nat) (h : k < l.length) : (l.take (k + 1)).flatten.length = (l.take k).flatten.length + l[k].length := by
  rw [List.take_succ_eq_append_getElem h, List.flatten_append, List.length_append]; simp
theorem Cm.flat_take_le (l : List (List UInt8)) (k : Nat) : (l.take k).flatten.length ≤ l.flatten.length := by
  have h : l.flatten = (l.take k).flatten ++ (l.drop k).flatten := by rw [← List.flatten_append, List.take_append_drop]
  have := congrArg List.length h
  rw [List.length_append] at this
  omega
theorem Cm.ends_take (l : List (List UInt8)) (k : Nat) (h : k < l.length) : (Cm.endsF 0 l).take (k + 1) = (Cm.endsF 0 l).take k ++ [((l.take (k + 1)).flatten.length : Int)] := by
  have h2 : k < (Cm.endsF 0 l).length := by rw [Cm.endsF_length]; exact h
  rw [List.take_succ_eq_append_getElem h2, Cm.endsF_get]
  simp

end Go.Proofs.Ytmdakplaaehmnaa
