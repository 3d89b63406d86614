/-
  What the bound on the bulk gives for single arguments.
-/
import Derived.Test.YtebkgndcgcdogaaRows
import Derived.Test.YtebkgndcgcdogaaKit
namespace Go.Proofs.Ytebkgndcgcdogaa.bulks

theorem one_le {H : Type} (d : DataW H) : 1 ≤ Rows.uptoBulk d := by
  cases d with
  | lit l => cases l <;> simp [Rows.uptoBulk]
  | _ => simp [Rows.uptoBulk]
theorem mem_le {H : Type} {d : DataW H} : ∀ {l : List (DataW H)}, d ∈ l → Rows.uptoBulk d ≤ Rows.uptoBulkAll l
  | [], h => by cases h
  | x :: r, h => by
    simp only [Rows.uptoBulkAll]
    cases List.mem_cons.1 h with
    | inl e => subst e; omega
    | inr e => have := mem_le e; omega
theorem len_le {H : Type} : ∀ l : List (DataW H), l.length ≤ Rows.uptoBulkAll l
  | [] => by simp [Rows.uptoBulkAll]
  | x :: r => by have := one_le x; have := len_le r; simp only [Rows.uptoBulkAll, List.length_cons]; omega
theorem small {H : Type} {l : List (DataW H)} (hk : Rows.uptoSmall H l = true) : Rows.uptoBulkAll l ≤ 1048576 := of_decide_eq_true hk
theorem string_small {H : Type} {l : List (DataW H)} (hk : Rows.uptoSmall H l = true) (j : Nat) {b : List UInt8} (hd : l[j]? = some (.lit (.string b))) : b.length ≤ 1048576 := by
  have h1 := mem_le (List.mem_of_getElem? hd)
  have h2 := small hk
  simp only [Rows.uptoBulk] at h1
  omega
theorem ints_small {H : Type} {l : List (DataW H)} (hk : Rows.uptoSmall H l = true) (j : Nat) {d : DataW H} {c : Nat} (hd : l[j]? = some d) (hi : IntsDatum c d) : c ≤ 1048576 := by
  rcases hi with ⟨_, rfl⟩ | ⟨el, sp, rfl, hl⟩
  · omega
  · have h1 := mem_le (List.mem_of_getElem? hd)
    have h2 := small hk
    have h3 := len_le el
    have h4 := len_le sp
    simp only [Rows.uptoBulk] at h1
    omega

end Go.Proofs.Ytebkgndcgcdogaa.bulks
