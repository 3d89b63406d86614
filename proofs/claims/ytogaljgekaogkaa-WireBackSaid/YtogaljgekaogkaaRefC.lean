/-
  Contracts of the reference's PutText, PutList, Text, List, Same.
-/
import Derived.Test.YtogaljgekaogkaaWireC
namespace Go.Proofs.Ytogaljgekaogkaa
open Go.RowKit
set_option maxHeartbeats 1000000

/-- what the reference answers for the number of bytes -/
theorem Wm.len_of (s : List UInt8) (i m : Int) {x q r : Int} (h : Wm.int s i = (x, q, r)) :
    Wm.lenR s i m = if r ≠ 0 then (0, 0, r) else if x < 0 then (0, 0, 2) else if m < x then (0, 0, 4) else (x, q, r) := by
  unfold Wm.lenR; rw [h]

theorem Wm.str_eta (l : List UInt8) : Wm.str l = .string ⟨l.toArray⟩ := rfl

/-- a slice whose cells are these numbers -/
def IntsAt (w : World) (A : Option Addr) (n : Nat) (z : List Int) : Prop :=
  z.length = n ∧ (0 < n → ∃ b o, A = some ⟨b, o, none⟩ ∧ ∀ i (h : i < z.length), w.cell? ⟨b, o + i, none⟩ = some (.int .i64 z[i]))
theorem IntsIn.ints {w : World} {A : Option Addr} {n c : Nat} {z : List Int} (h : IntsIn .i64 w A n c z) : IntsAt w A n z :=
  ⟨h.1, fun hn => by obtain ⟨b, o, hA, _, hc⟩ := h.2.2.2.2 hn; exact ⟨b, o, hA, hc⟩⟩
theorem own_ints {w : World} {B : Nat} {v : Value} {z : List Int} (h : w.ownsRow B 3 1 v z.length (z.map (Value.int .i64))) : ∃ A c, v = .slice A z.length c ∧ IntsAt w A z.length z := by
  rcases h.2 with ⟨rfl, hz⟩ | ⟨g, cap, cur, hv, _⟩
  · exact ⟨none, 0, by rw [hz], rfl, fun hn => absurd hn (by omega)⟩
  · subst hv
    exact ⟨_, _, rfl, rfl, fun _ => ⟨g, 0, rfl, fun i hi => by
      have := h.cells rfl i _ (by rw [List.getElem?_map, List.getElem?_eq_getElem hi]; rfl)
      have e1 : (⟨g, 0, none⟩ : Addr).add i = ⟨g, 0 + i, none⟩ := by unfold Addr.add; split <;> simp_all
      rw [e1] at this
      exact this⟩⟩

/-- Same, of equal lists -/
theorem same_any (A A' : Option Addr) (n c c' : Nat) (z : List Int) (w : World) (h : IntsAt w A n z) (h' : IntsAt w A' n z) (hn : n ≤ 9223372036854775807) :
    Calls Try.prog 12 #[.slice A n c, .slice A' n c'] w fun e w' => e = .returned (.bool true) ∧ Below w.heap.size w w' := by
  have H := Lib.hid h
  have H' := Lib.hid h'
  clear h h'
  go_enter Try.func12, Try.ntmps12
  go_wp2
  go_loopw [13] (fun i wr => ∃ k : Nat, k ≤ n ∧ i = .int .i64 k ∧ ∃ q, wr = w.drewN q) (fun i wr => n - (intOf i).toNat)
  case atStart => exact ⟨0, by omega, rfl, 0, rfl⟩
  case round =>
    obtain ⟨k, hk, rfl, q, rfl⟩ := hrel
    by_cases hlt : k < n
    · obtain ⟨b, o, rfl, hc⟩ := H.out.2 (by omega)
      obtain ⟨b', o', rfl, hc'⟩ := H'.out.2 (by omega)
      have hzk : k < z.length := by rw [H.out.1]; exact hlt
      have g1 := hc k hzk
      have g2 := hc' k hzk
      obtain ⟨x, hx⟩ : ∃ x, z[k] = x := ⟨_, rfl⟩
      rw [hx] at g1 g2
      have i0 : (0 : Int) ≤ (k : Int) := by omega
      have i1 : (k : Int) < (n : Int) := by omega
      clear hc hc' hx hzk
      go_wp2_with fail
      go_quiet (fail)
      go_wp2_with fail
      go_roundw
      case rel => exact ⟨k + 1, by omega, by go_num, _, rfl⟩
      case measure => simp [intOf]; omega
    · go_wp2
      go_ret
      exact ⟨rfl, (Below.refl _ w).trans ⟨rfl, rfl, rfl, Nat.le_refl _, fun _ _ => rfl⟩⟩

end Go.Proofs.Ytogaljgekaogkaa
