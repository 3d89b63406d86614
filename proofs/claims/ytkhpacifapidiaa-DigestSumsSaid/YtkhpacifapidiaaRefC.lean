/-
  Contracts of the reference's PutText, PutList, Text, List, Same.
-/
import Derived.Test.YtkhpacifapidiaaWireC
namespace Go.Proofs.Ytkhpacifapidiaa
open Go.RowKit
set_option maxHeartbeats 1000000

/-- what the reference answers for the number of bytes -/
theorem Wm.len_of (s : List UInt8) (i m : Int) {x q r : Int} (h : Wm.int s i = (x, q, r)) :
    Wm.lenR s i m = if r ≠ 0 then (0, 0, r) else if x < 0 then (0, 0, 2) else if m < x then (0, 0, 4) else (x, q, r) := by
  unfold Wm.lenR; rw [h]

theorem Wm.str_eta (l : List UInt8) : Wm.str l = .string ⟨l.toArray⟩ := rfl

set_option maxRecDepth 100000 in
theorem rputList_any (s : ByteArray) (A : Option Addr) (n c : Nat) (z : List Int) (w : World) (hs : s.size ≤ 9223000000000000000) (hz : IntsIn .i64 w A n c z) (hn : n ≤ 14073748835500) :
    Calls Try.prog 24 #[.string s, .slice A n c] w fun e w' => e = .returned (Wm.str (s.data.toList ++ Wm.encL z)) ∧ Below w.heap.size w w' := by
  have hzl := hz.1
  have hbd : ∀ x ∈ z, -9223372036854775808 ≤ x ∧ x ≤ 9223372036854775807 := fun x hx => bd_i64 (hz.2.2.1 x hx)
  obtain ⟨D, hD⟩ : ∃ D : Nat → List UInt8, D = fun k => s.data.toList ++ (Wm.encI n ++ (z.take k).flatMap Wm.encI) := ⟨_, rfl⟩
  have hD0 : s.data.toList ++ Wm.encI n = D 0 := by rw [hD]; simp
  have hDs : ∀ k (h : k < z.length), D k ++ Wm.encI z[k] = D (k + 1) := fun k h => by rw [hD]; simp only; rw [Wm.flatMap_take_succ z k h]; simp
  have hDl : ∀ k, k ≤ n → (D k).length ≤ s.size + 10 + 10 * k := fun k h => by
    rw [hD]
    have h1 := (Wm.encI_length (n : Int)).2
    have h2 := Wm.flatMap_length (z.take k)
    simp only [List.length_append, List.length_take, Array.length_toList, ByteArray.size_data] at h2 ⊢
    omega
  have hDn : D n = s.data.toList ++ Wm.encL z := by
    rw [hD, Wm.encL]; simp only; rw [List.take_of_length_le (by omega), hzl]
  have HZ := Lib.hid hz
  have HD0 := Lib.hid hD0
  have HDs := Lib.hid hDs
  have HDl := Lib.hid hDl
  have HDn := Lib.hid hDn
  have HBd := Lib.hid hbd
  clear hz hD hD0 hDs hDl hDn hbd hzl
  go_enter Try.func24, Try.ntmps24
  go_wp2_with fail
  refine (rput_any s n _ (by omega) (by omega) (by omega)).mono ?_
  rintro e w1 ⟨rfl, hB⟩
  rw [HD0.out]
  have HB := Lib.hid hB
  clear hB
  go_wp2_with fail
  go_loopw [0, 13] (fun v i wr => ∃ k : Nat, k ≤ n ∧ i = .int .i64 k ∧ v = Wm.str (D k) ∧ Below w.heap.size w wr) (fun v i wr => n - (intOf i).toNat)
  case atStart => exact ⟨0, by omega, rfl, rfl, HB.out⟩
  case round =>
    obtain ⟨k, hk, rfl, rfl, hBr⟩ := hrel
    clear HB
    by_cases hlt : k < n
    · obtain ⟨b, o, rfl, hbl, hzk, hcell⟩ := HZ.out.at hlt
      have hcr := (hBr.cell (p := ⟨b, o + k, none⟩) hbl).trans hcell
      obtain ⟨x, hx⟩ : ∃ x, z[k] = x := ⟨_, rfl⟩
      have hxb := HBd.out _ (List.getElem_mem hzk)
      have hDk := HDs.out k hzk
      have hDkl := HDl.out k hk
      rw [hx] at hcr hxb hDk
      clear hcell
      obtain ⟨E, hE1, hE2, hE3⟩ : ∃ E : ByteArray, E = ⟨(D k).toArray⟩ ∧ E.size ≤ s.size + 10 + 10 * k ∧ E.data.toList = D k := ⟨_, rfl, by show Array.size _ ≤ _; simpa using hDkl, by simp⟩
      rw [Wm.str_eta (D k), ← hE1]
      have HBr := Lib.hid hBr
      have HDk := Lib.hid hDk
      have HE3 := Lib.hid hE3
      clear hBr hDk hDkl hx hE1 hE3
      go_wp2_with fail
      refine (rput_any E x _ (by omega) hxb.1 hxb.2).mono ?_
      rintro e w2 ⟨rfl, hB2⟩
      rw [HE3.out, HDk.out]
      have HB2 := Lib.hid (HBr.out.trans (hB2.mono HBr.out.size))
      clear hB2
      go_wp2_with fail
      go_roundw
      case rel => exact ⟨k + 1, by omega, by go_num, rfl, HB2.out⟩
      case measure => simp [intOf]; omega
    · obtain rfl : k = n := by omega
      go_wp2_with fail
      go_ret
      exact ⟨by rw [← HDn.out]; rfl, hBr⟩

/-- a slice whose cells are these numbers -/
def IntsAt (w : World) (A : Option Addr) (n : Nat) (z : List Int) : Prop :=
  z.length = n ∧ (0 < n → ∃ b o, A = some ⟨b, o, none⟩ ∧ ∀ i (h : i < z.length), w.cell? ⟨b, o + i, none⟩ = some (.int .i64 z[i]))
theorem IntsIn.ints {w : World} {A : Option Addr} {n c : Nat} {z : List Int} (h : IntsIn .i64 w A n c z) : IntsAt w A n z :=
  ⟨h.1, fun hn => by obtain ⟨b, o, hA, _, hc⟩ := h.2.2.2.2 hn; exact ⟨b, o, hA, hc⟩⟩
theorem own_ints {w : World} {B : Nat} {v : Value} {z : List Int} (h : w.ownsRow B 3 1 v z.length (z.map (Value.int .i64))) : ∃ A c, v = .slice A z.length c ∧ IntsAt w A z.length z := by
  rcases h.2 with ⟨rfl, hz⟩ | ⟨g, cap, cur, hv, _⟩
  · exact ⟨none, 0, by rw [hz], rfl, fun hn => absurd hn (by omega)⟩
  · subst hv
    exact ⟨_, _, rfl, rfl, fun _ => ⟨g, 0, rfl, fun i hi => by
      have := h.cells rfl i _ (by rw [List.getElem?_map, List.getElem?_eq_getElem hi]; rfl)
      have e1 : (⟨g, 0, none⟩ : Addr).add i = ⟨g, 0 + i, none⟩ := by unfold Addr.add; split <;> simp_all
      rw [e1] at this
      exact this⟩⟩

end Go.Proofs.Ytkhpacifapidiaa
