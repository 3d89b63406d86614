/-
  Contracts of Clone, PutText, PutList, length, Text, List of wire.
-/
import Derived.Test.YtkhpacifapidiaaWireB
import Derived.Test.YtkhpacifapidiaaWm2
import Derived.Test.YtkhpacifapidiaaKit
import Derived.Lib.BufferWrite
import Derived.Lib.UnsafeStr
import Derived.Laws.MakeOwn
import Derived.OwnWalk
import Derived.Maps.AppendAt
namespace Go.Proofs.Ytkhpacifapidiaa
open Go.RowKit
set_option maxHeartbeats 1000000

theorem cells_u8 : Try.prog.cellsOf 5 = 1 := by kernel_rfl

/-- what Text answers, as a value -/
def Wm.tval (r : List UInt8 × Int × Int) : Value := .tuple #[Wm.str r.1, .int .i64 r.2.1, .int .i64 r.2.2]
theorem Wm.extract_str (s : ByteArray) (a n : Nat) : Value.string (s.extract a (a + n)) = Wm.str ((s.data.toList.drop a).take n) := by
  unfold Wm.str
  congr 1
  apply bytes_ext
  simp [List.extract_eq_take_drop]

theorem Wm.str_app2 (s t : ByteArray) (l : List UInt8) : Value.string (s ++ ⟨l.toArray⟩ ++ t) = Wm.str (s.data.toList ++ (l ++ t.data.toList)) := by
  unfold Wm.str
  congr 1
  apply bytes_ext
  simp

/-- PutList -/
theorem putList_any (s : ByteArray) (A : Option Addr) (n c : Nat) (z : List Int) (w : World) (hs : s.size ≤ 9223000000000000000) (hz : IntsIn .i64 w A n c z) (hn : n ≤ 14073748835500) :
    Calls Try.prog 23 #[.string s, .slice A n c] w fun e w' => e = .returned (Wm.str (s.data.toList ++ Wm.encL z)) ∧ Below w.heap.size w w' := by
  have hzl := hz.1
  have hbd : ∀ x ∈ z, -9223372036854775808 ≤ x ∧ x ≤ 9223372036854775807 := fun x hx => bd_i64 (hz.2.2.1 x hx)
  obtain ⟨D, hD⟩ : ∃ D : Nat → List UInt8, D = fun k => Wm.encI n ++ (z.take k).flatMap Wm.encI := ⟨_, rfl⟩
  have hD0 : D 0 = Wm.encI n := by rw [hD]; simp
  have hDs : ∀ k (h : k < z.length), D (k + 1) = D k ++ Wm.encI z[k] := fun k h => by rw [hD]; simp only; rw [Wm.flatMap_take_succ z k h]; simp
  have hDl : ∀ k, k ≤ n → (D k).length ≤ 10 + 10 * k := fun k h => by
    rw [hD]
    have h1 := (Wm.encI_length (n : Int)).2
    have h2 := Wm.flatMap_length (z.take k)
    simp only [List.length_append, List.length_take] at h2 ⊢
    omega
  have hDn : D n = Wm.encL z := by
    rw [hD, Wm.encL]; simp only; rw [List.take_of_length_le (by omega), hzl]
  have HZ := Lib.hid hz
  have HD0 := Lib.hid hD0
  have HDs := Lib.hid hDs
  have HDl := Lib.hid hDl
  have HDn := Lib.hid hDn
  have HBd := Lib.hid hbd
  clear hz hD hD0 hDs hDl hDn hbd hzl
  go_enter Try.func23, Try.ntmps23
  go_wp2_with fail
  refine (appendInt_any w.heap.size _ [] 0 n rfl (by omega) (by omega) (by simp) _ (Nat.le_refl _) (World.ownsRow_nil _ _ _ _)).mono ?_
  rintro e w1 ⟨v, rfl, hrow, hB⟩
  simp only [List.nil_append] at hrow
  have HR := Lib.hid hrow
  have HB := Lib.hid hB
  clear hrow hB
  go_wp2_with fail
  go_loopw [5, 13] (fun v i wr => ∃ k : Nat, k ≤ n ∧ i = .int .i64 k ∧ wr.ownsRow w.heap.size 5 1 v (D k).length ((D k).map Wm.u8) ∧ Below w.heap.size w wr) (fun v i wr => n - (intOf i).toNat)
  case atStart => exact ⟨0, by omega, rfl, by rw [HD0.out]; exact HR.out, HB.out⟩
  case round =>
    obtain ⟨k, hk, rfl, hrow, hBr⟩ := hrel
    clear HR HB
    by_cases hlt : k < n
    · obtain ⟨b, o, rfl, hbl, hzk, hcell⟩ := HZ.out.at hlt
      have hcr := (hBr.cell (p := ⟨b, o + k, none⟩) hbl).trans hcell
      obtain ⟨x, hx⟩ : ∃ x, z[k] = x := ⟨_, rfl⟩
      have hxb := HBd.out _ (List.getElem_mem hzk)
      have hDk := HDs.out k hzk
      have hDkl := HDl.out k hk
      rw [hx] at hcr hxb hDk
      clear hcell
      have HROW := Lib.hid hrow
      have HBr := Lib.hid hBr
      have HDk := Lib.hid hDk
      have HDkl := Lib.hid hDkl
      clear hrow hBr hDk hDkl hx
      go_wp2_with fail
      refine (appendInt_any w.heap.size _ (D k) _ x rfl hxb.1 hxb.2 (by have := HDkl.out; omega) _ HBr.out.size HROW.out).mono ?_
      rintro e w2 ⟨v2, rfl, hrow2, hB2⟩
      have HR2 := Lib.hid hrow2
      have HB2 := Lib.hid (HBr.out.trans hB2)
      clear hrow2 hB2
      go_wp2_with fail
      go_roundw
      case rel => exact ⟨k + 1, by omega, by go_num, by rw [HDk.out]; exact HR2.out, HB2.out⟩
      case measure => simp [intOf]; omega
    · obtain rfl : k = n := by omega
      have hc := Wm.conv_own hrow
      rw [HDn.out] at hc
      have hl2 := HDl.out k (Nat.le_refl _)
      rw [HDn.out] at hl2
      obtain ⟨E, hE1, hE2⟩ : ∃ E : ByteArray, E = ⟨(Wm.encL z).toArray⟩ ∧ E.size ≤ 10 + 10 * k := ⟨_, rfl, by show Array.size _ ≤ _; simpa using hl2⟩
      rw [← hE1] at hc
      have a1 : ∀ W : World, (Op.stringOp .add s E).run Try.prog W = .ok (.string (s ++ E)) W := fun W => run_string_add_sum W s E (by omega)
      have HE := Lib.hid hE1
      clear hE1 hrow
      go_wp2_with fail
      go_ret
      exact ⟨by rw [← Wm.str_app, ← HE.out]; rfl, hBr⟩

theorem info_int : (Try.prog.info? 3).map (fun i => (i.zero, i.size, i.bytes)) = some (some (.int .i64 0), 1, 8) := by kernel_rfl

/-- what List answers: the slice owns the numbers -/
def Wm.LRet (B : Nat) (w : World) (r : List Int × Int × Int) (e : Ending) (w' : World) : Prop :=
  ∃ v, e = .returned (.tuple #[v, .int .i64 r.2.1, .int .i64 r.2.2]) ∧ w'.ownsRow B 3 1 v r.1.length (r.1.map (Value.int .i64)) ∧ Below B w w'

end Go.Proofs.Ytkhpacifapidiaa
