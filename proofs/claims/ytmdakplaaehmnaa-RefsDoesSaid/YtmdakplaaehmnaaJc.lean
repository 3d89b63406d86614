/-
  Contracts of refs: slices.Clone at rows, copied.
-/
import Derived.Test.YtmdakplaaehmnaaIf
import Derived.Test.YtmdakplaaehmnaaClone
import Derived.Test.YtmdakplaaehmnaaShelf9
import Derived.Shelf.SlicesE.Clone
import Derived.Ground.SlgnProg
namespace Go.Proofs.Ytmdakplaaehmnaa
open Go.RowKit Go.Shelf
set_option maxHeartbeats 4000000

set_option maxRecDepth 100000 in
theorem cloneR_any (A : Option Addr) (n c : Nat) (l : List Im.Rw) (w : World) (hl : RowsIn w A n c l) (hn : n ≤ 4398046511104) :
    Calls Try.prog 48 #[.slice A n c] w fun e w' => ∃ v, e = .returned v ∧ RowsOwn w' w.heap.size v l ∧ Below w.heap.size w w' := by
  have hln := hl.1
  obtain ⟨i0, hi, hz0, hz1, hz2⟩ := info_parts info_row
  by_cases h0 : n = 0
  · subst h0
    have hnil := List.eq_nil_of_length_eq_zero hln
    subst hnil
    cases A with
    | none =>
      have hcon := AnyE.slices_Clone_nil Try.cloneRow 0 c w
      exact hcon.mono fun e w' ⟨he, hw⟩ => ⟨_, he, by rw [hw]; exact RowsOwn.nil _ _, by rw [hw]; exact Below.refl _ _⟩
    | some a =>
      clear hl hi hz0 hz1 hz2
      have hq : ∀ W, (binOp .eql 23 (.slice (some a) 0 c) (.slice none 0 0)).run Try.prog W = .ok (.bool false) W := fun W => Lib.run_eql_slice_nil W _ _ (some a) 0 c 0 0 Try.underlying23
      go_enter Try.func48, Try.ntmps48
      go_wp2
      go_ret
      exact ⟨_, rfl, World.ownsRow_made w #[] 0 (Nat.le_refl _) (Nat.zero_le _) (by simp), (Below.refl _ _).alloc (Nat.le_refl _) _⟩
  · obtain ⟨g, o, rfl, hg, hc⟩ := hl.2.2 (by omega)
    have hcon := AnyE.slices_Clone Try.cloneRow i0 (.agg #[.int .i64 0, .int .i64 0, .string ByteArray.empty]) 3 32 hi hz0 hz1 hz2 rfl (by decide) Try.sizeOf37 g o n c (Im.cells l) w (by rw [Im.cells_length, hln]) (by unfold maxLen; omega) (by omega) (fun j u hj => by
      have h := (Im.idx_cells hl (fun h => by cases h)).2 _ rfl j u hj
      rwa [show (⟨g, o, none⟩ : Addr).add j = ⟨g, o + j, none⟩ by unfold Addr.add; split <;> simp_all] at h) (Im.cells_one l)
    refine hcon.mono fun e w' ⟨v, he, ho, _, hb⟩ => ⟨v, he, ?_, hb⟩
    unfold RowsOwn
    rw [hln]
    exact ho

/-- the same text is written where it stands -/
theorem RowsOwn.same2 {w : World} {B g c n : Nat} {l : List Im.Rw} (h : RowsOwn w B (.slice (some ⟨g, 0, none⟩) n c) l) (hn : l.length = n) {j : Nat} (hj : j < l.length) :
    RowsOwn (w.setCell ⟨g, j * 3 + 2, none⟩ (.string (Cm.b l[j].2.2))) B (.slice (some ⟨g, 0, none⟩) n c) l := by
  subst hn
  have h1 := (World.ownsRow.stored h (j * 3 + 2) (.string (Cm.b l[j].2.2))).1
  have e : (Im.cells l).set (j * 3 + 2) (.string (Cm.b l[j].2.2)) = Im.cells l := by
    refine List.ext_getElem? fun i => ?_
    rw [List.getElem?_set]
    split
    · rename_i h2
      subst h2
      rw [if_pos (by rw [Im.cells_length]; omega)]
      exact ((Im.cells_get l j hj).2.2).symm
    · rfl
  rw [e] at h1
  exact h1

set_option maxRecDepth 100000 in
theorem copied_any (A : Option Addr) (n c : Nat) (l : List Im.Rw) (w : World) (hl : RowsIn w A n c l) (hz : ∀ x ∈ l, x.2.2.length ≤ 140737488355328) (hn : n ≤ 4398046511104) :
    Calls Try.prog 39 #[.slice A n c] w fun e w' => ∃ v, e = .returned v ∧ RowsOwn w' w.heap.size v l ∧ Below w.heap.size w w' := by
  have HLN := Lib.hid hl.1
  have C1 := Lib.hid (cloneR_any A n c l w hl hn)
  have HZ := Lib.hid hz
  obtain ⟨B, hB⟩ : ∃ B, w.heap.size = B := ⟨_, rfl⟩
  rw [hB] at C1 ⊢
  clear hl hz
  go_enter Try.func39, Try.ntmps39
  go_wp2_with fail
  refine C1.out.mono ?_
  rintro e w1 ⟨v, rfl, ho1, hb1⟩
  obtain ⟨A1, c1, rfl, _⟩ := own_rows ho1
  rw [HLN.out] at ho1 ⊢
  have hBs : B ≤ w1.heap.size := by rw [← hB]; exact hb1.size
  have HO1 := Lib.hid ho1
  have HB1 := Lib.hid hb1
  clear ho1 hb1 hB
  go_wp2_with fail
  go_loopw [10] (fun i wr => ∃ k : Nat, k ≤ n ∧ i = .int .i64 k ∧ RowsOwn wr B (.slice A1 n c1) l ∧ Below B w wr ∧ B ≤ wr.heap.size) (fun i _ => n - (intOf i).toNat)
  case atStart => exact ⟨0, by omega, rfl, HO1.out, HB1.out, hBs⟩
  case round =>
    obtain ⟨k, hk, rfl, hor, hbr, hsr⟩ := hrel
    by_cases hlt : k < n
    · have d8 : decide ((k : Int) < (n : Int)) = true := by simp; omega
      have hkl : k < l.length := by rw [HLN.out]; exact hlt
      obtain ⟨g, c2, hv, hgB, hgl, hgc⟩ := RowsOwn.form hor (by omega)
      injection hv with hv1 hv2 hv3
      subst hv1 hv3
      clear hv2
      obtain ⟨⟨y0, y1, y2⟩, fz⟩ := RowsOwn.rd hor HLN.out hkl
      have hzk := HZ.out _ (List.getElem_mem hkl)
      obtain ⟨x, hx⟩ : ∃ x, l[k] = x := ⟨_, rfl⟩
      rw [hx] at y0 y1 y2 hzk
      obtain ⟨a, ct, s⟩ := x
      simp only at y0 y1 y2 hzk
      obtain ⟨S, hS⟩ : ∃ S, Cm.b s = S := ⟨_, rfl⟩
      rw [hS] at y2
      have hSs : S.size = s.length := by rw [← hS, Cm.b_size']
      have CC := Lib.hid (fun V => clone_any S V (by omega))
      obtain ⟨nb, hnb⟩ : ∃ nb, wr.heap.size = nb := ⟨_, rfl⟩
      obtain ⟨wa, hwa⟩ : ∃ V, wr.alloc (.cells #[.int .i64 a, .int .i64 ct, .string S] 37) = V := ⟨_, rfl⟩
      have hna : wa.heap[nb]? = some (.cells #[.int .i64 a, .int .i64 ct, .string S] 37 (0, 0)) := by rw [← hwa, ← hnb]; exact heap_alloc_new _ _
      have g2 : wa.cell? ⟨nb, 2, none⟩ = some (.string S) := by simp [World.cell?, hna]
      have hBa : Below B w wa := by rw [← hwa]; exact hbr.alloc hsr _
      have hoa : RowsOwn wa B (.slice (some ⟨g, 0, none⟩) n c1) l := by rw [← hwa]; exact hor.alloc _
      have hsa : B ≤ wa.heap.size := by rw [← hwa]; simp; omega
      have HWA := Lib.hid hwa
      have HBA := Lib.hid hBa
      have HOA := Lib.hid hoa
      have HX := Lib.hid hx
      have HS := Lib.hid hS
      have HHK := Lib.hid hkl
      have j2 : (k : Int) < (n : Int) := by omega
      clear hwa hBa hoa hor hbr hx hS hna fz
      go_wp2_with fail
      rw [HWA.out]
      clear hnb
      go_wp2_with fail
      refine (CC.out _).mono ?_
      rintro e w3 ⟨rfl, hb3⟩
      have ho3 : RowsOwn w3 B (.slice (some ⟨g, 0, none⟩) n c1) l := HOA.out.below hb3
      obtain ⟨⟨z0, z1, z2⟩, fz3⟩ := RowsOwn.rd ho3 HLN.out HHK.out
      rw [HX.out] at z2
      simp only at z2
      rw [HS.out] at z2
      have f3 := fz3 (k * 3 + 2)
      have hs3 : B ≤ w3.heap.size := Nat.le_trans hsa hb3.size
      have HO4 := Lib.hid (show RowsOwn (w3.setCell ⟨g, k * 3 + 2, none⟩ (.string S)) B (.slice (some ⟨g, 0, none⟩) n c1) l from by
        have h := RowsOwn.same2 ho3 HLN.out HHK.out
        rw [HX.out] at h
        simp only at h
        rw [HS.out] at h
        exact h)
      have HB4 := Lib.hid (show Below B w (w3.setCell ⟨g, k * 3 + 2, none⟩ (.string S)) from (HBA.out.trans (hb3.mono hsa)).setCell (by show B ≤ g; exact hgB) _)
      clear ho3 hb3 fz3
      go_wp2_with fail
      go_roundw
      case rel => exact ⟨k + 1, by omega, by go_num, HO4.out, HB4.out, by (simp; omega)⟩
      case measure => simp [intOf]; omega
    · obtain rfl : k = n := by omega
      have d8 : decide ((k : Int) < (k : Int)) = false := by simp
      have HOR := Lib.hid hor
      have HBR := Lib.hid hbr
      clear hor hbr
      go_wp2_with fail
      go_ret
      exact ⟨_, rfl, HOR.out, HBR.out⟩

end Go.Proofs.Ytmdakplaaehmnaa
