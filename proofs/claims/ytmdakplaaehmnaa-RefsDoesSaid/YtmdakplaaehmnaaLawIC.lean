/-
  RefsBack: its walk.
-/
import Derived.Test.YtmdakplaaehmnaaLawIA
import Derived.Deep.RegionHeld3
namespace Go.Proofs.Ytmdakplaaehmnaa
open Go.RowKit
set_option maxHeartbeats 2000000

theorem Im.fine_add {m : Nat} {l : List Im.Rw} (h : Im.fine m l) (hm : m ≤ 1000) {s : List UInt8} (hs : s.length ≤ 16384) : (Im.add l s).2.2 = 0 ∨ (Im.add l s).2.2 = 8 := by
  rcases Im.add_cases l s with ⟨h0, _⟩ | ⟨_, h1, _⟩ | ⟨_, _, hf, _, ⟨_, e⟩ | ⟨_, h1, _⟩ | ⟨_, _, e⟩⟩ | ⟨_, _, _, ⟨h1, _⟩ | ⟨_, e⟩⟩
  · exact absurd h.2.2 h0
  · omega
  · rw [e]; exact .inr rfl
  · have := (h.2.1 _ (List.getElem_mem hf)).2; omega
  · rw [e]; exact .inl rfl
  · have := h.1; omega
  · rw [e]; exact .inl rfl

set_option maxRecDepth 100000 in
theorem refsBack_walk (H : RefsSays) (A : Option Addr) (n c : Nat) (z : List Int) (T : ByteArray) (w : World) (hz : IntsIn .i64 w A n c z) (hn : n ≤ 17592186044416) :
    Calls Try.prog 5 #[.slice A n c, .string T] w fun e w' => e = .returned (.bool true) ∧ Below w.heap.size w w' := by
  have HS := Lib.hid (fun V => saneI_any H V)
  have HF := Lib.hid (fun V => few_any A n c V (by omega))
  by_cases hfew : (n : Int) ≤ 500
  case neg =>
    rw [decide_eq_false hfew] at HF
    clear H
    go_enter Try.func5, Try.ntmps5
    go_wp2_with fail
    refine (HS.out _).mono ?_
    rintro e w1 ⟨rfl, hb1⟩
    have HB1 := Lib.hid hb1
    clear hb1
    go_wp2_with fail
    refine (HF.out _).mono ?_
    rintro e w2 ⟨rfl, rfl⟩
    go_wp2_with fail
    go_ret
    exact ⟨rfl, HB1.out⟩
  rw [decide_eq_true hfew] at HF
  by_cases hbig : 2000 < T.size
  · have d1 : decide ((2000 : Int) < (T.size : Int)) = true := by simp; omega
    clear H
    go_enter Try.func5, Try.ntmps5
    go_wp2_with fail
    refine (HS.out _).mono ?_
    rintro e w1 ⟨rfl, hb1⟩
    have HB1 := Lib.hid hb1
    clear hb1
    go_wp2_with fail
    refine (HF.out _).mono ?_
    rintro e w2 ⟨rfl, rfl⟩
    go_wp2_with fail
    go_ret
    exact ⟨rfl, HB1.out⟩
  have d1 : decide ((2000 : Int) < (T.size : Int)) = false := by simp; omega
  obtain ⟨s, hs⟩ : ∃ s, T.data.toList = s := ⟨_, rfl⟩
  have hsl : T.size = s.length := by rw [← hs]; exact Array.length_toList.symm
  obtain ⟨D, hD⟩ : ∃ D, Dm.sum s = D := ⟨_, rfl⟩
  have hl4 : s.length ≤ 16384 := by omega
  have KS := Lib.hid (fun V => sum_any T V (by unfold maxLen; omega))
  rw [hs, hD] at KS
  have N1 := Lib.hid (fun V hb => new_any A n c w V hb)
  have X1 := Lib.hid (fun g V hd => mkIndex_any A n c z g w V hz hn hd)
  have KA := Lib.hid (fun A n c l V (h : Im.Arg V A n c l) => H.add A n c l T V h (by omega))
  rw [hs] at KA
  have KD := Lib.hid H.drop
  have KG := Lib.hid H.get
  have KM := Lib.hid H.same
  have HD := Lib.hid hD
  have HSE := Lib.hid hs
  have HSL := Lib.hid hsl
  clear H hs hD hsl hz
  go_enter Try.func5, Try.ntmps5
  go_wp2_with fail
  refine (HS.out _).mono ?_
  rintro e w1 ⟨rfl, hb1⟩
  have HB1 := Lib.hid hb1
  clear hb1
  go_wp2_with fail
  refine (HF.out _).mono ?_
  rintro e w2 ⟨rfl, rfl⟩
  go_wp2_with fail
  refine (N1.out _ HB1.out).mono ?_
  rintro e w2 ⟨rfl, hd2, hb2⟩
  have HD2 := Lib.hid hd2
  clear hb2 hd2
  go_wp2_with fail
  refine (X1.out _ _ HD2.out).mono ?_
  rintro e w3 ⟨A3, n3, c3, l, rfl, hr3, hA3, hf3, hd3, hk3⟩
  have HB3 := Lib.hid hd3.1
  have ha3 : Im.Arg w3 A3 n3 c3 l := ⟨hr3, hA3, by have := hr3.1; have := hf3.1; omega, fun x hx => by have := (hf3.2.1 x hx).1; omega⟩
  have HA3 := Lib.hid ha3
  have HF3 := Lib.hid hf3
  have he := Im.fine_add hf3 (by omega) hl4
  obtain ⟨x, hx⟩ : ∃ b, w3.heap.size = b := ⟨_, rfl⟩
  obtain ⟨wa, hwa⟩ : ∃ V, w3.alloc (.cells #[.slice A3 n3 c3] 25) = V := ⟨_, rfl⟩
  have haa : Im.Arg wa A3 n3 c3 l := by rw [← hwa]; exact ha3.below ((Below.refl _ _).alloc (Nat.le_refl _) _)
  have hxa : wa.heap[x]? = some (.cells #[.slice A3 n3 c3] 25 (0, 0)) := by rw [← hwa, ← hx]; exact heap_alloc_new _ _
  have hba : Below w.heap.size w wa := by rw [← hwa]; exact HB3.out.alloc HB3.out.size _
  have hsa : wa.heap.size = x + 1 := by rw [← hwa]; simp [hx]
  have hwx : w.heap.size ≤ x := by rw [← hx]; exact HB3.out.size
  have hbk := fun h => Im.back (l := l) (s := s) h
  have hck := fun h => (Im.add_chk (l := l) (s := s) h).2
  have K1 := Lib.hid (KA.out _ _ _ _ _ haa)
  have HL3 := Lib.hid (show l.length ≤ 4096 ∧ ∀ x ∈ l, x.2.2.length ≤ 100000 from ⟨by have := hf3.1; omega, fun x hx => by have := (hf3.2.1 x hx).1; omega⟩)
  obtain ⟨r, hr⟩ : ∃ r, Im.add l s = r := ⟨_, rfl⟩
  rw [hr] at he hbk hck K1
  obtain ⟨l', fst, er⟩ := r
  simp only at he hbk hck K1
  have HWA := Lib.hid hwa
  have HXA := Lib.hid hxa
  have HBA := Lib.hid hba
  have HAA := Lib.hid haa
  clear hr3 hA3 hf3 hd3 hk3 ha3 hwa hxa hba haa hr
  go_wp2_with fail
  rw [HWA.out]
  refine K1.out.mono ?_
  rintro e w4 ⟨v4, rfl, ho4, hb4⟩
  rcases he with rfl | rfl
  case inr =>
    obtain ⟨A4, c4, rfl, _⟩ := own_rows ho4
    have HB4 := Lib.hid (HBA.out.trans (hb4.mono HBA.out.size))
    clear hb4 ho4 hbk hck
    go_wp2_with fail
    go_ret
    exact ⟨rfl, HB4.out.alloc HB4.out.size _⟩
  obtain ⟨hdr, k, hgt, k0, k1, hkf⟩ := hbk rfl
  have hc4 := Im.chk_zero (hck rfl)
  obtain ⟨A4, c4, rfl, ha4⟩ := ho4.arg (by have := hc4.1; omega) (fun x hx => by have := (hc4.2.1 x hx).1; omega)
  rw [HD.out] at hdr hgt
  have hs4 := hb4.size
  have hx4 := (hb4.block x (by omega)).trans HXA.out
  have haa4 := HAA.out.below hb4
  obtain ⟨n4, hn4⟩ : ∃ b, l'.length = b := ⟨_, rfl⟩
  rw [hn4] at ha4 ho4
  rw [hn4]
  obtain ⟨y, hy⟩ : ∃ b, w4.heap.size = b := ⟨_, rfl⟩
  obtain ⟨wb, hwb⟩ : ∃ V, w4.alloc (.cells #[.slice A4 n4 c4] 25) = V := ⟨_, rfl⟩
  have hbb : Below w.heap.size w wb := by rw [← hwb]; exact (HBA.out.trans (hb4.mono HBA.out.size)).alloc (by have := HBA.out.size; omega) _
  have hyb : wb.heap[y]? = some (.cells #[.slice A4 n4 c4] 25 (0, 0)) := by rw [← hwb, ← hy]; exact heap_alloc_new _ _
  have hxb : wb.heap[x]? = some (.cells #[.slice A3 n3 c3] 25 (0, 0)) := by rw [← hwb]; exact (Below.heap_alloc _ _ _ (by omega)).trans hx4
  have hsb : wb.heap.size = y + 1 := by rw [← hwb]; simp [hy]
  have hab : Im.Arg wb A4 n4 c4 l' := by rw [← hwb]; exact ha4.below ((Below.refl _ _).alloc (Nat.le_refl _) _)
  have hab3 : Im.Arg wb A3 n3 c3 l := by rw [← hwb]; exact haa4.below ((Below.refl _ _).alloc (Nat.le_refl _) _)
  have K2 := Lib.hid (fun V (h : Im.Arg V A4 n4 c4 l') => KD.out A4 n4 c4 l' D V h)
  rw [hdr] at K2
  have HWB := Lib.hid hwb
  have HZ := Lib.hid (show (wb.alloc (.cells #[.slice none 0 0] 25)).heap[y + 1]? = some (.cells #[.slice none 0 0] 25 (0, 0)) from by rw [← hsb]; exact heap_alloc_new _ _)
  have HY2 := Lib.hid (show (wb.alloc (.cells #[.slice none 0 0] 25)).heap[y]? = some (.cells #[.slice A4 n4 c4] 25 (0, 0)) from (Below.heap_alloc _ _ _ (by omega)).trans hyb)
  have HBB := Lib.hid hbb
  have HYB := Lib.hid hyb
  have HXB := Lib.hid hxb
  have HAB := Lib.hid hab
  have HAB3 := Lib.hid hab3
  obtain ⟨ty, fy⟩ := cell_frozen_one hyb
  have HGT := Lib.hid hgt
  have HKF := Lib.hid hkf
  clear hb4 ho4 hbk hck hc4 ha4 hx4 haa4 hn4 hwb hbb hyb hxb hab hab3 hgt hkf hdr
  go_wp2_with fail
  rw [HWB.out]
  go_region_held3 (fun V => V.cell? ⟨y, 0, none⟩ = some (.slice A4 n4 c4)) (go_keep) ((first | (go_at_call 13; with_reducible refine (KS.out _).mono ?_; rintro e w5 ⟨rfl, rfl⟩) | (go_at_call 24; refine (K2.out _ (HAB.out.below (Below.refl _ _).drew)).mono ?_; rintro e w5 ⟨v5, rfl, ho5, hb5⟩; obtain ⟨A5, c5, rfl, ha5⟩ := ho5.arg HL3.out.1 HL3.out.2; have hby := (hb5.block y (show y < wb.heap.size by omega)).trans HYB.out; obtain ⟨cy5, fy5⟩ := cell_frozen_one hby; have HA5 := Lib.hid ha5; have HB5 := Lib.hid (show Below wb.heap.size wb w5 from (Below.refl _ _).drew.trans hb5); clear ho5 hb5 ha5 hby) | (go_at_call 24; refine (K2.out _ (HAB.out.below ((Below.refl _ _).alloc (Nat.le_refl _) _).drew)).mono ?_; rintro e w5 ⟨v5, rfl, ho5, hb5⟩; obtain ⟨A5, c5, rfl, ha5⟩ := ho5.arg HL3.out.1 HL3.out.2; have hby := (hb5.block y (show y < (wb.alloc _).heap.size by simp; omega)).trans HY2.out; have hbz := (hb5.block (y + 1) (show y + 1 < (wb.alloc _).heap.size by simp; omega)).trans HZ.out; obtain ⟨cy5, fy5⟩ := cell_frozen_one hby; obtain ⟨cz5, fz5⟩ := cell_frozen_one hbz; have HBZ := Lib.hid hbz; have HA5 := Lib.hid ha5; have HO5 := Lib.hid ho5; have HB5 := Lib.hid (show Below wb.heap.size wb w5 from ((Below.refl _ _).alloc (Nat.le_refl _) _).drew.trans (hb5.mono (show wb.heap.size ≤ (wb.alloc _).heap.size by simp))); clear ho5 hb5 ha5 hby hbz) | fail))
  all_goals (
    go_wp2_with fail
    clear cy5 fy5
    first
    | (clear cz5 fz5; obtain ⟨zz, hzz⟩ : ∃ b, y + 1 = b := ⟨_, rfl⟩
       obtain ⟨w6, hw6⟩ : ∃ V, w5.setCell ⟨y + 1, 0, none⟩ (.slice A5 l.length c5) = V := ⟨_, rfl⟩
       have hz6 : w6.heap[zz]? = some (.cells #[.slice A5 l.length c5] 25 (0, 0)) := by rw [← hw6, ← hzz]; exact one_set HBZ.out
       have hb6 : Below wb.heap.size wb w6 := by rw [← hw6]; exact HB5.out.setCell (show wb.heap.size ≤ y + 1 by omega) _
       have ha6 : Im.Arg w6 A5 l.length c5 l := by
         obtain ⟨A', c', hv, hr⟩ := (HO5.out.setCell (a := ⟨y + 1, 0, none⟩) (show y + 1 < (wb.alloc _).heap.size by simp; omega) (.slice A5 l.length c5)).arg HL3.out.1 HL3.out.2
         injection hv with e1 e2 e3
         subst e1 e3
         rw [← hw6]
         exact hr
       rw [hw6, hzz]
       clear hw6)
    | (obtain ⟨zz, hzz⟩ : ∃ b, w5.heap.size = b := ⟨_, rfl⟩
       obtain ⟨w6, hw6⟩ : ∃ V, w5.alloc (.cells #[.slice A5 l.length c5] 25) = V := ⟨_, rfl⟩
       have hz6 : w6.heap[zz]? = some (.cells #[.slice A5 l.length c5] 25 (0, 0)) := by rw [← hw6, ← hzz]; exact heap_alloc_new _ _
       have hb6 : Below wb.heap.size wb w6 := by rw [← hw6]; exact HB5.out.alloc HB5.out.size _
       have ha6 : Im.Arg w6 A5 l.length c5 l := by rw [← hw6]; exact HA5.out.below ((Below.refl _ _).alloc (Nat.le_refl _) _)
       rw [hw6, hzz]
       clear hw6)
    have hy6 := (hb6.block y (by omega)).trans HYB.out
    have hx6 := (hb6.block x (by have := hb6.size; omega)).trans HXB.out
    have hay6 := HAB.out.below hb6
    have hax6 := HAB3.out.below hb6
    have hb6' : Below w.heap.size w w6 := HBB.out.trans (hb6.mono HBB.out.size)
    obtain ⟨cy6, fy6⟩ := cell_frozen_one hy6
    have hys : y < w6.heap.size := by have := hb6.size; omega
    have hxs : x < w6.heap.size := by have := hb6.size; omega
    have hzs : zz < w6.heap.size := lt_of_block hz6
    have K3 := Lib.hid (KG.out A4 n4 c4 l' D w6.drew hay6)
    rw [HGT.out] at K3
    simp only at K3
    rw [show Cm.b s = T by rw [← HSE.out, Cm.b_of]] at K3
    have HZ6 := Lib.hid hz6
    have HX6 := Lib.hid hx6
    have HAX6 := Lib.hid hax6
    have HAZ6 := Lib.hid ha6
    have HB6 := Lib.hid hb6'
    clear hz6 hx6 hax6 ha6 hb6' hy6 hay6 hb6 ty fy hzz
    go_region_with (first | (go_at_call 13; with_reducible refine (KS.out _).mono ?_; rintro e w7 ⟨rfl, rfl⟩) | (go_at_call 26; refine K3.out.mono ?_; rintro e w7 ⟨rfl, hb7⟩; have hx7 : w7.heap[x]? = _ := (hb7.block x hxs).trans HX6.out; have hz7 : w7.heap[zz]? = _ := (hb7.block zz hzs).trans HZ6.out; obtain ⟨cx7, fx7⟩ := cell_frozen_one hx7; obtain ⟨cz7, fz7⟩ := cell_frozen_one hz7; have HAX7 := Lib.hid (show Im.Arg w7 A3 n3 c3 l from (show Im.Arg w6.drew A3 n3 c3 l from HAX6.out).below hb7); have HAZ7 := Lib.hid (show Im.Arg w7 A5 l.length c5 l from (show Im.Arg w6.drew A5 l.length c5 l from HAZ6.out).below hb7); have HB7 := Lib.hid (show Below w.heap.size w w7 from HB6.out.drew.trans (hb7.mono HB6.out.size)); clear hb7 hx7 hz7) | fail)
    all_goals (
      have hkf : (k == 1) = fst := by rw [← HKF.out]; exact Bool.beq_eq_decide_eq k 1
      go_wp2_with fail
      refine (KM.out _ _ _ _ _ _ _ _ _ HAX7.out HAZ7.out).mono ?_
      rintro e w8 ⟨rfl, hb8⟩
      have HB8 := Lib.hid (HB7.out.trans (hb8.mono HB7.out.size))
      have hdd : decide (l = l) = true := by simp
      clear hb8
      go_wp2_with fail
      go_ret
      exact ⟨rfl, HB8.out⟩))

end Go.Proofs.Ytmdakplaaehmnaa
