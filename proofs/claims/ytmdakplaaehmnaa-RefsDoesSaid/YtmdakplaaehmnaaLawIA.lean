/-
  The statements about refs: sane, small.
-/
import Derived.Test.YtmdakplaaehmnaaIs
import Derived.Test.YtmdakplaaehmnaaDigA
import Derived.Test.YtmdakplaaehmnaaIf
import Derived.Test.YtmdakplaaehmnaaMkI
import Derived.Deep.RegionWith
namespace Go.Proofs.Ytmdakplaaehmnaa
open Go.RowKit
set_option maxHeartbeats 2000000

set_option maxRecDepth 100000 in
theorem saneI_any (H : RefsSays) (w : World) : Calls Try.prog 8 #[] w fun e w' => e = .returned (.bool true) ∧ Below w.heap.size w w' := by
  obtain ⟨S, hS⟩ : ∃ S : ByteArray, S = { data := #[120] } := ⟨_, rfl⟩
  have hSl : S.data.toList = [120] := by rw [hS]
  have hSs : S.size = 1 := by rw [hS]; rfl
  obtain ⟨D, hD⟩ : ∃ D, Dm.sum [120] = D := ⟨_, rfl⟩
  have KS := Lib.hid (fun V => sum_any S V (by rw [hSs]; unfold maxLen; omega))
  rw [hSl, hD] at KS
  have K1 := Lib.hid (H.add none 0 0 [] S w (.nil w) (by omega))
  rw [hSl, Im.add_nil (by simp)] at K1
  have K2 := Lib.hid (fun A n c V (h : Im.Arg V A n c (Im.one 1 [120])) => H.add A n c _ S V h (by omega))
  rw [hSl, Im.add_one (by simp) (by omega) (by omega), show (1 : Int) + 1 = 2 from rfl] at K2
  have K3 := Lib.hid (fun A n c V (h : Im.Arg V A n c (Im.one 2 [120])) => H.drop A n c _ (Dm.sum [120]) V h)
  rw [Im.drop_one (by simp) (by omega) (by omega), hD, show (2 : Int) - 1 = 1 from rfl] at K3
  have K4 := Lib.hid (fun A n c V (h : Im.Arg V A n c (Im.one 1 [120])) => H.get A n c _ (Dm.sum [120]) V h)
  rw [Im.get_one (by simp) (by omega) (by omega), hD] at K4
  have HO := Lib.hid (fun k => (⟨by simp [Im.one], fun x hx => by simp only [Im.one, List.mem_singleton] at hx; subst hx; simp⟩ : (Im.one k [120]).length ≤ 4096 ∧ ∀ x ∈ Im.one k [120], x.2.2.length ≤ 100000))
  rw [hS] at KS K1 K2
  clear H hSl hSs hD hS
  go_enter Try.func8, Try.ntmps8
  go_wp2_with fail
  refine K1.out.mono ?_
  rintro e w1 ⟨v1, rfl, ho1, hb1⟩
  obtain ⟨A1, c1, rfl, ha1⟩ := ho1.arg (HO.out _).1 (HO.out _).2
  have HB1 := Lib.hid hb1
  have HA1 := Lib.hid ha1
  obtain ⟨b, hb⟩ : ∃ b, w1.heap.size = b := ⟨_, rfl⟩
  obtain ⟨n1, hn1⟩ : ∃ n, (Im.one 1 [120]).length = n := ⟨_, rfl⟩
  rw [hn1] at ha1
  rw [hn1]
  obtain ⟨wa, hwa⟩ : ∃ V, w1.alloc (.cells #[.slice A1 n1 c1] 25) = V := ⟨_, rfl⟩
  have hba : Below w.heap.size w wa := by rw [← hwa]; exact hb1.alloc hb1.size _
  have haa : Im.Arg wa A1 n1 c1 (Im.one 1 [120]) := by rw [← hwa]; exact ha1.below ((Below.refl _ _).alloc (Nat.le_refl _) _)
  have hxa : wa.heap[b]? = some (.cells #[.slice A1 n1 c1] 25 (0, 0)) := by rw [← hwa, ← hb]; exact heap_alloc_new _ _
  have hsa : wa.heap.size = b + 1 := by rw [← hwa]; simp [hb]
  have hwb0 : w.heap.size ≤ b := by rw [← hb]; exact hb1.size
  have HWA := Lib.hid hwa
  have HBA := Lib.hid hba
  have HAA := Lib.hid haa
  have HXA := Lib.hid hxa
  clear hb1 ho1 ha1 hwa hba haa hxa hn1
  go_wp2_with fail
  rw [HWA.out]
  refine (K2.out _ _ _ _ HAA.out).mono ?_
  rintro e w2 ⟨v2, rfl, ho2, hb2⟩
  obtain ⟨A2, c2, rfl, ha2⟩ := ho2.arg (HO.out _).1 (HO.out _).2
  have hx2 := (hb2.block b (by omega)).trans HXA.out
  obtain ⟨t2, f2⟩ := cell_frozen_one hx2
  have hs2 := hb2.size
  obtain ⟨n2, hn2⟩ : ∃ n, (Im.one 2 [120]).length = n := ⟨_, rfl⟩
  rw [hn2] at ha2
  rw [hn2]
  obtain ⟨wb, hwb⟩ : ∃ V, w2.setCell ⟨b, 0, none⟩ (.slice A2 n2 c2) = V := ⟨_, rfl⟩
  have HWB := Lib.hid hwb
  have hxb : wb.heap[b]? = some (.cells #[.slice A2 n2 c2] 25 (0, 0)) := by rw [← hwb]; exact one_set hx2
  have hab : Im.Arg wb A2 n2 c2 (Im.one 2 [120]) := by
    obtain ⟨A', c', hv, hr⟩ := (ho2.setCell (a := ⟨b, 0, none⟩) (show b < wa.heap.size by omega) (.slice A2 n2 c2)).arg (HO.out _).1 (HO.out _).2
    injection hv with e1 e2 e3
    subst e1 e3
    rw [← hwb, ← hn2]
    rw [← hn2] at hr
    exact hr
  have hbb : Below w.heap.size w wb := by rw [← hwb]; exact (HBA.out.trans (hb2.mono (by omega))).setCell hwb0 _
  obtain ⟨tb, fb⟩ := cell_frozen_one hxb
  have hsb : wb.heap.size = w2.heap.size := by rw [← hwb]; simp [World.setCell]
  have HABD := Lib.hid (show Im.Arg wb.drew A2 n2 c2 (Im.one 2 [120]) from hab)
  have HBB := Lib.hid hbb
  have HXB := Lib.hid hxb
  clear hb2 hx2 ha2 ho2 hwb hxb hab hbb hn2
  go_wp2_with fail
  rw [HWB.out]
  clear t2 f2
  go_region_with (first | (go_at_call 13; with_reducible refine (KS.out _).mono ?_; rintro e w3 ⟨rfl, rfl⟩) | (go_at_call 24; refine (K3.out _ _ _ _ HABD.out).mono ?_; rintro e w3 ⟨v3, rfl, ho3, hb3⟩; obtain ⟨A3, c3, rfl, ha3⟩ := ho3.arg (HO.out _).1 (HO.out _).2; have hx3 : w3.heap[b]? = some (.cells #[.slice A2 n2 c2] 25 (0, 0)) := (hb3.block b (show b < wb.heap.size by omega)).trans HXB.out; obtain ⟨t3, f3⟩ := cell_frozen_one hx3; have HX3 := Lib.hid hx3; have HO3 := Lib.hid ho3; have HA3 := Lib.hid ha3; have HB3 := Lib.hid (show Below wb.heap.size wb w3 from (Below.refl _ _).drew.trans hb3); clear hx3 ho3 ha3 hb3) | fail)
  all_goals (
    go_wp2_with fail
    obtain ⟨wc, hwc⟩ : ∃ V, w3.setCell ⟨b, 0, none⟩ (.slice A3 (Im.one 1 [120]).length c3) = V := ⟨_, rfl⟩
    have HWC := Lib.hid hwc
    have hxc : wc.heap[b]? = some (.cells #[.slice A3 (Im.one 1 [120]).length c3] 25 (0, 0)) := by rw [← hwc]; exact one_set HX3.out
    have hac : Im.Arg wc A3 (Im.one 1 [120]).length c3 (Im.one 1 [120]) := by
      obtain ⟨A', c', hv, hr⟩ := (HO3.out.setCell (a := ⟨b, 0, none⟩) (show b < wb.heap.size by omega) (.slice A3 (Im.one 1 [120]).length c3)).arg (HO.out _).1 (HO.out _).2
      injection hv with e1 e2 e3
      subst e1 e3
      rw [← hwc]
      exact hr
    have hbc : Below w.heap.size w wc := by rw [← hwc]; exact (HBB.out.trans (HB3.out.mono (by have := HBB.out.size; omega))).setCell hwb0 _
    obtain ⟨tc, fc⟩ := cell_frozen_one hxc
    have HACD := Lib.hid (show Im.Arg wc.drew A3 (Im.one 1 [120]).length c3 (Im.one 1 [120]) from hac)
    have HBC := Lib.hid hbc
    rw [hwc]
    clear hwc hxc hac hbc t3 f3 tb fb
    generalize (Im.one 1 [120]).length = n3 at *
    go_region_with (first | (go_at_call 13; with_reducible refine (KS.out _).mono ?_; rintro e w4 ⟨rfl, rfl⟩) | (go_at_call 26; refine (K4.out _ _ _ _ HACD.out).mono ?_; rintro e w4 ⟨rfl, hb4⟩; have HB4 := Lib.hid (show Below wc.heap.size wc w4 from (Below.refl _ _).drew.trans hb4); clear hb4) | fail)
    all_goals (
      go_wp2_with fail
      go_ret
      exact ⟨rfl, HBC.out.trans (HB4.out.mono HBC.out.size)⟩))

end Go.Proofs.Ytmdakplaaehmnaa
