/-
  The statements' package's Version and Bytes.
-/
import Derived.Test.YtebkgndcgcdogaaMkD
namespace Go.Proofs.Ytebkgndcgcdogaa
open Go.RowKit
set_option maxHeartbeats 2000000

/-- a version, as Version makes it -/
def Vm.made (num : Int) (l : List Vm.Nm) : Prop := ((num = 0 ∧ l = []) ∨ Vm.chk num l = 0) ∧ l.length ≤ 60
theorem Vm.made_of (k : Int) {cs : List (List UInt8)} (h : Vm.few cs) : Vm.made (Vm.ofV k cs).1 (Vm.ofV k cs).2.1 := by
  have hl := Vm.few_len h
  rcases Vm.ofV_cases k cs with ⟨e, h1, _⟩ | ⟨h1, h2, h3, h4, h5, _⟩
  · rw [h1]; exact ⟨.inl ⟨rfl, rfl⟩, by simp⟩
  · have hc := (Vm.ofV_chk (num := k) (l := cs) (by rw [h1])).1
    rw [h1]; exact ⟨.inr hc, by simpa using hl⟩

theorem NamesOwn.reads {w : World} {B : Nat} {A : Option Addr} {n c : Nat} {l : List Vm.Nm} (h : NamesOwn w B (.slice A n c) l) : NamesIn w A n c l := by
  obtain ⟨A', c', hv, hn⟩ := own_names h
  injection hv with h1 h2 h3
  subst h1 h2 h3
  exact hn

set_option maxRecDepth 100000 in
theorem mkVersion_any (A : Option Addr) (n c : Nat) (z : List Int) (g : Nat) (w0 w : World) (hz : IntsIn .i64 w0 A n c z) (hn : n ≤ 17592186044416) (hd : DeckIn w0 A n c g w) :
    Calls Try.prog 14 #[.pointer (some ⟨g, 0, none⟩)] w fun e w' => ∃ (num : Int) (A' : Option Addr) (n' c' : Nat) (l : List Vm.Nm), e = .returned (.agg #[.int .i64 num, .slice A' n' c']) ∧ NamesIn w' A' n' c' l ∧ Vm.made num l ∧ DeckIn w0 A n c g w' ∧ KeptBut g w w' := by
  have N1 := Lib.hid (fun V h => next_any A n c z g w0 V 9 hz hn h (by decide) (by decide))
  have K1 := Lib.hid (fun V hd => mkChunks_any A n c z g w0 V hz hn hd)
  have HD := Lib.hid hd
  clear hz hd
  go_enter Try.func14, Try.ntmps14
  go_wp2_with fail
  refine (N1.out _ (HD.out.alloc _)).mono ?_
  rintro e w1 ⟨x, rfl, hx, hd1, hs1⟩
  have HD1 := Lib.hid hd1
  have hlt := HD.out.lt
  obtain ⟨B, hB⟩ : ∃ B, w.heap.size = B := ⟨_, rfl⟩
  have hBg : B ≠ g := by omega
  have hrb : VB B 0 (.slice none 0 0) w1 := by
    rw [← hB]
    exact (hs1.2 w.heap.size (by omega)).trans (heap_alloc_new _ _)
  have hk1 : KeptBut g w w1 := ⟨by have := hs1.1; simp at this; omega, fun b hb hg => (hs1.2 b hg).trans (Below.heap_alloc _ _ _ hb)⟩
  have hs1' : B < w1.heap.size := by have := hs1.1; simp at this; omega
  have HK1 := Lib.hid hk1
  have HRB := Lib.hid hrb
  clear hd1 hs1 hk1 hrb
  have x0 : IntKind.i64.wrap (1 + (x : Int)) = 1 + (x : Int) := by rw [IntKind.wrap_i64]; omega
  go_wp2_with fail
  refine (K1.out _ HD1.out).mono ?_
  rintro e w2 ⟨A', n', c', l, rfl, hci, _, hfw, hd2, hk2⟩
  have hln : l.length = n' := by have := hci.1; simpa using this
  have O1 := Lib.hid (fun V h => rof_any' (1 + (x : Int)) A' n' c' l V h (fun y hy => by have := (hfw.2 y hy).2; omega) (by have := Vm.few_len hfw; omega))
  have HMD := Lib.hid (Vm.made_of (1 + (x : Int)) hfw)
  have HCI := Lib.hid hci
  have HD2 := Lib.hid hd2
  have HK2 := Lib.hid (HK1.out.trans hk2)
  have hs2 := hk2.1
  have HRB2 := Lib.hid (show VB B 0 (.slice none 0 0) w2 from (hk2.2 B hs1' hBg).trans HRB.out)
  clear hci hfw hd2 hk2
  obtain ⟨r, hr⟩ : ∃ r, Vm.ofV (1 + (x : Int)) l = r := ⟨_, rfl⟩
  rw [hr] at O1 HMD
  obtain ⟨r0, r1, r2⟩ := r
  clear hr
  go_wp2_with fail
  refine (O1.out _ HCI.out).mono ?_
  rintro e w3 ⟨v, rfl, ho3, hb3⟩
  obtain ⟨hd3, hk3⟩ := HD2.out.kept hb3
  have hr3 := HRB2.out.below hb3 (by omega)
  have hs3 := hb3.size
  have HD3 := Lib.hid hd3
  have HK3 := Lib.hid (HK2.out.trans hk3)
  obtain ⟨A2, c2, rfl, hni⟩ := own_names ho3
  have HO3 := Lib.hid ho3
  have HNI := Lib.hid hni
  have HR3 := Lib.hid hr3
  have t0 := hr3.c0
  have t1 := hr3.c1
  have t2 := hr3.f0
  have t3 := hr3.f1
  have hr4 : VB B 0 (.slice none 0 0) (w3.alloc (.cells #[.int .i64 r0, .slice A2 r1.length c2] 25)) := (Below.heap_alloc _ _ _ (by omega)).trans hr3
  have s0 := hr4.c0
  have s1 := hr4.c1
  have s2 := hr4.f0
  have s3 := hr4.f1
  have hB3 : B < w3.heap.size := by omega
  clear hd3 hk3 hb3 ho3 hni hr3 hr4
  go_wp2_with fail
  have hrz : VB B r0 (.slice A2 r1.length c2) (((w3.setCell ⟨B, 0, none⟩ (.int .i64 r0)).setCell ⟨B, 1, none⟩ (.slice A2 r1.length c2)).alloc (.cells #[.int .i64 r0, .slice A2 r1.length c2] 25)) := by
    refine (Below.heap_alloc _ _ _ (by simp [World.setCell]; omega)).trans ?_
    exact two_set1 (two_set0 HR3.out)
  have z0 := hrz.c0
  have z1 := hrz.c1
  have hkz : KeptBut g w (((w3.setCell ⟨B, 0, none⟩ (.int .i64 r0)).setCell ⟨B, 1, none⟩ (.slice A2 r1.length c2)).alloc (.cells #[.int .i64 r0, .slice A2 r1.length c2] 25)) := by
    refine KeptBut.alloc ⟨by have := HK3.out.1; simpa [World.setCell] using this, fun b hb hg => ?_⟩ _
    rw [Below.heap_setCell _ _ _ _ (by show b ≠ B; omega), Below.heap_setCell _ _ _ _ (by show b ≠ B; omega)]
    exact HK3.out.2 b hb hg
  have hw0 : w0.heap.size ≤ B := by have := HD.out.1.size; omega
  have hdz := ((HD3.out.setCell (a := ⟨B, 0, none⟩) hBg hw0 (.int .i64 r0)).setCell (a := ⟨B, 1, none⟩) hBg hw0 (.slice A2 r1.length c2)).alloc (.cells #[.int .i64 r0, .slice A2 r1.length c2] 25)
  have hnz := (NamesOwn.alloc (NamesOwn.setCell (NamesOwn.setCell HO3.out (a := ⟨B, 0, none⟩) (show B < w2.heap.size by omega) (.int .i64 r0)) (a := ⟨B, 1, none⟩) (show B < w2.heap.size by omega) (.slice A2 r1.length c2)) (.cells #[.int .i64 r0, .slice A2 r1.length c2] 25)).reads
  generalize ((w3.setCell ⟨B, 0, none⟩ (.int .i64 r0)).setCell ⟨B, 1, none⟩ (.slice A2 r1.length c2)).alloc (.cells #[.int .i64 r0, .slice A2 r1.length c2] 25) = wz at *
  exact bodyPost_ret (v := .agg #[.int .i64 r0, .slice A2 r1.length c2]) (by simp [results, Try.results14, go_sem, z0, z1]) rfl ⟨r0, A2, _, c2, r1, rfl, hnz, HMD.out, hdz, hkz⟩

set_option maxRecDepth 100000 in
/-- a text of at least one byte -/
theorem mkBytes_any (A : Option Addr) (n c : Nat) (z : List Int) (g : Nat) (w0 w : World) (m : Nat) (hz : IntsIn .i64 w0 A n c z) (hn : n ≤ 17592186044416) (hd : DeckIn w0 A n c g w) (hm : 1 ≤ m) (hm2 : m ≤ 100000) :
    Calls Try.prog 36 #[.pointer (some ⟨g, 0, none⟩), .int .i64 (m : Nat)] w fun e w' => ∃ T : ByteArray, e = .returned (.string T) ∧ 1 ≤ T.size ∧ T.size ≤ m ∧ DeckIn w0 A n c g w' ∧ KeptBut g w w' := by
  obtain ⟨i0, hi, hz0, hz1, hz2⟩ := info_parts info_u8
  have hw0 : w0.heap.size ≤ w.heap.size := hd.1.size
  have N1 := Lib.hid (fun W m h m0 m1 => next_any A n c z g w0 W m hz hn h m0 m1)
  clear hz
  go_enter Try.func36, Try.ntmps36
  go_wp2_with fail
  refine (N1.out _ _ hd (by omega) (by omega)).mono ?_
  rintro e w1 ⟨x, rfl, hx, hd1, hs1⟩
  have hk1 : KeptBut g w w1 := ⟨by rw [hs1.1]; exact Nat.le_refl _, fun b _ hg => hs1.2 b hg⟩
  have HK1 := Lib.hid hk1
  clear hk1 hs1
  have HD1 := Lib.hid hd1
  clear hd1 hd
  go_wp2_with fail
  go_loopw [5, 6] (fun v k wr => ∃ (bs : List UInt8) (j : Nat), k = .int .i64 ((j : Int) - 1) ∧ bs.length + j ≤ m ∧ 1 ≤ bs.length + j ∧ wr.ownsRow w.heap.size 5 1 v bs.length (bs.map Wm.u8) ∧ DeckIn w0 A n c g wr ∧ KeptBut g w wr) (fun v k wr => (intOf k + 1).toNat)
  case atStart => exact ⟨[], x + 1, by congr 1; omega, by simp; omega, by simp, World.ownsRow_nil _ _ _ _, HD1.out, HK1.out⟩
  case round =>
    obtain ⟨bs, j, rfl, hj, hj1, hrow, hdr, hkr⟩ := hrel
    have HK := Lib.hid hkr
    have hszw := hkr.1
    clear hkr
    have HD := Lib.hid hdr
    have hsz := hdr.1.size
    obtain ⟨_, _, kk, _, hh⟩ := hdr
    have hne := Lib.ownBlock_ne hrow hh (by decide)
    obtain ⟨L, hL⟩ : ∃ L, bs.length = L := ⟨_, rfl⟩
    have HL := Lib.hid hL
    rw [hL] at hj hj1 hrow
    clear hh hL
    by_cases h0 : 0 < j
    · have d0 : decide ((0 : Int) ≤ (j : Int) - 1) = true := by simp; omega
      have HR := Lib.hid hrow
      have HNE := Lib.hid hne
      clear hrow hne
      go_wp2_with fail
      refine (N1.out _ _ HD.out (by omega) (by omega)).mono ?_
      rintro e w2 ⟨q, rfl, hq2, hd2, hsb⟩
      have hqb : Wm.u8 (UInt8.ofNat q) = .int .u8 (q : Nat) := by
        have : (UInt8.ofNat q).toNat = q := by simp [UInt8.toNat_ofNat']; omega
        unfold Wm.u8; rw [this]
      have hrow2 := hsb.own HR.out HNE.out
      obtain ⟨hb2, hg2, k2, hk2, hh2⟩ := hd2
      have hsz2 := hb2.size
      have hkk : KeptBut g w w2 := HK.out.trans ⟨by rw [hsb.1]; exact Nat.le_refl _, fun b _ hg => hsb.2 b hg⟩
      have HKK := Lib.hid hkk
      have hszw2 := hkk.1
      clear hkk
      have HB2 := Lib.hid hb2
      have HH2 := Lib.hid hh2
      have HQB := Lib.hid hqb
      clear hqb hsb hb2 hh2
      go_wp2_with (at_builtin; refine wpList_append_own _ rfl _ _ 51 rfl w.heap.size 5 i0 (.int .u8 0) 1 1 Try.underlying51 hi hz0 hz1 hz2 rfl (by decide) _ _ _ rfl (hrow2.alloc _) ⟨w2.heap.size, 0, none⟩ 1 1 [.int .u8 (q : Nat)] rfl rfl (cell_one_new _ _ _) (by simp [Value.oneCell']) (by unfold maxLen; omega) (by omega) (by simp; omega) ?_; intro v' w3 hown' hgrow _; have HO := Lib.hid hown'; have HG := Lib.hid hgrow; clear hown' hgrow)
      have hgl := lt_of_block HH2.out
      have hw3 : DeckIn w0 A n c g w3 := ⟨grown_below HG.out HB2.out hsz2 (fun b hb => Nat.le_trans hw0 (hrow2.lt b hb).1), hg2, k2, hk2, (HG.out.block g (by simp <;> omega) (fun e => HNE.out e.symm)).trans ((Below.heap_alloc _ _ _ hgl).trans HH2.out)⟩
      have HW3 := Lib.hid hw3
      have hk3 : KeptBut g w w3 := ⟨Nat.le_trans hszw2 (by have := HG.out.size; simp at this; omega), fun b hb hg => ((HG.out.block b (by simp; omega) (fun e => by have := (hrow2.lt b e.symm).1; omega)).trans (Below.heap_alloc _ _ _ (by omega))).trans (HKK.out.2 b hb hg)⟩
      have HK3 := Lib.hid hk3
      clear hk3
      clear hw3 hrow2
      go_roundw
      case rel =>
        refine ⟨bs ++ [UInt8.ofNat q], j - 1, by congr 1; omega, by rw [List.length_append, HL.out]; simp; omega, by rw [List.length_append, HL.out]; simp; omega, ?_, HW3.out, HK3.out⟩
        rw [List.length_append, HL.out, List.map_append, List.map_singleton, HQB.out]
        exact HO.out
      case measure => simp [intOf]; omega
    · obtain rfl : j = 0 := by omega
      have d0 : decide ((0 : Int) ≤ ((0 : Nat) : Int) - 1) = false := by decide
      have hc := Wm.conv_own hrow
      clear hrow hne
      go_wp2
      go_ret
      exact ⟨⟨bs.toArray⟩, rfl, by show 1 ≤ bs.toArray.size; simp; have := HL.out; omega, by show bs.toArray.size ≤ m; simp; have := HL.out; omega, HD.out, HK.out⟩

end Go.Proofs.Ytebkgndcgcdogaa
