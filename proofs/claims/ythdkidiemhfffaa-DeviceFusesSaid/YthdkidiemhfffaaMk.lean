/-
  Contracts of the statements' package's Few, New, Next, Text, Cutting.
-/
import Derived.Test.YthdkidiemhfffaaMod
import Derived.Test.YthdkidiemhfffaaClone
import Derived.Test.YthdkidiemhfffaaKit2
import Derived.Lib.Builder
namespace Go.Proofs.Ythdkidiemhfffaa
open Go.RowKit
set_option maxHeartbeats 1000000

theorem few_any (A : Option Addr) (n c : Nat) (w : World) (_ : n ≤ 140737488355328) :
    Calls Try.prog 7 #[.slice A n c] w fun e w' => e = .returned (.bool (decide ((n : Int) ≤ 500))) ∧ w = w' := by
  go_enter Try.func7, Try.ntmps7
  go_wp2
  go_ret
  exact ⟨rfl, rfl⟩

/-- a deck in block g, over the list (A, n, c) that came in at w0 -/
def DeckIn (w0 : World) (A : Option Addr) (n c : Nat) (g : Nat) (w : World) : Prop :=
  Below w0.heap.size w0 w ∧ w0.heap.size ≤ g ∧ ∃ k : Nat, k ≤ n ∧ w.heap[g]? = some (.cells #[.slice A n c, .int .i64 (k : Nat)] 51 (0, 0))
/-- but for block g nothing has turned -/
def SameBut (g : Nat) (w w' : World) : Prop := w'.heap.size = w.heap.size ∧ ∀ b, b ≠ g → w'.heap[b]? = w.heap[b]?
theorem SameBut.refl (g : Nat) (w : World) : SameBut g w w := ⟨rfl, fun _ _ => rfl⟩
theorem SameBut.trans {g : Nat} {a b c : World} (h : SameBut g a b) (k : SameBut g b c) : SameBut g a c := ⟨k.1.trans h.1, fun x hx => (k.2 x hx).trans (h.2 x hx)⟩
theorem SameBut.own {g : Nat} {w w' : World} (h : SameBut g w w') {B : Nat} {e : TypeId} {size : Nat} {v : Value} {n : Nat} {xs : List Value} (ho : w.ownsRow B e size v n xs) (hne : v.ownBlock ≠ some g) : w'.ownsRow B e size v n xs := by
  refine ⟨ho.1, ho.2.imp id ?_⟩
  rintro ⟨b, cap, cur, rfl, hB, hg, r⟩
  exact ⟨b, cap, cur, rfl, hB, (h.2 b (fun e => hne (by rw [e]; rfl))).trans hg, r⟩
theorem SameBut.cell {g : Nat} {w w' : World} (h : SameBut g w w') {p : Addr} (hp : p.block ≠ g) : w'.cell? p = w.cell? p := by
  unfold World.cell?; rw [h.2 p.block hp]

/-- but for block g what was there has not turned -/
def KeptBut (g : Nat) (w w' : World) : Prop := w.heap.size ≤ w'.heap.size ∧ ∀ b, b < w.heap.size → b ≠ g → w'.heap[b]? = w.heap[b]?
theorem KeptBut.trans {g : Nat} {a b c : World} (h : KeptBut g a b) (k : KeptBut g b c) : KeptBut g a c :=
  ⟨Nat.le_trans h.1 k.1, fun x hx hg => (k.2 x (Nat.lt_of_lt_of_le hx h.1) hg).trans (h.2 x hx hg)⟩
theorem KeptBut.cell {g : Nat} {w w' : World} (h : KeptBut g w w') {p : Addr} (hp : p.block < w.heap.size) (hg : p.block ≠ g) : w'.cell? p = w.cell? p := by
  unfold World.cell?; rw [h.2 p.block hp hg]
theorem new_any (A : Option Addr) (n c : Nat) (w0 w : World) (hb : Below w0.heap.size w0 w) :
    Calls Try.prog 9 #[.slice A n c] w fun e w' => e = .returned (.pointer (some ⟨w.heap.size, 0, none⟩)) ∧ DeckIn w0 A n c w.heap.size w' ∧ Below w.heap.size w w' := by
  go_enter Try.func9, Try.ntmps9
  go_wp2
  go_ret
  exact ⟨rfl, ⟨hb.alloc hb.size _, hb.size, 0, Nat.zero_le _, heap_alloc_new _ _⟩, (Below.refl _ _).alloc (Nat.le_refl _) _⟩

set_option maxRecDepth 100000 in
theorem next_any (A : Option Addr) (n c : Nat) (z : List Int) (g : Nat) (w0 w : World) (m : Int) (hz : IntsIn .i64 w0 A n c z) (hn : n ≤ 17592186044416) (hd : DeckIn w0 A n c g w) (m0 : 1 ≤ m) (m1 : m ≤ 4611686018427387903) :
    Calls Try.prog 13 #[.pointer (some ⟨g, 0, none⟩), .int .i64 m] w fun e w' => ∃ x : Nat, e = .returned (.int .i64 (x : Nat)) ∧ (x : Int) < m ∧ DeckIn w0 A n c g w' ∧ SameBut g w w' := by
  obtain ⟨hb, hg, k, hk, hh⟩ := hd
  have c0 : w.cell? ⟨g, 0, none⟩ = some (.slice A n c) := by simp [World.cell?, hh]
  have c1 : w.cell? ⟨g, 1, none⟩ = some (.int .i64 (k : Nat)) := by simp [World.cell?, hh]
  have f1 : w.frozen? ⟨g, 1, none⟩ = false := by simp [World.frozen?, hh]
  have d1 : decide (m < 1) = false := by simp; omega
  have HB := Lib.hid hb
  have HH := Lib.hid hh
  have HZ := Lib.hid hz
  clear hb hh hz
  by_cases hlt : k < n
  · obtain ⟨b, o, rfl, hbl, hzl, hc⟩ := HZ.out.at hlt
    have hc2 := (HB.out.cell (p := ⟨b, o + k, none⟩) hbl).trans hc
    have hbd := bd_i64 (HZ.out.2.2.1 _ (List.getElem_mem hzl))
    obtain ⟨y, hy⟩ : ∃ y, z[k] = y := ⟨_, rfl⟩
    rw [hy] at hc2 hbd
    obtain ⟨x, hx⟩ : ∃ x : Nat, y % m = (x : Int) := ⟨(y % m).toNat, by have := Int.emod_nonneg y (show m ≠ 0 by omega); omega⟩
    have hxm : (x : Int) < m := by rw [← hx]; exact Int.emod_lt_of_pos y (by omega)
    have M1 := Lib.hid (fun W => hx ▸ mkMod_any y m W hbd.1 hbd.2 m0 m1)
    have d2 : decide ((n : Int) ≤ (k : Int)) = false := by simp; omega
    have i0 : (0 : Int) ≤ (k : Int) := by omega
    have i1 : (k : Int) < (n : Int) := by omega
    clear hc hy hx hbd hzl hbl
    go_enter Try.func13, Try.ntmps13
    go_wp2_with fail
    go_quiet (fail)
    go_wp2_with fail
    go_quiet (fail)
    go_wp2_with fail
    refine (M1.out _).mono ?_
    rintro e w' ⟨rfl, rfl⟩
    go_wp2
    go_ret
    have e1 : ∀ W : World, W.heap = w.heap → W.os = w.os → W.tape = w.tape → W.output = w.output → DeckIn w0 (some ⟨b, o, none⟩) n c g (W.setCell ⟨g, 1, none⟩ (.int .i64 ((k : Int) + 1))) ∧ SameBut g w (W.setCell ⟨g, 1, none⟩ (.int .i64 ((k : Int) + 1))) := fun W h1 h2 h3 h4 =>
      ⟨⟨(HB.out.trans ⟨h2, h3, h4, by rw [h1]; exact Nat.le_refl _, fun j _ => by rw [h1]⟩).setCell hg _, hg, k + 1, by omega, by
        have h : W.heap[g]? = some (.cells #[.slice (some ⟨b, o, none⟩) n c, .int .i64 (k : Nat)] 51 (0, 0)) := by rw [h1]; exact HH.out
        simp [World.setCell, Array.getElem?_modify, h]⟩, ⟨by simp [World.setCell, h1], fun j hj => by rw [Below.heap_setCell _ _ _ _ hj, h1]⟩⟩
    exact ⟨x, rfl, hxm, e1 _ rfl rfl rfl rfl⟩
  · obtain rfl : k = n := by omega
    have d2 : decide ((k : Int) ≤ (k : Int)) = true := by simp
    go_enter Try.func13, Try.ntmps13
    go_wp2_with fail
    go_quiet (fail)
    go_wp2_with fail
    go_ret
    exact ⟨0, rfl, by omega, ⟨HB.out.trans ⟨rfl, rfl, rfl, Nat.le_refl _, fun _ _ => rfl⟩, hg, k, Nat.le_refl _, HH.out⟩, rfl, fun _ _ => rfl⟩

/-- a text of at most some bytes, whichever -/
theorem text_any' (A : Option Addr) (n c : Nat) (z : List Int) (g : Nat) (w0 w : World) (m : Nat) (hz : IntsIn .i64 w0 A n c z) (hn : n ≤ 17592186044416) (hd : DeckIn w0 A n c g w) (hm : m ≤ 100000) :
    Calls Try.prog 31 #[.pointer (some ⟨g, 0, none⟩), .int .i64 (m : Nat)] w fun e w' => ∃ T : ByteArray, e = .returned (.string T) ∧ T.size ≤ m ∧ DeckIn w0 A n c g w' ∧ KeptBut g w w' := by
  obtain ⟨i0, hi, hz0, hz1, hz2⟩ := info_parts info_u8
  have hw0 : w0.heap.size ≤ w.heap.size := hd.1.size
  have N1 := Lib.hid (fun W m h m0 m1 => next_any A n c z g w0 W m hz hn h m0 m1)
  clear hz
  go_enter Try.func31, Try.ntmps31
  go_wp2_with fail
  refine (N1.out _ _ hd (by omega) (by omega)).mono ?_
  rintro e w1 ⟨x, rfl, hx, hd1, hs1⟩
  have hk1 : KeptBut g w w1 := ⟨by rw [hs1.1]; exact Nat.le_refl _, fun b _ hg => hs1.2 b hg⟩
  have HK1 := Lib.hid hk1
  clear hk1 hs1
  have HD1 := Lib.hid hd1
  clear hd1 hd
  go_wp2_with fail
  go_loopw [5, 6] (fun v k wr => ∃ (bs : List UInt8) (j : Nat), k = .int .i64 (j : Nat) ∧ bs.length + j ≤ m ∧ wr.ownsRow w.heap.size 5 1 v bs.length (bs.map Wm.u8) ∧ DeckIn w0 A n c g wr ∧ KeptBut g w wr) (fun v k wr => (intOf k).toNat)
  case atStart => exact ⟨[], x, rfl, by simp; omega, World.ownsRow_nil _ _ _ _, HD1.out, HK1.out⟩
  case round =>
    obtain ⟨bs, j, rfl, hj, hrow, hdr, hkr⟩ := hrel
    have HK := Lib.hid hkr
    have hszw := hkr.1
    clear hkr
    have HD := Lib.hid hdr
    have hsz := hdr.1.size
    obtain ⟨_, _, kk, _, hh⟩ := hdr
    have hne := Lib.ownBlock_ne hrow hh (by decide)
    obtain ⟨L, hL⟩ : ∃ L, bs.length = L := ⟨_, rfl⟩
    have HL := Lib.hid hL
    rw [hL] at hj hrow
    clear hh hL
    by_cases h0 : 0 < j
    · have HR := Lib.hid hrow
      have HNE := Lib.hid hne
      clear hrow hne
      go_wp2_with fail
      refine (N1.out _ _ HD.out (by omega) (by omega)).mono ?_
      rintro e w2 ⟨y, rfl, hy, hd2, hsb⟩
      obtain ⟨q, hq⟩ : ∃ q, y * 51 = q := ⟨_, rfl⟩
      have hq1 : (y : Int) * 51 = (q : Int) := by omega
      have hq2 : q ≤ 204 := by omega
      have hqb : Wm.u8 (UInt8.ofNat q) = .int .u8 (q : Nat) := by
        have : (UInt8.ofNat q).toNat = q := by simp [UInt8.toNat_ofNat']; omega
        unfold Wm.u8; rw [this]
      have hrow2 := hsb.own HR.out HNE.out
      obtain ⟨hb2, hg2, k2, hk2, hh2⟩ := hd2
      have hsz2 := hb2.size
      have hkk : KeptBut g w w2 := HK.out.trans ⟨by rw [hsb.1]; exact Nat.le_refl _, fun b _ hg => hsb.2 b hg⟩
      have HKK := Lib.hid hkk
      have hszw2 := hkk.1
      clear hkk
      have HB2 := Lib.hid hb2
      have HH2 := Lib.hid hh2
      have HQB := Lib.hid hqb
      clear hq hqb hsb hb2 hh2
      go_wp2_with (at_builtin; refine wpList_append_own _ rfl _ _ 64 rfl w.heap.size 5 i0 (.int .u8 0) 1 1 Try.underlying64 hi hz0 hz1 hz2 rfl (by decide) _ _ _ rfl (hrow2.alloc _) ⟨w2.heap.size, 0, none⟩ 1 1 [.int .u8 (q : Nat)] rfl rfl (cell_one_new _ _ _) (by simp [Value.oneCell']) (by unfold maxLen; omega) (by omega) (by simp; omega) ?_; intro v' w3 hown' hgrow _; have HO := Lib.hid hown'; have HG := Lib.hid hgrow; clear hown' hgrow)
      have hgl := lt_of_block HH2.out
      have hw3 : DeckIn w0 A n c g w3 := ⟨grown_below HG.out HB2.out hsz2 (fun b hb => Nat.le_trans hw0 (hrow2.lt b hb).1), hg2, k2, hk2, (HG.out.block g (by simp <;> omega) (fun e => HNE.out e.symm)).trans ((Below.heap_alloc _ _ _ hgl).trans HH2.out)⟩
      have HW3 := Lib.hid hw3
      have hk3 : KeptBut g w w3 := ⟨Nat.le_trans hszw2 (by have := HG.out.size; simp at this; omega), fun b hb hg => ((HG.out.block b (by simp; omega) (fun e => by have := (hrow2.lt b e.symm).1; omega)).trans (Below.heap_alloc _ _ _ (by omega))).trans (HKK.out.2 b hb hg)⟩
      have HK3 := Lib.hid hk3
      clear hk3
      clear hw3 hrow2
      go_roundw
      case rel =>
        refine ⟨bs ++ [UInt8.ofNat q], j - 1, by go_num, by rw [List.length_append, HL.out]; simp; omega, ?_, HW3.out, HK3.out⟩
        rw [List.length_append, HL.out, List.map_append, List.map_singleton, HQB.out]
        exact HO.out
      case measure => simp [intOf]; omega
    · obtain rfl : j = 0 := by omega
      have hc := Wm.conv_own hrow
      clear hrow hne
      go_wp2
      go_ret
      exact ⟨⟨bs.toArray⟩, rfl, by show bs.toArray.size ≤ m; simp; have := HL.out; omega, HD.out, HK.out⟩

theorem mkText_any (A : Option Addr) (n c : Nat) (z : List Int) (g : Nat) (w0 w : World) (m : Int) (hz : IntsIn .i64 w0 A n c z) (hn : n ≤ 17592186044416) (hd : DeckIn w0 A n c g w) (h0 : 0 ≤ m) (hm : m ≤ 100000) :
    Calls Try.prog 31 #[.pointer (some ⟨g, 0, none⟩), .int .i64 m] w fun e w' => ∃ T : ByteArray, e = .returned (.string T) ∧ T.size ≤ m.toNat ∧ DeckIn w0 A n c g w' ∧ KeptBut g w w' := by
  obtain ⟨k, rfl⟩ := Int.eq_ofNat_of_zero_le h0
  exact text_any' A n c z g w0 w k hz hn hd (by omega)

set_option maxRecDepth 100000 in
theorem more_any (A : Option Addr) (n c g k : Nat) (w : World) (hh : w.heap[g]? = some (.cells #[.slice A n c, .int .i64 (k : Nat)] 51 (0, 0))) :
    Calls Try.prog 30 #[.pointer (some ⟨g, 0, none⟩)] w fun e w' => e = .returned (.bool (decide (k < n))) ∧ w' = w.drew := by
  have c0 : w.cell? ⟨g, 0, none⟩ = some (.slice A n c) := by simp [World.cell?, hh]
  have c1 : w.cell? ⟨g, 1, none⟩ = some (.int .i64 (k : Nat)) := by simp [World.cell?, hh]
  clear hh
  go_enter Try.func30, Try.ntmps30
  go_wp2
  go_region
  all_goals go_wp2
  all_goals go_ret
  all_goals exact ⟨rfl, rfl⟩

end Go.Proofs.Ythdkidiemhfffaa
