/-
  The statements' package's Index: an index of short texts.
-/
import Derived.Test.YtmdakplaaehmnaaMk
import Derived.Test.YtmdakplaaehmnaaIg
import Derived.Test.YtmdakplaaehmnaaIn
import Derived.Deep.RegionHeld3
import Derived.Deep.RegionWith
namespace Go.Proofs.Ytmdakplaaehmnaa
open Go.RowKit
set_option maxHeartbeats 2000000

theorem DeckIn.drew {w0 w : World} {A : Option Addr} {n c g : Nat} (h : DeckIn w0 A n c g w) : DeckIn w0 A n c g w.drew := ⟨h.1.drew, h.2.1, h.2.2⟩
theorem DeckIn.lt {w0 w : World} {A : Option Addr} {n c g : Nat} (h : DeckIn w0 A n c g w) : g < w.heap.size := by
  obtain ⟨_, _, _, _, h⟩ := h; exact lt_of_block h
theorem DeckIn.alloc {w0 w : World} {A : Option Addr} {n c g : Nat} (h : DeckIn w0 A n c g w) (o : Obj) : DeckIn w0 A n c g (w.alloc o) := by
  have hl := h.lt
  obtain ⟨h1, h2, k, hk, h3⟩ := h
  exact ⟨h1.alloc h1.size _, h2, k, hk, (Below.heap_alloc _ _ _ hl).trans h3⟩
theorem DeckIn.setCell {w0 w : World} {A : Option Addr} {n c g : Nat} (h : DeckIn w0 A n c g w) {a : Addr} (ha : a.block ≠ g) (hb : w0.heap.size ≤ a.block) (v : Value) : DeckIn w0 A n c g (w.setCell a v) := by
  obtain ⟨h1, h2, k, hk, h3⟩ := h
  exact ⟨h1.setCell hb _, h2, k, hk, (Below.heap_setCell _ _ _ _ (fun e => ha e.symm)).trans h3⟩

theorem DeckIn.kept {w0 w w' : World} {A : Option Addr} {n c g : Nat} (h : DeckIn w0 A n c g w) (hb : Below w.heap.size w w') : DeckIn w0 A n c g w' ∧ KeptBut g w w' := by
  have hl := h.lt
  obtain ⟨h1, h2, k, hk, h3⟩ := h
  exact ⟨⟨h1.trans (hb.mono h1.size), h2, k, hk, (hb.block g hl).trans h3⟩, hb.size, fun b hb' _ => hb.block b hb'⟩
theorem SameBut.kept {g : Nat} {w w' : World} (h : SameBut g w w') : KeptBut g w w' := ⟨by rw [h.1]; exact Nat.le_refl _, fun b _ hg => h.2 b hg⟩
theorem KeptBut.alloc {g : Nat} {w w' : World} (h : KeptBut g w w') (o : Obj) : KeptBut g w (w'.alloc o) := ⟨by have := h.1; simp; omega, fun b hb hg => (Below.heap_alloc _ _ _ (Nat.lt_of_lt_of_le hb h.1)).trans (h.2 b hb hg)⟩


theorem RowsIn.kept {w w' w0 : World} {A A0 : Option Addr} {n c n0 c0 g : Nat} {l : List Im.Rw} (h : RowsIn w A n c l) (hd : DeckIn w0 A0 n0 c0 g w) (hk : KeptBut g w w') : RowsIn w' A n c l := by
  obtain ⟨h1, h2, h3⟩ := h
  refine ⟨h1, h2, fun hn => ?_⟩
  obtain ⟨b, o, hA, hb, hc⟩ := h3 hn
  obtain ⟨_, _, k, _, hg⟩ := hd
  have hne : b ≠ g := fun e => by
    subst e
    obtain ⟨c1, c2, c3⟩ := hc 0 (by omega)
    rw [Nat.zero_mul, Nat.add_zero] at c1 c2 c3
    match o with
    | 0 => simp [World.cell?, hg] at c3
    | o + 1 => simp [World.cell?, hg] at c3
  exact ⟨b, o, hA, Nat.lt_of_lt_of_le hb hk.1, fun i hi => ⟨(hk.cell (p := ⟨b, o + i * 3, none⟩) hb hne).trans (hc i hi).1, (hk.cell (p := ⟨b, o + i * 3 + 1, none⟩) hb hne).trans (hc i hi).2.1, (hk.cell (p := ⟨b, o + i * 3 + 2, none⟩) hb hne).trans (hc i hi).2.2⟩⟩

/-- an index of few short texts -/
def Im.fine (m : Nat) (l : List Im.Rw) : Prop := l.length ≤ m ∧ (∀ x ∈ l, x.2.2.length ≤ 4 ∧ x.2.1 ≤ (m : Int)) ∧ Im.chk l = 0
theorem Im.fine.nil (m : Nat) : Im.fine m [] := ⟨by simp, fun x hx => absurd hx (by simp), Im.chk_nil⟩
theorem Im.fine.add {m : Nat} {l : List Im.Rw} (h : Im.fine m l) {s : List UInt8} (hs : s.length ≤ 4) : Im.fine (m + 1) (Im.add l s).1 := by
  have hk := fun h => (Im.add_chk (l := l) (s := s) h).2
  rcases Im.add_cases l s with ⟨_, e⟩ | ⟨_, _, e⟩ | ⟨_, _, hf, _, ⟨_, e⟩ | ⟨_, _, e⟩ | ⟨_, _, e⟩⟩ | ⟨_, _, _, ⟨_, e⟩ | ⟨_, e⟩⟩ <;> rw [e] at hk ⊢
  · exact .nil _
  · exact .nil _
  · exact .nil _
  · exact .nil _
  · refine ⟨by simp only [List.length_set]; have := h.1; omega, fun x hx => ?_, hk rfl⟩
    rcases List.mem_or_eq_of_mem_set hx with h1 | rfl
    · have := h.2.1 x h1; exact ⟨this.1, by omega⟩
    · have := (h.2.1 _ (List.getElem_mem hf)).2; exact ⟨hs, by simp only; omega⟩
  · exact .nil _
  · refine ⟨by simp only [List.length_append, List.length_cons, List.length_take, List.length_drop]; have := h.1; omega, fun x hx => ?_, hk rfl⟩
    rcases List.mem_append.1 hx with h1 | h1
    · have := h.2.1 x (List.mem_of_mem_take h1); exact ⟨this.1, by omega⟩
    · rcases List.mem_cons.1 h1 with rfl | h1
      · exact ⟨hs, by simp only; omega⟩
      · have := h.2.1 x (List.mem_of_mem_drop h1); exact ⟨this.1, by omega⟩

theorem own_rows' {w : World} {B : Nat} {v : Value} {l : List Im.Rw} (h : RowsOwn w B v l) : ∃ A c, v = .slice A l.length c ∧ RowsIn w A l.length c l ∧ (A = none → c = 0) := by
  obtain ⟨A, c, e, hr⟩ := own_rows h
  refine ⟨A, c, e, hr, fun hA => ?_⟩
  subst hA e
  rcases h.2 with ⟨hv, _⟩ | ⟨g, cap, cur, hv, _⟩
  · injection hv
  · injection hv with h1; cases h1

theorem RowsOwn.reads {w : World} {B : Nat} {A : Option Addr} {n c : Nat} {l : List Im.Rw} (h : RowsOwn w B (.slice A n c) l) : RowsIn w A n c l := by
  obtain ⟨A', c', hv, hn⟩ := own_rows h
  injection hv with h1 h2 h3
  subst h1 h2 h3
  exact hn
theorem one_set {w : World} {b : Nat} {x v : Value} {t : TypeId} (h : w.heap[b]? = some (.cells #[x] t (0, 0))) : (w.setCell ⟨b, 0, none⟩ v).heap[b]? = some (.cells #[v] t (0, 0)) := by
  simp [World.setCell, Array.getElem?_modify, h]

set_option maxRecDepth 100000 in
theorem mkIndex_any (A : Option Addr) (n c : Nat) (z : List Int) (g : Nat) (w0 w : World) (hz : IntsIn .i64 w0 A n c z) (hn : n ≤ 17592186044416) (hd : DeckIn w0 A n c g w) :
    Calls Try.prog 12 #[.pointer (some ⟨g, 0, none⟩)] w fun e w' => ∃ (A' : Option Addr) (n' c' : Nat) (l : List Im.Rw), e = .returned (.agg #[.slice A' n' c']) ∧ RowsIn w' A' n' c' l ∧ (A' = none → c' = 0) ∧ Im.fine 8 l ∧ DeckIn w0 A n c g w' ∧ KeptBut g w w' := by
  have N1 := Lib.hid (fun V h => next_any A n c z g w0 V 9 hz hn h (by decide) (by decide))
  have T1 := Lib.hid (fun V h => mkText_any A n c z g w0 V 4 hz hn h (by decide) (by decide))
  have HD := Lib.hid hd
  clear hz hd
  go_enter Try.func12, Try.ntmps12
  have hlt := HD.out.lt
  obtain ⟨B, hB⟩ : ∃ B, w.heap.size = B := ⟨_, rfl⟩
  obtain ⟨w1, hw1⟩ : ∃ V, (w.alloc (.cells #[.slice none 0 0] 25)).alloc (.cells #[.slice none 0 0] 25) = V := ⟨_, rfl⟩
  have hs1 : w1.heap.size = B + 2 := by rw [← hw1]; simp [hB]
  have xa : w1.heap[B]? = some (.cells #[.slice none 0 0] 25 (0, 0)) := by
    rw [← hw1, ← hB]; exact (Below.heap_alloc _ _ _ (by simp)).trans (heap_alloc_new _ _)
  have xb : w1.heap[B + 1]? = some (.cells #[.slice none 0 0] 25 (0, 0)) := by
    have e : (w.alloc (.cells #[.slice none 0 0] 25)).heap.size = B + 1 := by simp [hB]
    rw [← hw1, ← e]; exact heap_alloc_new _ _
  have hd1 : DeckIn w0 A n c g w1 := by rw [← hw1]; exact (HD.out.alloc _).alloc _
  have hk1 : KeptBut g w w1 := by
    rw [← hw1]; exact KeptBut.alloc (KeptBut.alloc ⟨Nat.le_refl _, fun _ _ _ => rfl⟩ _) _
  have HBE := Lib.hid hB
  have hBg : B ≠ g := by omega
  have hBg1 : B + 1 ≠ g := by omega
  have HW1 := Lib.hid hw1
  have HD1 := Lib.hid hd1
  have HK1 := Lib.hid hk1
  have XA := Lib.hid xa
  have XB := Lib.hid xb
  clear hw1 hd1 hk1 xa xb
  go_wp2_with fail
  rw [HW1.out]
  refine (N1.out _ HD1.out).mono ?_
  rintro e w2 ⟨x, rfl, hx, hd2, hsb2⟩
  have HD2 := Lib.hid hd2
  have HK2 := Lib.hid (HK1.out.trans hsb2.kept)
  have xa2 := (hsb2.2 B hBg).trans XA.out
  have xb2 := (hsb2.2 (B + 1) hBg1).trans XB.out
  have hs2 := hsb2.1
  have XA2 := Lib.hid xa2
  have XB2 := Lib.hid xb2
  clear hd2 hsb2 xa2 xb2
  clear hB
  go_wp2_with fail
  go_loopw [4] (fun i wr => ∃ (j : Nat) (A' : Option Addr) (n' c' : Nat) (l : List Im.Rw), j ≤ 8 ∧ i = .int .i64 j ∧ RowsIn wr A' n' c' l ∧ (A' = none → c' = 0) ∧ Im.fine (8 - j) l ∧ DeckIn w0 A n c g wr ∧ KeptBut g w wr ∧ wr.heap[B + 1]? = some (.cells #[.slice A' n' c'] 25 (0, 0)) ∧ wr.heap[B]? = some (.cells #[.slice none 0 0] 25 (0, 0)) ∧ B + 2 ≤ wr.heap.size) (fun i _ => (intOf i).toNat)
  case atStart => exact ⟨x, none, 0, 0, [], by omega, rfl, RowsIn.nil _ _ _, fun _ => rfl, .nil _, HD2.out, HK2.out, XB2.out, XA2.out, by omega⟩
  case round =>
    obtain ⟨j, A', n', c', l, hj, rfl, hr, hA, hf, hd, hk, xb, xa, hsz⟩ := hrel
    obtain ⟨cb, fb⟩ := cell_frozen_one xb
    obtain ⟨ca, fa⟩ := cell_frozen_one xa
    have HR := Lib.hid hr
    have HA' := Lib.hid hA
    have HF := Lib.hid hf
    have HDR := Lib.hid hd
    have HKR := Lib.hid hk
    have XBR := Lib.hid xb
    have XAR := Lib.hid xa
    clear hr hA hf hd hk xb xa
    by_cases h0 : 0 < j
    · have d0 : decide ((0 : Int) < (j : Int)) = true := by simp; omega
      have ew : IntKind.i64.wrap ((j : Int) - 1) = (j : Int) - 1 := by rw [IntKind.wrap_i64]; omega
      go_wp2_with fail
      go_region_with (first | (go_at_call 14; refine (T1.out _ HDR.out.drew).mono ?_; rintro e w3 ⟨T, rfl, hT, hd3, hk3'⟩; have hk3 : KeptBut g wr w3 := hk3'; clear hk3'; have hR3 := HR.out.kept HDR.out hk3; have xb3 := (hk3.2 (B + 1) (by omega) hBg1).trans XBR.out; have xa3 := (hk3.2 B (by omega) hBg).trans XAR.out; obtain ⟨cb3, fb3⟩ := cell_frozen_one xb3; have hs3 := hk3.1; have XB3 := Lib.hid xb3; have XA3 := Lib.hid xa3; have HD3 := Lib.hid hd3; have HK3 := Lib.hid (HKR.out.trans hk3); have HR3 := Lib.hid hR3; clear xb3 xa3 hd3 hk3 hR3) | (go_at_call 23; refine (raddI_any A' n' c' l T _ HR3.out HA'.out (fun y hy => by have := (HF.out.2.1 y hy).1; omega) (by have := HF.out.1; have := HR3.out.1; omega) (by have h4 : T.size ≤ 4 := hT; unfold maxLen; omega)).mono ?_; rintro e w4 ⟨v, rfl, ho4, hb4⟩; obtain ⟨A4, c4, rfl, hr4, hA4⟩ := own_rows' ho4; have xb4 := (hb4.block (B + 1) (by omega)).trans XB3.out; have xa4 := (hb4.block B (by omega)).trans XA3.out; obtain ⟨cb4, fb4⟩ := cell_frozen_one xb4; have hs4 := hb4.size; obtain ⟨hd4, hk4⟩ := HD3.out.kept hb4; have XB4 := Lib.hid xb4; have XA4 := Lib.hid xa4; have HD4 := Lib.hid hd4; have HK4 := Lib.hid (HK3.out.trans hk4); have HO4 := Lib.hid ho4; have HR4 := Lib.hid hr4; have HA4 := Lib.hid hA4; clear xb4 xa4 hd4 hk4 hb4 ho4 hr4 hA4) | fail)
      all_goals (
        go_wp2_with fail
        have hkz : KeptBut g w (w4.setCell ⟨B + 1, 0, none⟩ (.slice A4 (Im.add l T.data.toList).1.length c4)) := ⟨by have := HK4.out.1; simpa [World.setCell] using this, fun b hb hg => by
          rw [Below.heap_setCell _ _ _ _ (by show b ≠ B + 1; have := HBE.out; omega)]
          exact HK4.out.2 b hb hg⟩
        have hdz := HD4.out.setCell (a := ⟨B + 1, 0, none⟩) hBg1 (by have := HD.out.1.size; have := HBE.out; show w0.heap.size ≤ B + 1; omega) (.slice A4 (Im.add l T.data.toList).1.length c4)
        have hrz := (RowsOwn.setCell HO4.out (a := ⟨B + 1, 0, none⟩) (show B + 1 < w3.heap.size by omega) (.slice A4 (Im.add l T.data.toList).1.length c4)).reads
        have hxz := one_set (v := .slice A4 (Im.add l T.data.toList).1.length c4) XB4.out
        have hyz : (w4.setCell ⟨B + 1, 0, none⟩ (.slice A4 (Im.add l T.data.toList).1.length c4)).heap[B]? = some (.cells #[.slice none 0 0] 25 (0, 0)) := (Below.heap_setCell _ _ _ _ (by show B ≠ B + 1; omega)).trans XA4.out
        refine ⟨⟨j - 1, A4, _, c4, (Im.add l T.data.toList).1, by omega, by rw [Int.ofNat_sub h0]; rfl, hrz, HA4.out, ?_, hdz, hkz, hxz, hyz, by simp [World.setCell]; omega⟩, by simp [intOf]; omega⟩
        have h := HF.out.add (s := T.data.toList) (by have h4 : T.size ≤ 4 := hT; simpa using h4)
        rw [show 8 - (j - 1) = 8 - j + 1 by omega]
        exact h)
    · obtain rfl : j = 0 := by omega
      have d0 : decide ((0 : Int) < ((0 : Nat) : Int)) = false := by simp
      go_wp2_with fail
      have r7 := World.cell?_setCell_same _ _ (.slice A' n' c') ca
      have hkz : KeptBut g w (wr.setCell ⟨B, 0, none⟩ (.slice A' n' c')) := ⟨by have := HKR.out.1; simpa [World.setCell] using this, fun b hb hg => by
        rw [Below.heap_setCell _ _ _ _ (by show b ≠ B; have := HBE.out; omega)]
        exact HKR.out.2 b hb hg⟩
      have hdz := HDR.out.setCell (a := ⟨B, 0, none⟩) hBg (by have := HD.out.1.size; have := HBE.out; show w0.heap.size ≤ B; omega) (.slice A' n' c')
      have hrz : RowsIn (wr.setCell ⟨B, 0, none⟩ (.slice A' n' c')) A' n' c' l := by
        obtain ⟨h1, h2, h3⟩ := HR.out
        refine ⟨h1, h2, fun hn => ?_⟩
        obtain ⟨b, o, hA, hb, hc⟩ := h3 hn
        have hne : b ≠ B := fun e => by
          subst e
          obtain ⟨c1, c2, c3⟩ := hc 0 (by omega)
          have hg := XAR.out
          rw [Nat.zero_mul, Nat.add_zero] at c3
          simp [World.cell?, hg] at c3
        have far : ∀ q, (wr.setCell ⟨B, 0, none⟩ (.slice A' n' c')).cell? ⟨b, q, none⟩ = wr.cell? ⟨b, q, none⟩ := fun q => World.cell?_setCell_other _ _ _ _ (fun e => hne (congrArg Addr.block e).symm)
        exact ⟨b, o, hA, by simpa [World.setCell] using hb, fun i hi => by rw [far, far, far]; exact hc i hi⟩
      exact bodyPost_ret (v := .agg #[.slice A' n' c']) (by simp [results, Try.results12, go_sem, r7]) rfl ⟨A', n', c', l, rfl, hrz, HA'.out, HF.out, hdz, hkz⟩

end Go.Proofs.Ytmdakplaaehmnaa
