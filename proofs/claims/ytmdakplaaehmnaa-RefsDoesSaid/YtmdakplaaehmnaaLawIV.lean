/-
  RefsDoes: its walk.
-/
import Derived.Test.YtmdakplaaehmnaaLawIO
import Derived.Test.YtmdakplaaehmnaaLawIW
import Derived.Test.YtmdakplaaehmnaaLawIJ
import Derived.Deep.RegionHeldLaw
import Derived.Test.YtmdakplaaehmnaaLawIU
namespace Go.Proofs.Ytmdakplaaehmnaa
open Go.RowKit
set_option maxHeartbeats 16000000

theorem info_intV : (Try.prog.info? 3).map (fun i => (i.zero, i.size, i.bytes)) = some (some (.int .i64 0), 1, 8) := by kernel_rfl
theorem KeptBut.far {g : Nat} {w w' : World} (h : KeptBut g w w') {a : Addr} (ha : w.heap.size ≤ a.block) (v : Value) : KeptBut g w (w'.setCell a v) :=
  ⟨by have := h.1; simpa [World.setCell] using this, fun b hb hg => (Below.heap_setCell _ _ _ _ (by omega)).trans (h.2 b hb hg)⟩
theorem Im.Wide.kept {w w' w0 : World} {A A0 : Option Addr} {n c n0 c0 g : Nat} {l : List Im.Rw} (h : Im.Wide w A n c l) (hd : DeckIn w0 A0 n0 c0 g w) (hk : KeptBut g w w') : Im.Wide w' A n c l := ⟨h.1.kept hd hk, h.2⟩

set_option maxRecDepth 100000 in
theorem refsDoes_walk (H : RefsSays) (H' : DoesSays) (A : Option Addr) (n c : Nat) (z : List Int) (A1 : Option Addr) (n1 c1 : Nat) (l1 : List Im.Rw) (T : ByteArray) (d ct : Int) (w : World) (hz : IntsIn .i64 w A n c z) (hn : n ≤ 17592186044416) (hl : Im.Wide w A1 n1 c1 l1) :
    Calls Try.prog 3 #[.slice A n c, .agg #[.slice A1 n1 c1], .string T, .int .i64 d, .int .i64 ct] w fun e w' => e = .returned (.bool true) ∧ Below w.heap.size w w' := by
  have HS := Lib.hid (fun V => saneI_any H V)
  have HF := Lib.hid (fun V => few_any A n c V (by omega))
  have KSM := Lib.hid (fun V (h : Im.Wide V A1 n1 c1 l1) => small_any A1 n1 c1 l1 V h.1 h.2.2.1)
  obtain ⟨R, hR⟩ : ∃ R, w.heap.size = R := ⟨_, rfl⟩
  obtain ⟨w1, hw1⟩ : ∃ V, w.alloc (.cells #[.slice A1 n1 c1] 25) = V := ⟨_, rfl⟩
  have hr1 : w1.heap[R]? = some (.cells #[.slice A1 n1 c1] 25 (0, 0)) := by rw [← hw1, ← hR]; exact heap_alloc_new _ _
  have hb1 : Below w.heap.size w w1 := by rw [← hw1]; exact (Below.refl _ _).alloc (Nat.le_refl _) _
  have hs1 : w1.heap.size = R + 1 := by rw [← hw1]; simp [hR]
  have HW1 := Lib.hid hw1
  have HR1 := Lib.hid hr1
  have HB1 := Lib.hid hb1
  have HRE := Lib.hid hR
  have HL := Lib.hid hl
  clear hw1 hr1 hb1 hl
  by_cases hfew : (n : Int) ≤ 500
  case neg =>
    rw [decide_eq_false hfew] at HF
    clear H H'
    go_enter Try.func3, Try.ntmps3
    go_wp2_with fail
    rw [HW1.out]
    refine (HS.out _).mono ?_
    rintro e w2 ⟨rfl, hb2⟩
    have HB2 := Lib.hid (HB1.out.trans (hb2.mono (by omega)))
    clear hb2 hR
    go_wp2_with fail
    refine (HF.out _).mono ?_
    rintro e w3 ⟨rfl, rfl⟩
    go_wp2_with fail
    go_ret
    exact ⟨rfl, HB2.out⟩
  rw [decide_eq_true hfew] at HF
  obtain ⟨i0', hi, hz0, hz1, hz2⟩ := info_parts info_row
  have N1 := Lib.hid (fun V hb => new_any A n c w V hb)
  have M1 := Lib.hid (fun g V hd => mkIndex_any A n c z g w V hz hn hd)
  have X1 := Lib.hid (fun g V (m : Int) h1 h2 hd => next_any A n c z g w V m hz hn hd h1 h2)
  have T1 := Lib.hid (fun g V hd => mkText_any A n c z g w V 4 hz hn hd (by decide) (by decide))
  have HC := Lib.hid H'
  clear H H' hz
  go_enter Try.func3, Try.ntmps3
  go_wp2_with fail
  rw [HW1.out]
  refine (HS.out _).mono ?_
  rintro e w2 ⟨rfl, hb2⟩
  have hr2 := (hb2.block R (by omega)).trans HR1.out
  have hs2 := hb2.size
  obtain ⟨cr2, fr2⟩ := cell_frozen_one hr2
  have HB2 := Lib.hid (HB1.out.trans (hb2.mono (by omega)))
  have HR2 := Lib.hid hr2
  clear hb2 hR hr2
  go_wp2_with fail
  refine (HF.out _).mono ?_
  rintro e w3 ⟨rfl, rfl⟩
  go_wp2_with fail
  refine (KSM.out _ (HL.out.below HB2.out)).mono ?_
  rintro e w3 ⟨sm, rfl, hb3⟩
  have hr3 := (hb3.block R (by omega)).trans HR2.out
  have hs3 := hb3.size
  have HB3 := Lib.hid (HB2.out.trans (hb3.mono HB2.out.size))
  have HR3 := Lib.hid hr3
  clear hb3 hr3 cr2 fr2
  cases sm
  · go_wp2_with fail
    go_ret
    exact ⟨rfl, HB3.out⟩
  by_cases hbig : 2000 < T.size
  · have d1 : decide ((2000 : Int) < (T.size : Int)) = true := by simp; omega
    go_wp2_with fail
    go_ret
    exact ⟨rfl, HB3.out⟩
  have d1 : decide ((2000 : Int) < (T.size : Int)) = false := by simp; omega
  go_wp2_with fail
  refine (N1.out _ HB3.out).mono ?_
  rintro e w4 ⟨rfl, hd4, hb4⟩
  obtain ⟨g, hg⟩ : ∃ g, w3.heap.size = g := ⟨_, rfl⟩
  rw [hg] at hd4 hb4 ⊢
  have hRg : R < g := by omega
  have hr4 := (hb4.block R (by omega)).trans HR3.out
  have hg4 := hd4.lt
  have HD4 := Lib.hid hd4
  have HR4 := Lib.hid hr4
  clear hd4 hb4 hr4 hg
  go_wp2_with fail
  refine (M1.out _ _ HD4.out).mono ?_
  rintro e w5 ⟨Ax, nx, cx, lx, rfl, hrx, hAx, hfx, hd5, hk5⟩
  have hr5 := (hk5.2 R (by omega) (by omega)).trans HR4.out
  have hg5 := hd5.lt
  obtain ⟨X, hX⟩ : ∃ X, w5.heap.size = X := ⟨_, rfl⟩
  rw [hX] at hg5
  obtain ⟨E1, hE1⟩ : ∃ V, w5.alloc (.cells #[.slice Ax nx cx] 25) = V := ⟨_, rfl⟩
  have hx1 : E1.heap[X]? = some (.cells #[.slice Ax nx cx] 25 (0, 0)) := by rw [← hE1, ← hX]; exact heap_alloc_new _ _
  have hrE : E1.heap[R]? = some (.cells #[.slice A1 n1 c1] 25 (0, 0)) := by rw [← hE1]; exact var_alloc hr5 _
  have hsE : E1.heap.size = X + 1 := by rw [← hE1]; simp [hX]
  have hdE : DeckIn w A n c g E1 := by rw [← hE1]; exact hd5.alloc _
  have hxE : RowsIn E1 Ax nx cx lx := by rw [← hE1]; exact hrx.below ((Below.refl _ _).alloc (Nat.le_refl _) _)
  have hxl := hxE.1
  have hx8 := hfx.1
  have HXW := Lib.hid (show Im.Wide E1 Ax nx cx lx from ⟨hxE, hAx, by omega, fun x hx => by have := (hfx.2.1 x hx).1; omega⟩)
  have HX1 := Lib.hid hx1
  have HRE1 := Lib.hid hrE
  have HDE := Lib.hid hdE
  obtain ⟨cxE, fxE⟩ := cell_frozen_one hx1
  have HXA := Lib.hid (Im.idx_cells hxE hAx)
  have HXL := Lib.hid hxl
  have HFX := Lib.hid (show ∀ x ∈ lx, x.2.2.length ≤ 4 from fun x hx => (hfx.2.1 x hx).1)
  clear hrx hfx hd5 hk5 hr5 hx1 hrE hdE hxE
  subst hE1
  go_wp2_with (first
    | (at_builtin; refine wpList_append_nil3 rfl _ 23 rfl (X + 1) 37 i0' (.agg #[.int .i64 0, .int .i64 0, .string ByteArray.empty]) 3 32 Try.underlying23 hi hz0 hz1 hz2 rfl (by decide) Ax nx cx (Im.cells lx) rfl HXA.out.1 (by rw [Im.cells_length, HXL.out]) HXA.out.2 (Im.cells_one lx) (by unfold maxLen; omega) (by omega) (by simp; omega) ?_; intro v6 w6 ho6 hg6; have hO6 : RowsOwn w6 (X + 1) v6 lx := (by unfold RowsOwn; rw [HXL.out]; exact ho6); obtain ⟨A6, c6, hv6, hr6⟩ := own_rows hO6; rw [HXL.out] at hv6; subst hv6; have HO6 := Lib.hid hO6; have HB6 := Lib.hid (show Below (X + 1) (w5.alloc (.cells #[.slice Ax nx cx] 25)) w6 from (Below.refl _ _).grown hg6 (by simp; omega) (fun _ h => by cases h)); clear ho6 hO6 hg6 hr6)
    | fail)
  obtain ⟨s, hs⟩ : ∃ s, T.data.toList = s := ⟨_, rfl⟩
  obtain ⟨D, hD⟩ : ∃ D, Dm.sum s = D := ⟨_, rfl⟩
  have KS := Lib.hid (fun V => sum_any T V (by unfold maxLen; omega))
  rw [hs, hD] at KS
  have hb6 : Below (w5.alloc (.cells #[.slice Ax nx cx] 25)).heap.size (w5.alloc (.cells #[.slice Ax nx cx] 25)) w6 := by rw [hsE]; exact HB6.out
  have hke6 := KeptBut.below (g := g) hb6
  have HSE1 := Lib.hid hsE
  have hs6 := hb6.size
  rw [hsE] at hs6
  have hd6 := (HDE.out.kept hb6).1
  have hx6 := (hb6.block X (by omega)).trans HX1.out
  have hr6 := (hb6.block R (by omega)).trans HRE1.out
  have hw6 := HXW.out.below hb6
  obtain ⟨Bn, hBn⟩ : ∃ q, w6.heap.size = q := ⟨_, rfl⟩
  rw [hBn] at hs6
  rw [hBn]
  obtain ⟨E2, hE2⟩ : ∃ V, w6.alloc (.cells #[.slice A6 nx c6] 25) = V := ⟨_, rfl⟩
  rw [hE2]
  have hd2 : DeckIn w A n c g E2 := by rw [← hE2]; exact hd6.alloc _
  have hx2 : E2.heap[X]? = some (.cells #[.slice Ax nx cx] 25 (0, 0)) := by rw [← hE2]; exact var_alloc hx6 _
  have hr2 : E2.heap[R]? = some (.cells #[.slice A1 n1 c1] 25 (0, 0)) := by rw [← hE2]; exact var_alloc hr6 _
  have hw2 : Im.Wide E2 Ax nx cx lx := by rw [← hE2]; exact hw6.below ((Below.refl _ _).alloc (Nat.le_refl _) _)
  have ho2 : RowsOwn E2 (X + 1) (.slice A6 nx c6) lx := by rw [← hE2]; exact HO6.out.alloc _
  have hv2 : E2.heap[Bn]? = some (.cells #[.slice A6 nx c6] 25 (0, 0)) := by rw [← hE2, ← hBn]; exact heap_alloc_new _ _
  obtain ⟨bd, hbd⟩ : ∃ q, E2.heap.size = q := ⟨_, rfl⟩
  have hsd : Bn < bd := by rw [← hbd, ← hE2]; simp [hBn]
  obtain ⟨E3, hE3⟩ : ∃ V, E2.alloc (.cells #[.int .i64 d, .int .i64 D] 3) = V := ⟨_, rfl⟩
  have hd3 : DeckIn w A n c g E3 := by rw [← hE3]; exact hd2.alloc _
  have hx3 : E3.heap[X]? = some (.cells #[.slice Ax nx cx] 25 (0, 0)) := by rw [← hE3]; exact var_alloc hx2 _
  have hr3 : E3.heap[R]? = some (.cells #[.slice A1 n1 c1] 25 (0, 0)) := by rw [← hE3]; exact var_alloc hr2 _
  have hw3 : Im.Wide E3 Ax nx cx lx := by rw [← hE3]; exact hw2.below ((Below.refl _ _).alloc (Nat.le_refl _) _)
  have ho3 : RowsOwn E3 (X + 1) (.slice A6 nx c6) lx := by rw [← hE3]; exact ho2.alloc _
  have hv3 : E3.heap[Bn]? = some (.cells #[.slice A6 nx c6] 25 (0, 0)) := by rw [← hE3]; exact var_alloc hv2 _
  have hi3 : E3.heap[bd]? = some (.cells #[.int .i64 d, .int .i64 D] 3 (0, 0)) := by rw [← hE3, ← hbd]; exact heap_alloc_new _ _
  have hs3' : E3.heap.size = bd + 1 := by rw [← hE3]; simp [hbd]
  have HKE3 := Lib.hid (show KeptBut g (w5.alloc (.cells #[.slice Ax nx cx] 25)) E3 from by rw [← hE3, ← hE2]; exact (hke6.alloc _).alloc _)
  clear hke6
  have HE3 := Lib.hid hE3
  have HD3 := Lib.hid hd3
  have HX3 := Lib.hid hx3
  have HR3' := Lib.hid hr3
  have HW3 := Lib.hid hw3
  have HO3 := Lib.hid ho3
  have HV3 := Lib.hid hv3
  have HI3 := Lib.hid hi3
  have HSE := Lib.hid hs
  have HDD := Lib.hid hD
  clear hb6 hd6 hx6 hr6 hw6 hd2 hx2 hr2 hw2 ho2 hv2 hd3 hx3 hr3 hw3 ho3 hv3 hi3 hE2 hE3 hs hD cxE fxE hsE hBn
  refine (KS.out _).mono ?_
  rintro e we ⟨rfl, rfl⟩
  go_wp2_with fail
  rw [HE3.out]
  clear hbd
  refine (T1.out _ _ HD3.out).mono ?_
  rintro e w7 ⟨U, rfl, hU, hd7, hk7⟩
  have hs7 := hk7.1
  rw [hs3'] at hs7
  have hx7 := (hk7.2 X (by omega) (by omega)).trans HX3.out
  have hr7 := (hk7.2 R (by omega) (by omega)).trans HR3'.out
  have hv7 := (hk7.2 Bn (by omega) (by omega)).trans HV3.out
  have hi7 := (hk7.2 bd (by omega) (by omega)).trans HI3.out
  have HW7 := Lib.hid (HW3.out.kept HD3.out hk7)
  have HO7 := Lib.hid (show RowsOwn w7 (X + 1) (.slice A6 nx c6) lx from hk7.own HO3.out (by omega))
  have HD7 := Lib.hid hd7
  have HU := Lib.hid (show U.size ≤ 4 from hU)
  have HKE8 := Lib.hid ((HKE3.out.trans hk7).alloc (.cells #[.string T, .string U] 9))
  obtain ⟨bt, hbt⟩ : ∃ q, w7.heap.size = q := ⟨_, rfl⟩
  rw [hbt] at hs7
  have hx8' := var_alloc hx7 (.cells #[.string T, .string U] 9)
  have hr8 := var_alloc hr7 (.cells #[.string T, .string U] 9)
  have hv8 := var_alloc hv7 (.cells #[.string T, .string U] 9)
  have hi8 := var_alloc hi7 (.cells #[.string T, .string U] 9)
  have ht8 : (w7.alloc (.cells #[.string T, .string U] 9)).heap[bt]? = some (.cells #[.string T, .string U] 9 (0, 0)) := by rw [← hbt]; exact heap_alloc_new _ _
  have hs8 : (w7.alloc (.cells #[.string T, .string U] 9)).heap.size = bt + 1 := by simp [hbt]
  obtain ⟨c8, f8⟩ := cell_frozen_one hx8'
  obtain ⟨cr8, fr8⟩ := cell_frozen_one hr8
  obtain ⟨cv8, fv8⟩ := cell_frozen_one hv8
  have HW8 := Lib.hid (show Im.Wide (w7.alloc (.cells #[.string T, .string U] 9)) Ax nx cx lx from HW7.out.below ((Below.refl _ _).alloc (Nat.le_refl _) _))
  have HO8 := Lib.hid (show RowsOwn (w7.alloc (.cells #[.string T, .string U] 9)) (X + 1) (.slice A6 nx c6) lx from HO7.out.alloc _)
  have HD8 := Lib.hid (show DeckIn w A n c g (w7.alloc (.cells #[.string T, .string U] 9)) from HD7.out.alloc _)
  have HX8 := Lib.hid hx8'
  have HR8 := Lib.hid hr8
  have HV8 := Lib.hid hv8
  have HI8 := Lib.hid hi8
  have HT8 := Lib.hid ht8
  clear hx7 hr7 hv7 hi7 hd7 hk7 hU hx8' hr8 hv8 hi8 ht8
  by_cases hn0 : nx = 0
  · have dn : decide ((0 : Int) < (nx : Int)) = false := by simp; omega
    have dn2 : decide (0 < nx) = false := by simp; omega
    have HN0 := Lib.hid hn0
    clear hn0
    go_wp2_with fail
    obtain ⟨W0, hW0⟩ : ∃ V, (w7.alloc (.cells #[.string T, .string U] 9)).alloc (.cells #[.slice A1 n1 c1, .slice Ax nx cx, .slice A6 nx c6] 25) = V := ⟨_, rfl⟩
    rw [hW0]
    clear hbt
    have HLIT := Lib.hid (show W0.heap[bt + 1]? = some (.cells #[.slice A1 n1 c1, .slice Ax nx cx, .slice A6 nx c6] 25 (0, 0)) from by rw [← hW0, ← hs8]; exact heap_alloc_new _ _)
    have HXV := Lib.hid (show W0.heap[X]? = some (.cells #[.slice Ax nx cx] 25 (0, 0)) from by rw [← hW0]; exact var_alloc HX8.out _)
    have HB0 := Lib.hid (show Below w.heap.size w W0 from by rw [← hW0]; exact (HD8.out.alloc _).1)
    have HWR := Lib.hid (HL.out.below HB0.out)
    have HWX := Lib.hid (show Im.Wide W0 Ax nx cx lx from by rw [← hW0]; exact HW8.out.below ((Below.refl _ _).alloc (Nat.le_refl _) _))
    have HWB := Lib.hid (show ∃ lb, Im.Wide W0 A6 nx c6 lb from ⟨lx, by
      have ho : RowsOwn W0 (X + 1) (.slice A6 nx c6) lx := by rw [← hW0]; exact HO8.out.alloc _
      obtain ⟨A', n', c', hv, hh⟩ := Im.Wide.own ho (by rw [HXL.out]; omega) (fun x hx => by
        have h0 : lx = [] := List.eq_nil_of_length_eq_zero (by rw [HXL.out]; exact HN0.out)
        rw [h0] at hx; cases hx)
      injection hv with e1 e2 e3
      subst e1 e2 e3
      exact hh⟩)
    have hsz0 : W0.heap.size = bt + 2 := by rw [← hW0]; simp at hs8 ⊢; omega
    have HDI := Lib.hid (show ∃ ds : List Int, ds.length = 2 ∧ ∀ i (h : i < ds.length), W0.cell? ⟨bd, i, none⟩ = some (.int .i64 ds[i]) from ⟨[d, D], rfl, fun i h => by
      have hh : W0.heap[bd]? = some (.cells #[.int .i64 d, .int .i64 D] 3 (0, 0)) := by rw [← hW0]; exact var_alloc HI8.out _
      match i, h with
      | 0, _ => simp [World.cell?, hh]
      | 1, _ => simp [World.cell?, hh]⟩)
    have HTI := Lib.hid (show ∃ ts : List ByteArray, ts.length = 2 ∧ (∀ x ∈ ts, x.size ≤ 100000) ∧ ∀ i (h : i < ts.length), W0.cell? ⟨bt, i, none⟩ = some (.string ts[i]) from ⟨[T, U], rfl, fun x hx => by
      have := HU.out
      simp only [List.mem_cons, List.not_mem_nil, or_false] at hx
      rcases hx with rfl | rfl <;> omega, fun i h => by
      have hh : W0.heap[bt]? = some (.cells #[.string T, .string U] 9 (0, 0)) := by rw [← hW0]; exact var_alloc HT8.out _
      match i, h with
      | 0, _ => simp [World.cell?, hh]
      | 1, _ => simp [World.cell?, hh]⟩)
    obtain ⟨ds, hdl, hdc⟩ := HDI.out
    obtain ⟨ts, htl, htz, htc⟩ := HTI.out
    obtain ⟨lb, hlb⟩ := HWB.out
    obtain ⟨L, hL⟩ : ∃ q, bt + 1 = q := ⟨_, rfl⟩
    rw [hL] at HLIT
    rw [hL]
    have HDC := Lib.hid hdc
    have HTC := Lib.hid htc
    have HTZ := Lib.hid htz
    have HLB := Lib.hid hlb
    have hLW : L < W0.heap.size := by omega
    have hbdW : bd < W0.heap.size := by omega
    have hbtW : bt < W0.heap.size := by omega
    have hXW : X < W0.heap.size := by omega
    clear hdc htc htz hlb c8 f8 cr8 fr8 cv8 fv8 hW0 hsz0 hL hs8
    exact refsDoes_main HC.out w W0 X L bd bt 2 2 2 2 A1 Ax A6 n1 c1 nx cx nx c6 l1 lx lb ds ts HLIT.out HXV.out HB0.out HWR.out HWX.out HLB.out hdl htl (by decide) (by decide) HDC.out HTC.out HTZ.out hLW hbdW hbtW hXW _ (by assumption) _ _ _ _ _ _ _ _ _ _ _ _ _ _ _ _ _ _ _ _ _ _ _ _ _ _ _ _ _ _ _ _ _ _ _ _ _ _ _ _ _ _ _ _ _ _ _ _ _ _ _ _ _ _ _ _ _ _ _ _ _ _ _ _ _ _ _ _ _ _ _ _ _ _ _ _ _ _ _ _ _ _ _ _ _ _ _ _ _ _ _ _ _ _ _ _ _ _ _ _ _ _ _ _ _ _ _ _ _ _ _
  · have dn : decide ((0 : Int) < (nx : Int)) = true := by simp; omega
    have dn2 : decide (0 < nx) = true := by simp; omega
    go_wp2_with fail
    refine (X1.out _ _ (nx : Int) (by omega) (by omega) HD8.out).mono ?_
    rintro e w9 ⟨i, rfl, hi9, hd9, hs9⟩
    have hk9 := hs9.kept
    have hz9 := hs9.1
    rw [hs8] at hz9
    have hv9 := (hs9.2 Bn (by omega)).trans HV8.out
    have hin9 := (hs9.2 bd (by omega)).trans HI8.out
    have hst9 := (hs9.2 bt (by omega)).trans HT8.out
    have ho9 : RowsOwn w9 (X + 1) (.slice A6 nx c6) lx := hk9.own HO8.out (by omega)
    obtain ⟨gb, c6', hvv, hgB, hgl, _⟩ := RowsOwn.form ho9 (by rw [HXL.out]; omega)
    injection hvv with hv1 hv2 hv3
    subst hv1
    clear hv2 hv3
    have hin : i < nx := by omega
    have hil : i < lx.length := by rw [HXL.out]; exact hin
    obtain ⟨x, hx⟩ : ∃ x, lx[i] = x := ⟨_, rfl⟩
    obtain ⟨a, k0, t⟩ := x
    obtain ⟨⟨y0, y1, y2⟩, fz⟩ := RowsOwn.rd ho9 HXL.out hil
    rw [hx] at y0 y1 y2
    simp only at y0 y1 y2
    have fz1 := fz (i * 3 + 1)
    have hj9 : DoesJ w (w5.alloc (.cells #[.slice Ax nx cx] 25)) w9 A n c g X Bn (some ⟨gb, 0, none⟩) nx c6 lx (.slice (some ⟨bd, 0, none⟩) 2 2) 2 [d, D] (.slice (some ⟨bt, 0, none⟩) 2 2) 2 [T, U] :=
      { gX := by omega, deck := hd9, size := by omega, ke := ⟨HSE1.out, HKE8.out.trans hk9⟩, bvar := hv9, rows := ho9,
        ints := ⟨rfl, .inr ⟨bd, 2, _, rfl, by omega, hin9, Nat.le_refl _, by unfold maxLen; omega, rfl, rfl⟩⟩,
        strs := ⟨rfl, .inr ⟨bt, 2, _, rfl, by omega, hst9, Nat.le_refl _, by unfold maxLen; omega, rfl, rfl⟩⟩ }
    have hj10 := hj9.set HXL.out hil hx ct HD4.out.2.1
    obtain ⟨cv9, fv9⟩ := cell_frozen_one hv9
    obtain ⟨w10, hw10⟩ : ∃ V, w9.setCell ⟨gb, i * 3 + 1, none⟩ (.int .i64 ct) = V := ⟨_, rfl⟩
    rw [hw10] at hj10
    have hs10 : w10.heap.size = bt + 1 := by rw [← hw10]; simp [World.setCell]; omega
    obtain ⟨TT, hTT⟩ : ∃ q, Cm.b t = q := ⟨_, rfl⟩
    rw [hTT] at y2
    have HBL := Lib.hid (show (lx.set i (a, ct, t)).length = nx by rw [List.length_set, HXL.out])
    have HBI := Lib.hid (show i < (lx.set i (a, ct, t)).length by rw [List.length_set]; exact hil)
    have HBX := Lib.hid (show (lx.set i (a, ct, t))[i]'(by rw [List.length_set]; exact hil) = (a, ct, t) by simp)
    have HTT := Lib.hid hTT
    have HJ := Lib.hid (show DoesJ w (w5.alloc (.cells #[.slice Ax nx cx] 25)) w10 A n c g X Bn (some ⟨gb, 0, none⟩) nx c6 (lx.set i (a, ct, t)) (.slice (some ⟨bd, 0, none⟩) 2 2) 2 [d, D] (.slice (some ⟨bt, 0, none⟩) 2 2) 2 [T, U] from hj10)
    have HS10 := Lib.hid (show w10.heap.size = bt + 1 from hs10)
    have HS11I := Lib.hid (show (w10.alloc (.cells #[.int .i64 a] 3)).heap.size = bt + 2 by have := HS10.out; simp at this ⊢; omega)
    have HS11S := Lib.hid (show (w10.alloc (.cells #[.string TT] 9)).heap.size = bt + 2 by have := HS10.out; simp at this ⊢; omega)
    have HW10 := Lib.hid hw10
    have HTXL := Lib.hid (show t.length ≤ 4 from by have := (HFX.out lx[i] (List.getElem_mem hil)); rw [hx] at this; exact this)
    have j1 : (0 : Int) ≤ (i : Int) := by omega
    obtain ⟨i1, hi1, hy0, hy1, hy2⟩ := info_parts info_intV
    obtain ⟨i2, hi2, hu0, hu1, hu2⟩ := info_parts info_str
    have HS := Lib.hid ((HJ.out).reads HBL.out HBI.out HBX.out HTT.out)
    have HJ0 := HJ
    clear hk9 hd9 hs9 hv9 hin9 hst9 ho9 hj9 hj10 hw10 hTT hx hs8
    go_wp2_with fail
    rw [HW10.out]
    clear y0 y1 y2 fz fz1 cv9 fv9 c8 f8 cr8 fr8 cv8 fv8 hbt
    go_region_held_law (fun V => V.cell? ⟨Bn, 0, none⟩ = some (.slice (some ⟨gb, 0, none⟩) nx c6) ∧ V.cell? ⟨gb, i * 3, none⟩ = some (.int .i64 a) ∧ V.cell? ⟨gb, i * 3 + 2, none⟩ = some (.string TT)) (first | exact HS.out | exact (HJ.out.drew).reads HBL.out HBI.out HBX.out HTT.out | exact ((HJ.out.alloc _).drew).reads HBL.out HBI.out HBX.out HTT.out | exact (((HJ.out.alloc _).alloc _).drew).reads HBL.out HBI.out HBX.out HTT.out | exact (HJ.out.alloc _).reads HBL.out HBI.out HBX.out HTT.out | go_keep) ((first
        | (refine step_append_lies _ rfl (.tmp 93) (.tmp 100) 22 rfl (X + 1) 3 i1 (.int .i64 0) 1 8 Try.underlying22 hi1 hy0 hy1 hy2 rfl (by decide) (.slice (some ⟨bd, 0, none⟩) 2 2) 2 ([d, D].map (Value.int .i64)) (by first | (simp [Act.eval]; done) | simp [Act.eval, Act.put]) (show ((w10.alloc (.cells #[.int .i64 a] 3)).drew).ownsRow _ _ _ _ _ _ from (HJ0.out.alloc (.cells #[.int .i64 a] 3)).drew.ints) ⟨bt + 1, 0, none⟩ 1 1 [.int .i64 a] (by first | (simp [Act.eval]; done) | simp [Act.eval, Act.put]) rfl (lit_one (show ((w10.alloc (.cells #[.int .i64 a] 3)).drew).heap[bt + 1]? = some (.cells #[.int .i64 a] 3 (0, 0)) from (by rw [← HS10.out]; exact heap_alloc_new w10 _))) (by simp [Value.oneCell']) (by omega) (by unfold maxLen; omega) (by omega) ((HJ0.out.alloc (.cells #[.int .i64 a] 3)).drew.size) _ rfl ?_; intro gqI capI wn hown hgrow hat hlt; have HJ := Lib.hid ((HJ0.out.alloc (.cells #[.int .i64 a] 3)).drew.growInts (ds' := [d, D, a]) hown hgrow); have HS := Lib.hid ((HJ.out).reads HBL.out HBI.out HBX.out HTT.out); clear hown hgrow hat; obtain ⟨wF, hwF⟩ : ∃ q, q = wn := ⟨_, rfl⟩; subst hwF)
        | (refine step_append_lies _ rfl (.tmp 102) (.tmp 109) 34 rfl (X + 1) 9 i2 (.string ByteArray.empty) 1 16 Try.underlying34 hi2 hu0 hu1 hu2 rfl (by decide) (.slice (some ⟨bt, 0, none⟩) 2 2) 2 ([T, U].map Value.string) (by first | (simp [Act.eval]; done) | simp [Act.eval, Act.put]) (show ((w10.alloc (.cells #[.string TT] 9)).drew).ownsRow _ _ _ _ _ _ from (HJ0.out.alloc (.cells #[.string TT] 9)).drew.strs) ⟨bt + 1, 0, none⟩ 1 1 [.string TT] (by first | (simp [Act.eval]; done) | simp [Act.eval, Act.put]) rfl (lit_one (show ((w10.alloc (.cells #[.string TT] 9)).drew).heap[bt + 1]? = some (.cells #[.string TT] 9 (0, 0)) from (by rw [← HS10.out]; exact heap_alloc_new w10 _))) (by simp [Value.oneCell']) (by omega) (by unfold maxLen; omega) (by omega) ((HJ0.out.alloc (.cells #[.string TT] 9)).drew.size) _ rfl ?_; intro gqS capS wn hown hgrow hat hlt; have HJ := Lib.hid ((HJ0.out.alloc (.cells #[.string TT] 9)).drew.growStrs (ts' := [T, U, TT]) hown hgrow); have HS := Lib.hid ((HJ.out).reads HBL.out HBI.out HBX.out HTT.out); clear hown hgrow hat; obtain ⟨wF, hwF⟩ : ∃ q, q = wn := ⟨_, rfl⟩; subst hwF)
        | (refine step_append_lies _ rfl (.tmp 93) (.tmp 100) 22 rfl (X + 1) 3 i1 (.int .i64 0) 1 8 Try.underlying22 hi1 hy0 hy1 hy2 rfl (by decide) (.slice (some ⟨bd, 0, none⟩) 2 2) 2 ([d, D].map (Value.int .i64)) (by first | (simp [Act.eval]; done) | simp [Act.eval, Act.put]) (show (wF).ownsRow _ _ _ _ _ _ from HJ.out.ints) ⟨lo, 0, none⟩ 1 1 [.int .i64 a] (by first | (simp [Act.eval]; done) | simp [Act.eval, Act.put]) rfl (lit_one (show (wF).heap[lo]? = some (.cells #[.int .i64 a] 3 (0, 0)) from HLO.out)) (by simp [Value.oneCell']) (by omega) (by unfold maxLen; omega) (by omega) (HJ.out.size) _ rfl ?_; intro gqI capI wn hown hgrow hat hlt; have HJ := Lib.hid (HJ.out.growInts (ds' := [d, D, a]) hown hgrow); have HS := Lib.hid ((HJ.out).reads HBL.out HBI.out HBX.out HTT.out); clear hown hgrow hat; obtain ⟨wF, hwF⟩ : ∃ q, q = wn := ⟨_, rfl⟩; subst hwF)
        | (refine step_append_lies _ rfl (.tmp 102) (.tmp 109) 34 rfl (X + 1) 9 i2 (.string ByteArray.empty) 1 16 Try.underlying34 hi2 hu0 hu1 hu2 rfl (by decide) (.slice (some ⟨bt, 0, none⟩) 2 2) 2 ([T, U].map Value.string) (by first | (simp [Act.eval]; done) | simp [Act.eval, Act.put]) (show (wF).ownsRow _ _ _ _ _ _ from HJ.out.strs) ⟨lo, 0, none⟩ 1 1 [.string TT] (by first | (simp [Act.eval]; done) | simp [Act.eval, Act.put]) rfl (lit_one (show (wF).heap[lo]? = some (.cells #[.string TT] 9 (0, 0)) from HLO.out)) (by simp [Value.oneCell']) (by omega) (by unfold maxLen; omega) (by omega) (HJ.out.size) _ rfl ?_; intro gqS capS wn hown hgrow hat hlt; have HJ := Lib.hid (HJ.out.growStrs (ts' := [T, U, TT]) hown hgrow); have HS := Lib.hid ((HJ.out).reads HBL.out HBI.out HBX.out HTT.out); clear hown hgrow hat; obtain ⟨wF, hwF⟩ : ∃ q, q = wn := ⟨_, rfl⟩; subst hwF)
        | (refine step_append_lies _ rfl (.tmp 93) (.tmp 100) 22 rfl (X + 1) 3 i1 (.int .i64 0) 1 8 Try.underlying22 hi1 hy0 hy1 hy2 rfl (by decide) (.slice (some ⟨bd, 0, none⟩) 2 2) 2 ([d, D].map (Value.int .i64)) (by first | (simp [Act.eval]; done) | simp [Act.eval, Act.put]) (show ((wF.alloc (.cells #[.int .i64 a] 3))).ownsRow _ _ _ _ _ _ from (HJ.out.alloc (.cells #[.int .i64 a] 3)).ints) ⟨wF.heap.size, 0, none⟩ 1 1 [.int .i64 a] (by first | (simp [Act.eval]; done) | simp [Act.eval, Act.put]) rfl (lit_one (show ((wF.alloc (.cells #[.int .i64 a] 3))).heap[wF.heap.size]? = some (.cells #[.int .i64 a] 3 (0, 0)) from (heap_alloc_new wF _))) (by simp [Value.oneCell']) (by omega) (by unfold maxLen; omega) (by omega) ((HJ.out.alloc (.cells #[.int .i64 a] 3)).size) _ rfl ?_; intro gqI capI wn hown hgrow hat hlt; have HJ := Lib.hid ((HJ.out.alloc (.cells #[.int .i64 a] 3)).growInts (ds' := [d, D, a]) hown hgrow); have HS := Lib.hid ((HJ.out).reads HBL.out HBI.out HBX.out HTT.out); clear hown hgrow hat; obtain ⟨wF, hwF⟩ : ∃ q, q = wn := ⟨_, rfl⟩; subst hwF)
        | (refine step_append_lies _ rfl (.tmp 102) (.tmp 109) 34 rfl (X + 1) 9 i2 (.string ByteArray.empty) 1 16 Try.underlying34 hi2 hu0 hu1 hu2 rfl (by decide) (.slice (some ⟨bt, 0, none⟩) 2 2) 2 ([T, U].map Value.string) (by first | (simp [Act.eval]; done) | simp [Act.eval, Act.put]) (show ((wF.alloc (.cells #[.string TT] 9))).ownsRow _ _ _ _ _ _ from (HJ.out.alloc (.cells #[.string TT] 9)).strs) ⟨wF.heap.size, 0, none⟩ 1 1 [.string TT] (by first | (simp [Act.eval]; done) | simp [Act.eval, Act.put]) rfl (lit_one (show ((wF.alloc (.cells #[.string TT] 9))).heap[wF.heap.size]? = some (.cells #[.string TT] 9 (0, 0)) from (heap_alloc_new wF _))) (by simp [Value.oneCell']) (by omega) (by unfold maxLen; omega) (by omega) ((HJ.out.alloc (.cells #[.string TT] 9)).size) _ rfl ?_; intro gqS capS wn hown hgrow hat hlt; have HJ := Lib.hid ((HJ.out.alloc (.cells #[.string TT] 9)).growStrs (ts' := [T, U, TT]) hown hgrow); have HS := Lib.hid ((HJ.out).reads HBL.out HBI.out HBX.out HTT.out); clear hown hgrow hat; obtain ⟨wF, hwF⟩ : ∃ q, q = wn := ⟨_, rfl⟩; subst hwF)
        | (refine step_append_lies _ rfl (.tmp 93) (.tmp 100) 22 rfl (X + 1) 3 i1 (.int .i64 0) 1 8 Try.underlying22 hi1 hy0 hy1 hy2 rfl (by decide) (.slice (some ⟨bd, 0, none⟩) 2 2) 2 ([d, D].map (Value.int .i64)) (by first | (simp [Act.eval]; done) | simp [Act.eval, Act.put]) (show (((w10.alloc (.cells #[.int .i64 a] 3)).alloc (.cells #[.string TT] 9)).drew).ownsRow _ _ _ _ _ _ from ((HJ0.out.alloc (.cells #[.int .i64 a] 3)).alloc (.cells #[.string TT] 9)).drew.ints) ⟨bt + 1, 0, none⟩ 1 1 [.int .i64 a] (by first | (simp [Act.eval]; done) | simp [Act.eval, Act.put]) rfl (lit_one (show (((w10.alloc (.cells #[.int .i64 a] 3)).alloc (.cells #[.string TT] 9)).drew).heap[bt + 1]? = some (.cells #[.int .i64 a] 3 (0, 0)) from (by rw [← HS10.out]; exact var_alloc (heap_alloc_new w10 _) _))) (by simp [Value.oneCell']) (by omega) (by unfold maxLen; omega) (by omega) (((HJ0.out.alloc (.cells #[.int .i64 a] 3)).alloc (.cells #[.string TT] 9)).drew.size) _ rfl ?_; intro gqI capI wn hown hgrow hat hlt; have HJ := Lib.hid (((HJ0.out.alloc (.cells #[.int .i64 a] 3)).alloc (.cells #[.string TT] 9)).drew.growInts (ds' := [d, D, a]) hown hgrow); have HLO := Lib.hid (show wn.heap[bt + 2]? = some (.cells #[.string TT] 9 (0, 0)) from grown_block hgrow (show (((w10.alloc (.cells #[.int .i64 a] 3)).alloc (.cells #[.string TT] 9)).drew).heap[bt + 2]? = some (.cells #[.string TT] 9 (0, 0)) from (by rw [← HS11I.out]; exact heap_alloc_new _ _)) (own_notvar ((HJ0.out.alloc (.cells #[.int .i64 a] 3)).alloc (.cells #[.string TT] 9)).drew.ints (show (((w10.alloc (.cells #[.int .i64 a] 3)).alloc (.cells #[.string TT] 9)).drew).heap[bt + 2]? = some (.cells #[.string TT] 9 (0, 0)) from (by rw [← HS11I.out]; exact heap_alloc_new _ _)) (by decide))); obtain ⟨lo, hlo⟩ : ∃ q, bt + 2 = q := ⟨_, rfl⟩; rw [hlo] at HLO; rw [hlo]; have HS := Lib.hid ((HJ.out).reads HBL.out HBI.out HBX.out HTT.out); clear hown hgrow hat; obtain ⟨wF, hwF⟩ : ∃ q, q = wn := ⟨_, rfl⟩; subst hwF)
        | (refine step_append_lies _ rfl (.tmp 102) (.tmp 109) 34 rfl (X + 1) 9 i2 (.string ByteArray.empty) 1 16 Try.underlying34 hi2 hu0 hu1 hu2 rfl (by decide) (.slice (some ⟨bt, 0, none⟩) 2 2) 2 ([T, U].map Value.string) (by first | (simp [Act.eval]; done) | simp [Act.eval, Act.put]) (show (((w10.alloc (.cells #[.string TT] 9)).alloc (.cells #[.int .i64 a] 3)).drew).ownsRow _ _ _ _ _ _ from ((HJ0.out.alloc (.cells #[.string TT] 9)).alloc (.cells #[.int .i64 a] 3)).drew.strs) ⟨bt + 1, 0, none⟩ 1 1 [.string TT] (by first | (simp [Act.eval]; done) | simp [Act.eval, Act.put]) rfl (lit_one (show (((w10.alloc (.cells #[.string TT] 9)).alloc (.cells #[.int .i64 a] 3)).drew).heap[bt + 1]? = some (.cells #[.string TT] 9 (0, 0)) from (by rw [← HS10.out]; exact var_alloc (heap_alloc_new w10 _) _))) (by simp [Value.oneCell']) (by omega) (by unfold maxLen; omega) (by omega) (((HJ0.out.alloc (.cells #[.string TT] 9)).alloc (.cells #[.int .i64 a] 3)).drew.size) _ rfl ?_; intro gqS capS wn hown hgrow hat hlt; have HJ := Lib.hid (((HJ0.out.alloc (.cells #[.string TT] 9)).alloc (.cells #[.int .i64 a] 3)).drew.growStrs (ts' := [T, U, TT]) hown hgrow); have HLO := Lib.hid (show wn.heap[bt + 2]? = some (.cells #[.int .i64 a] 3 (0, 0)) from grown_block hgrow (show (((w10.alloc (.cells #[.string TT] 9)).alloc (.cells #[.int .i64 a] 3)).drew).heap[bt + 2]? = some (.cells #[.int .i64 a] 3 (0, 0)) from (by rw [← HS11S.out]; exact heap_alloc_new _ _)) (own_notvar ((HJ0.out.alloc (.cells #[.string TT] 9)).alloc (.cells #[.int .i64 a] 3)).drew.strs (show (((w10.alloc (.cells #[.string TT] 9)).alloc (.cells #[.int .i64 a] 3)).drew).heap[bt + 2]? = some (.cells #[.int .i64 a] 3 (0, 0)) from (by rw [← HS11S.out]; exact heap_alloc_new _ _)) (by decide))); obtain ⟨lo, hlo⟩ : ∃ q, bt + 2 = q := ⟨_, rfl⟩; rw [hlo] at HLO; rw [hlo]; have HS := Lib.hid ((HJ.out).reads HBL.out HBI.out HBX.out HTT.out); clear hown hgrow hat; obtain ⟨wF, hwF⟩ : ∃ q, q = wn := ⟨_, rfl⟩; subst hwF)
        | (refine step_append_lies _ rfl (.tmp 93) (.tmp 100) 22 rfl (X + 1) 3 i1 (.int .i64 0) 1 8 Try.underlying22 hi1 hy0 hy1 hy2 rfl (by decide) (.slice (some ⟨bd, 0, none⟩) 2 2) 2 ([d, D].map (Value.int .i64)) (by first | (simp [Act.eval]; done) | simp [Act.eval, Act.put]) (show (((w10.alloc (.cells #[.string TT] 9)).alloc (.cells #[.int .i64 a] 3)).drew).ownsRow _ _ _ _ _ _ from ((HJ0.out.alloc (.cells #[.string TT] 9)).alloc (.cells #[.int .i64 a] 3)).drew.ints) ⟨bt + 2, 0, none⟩ 1 1 [.int .i64 a] (by first | (simp [Act.eval]; done) | simp [Act.eval, Act.put]) rfl (lit_one (show (((w10.alloc (.cells #[.string TT] 9)).alloc (.cells #[.int .i64 a] 3)).drew).heap[bt + 2]? = some (.cells #[.int .i64 a] 3 (0, 0)) from (by rw [← HS11S.out]; exact heap_alloc_new _ _))) (by simp [Value.oneCell']) (by omega) (by unfold maxLen; omega) (by omega) (((HJ0.out.alloc (.cells #[.string TT] 9)).alloc (.cells #[.int .i64 a] 3)).drew.size) _ rfl ?_; intro gqI capI wn hown hgrow hat hlt; have HJ := Lib.hid (((HJ0.out.alloc (.cells #[.string TT] 9)).alloc (.cells #[.int .i64 a] 3)).drew.growInts (ds' := [d, D, a]) hown hgrow); have HLO := Lib.hid (show wn.heap[bt + 1]? = some (.cells #[.string TT] 9 (0, 0)) from grown_block hgrow (show (((w10.alloc (.cells #[.string TT] 9)).alloc (.cells #[.int .i64 a] 3)).drew).heap[bt + 1]? = some (.cells #[.string TT] 9 (0, 0)) from (by rw [← HS10.out]; exact var_alloc (heap_alloc_new w10 _) _)) (own_notvar ((HJ0.out.alloc (.cells #[.string TT] 9)).alloc (.cells #[.int .i64 a] 3)).drew.ints (show (((w10.alloc (.cells #[.string TT] 9)).alloc (.cells #[.int .i64 a] 3)).drew).heap[bt + 1]? = some (.cells #[.string TT] 9 (0, 0)) from (by rw [← HS10.out]; exact var_alloc (heap_alloc_new w10 _) _)) (by decide))); obtain ⟨lo, hlo⟩ : ∃ q, bt + 1 = q := ⟨_, rfl⟩; rw [hlo] at HLO; rw [hlo]; have HS := Lib.hid ((HJ.out).reads HBL.out HBI.out HBX.out HTT.out); clear hown hgrow hat; obtain ⟨wF, hwF⟩ : ∃ q, q = wn := ⟨_, rfl⟩; subst hwF)
        | (refine step_append_lies _ rfl (.tmp 102) (.tmp 109) 34 rfl (X + 1) 9 i2 (.string ByteArray.empty) 1 16 Try.underlying34 hi2 hu0 hu1 hu2 rfl (by decide) (.slice (some ⟨bt, 0, none⟩) 2 2) 2 ([T, U].map Value.string) (by first | (simp [Act.eval]; done) | simp [Act.eval, Act.put]) (show (((w10.alloc (.cells #[.int .i64 a] 3)).alloc (.cells #[.string TT] 9)).drew).ownsRow _ _ _ _ _ _ from ((HJ0.out.alloc (.cells #[.int .i64 a] 3)).alloc (.cells #[.string TT] 9)).drew.strs) ⟨bt + 2, 0, none⟩ 1 1 [.string TT] (by first | (simp [Act.eval]; done) | simp [Act.eval, Act.put]) rfl (lit_one (show (((w10.alloc (.cells #[.int .i64 a] 3)).alloc (.cells #[.string TT] 9)).drew).heap[bt + 2]? = some (.cells #[.string TT] 9 (0, 0)) from (by rw [← HS11I.out]; exact heap_alloc_new _ _))) (by simp [Value.oneCell']) (by omega) (by unfold maxLen; omega) (by omega) (((HJ0.out.alloc (.cells #[.int .i64 a] 3)).alloc (.cells #[.string TT] 9)).drew.size) _ rfl ?_; intro gqS capS wn hown hgrow hat hlt; have HJ := Lib.hid (((HJ0.out.alloc (.cells #[.int .i64 a] 3)).alloc (.cells #[.string TT] 9)).drew.growStrs (ts' := [T, U, TT]) hown hgrow); have HLO := Lib.hid (show wn.heap[bt + 1]? = some (.cells #[.int .i64 a] 3 (0, 0)) from grown_block hgrow (show (((w10.alloc (.cells #[.int .i64 a] 3)).alloc (.cells #[.string TT] 9)).drew).heap[bt + 1]? = some (.cells #[.int .i64 a] 3 (0, 0)) from (by rw [← HS10.out]; exact var_alloc (heap_alloc_new w10 _) _)) (own_notvar ((HJ0.out.alloc (.cells #[.int .i64 a] 3)).alloc (.cells #[.string TT] 9)).drew.strs (show (((w10.alloc (.cells #[.int .i64 a] 3)).alloc (.cells #[.string TT] 9)).drew).heap[bt + 1]? = some (.cells #[.int .i64 a] 3 (0, 0)) from (by rw [← HS10.out]; exact var_alloc (heap_alloc_new w10 _) _)) (by decide))); obtain ⟨lo, hlo⟩ : ∃ q, bt + 1 = q := ⟨_, rfl⟩; rw [hlo] at HLO; rw [hlo]; have HS := Lib.hid ((HJ.out).reads HBL.out HBI.out HBX.out HTT.out); clear hown hgrow hat; obtain ⟨wF, hwF⟩ : ∃ q, q = wn := ⟨_, rfl⟩; subst hwF)
))
    all_goals (
     have hxF := (HJ.out.ke.2.2 X (by rw [HSE1.out]; omega) (by omega)).trans HX1.out
     have hrF := (HJ.out.ke.2.2 R (by rw [HSE1.out]; omega) (by omega)).trans HRE1.out
     obtain ⟨cxF, fxF⟩ := cell_frozen_one hxF
     obtain ⟨crF, frF⟩ := cell_frozen_one hrF
     obtain ⟨cbF, fbF⟩ := cell_frozen_one HJ.out.bvar
     have HXF := Lib.hid hxF
     clear hxF hrF
     go_wp2_with fail
     obtain ⟨W0, hW0⟩ : ∃ V, wF.alloc (.cells #[.slice A1 n1 c1, .slice Ax nx cx, .slice (some ⟨gb, 0, none⟩) nx c6] 25) = V := ⟨_, rfl⟩
     rw [hW0]
     obtain ⟨L, hL⟩ : ∃ q, wF.heap.size = q := ⟨_, rfl⟩
     rw [hL]
     have HLIT := Lib.hid (show W0.heap[L]? = some (.cells #[.slice A1 n1 c1, .slice Ax nx cx, .slice (some ⟨gb, 0, none⟩) nx c6] 25 (0, 0)) from by rw [← hW0, ← hL]; exact heap_alloc_new _ _)
     have HXV := Lib.hid (show W0.heap[X]? = some (.cells #[.slice Ax nx cx] 25 (0, 0)) from by rw [← hW0]; exact var_alloc HXF.out _)
     have HB0 := Lib.hid (show Below w.heap.size w W0 from by rw [← hW0]; exact (HJ.out.deck.alloc _).1)
     have HWR := Lib.hid (HL.out.below HB0.out)
     have HWX := Lib.hid (show Im.Wide W0 Ax nx cx lx from by rw [← hW0]; exact (HXW.out.kept HDE.out HJ.out.ke.2).below ((Below.refl _ _).alloc (Nat.le_refl _) _))
     have hJ0 : DoesJ w (w5.alloc (.cells #[.slice Ax nx cx] 25)) W0 A n c g X Bn (some ⟨gb, 0, none⟩) nx c6 (lx.set i (a, ct, t)) (.slice (some ⟨gqI, 0, none⟩) (2 + 1) capI) (2 + 1) [d, D, a] (.slice (some ⟨gqS, 0, none⟩) (2 + 1) capS) (2 + 1) [T, U, TT] := by rw [← hW0]; exact HJ.out.alloc _
     have HWB := Lib.hid (show Im.Wide W0 (some ⟨gb, 0, none⟩) nx c6 (lx.set i (a, ct, t)) from by
       obtain ⟨A', n', c', hv, hh⟩ := Im.Wide.own hJ0.rows (by rw [HBL.out]; omega) (fun x hx => by
         rcases List.mem_or_eq_of_mem_set hx with h | rfl
         · have := HFX.out x h; omega
         · have := HTXL.out; simp only; omega)
       injection hv with e1 e2 e3
       subst e1 e2 e3
       exact hh)
     have hTT4 : TT.size ≤ 4 := by rw [← HTT.out, Cm.b_size']; exact HTXL.out
     obtain ⟨ds, hdl, hdc⟩ : ∃ ds : List Int, ds.length = 3 ∧ ∀ i (h : i < ds.length), W0.cell? ⟨gqI, i, none⟩ = some (.int .i64 ds[i]) := ⟨[d, D, a], rfl, fun i h => by
       have h' : i < 3 := h
       rw [World.ownsRow.cellAt hJ0.ints i (by omega), List.getElem?_map, List.getElem?_eq_getElem h]; rfl⟩
     obtain ⟨ts, htl, htz, htc⟩ : ∃ ts : List ByteArray, ts.length = 3 ∧ (∀ x ∈ ts, x.size ≤ 100000) ∧ ∀ i (h : i < ts.length), W0.cell? ⟨gqS, i, none⟩ = some (.string ts[i]) := ⟨[T, U, TT], rfl, fun x hx => by
       have := HU.out
       simp only [List.mem_cons, List.not_mem_nil, or_false] at hx
       rcases hx with rfl | rfl | rfl <;> omega, fun i h => by
       have h' : i < 3 := h
       rw [World.ownsRow.cellAt hJ0.strs i (by omega), List.getElem?_map, List.getElem?_eq_getElem h]; rfl⟩
     obtain ⟨lb, hlb⟩ : ∃ q, lx.set i (a, ct, t) = q := ⟨_, rfl⟩
     rw [hlb] at HWB
     have HLB := HWB
     have HDC := Lib.hid hdc
     have HTC := Lib.hid htc
     have HTZ := Lib.hid htz
     have hLW : L < W0.heap.size := by rw [← hW0, ← hL]; simp
     have hbdW : gqI < W0.heap.size := (World.ownsRow.lt hJ0.ints gqI rfl).2
     have hbtW : gqS < W0.heap.size := (World.ownsRow.lt hJ0.strs gqS rfl).2
     have hXW : X < W0.heap.size := by have := hJ0.size; omega
     clear hdc htc htz hlb cxF fxF crF frF cbF fbF hW0 hL hJ0 hTT4
     exact refsDoes_main HC.out w W0 X L gqI gqS 3 3 capI capS A1 Ax (some ⟨gb, 0, none⟩) n1 c1 nx cx nx c6 l1 lx lb ds ts HLIT.out HXV.out HB0.out HWR.out HWX.out HLB.out hdl htl (by decide) (by decide) HDC.out HTC.out HTZ.out hLW hbdW hbtW hXW _ (by assumption) _ _ _ _ _ _ _ _ _ _ _ _ _ _ _ _ _ _ _ _ _ _ _ _ _ _ _ _ _ _ _ _ _ _ _ _ _ _ _ _ _ _ _ _ _ _ _ _ _ _ _ _ _ _ _ _ _ _ _ _ _ _ _ _ _ _ _ _ _ _ _ _ _ _ _ _ _ _ _ _ _ _ _ _ _ _ _ _ _ _ _ _ _ _ _ _ _ _ _ _ _ _ _ _ _ _ _ _ _ _ _
     )

end Go.Proofs.Ytmdakplaaehmnaa
