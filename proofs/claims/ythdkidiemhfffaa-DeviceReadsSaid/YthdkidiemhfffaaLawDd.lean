/-
  DeviceReads.
-/
import Derived.Test.YthdkidiemhfffaaLawDc
namespace Go.Proofs.Ythdkidiemhfffaa
open Go.RowKit
set_option maxHeartbeats 4000000

set_option maxRecDepth 100000 in
set_option maxHeartbeats 40000000 in
theorem deviceReads_walk (A : Option Addr) (n c : Nat) (z : List Int) (w0 : World) (hz : IntsIn .i64 w0 A n c z) (hc : c * Try.prog.bytesOf 3 ≤ 140737488351232) :
    Calls Try.prog 4 #[.slice A n c] w0 fun e w' => e = .returned (.bool true) ∧ Below w0.heap.size w0 w' := by
  have hb8 : Try.prog.bytesOf 3 = 8 := by kernel_rfl
  rw [hb8] at hc
  have hnc := hz.2.1
  have hn : n ≤ 17592186044416 := by omega
  clear hb8 hc hnc
  have F1 := Lib.hid (fun V => few_any A n c V (by omega))
  have K1 := Lib.hid (fun V hb => new_any A n c w0 V hb)
  have N1 := Lib.hid (fun g W m h m0 m1 => next_any A n c z g w0 W m hz hn h m0 m1)
  have T1 := Lib.hid (fun g V h => mkText_any A n c z g w0 V 16 hz hn h (by decide) (by decide))
  by_cases h500 : 500 < n
  · have d1 : decide ((n : Int) ≤ 500) = false := by simp; omega
    go_enter Try.func4, Try.ntmps4
    go_wp2_with fail
    refine (saneD_any _).mono ?_
    rintro e w1 ⟨rfl, hB1⟩
    go_wp2_with fail
    refine (F1.out _).mono ?_
    rintro e w2 ⟨rfl, rfl⟩
    go_wp2_with fail
    go_ret
    exact ⟨rfl, hB1⟩
  have d1 : decide ((n : Int) ≤ 500) = true := by simp; omega
  clear hz h500
  go_enter Try.func4, Try.ntmps4
  go_wp2_with fail
  refine (saneD_any _).mono ?_
  rintro e w1 ⟨rfl, hB1⟩
  go_wp2_with fail
  refine (F1.out _).mono ?_
  rintro e w2 ⟨rfl, rfl⟩
  go_wp2_with fail
  refine (K1.out _ hB1).mono ?_
  rintro e w2 ⟨rfl, hd2, _⟩
  obtain ⟨g, hg⟩ : ∃ g, w1.heap.size = g := ⟨_, rfl⟩
  rw [hg] at hd2 ⊢
  clear hB1 hg
  go_wp2_with fail
  refine (N1.out g _ 6 hd2 (by decide) (by decide)).mono ?_
  rintro e w3 ⟨x, rfl, hx, hd3, _⟩
  obtain ⟨nn, hnn⟩ : ∃ nn : Nat, 1 + (x : Int) = (nn : Int) := ⟨1 + x, by omega⟩
  have n1 : 1 ≤ nn := by omega
  have n2 : nn ≤ 6 := by omega
  have HNN := Lib.hid hnn
  have HD3 := Lib.hid hd3
  clear hd2 hd3 hnn
  have A1 := Lib.hid (show ∀ W, Dv.Ans 28 #[.int .i64 16, .int .i64 (nn : Int)] W ⟨16, List.replicate (nn : Int).toNat ByteArray.empty, [], [], 0, false⟩ 0 from fun W => Dv.newA 16 (nn : Int) W (q := (⟨16, List.replicate (nn : Int).toNat ByteArray.empty, [], [], 0, false⟩, 0)) (Dv.new_yes (by omega)))
  go_wp2_with fail
  simp only [HNN.out]
  clear hx
  refine (A1.out _).mono ?_
  rintro e w4 ⟨xas, xaA, xan, xac, xaB, xam, xad, xaC, xak, xae, xaf, xab, rfl, xaV, xa1, xa2, xa3, xa4, hq⟩
  have hs4 := hq.size
  have hd4 := Dv.deck_below HD3.out hq
  obtain ⟨p, hp⟩ : ∃ p, w4.heap.size = p := ⟨_, rfl⟩
  obtain ⟨w5, hw5⟩ : ∃ V, w4.alloc (.cells #[.int .i64 xas, .slice xaA xan xac, .slice xaB xam xad, .slice xaC xak xae, .int .i64 xaf, .bool xab] 25) = V := ⟨_, rfl⟩
  have hb5 : Below w4.heap.size w4 w5 := by rw [← hw5]; exact (Below.refl _ _).alloc (Nat.le_refl _) _
  have hs5 : w5.heap.size = p + 1 := by rw [← hw5]; simp [hp]
  have hx5 : Box6 w5 p 25 (.int .i64 xas) (.slice xaA xan xac) (.slice xaB xam xad) (.slice xaC xak xae) (.int .i64 xaf) (.bool xab) := by rw [← hw5]; exact Box6.new _ _ _ _ _ _ _ _ _ hp
  have hd5 := Dv.deck_below hd4 hb5
  have hv5 := (xaV.below hb5)
  have hgl := Dv.deck_lt HD3.out
  -- the texts written last, and the states
  obtain ⟨w6, hw6⟩ : ∃ V, w5.alloc (.cells (List.replicate nn (Value.string ByteArray.empty)).toArray 9) = V := ⟨_, rfl⟩
  obtain ⟨w7, hw7⟩ : ∃ V, w6.alloc (.cells (List.replicate nn (Value.int .i64 0)).toArray 32) = V := ⟨_, rfl⟩
  have hb6 : Below w5.heap.size w5 w6 := by rw [← hw6]; exact (Below.refl _ _).alloc (Nat.le_refl _) _
  have hb7 : Below w6.heap.size w6 w7 := by rw [← hw7]; exact (Below.refl _ _).alloc (Nat.le_refl _) _
  have hs6 : w6.heap.size = p + 1 + 1 := by rw [← hw6]; simp [hs5]
  have o6 : w6.ownsRow (g + 1) 9 1 (.slice (some ⟨p + 1, 0, none⟩) nn nn) nn (Dv.strs (List.replicate nn ByteArray.empty)) := by
    have h := own_made (w := w5) (B := g + 1) (e := 9) (Value.string ByteArray.empty) nn (by omega) (by omega)
    rw [hw6, hs5] at h
    simpa using h
  have o7 : w7.ownsRow (g + 1) 32 1 (.slice (some ⟨p + 1 + 1, 0, none⟩) nn nn) nn (Dv.ints (List.replicate nn 0)) := by
    have h := own_made (w := w6) (B := g + 1) (e := 32) (Value.int .i64 0) nn (by omega) (by omega)
    rw [hw7, hs6] at h
    simpa using h
  obtain ⟨gl, hglE⟩ : ∃ a, p + 1 = a := ⟨_, rfl⟩
  obtain ⟨gs, hgsE⟩ : ∃ a, p + 1 + 1 = a := ⟨_, rfl⟩
  have MS := Lib.hid (Rd.run_makeE nn (by omega))
  have ML := Lib.hid (Dv.run_make nn (by omega))
  have S7 := Lib.hid (show Rd.St w0 A n c g p gl gs nn w7 ⟨16, List.replicate (nn : Int).toNat ByteArray.empty, [], [], 0, false⟩ (List.replicate nn ByteArray.empty) (List.replicate nn 0) (.int .i64 xas) (.slice xaA xan xac) (.slice xaB xam xad) (.slice xaC xak xae) (.int .i64 xaf) (.bool xab) from by
    refine ⟨Dv.deck_below (Dv.deck_below hd5 hb6) hb7, (hx5.below hb6 hx5.lt).below hb7 (by omega), ((hv5.below hb6).below hb7).mono hgl, ?_, ?_, ?_, by omega⟩
    · rw [← hglE]; exact own_below o6 hb7
    · rw [← hgsE]; exact o7
    · intro v0 v1 v2 e hv
      obtain ⟨⟨u0, u1, u2, eu, o0, _, _⟩, _⟩ := xaV
      rw [eu] at e
      unfold Dv.val at e
      injection e with e
      have e := (congrArg Array.toList e)
      simp only [List.cons.injEq, and_true, true_and] at e
      obtain ⟨rfl, -, -⟩ := e
      have := (o0.lt gl hv).2
      omega)
  have hpgl : p < gl := by omega
  have hglgs : gl < gs := by omega
  have HW5 := Lib.hid hw5
  have HW6 := Lib.hid hw6
  have HW7 := Lib.hid hw7
  have HS5 := Lib.hid (hs5.trans hglE)
  have HS6 := Lib.hid (hs6.trans hgsE)
  have HM7 := Lib.hid (Rd.M.new nn n1 (by omega))
  have HT7 := Lib.hid (show ∀ s ∈ List.replicate nn ByteArray.empty, s.size ≤ 16 from fun s hs => by have := (List.mem_replicate.1 hs).2; subst this; decide)
  clear hq hd4 hw5 hb5 hx5 hd5 hv5 hw6 hw7 hb6 hb7 o6 o7 xaV xa1 xa2 xa3 xa4 hs5 hs6 hglE hgsE hs4 hgl
  go_wp2_with fail
  rw [HW5.out]
  clear hp
  rw [ML.out, HS5.out, HW6.out]
  go_wp2_with fail
  rw [MS.out, HS6.out, HW7.out]
  go_wp2_with fail
  go_loopw [9] (fun i wr => ∃ (k : Nat) (d : Dv.D) (last : List ByteArray) (st : List Int) (s : Int) (A' : Option Addr) (n' c' : Nat) (B' : Option Addr) (m k' : Nat) (C : Option Addr) (l q : Nat) (f : Int) (b : Bool), k ≤ 60 ∧ i = .int .i64 k ∧ Rd.St w0 A n c g p gl gs nn wr d last st (.int .i64 s) (.slice A' n' c') (.slice B' m k') (.slice C l q) (.int .i64 f) (.bool b) ∧ Rd.M d last st nn ∧ (∀ s ∈ last, s.size ≤ 16)) (fun i _ => 60 - (intOf i).toNat)
  case atStart => exact ⟨0, _, _, _, _, _, _, _, _, _, _, _, _, _, _, _, by omega, rfl, S7.out, HM7.out, HT7.out⟩
  case round =>
    obtain ⟨k, d, last, st, s, A', n', c', B', m, k', C, l, q, f, b, hk, rfl, hS, hM, hT⟩ := hrel
    have S := Lib.hid hS
    have HM := Lib.hid hM
    have HT := Lib.hid hT
    obtain ⟨_, _, kk, _, hh⟩ := hS.deck
    obtain ⟨mo, hmo⟩ : ∃ b, decide (kk < n) = b := ⟨_, rfl⟩
    have M1 := Lib.hid (more_any A n c g kk wr hh)
    rw [hmo] at M1
    clear hS hM hT hh hmo
    by_cases hlt : k < 60
    · have e0 : decide ((k : Int) < 60) = true := by simp; omega
      cases mo with
      | false =>
        go_wp2_with fail
        refine M1.out.mono ?_
        rintro e w8 ⟨rfl, rfl⟩
        go_wp2_with fail
        go_ret
        exact ⟨rfl, S.out.deck.1.drew⟩
      | true =>
      go_wp2_with fail
      refine M1.out.mono ?_
      rintro e w8 ⟨rfl, rfl⟩
      have SD := Lib.hid (S.out.below (Below.refl _ _).drew)
      go_wp2_with fail
      refine (N1.out g _ (nn : Int) SD.out.deck (by omega) (by omega)).mono ?_
      rintro e w9 ⟨i, rfl, hi', hd9, hs9⟩
      have hi : i < nn := by omega
      have S9 := Lib.hid (SD.out.next hd9 ⟨by rw [hs9.1]; exact Nat.le_refl _, fun b _ hg => hs9.2 b hg⟩)
      have i0 : (0 : Int) ≤ (i : Int) := by omega
      clear hd9 hs9
      go_wp2_with fail
      refine (N1.out g _ 8 S9.out.deck (by decide) (by decide)).mono ?_
      rintro e w10 ⟨cc, rfl, hcc, hd10, hs10⟩
      have S10 := Lib.hid (S9.out.next hd10 ⟨by rw [hs10.1]; exact Nat.le_refl _, fun b _ hg => hs10.2 b hg⟩)
      have hgl10 := S10.out.lt
      obtain ⟨u, hu⟩ : ∃ u, ∃ h : i < st.length, st[i] = u := ⟨st[i]'(by rw [HM.out.sl]; exact hi), by rw [HM.out.sl]; exact hi, rfl⟩
      have hub := HM.out.st12 hi hu
      have HU := Lib.hid hu
      have HC := Lib.hid (show (Dv.ints st)[i]? = some (.int .i64 u) from by obtain ⟨h0, h1⟩ := hu; rw [List.getElem?_map, List.getElem?_eq_getElem h0, h1]; rfl)
      have HUB := Lib.hid hub
      clear hd10 hs10 hu hub
      obtain ⟨p0, p1, p2, p3, p4, p5, f0, f1, f2, f3, f4, f5⟩ := S10.out.box.s
      by_cases q0 : cc = 0
      · subst q0
        have A2 := Lib.hid (show ∀ W v, DevV W v d → Dv.Ans 24 #[v, .int .i64 (i : Int)] W (Dv.spoil d (i : Int)) 0 from fun W v h => Dv.failA h (HM.out.fail hi))
        have HM2 := Lib.hid (HM.out.spoil hi)
        have HT2 := Lib.hid HT.out
        go_wp2_with fail
        refine (A2.out _ _ S10.out.dev.dev).mono ?_
        rintro e w11 ⟨xbs, xbA, xbn, xbc, xbB, xbm, xbd, xbC, xbk, xbe, xbf, xbb, rfl, xbV, xb1, xb2, xb3, xb4, hq⟩
        have SA := Lib.hid (S10.out.below hq)
        have SN := Lib.hid ((((S10.out.below hq).store xbV (by omega)).puts i 12).below ((Below.refl _ _).alloc (Nat.le_refl _) (.cells #[.int .i64 xbs, .slice xbA xbn xbc, .slice xbB xbm xbd, .slice xbC xbk xbe, .int .i64 xbf, .bool xbb] 25)))
        have hp11 := SA.out.box.lt
        have hl11 := SA.out.lt.1
        have hg11 := SA.out.lt.2
        have hs11 := hq.size
        have cst := (World.ownsRow.cellAt SA.out.st i (by omega)).trans HC.out
        have fst := World.ownsRow.frozenAt SA.out.st i
        clear hq xbV xb1 xb2 xb3 xb4 p0 p1 p2 p3 p4 p5 f0 f1 f2 f3 f4 f5
        obtain ⟨p0, p1, p2, p3, p4, p5, f0, f1, f2, f3, f4, f5⟩ := SA.out.box.s
        go_wp2_with fail
        go_loopw [152] (fun iv wr => ∃ j : Nat, j ≤ nn ∧ iv = .int .i64 j ∧ Rd.St w0 A n c g p gl gs nn wr (Dv.spoil d (i : Int)) (last) (st.set i 12) (.int .i64 xbs) (.slice xbA xbn xbc) (.slice xbB xbm xbd) (.slice xbC xbk xbe) (.int .i64 xbf) (.bool xbb)) (fun iv _ => nn - (intOf iv).toNat)
        case atStart => exact ⟨0, by omega, rfl, SN.out⟩
        case round =>
          obtain ⟨j, hj, rfl, hS⟩ := hrel
          have SJ := Lib.hid hS
          obtain ⟨p0, p1, p2, p3, p4, p5, f0, f1, f2, f3, f4, f5⟩ := hS.box.s
          clear hS
          by_cases hlt : j < nn
          · have e0 : decide ((j : Int) < (nn : Int)) = true := by simp; omega
            have i0 : (0 : Int) ≤ (j : Int) := by omega
            have i1 : (j : Int) < (nn : Int) := by omega
            obtain ⟨hr2, hr1⟩ := HM2.out.read hlt
            have hl1 : j < (last).length := by rw [HM2.out.ll]; exact hlt
            have hl2 : j < (st.set i 12).length := by rw [HM2.out.sl]; exact hlt
            obtain ⟨u, hu⟩ : ∃ u, (st.set i 12)[j] = u := ⟨_, rfl⟩
            obtain ⟨TX, hTX⟩ : ∃ TX, (last)[j] = TX := ⟨_, rfl⟩
            rw [hu] at hr2 hr1
            rw [hTX] at hr1
            obtain ⟨Y, hY⟩ : ∃ Y, (Dv.read (Dv.spoil d (i : Int)) (j : Int)).1 = Y := ⟨_, rfl⟩
            rw [hY] at hr1
            have R1 := Lib.hid (show Dv.read (Dv.spoil d (i : Int)) (j : Int) = (Y, u) from Prod.ext hY hr2)
            have HC1 := Lib.hid (show (Dv.ints (st.set i 12))[j]? = some (.int .i64 u) from by rw [List.getElem?_map, List.getElem?_eq_getElem hl2, hu]; rfl)
            have HC2 := Lib.hid (show (Dv.strs (last))[j]? = some (.string TX) from by rw [List.getElem?_map, List.getElem?_eq_getElem hl1, hTX]; rfl)
            have HY := Lib.hid hr1
            clear hr1 hr2 hl1 hl2 hu hTX hY
            go_wp2_with fail
            refine (Dv.readA SJ.out.dev.dev R1.out).mono ?_
            rintro e wb ⟨rfl, hq⟩
            have SB := Lib.hid (SJ.out.below hq)
            have c1 := (World.ownsRow.cellAt SB.out.st j (by omega)).trans HC1.out
            have c2 := (World.ownsRow.cellAt SB.out.la j (by omega)).trans HC2.out
            clear hq p0 p1 p2 p3 p4 p5 f0 f1 f2 f3 f4 f5
            by_cases hu0 : u = 0
            · obtain rfl := HY.out hu0
              subst hu0
              go_wp2_with fail
              go_roundw
              case rel => exact ⟨j + 1, by omega, by go_num, SB.out⟩
              case measure => simp [intOf]; omega
            · have d1 : (u == 0) = false := beq_eq_false_iff_ne.2 hu0
              clear hu0
              go_wp2_with fail
              go_roundw
              case rel => exact ⟨j + 1, by omega, by go_num, SB.out⟩
              case measure => simp [intOf]; omega
          · obtain rfl : j = nn := by omega
            have e0 : decide ((j : Int) < (j : Int)) = false := by simp
            go_wp2_with fail
            go_roundw
            case rel => exact ⟨k + 1, _, _, _, _, _, _, _, _, _, _, _, _, _, _, _, by omega, by go_num, SJ.out, HM2.out, HT2.out⟩
            case measure => simp [intOf]; omega
      by_cases q1 : cc = 1
      · subst q1
        have A2 := Lib.hid (show ∀ W v, DevV W v d → Dv.Ans 27 #[v, .int .i64 1] W (Dv.lit1 d) 0 from fun W v h => Dv.armA h HM.out.arm1)
        go_wp2_with fail
        refine (A2.out _ _ S10.out.dev.dev).mono ?_
        rintro e w11 ⟨xbs, xbA, xbn, xbc, xbB, xbm, xbd, xbC, xbk, xbe, xbf, xbb, rfl, xbV, xb1, xb2, xb3, xb4, hq⟩
        have SA := Lib.hid (S10.out.below hq)
        have hs11 := hq.size
        obtain ⟨r11, hr11⟩ : ∃ r, w11.heap.size = r := ⟨_, rfl⟩
        obtain ⟨w12, hw12⟩ : ∃ V, w11.alloc (.cells #[.int .i64 xbs, .slice xbA xbn xbc, .slice xbB xbm xbd, .slice xbC xbk xbe, .int .i64 xbf, .bool xbb] 25) = V := ⟨_, rfl⟩
        have hb12 : Below w11.heap.size w11 w12 := by rw [← hw12]; exact (Below.refl _ _).alloc (Nat.le_refl _) _
        have Y12 := Lib.hid (show Box6 w12 r11 25 (.int .i64 xbs) (.slice xbA xbn xbc) (.slice xbB xbm xbd) (.slice xbC xbk xbe) (.int .i64 xbf) (.bool xbb) from by rw [← hw12]; exact Box6.new _ _ _ _ _ _ _ _ _ hr11)
        have V12 := Lib.hid (xbV.below hb12)
        have S12 := Lib.hid (SA.out.below hb12)
        have HW12 := Lib.hid hw12
        have hpr : p < r11 := by rw [← hr11]; exact SA.out.box.lt
        have hgr : gs < r11 := by rw [← hr11]; exact SA.out.lt.2
        have hglr : gl < r11 := by omega
        clear hq hb12 hw12 xbV xb1 xb2 xb3 xb4 p0 p1 p2 p3 p4 p5 f0 f1 f2 f3 f4 f5
        by_cases hbad : (i : Int) ∈ d.bad
        · have A3 := Lib.hid (show ∀ W v, DevV W v (Dv.lit1 d) → Dv.Ans 26 #[v, .int .i64 (i : Int), .string ⟨#[116, 111, 114, 110]⟩] W Dv.none' 12 from fun W v h => Dv.writeA h (by decide) (HM.out.wbad1 hi (by decide) hbad))
          have A4 := Lib.hid (show ∀ W v, DevV W v (Dv.lit1 d) → Dv.Ans 27 #[v, .int .i64 0] W d 0 from fun W v h => Dv.armA h HM.out.arm0)
          obtain rfl := HUB.out.2 hbad
          go_wp2_with fail
          rw [HW12.out]
          clear hr11
          refine (A3.out _ _ V12.out.dev).mono ?_
          rintro e w13 ⟨xcs, xcA, xcn, xcc, xcB, xcm, xcd, xcC, xck, xce, xcf, xcb, rfl, xcV, xc1, xc2, xc3, xc4, hq⟩
          have SB := Lib.hid (S12.out.below hq)
          have YB := Lib.hid (Y12.out.below hq Y12.out.lt)
          have VB := Lib.hid (V12.out.below hq)
          have hs13 := hq.size
          have hrl : r11 < w13.heap.size := YB.out.lt
          have hgl13 := SB.out.lt.2
          have cst := (World.ownsRow.cellAt SB.out.st i (by omega)).trans HC.out
          obtain ⟨w14, hw14⟩ : ∃ V, w13.alloc (.cells #[.int .i64 xcs, .slice xcA xcn xcc, .slice xcB xcm xcd, .slice xcC xck xce, .int .i64 xcf, .bool xcb] 25) = V := ⟨_, rfl⟩
          have hb14 : Below w13.heap.size w13 w14 := by rw [← hw14]; exact (Below.refl _ _).alloc (Nat.le_refl _) _
          have S14 := Lib.hid (SB.out.below hb14)
          have Y14 := Lib.hid (YB.out.below hb14 YB.out.lt)
          have V14 := Lib.hid (VB.out.below hb14)
          have HW14 := Lib.hid hw14
          have cst14 := (hb14.cell (p := ⟨gs, i, none⟩) hgl13).trans cst
          obtain ⟨y0, y1, y2, y3, y4, y5, _, _, _, _, _, _⟩ := YB.out.s
          clear hq hb14 hw14 xcV xc1 xc2 xc3 xc4 cst14
          go_wp2_with fail
          rw [HW14.out]
          refine (A4.out _ _ V14.out.dev).mono ?_
          rintro e w15 ⟨xds, xdA, xdn, xdc, xdB, xdm, xdd, xdC, xdk, xde, xdf, xdb, rfl, xdV, xd1, xd2, xd3, xd4, hq⟩
          have SC := Lib.hid (S14.out.below hq)
          have hs15 := hq.size
          have hs14 : gl < w14.heap.size := S14.out.lt.1
          have SN := Lib.hid ((S14.out.below hq).store xdV hs14)
          clear hq xdV xd1 xd2 xd3 xd4 y0 y1 y2 y3 y4 y5 cst
          obtain ⟨p0, p1, p2, p3, p4, p5, f0, f1, f2, f3, f4, f5⟩ := SC.out.box.s
          go_wp2_with fail
          go_roundw
          case rel => exact ⟨k + 1, _, _, _, _, _, _, _, _, _, _, _, _, _, _, _, by omega, by go_num, SN.out, HM.out, HT.out⟩
          case measure => simp [intOf]; omega
        · have A3 := Lib.hid (show ∀ W v, DevV W v (Dv.lit1 d) → Dv.Ans 26 #[v, .int .i64 (i : Int), .string ⟨#[116, 111, 114, 110]⟩] W (Dv.tear (Dv.lit1 d) (i : Int)) 11 from fun W v h => Dv.writeA h (by decide) (HM.out.wtear hi (by decide) hbad))
          have A4 := Lib.hid (show ∀ W v, DevV W v (Dv.tear (Dv.lit1 d) (i : Int)) → Dv.Ans 15 #[v] W (Dv.torn1 d (i : Int)) 0 from fun W v h => Dv.startA h (HM.out.start hi))
          have HM2 := Lib.hid (HM.out.torn hi hbad)
          have HT2 := Lib.hid HT.out
          have du : (u == 12) = false := beq_eq_false_iff_ne.2 fun e => hbad (HUB.out.1 e)
          go_wp2_with fail
          rw [HW12.out]
          clear hr11
          refine (A3.out _ _ V12.out.dev).mono ?_
          rintro e w13 ⟨xcs, xcA, xcn, xcc, xcB, xcm, xcd, xcC, xck, xce, xcf, xcb, rfl, xcV, xc1, xc2, xc3, xc4, hq⟩
          obtain rfl : true = xcb := xc4
          have SB := Lib.hid (S12.out.below hq)
          have hs13 := hq.size
          have hgl13 := SB.out.lt.2
          have cst := (World.ownsRow.cellAt SB.out.st i (by omega)).trans HC.out
          obtain ⟨r13, hr13⟩ : ∃ r, w13.heap.size = r := ⟨_, rfl⟩
          obtain ⟨w14, hw14⟩ : ∃ V, w13.alloc (.cells #[.int .i64 xcs, .slice xcA xcn xcc, .slice xcB xcm xcd, .slice xcC xck xce, .int .i64 xcf, .bool true] 25) = V := ⟨_, rfl⟩
          have hb14 : Below w13.heap.size w13 w14 := by rw [← hw14]; exact (Below.refl _ _).alloc (Nat.le_refl _) _
          have Z14 := Lib.hid (show Box6 w14 r13 25 (.int .i64 xcs) (.slice xcA xcn xcc) (.slice xcB xcm xcd) (.slice xcC xck xce) (.int .i64 xcf) (.bool true) from by rw [← hw14]; exact Box6.new _ _ _ _ _ _ _ _ _ hr13)
          have S14 := Lib.hid (SB.out.below hb14)
          have V14 := Lib.hid (xcV.below hb14)
          have HW14 := Lib.hid hw14
          have hpr3 : p < r13 := by rw [← hr13]; exact SB.out.box.lt
          have hgr3 : gs < r13 := by rw [← hr13]; exact SB.out.lt.2
          have hglr3 : gl < r13 := by omega
          clear hq hb14 hw14 xcV xc1 xc2 xc3
          go_wp2_with fail
          rw [HW14.out]
          clear hr13
          refine (A4.out _ _ V14.out.dev).mono ?_
          rintro e w15 ⟨xds, xdA, xdn, xdc, xdB, xdm, xdd, xdC, xdk, xde, xdf, xdb, rfl, xdV, xd1, xd2, xd3, xd4, hq⟩
          obtain rfl : false = xdb := xd4
          have SC := Lib.hid (S14.out.below hq)
          have ZC := Lib.hid (Z14.out.below hq Z14.out.lt)
          have hs15 := hq.size
          have hs14 : gl < w14.heap.size := S14.out.lt.1
          have SN := Lib.hid ((((S14.out.below hq).store xdV hs14).puts i 13).below ((Below.refl _ _).alloc (Nat.le_refl _) (.cells #[.int .i64 xds, .slice xdA xdn xdc, .slice xdB xdm xdd, .slice xdC xdk xde, .int .i64 xdf, .bool false] 25)))
          have hp15 := SC.out.box.lt
          have hl15 := SC.out.lt.1
          have hg15 := SC.out.lt.2
          have hr15 : r13 < w15.heap.size := ZC.out.lt
          have cst15 := (World.ownsRow.cellAt SC.out.st i (by omega)).trans HC.out
          have fst15 := World.ownsRow.frozenAt SC.out.st i
          clear hq xdV xd1 xd2 xd3 cst
          obtain ⟨y0, y1, y2, y3, y4, y5, _, _, _, _, _, _⟩ := ZC.out.s
          obtain ⟨p0, p1, p2, p3, p4, p5, f0, f1, f2, f3, f4, f5⟩ := SC.out.box.s
          go_wp2_with fail
          go_loopw [152] (fun iv wr => ∃ j : Nat, j ≤ nn ∧ iv = .int .i64 j ∧ Rd.St w0 A n c g p gl gs nn wr (Dv.torn1 d (i : Int)) (last) (st.set i 13) (.int .i64 xds) (.slice xdA xdn xdc) (.slice xdB xdm xdd) (.slice xdC xdk xde) (.int .i64 xdf) (.bool false)) (fun iv _ => nn - (intOf iv).toNat)
          case atStart => exact ⟨0, by omega, rfl, SN.out⟩
          case round =>
            obtain ⟨j, hj, rfl, hS⟩ := hrel
            have SJ := Lib.hid hS
            obtain ⟨p0, p1, p2, p3, p4, p5, f0, f1, f2, f3, f4, f5⟩ := hS.box.s
            clear hS
            by_cases hlt : j < nn
            · have e0 : decide ((j : Int) < (nn : Int)) = true := by simp; omega
              have i0 : (0 : Int) ≤ (j : Int) := by omega
              have i1 : (j : Int) < (nn : Int) := by omega
              obtain ⟨hr2, hr1⟩ := HM2.out.read hlt
              have hl1 : j < (last).length := by rw [HM2.out.ll]; exact hlt
              have hl2 : j < (st.set i 13).length := by rw [HM2.out.sl]; exact hlt
              obtain ⟨u, hu⟩ : ∃ u, (st.set i 13)[j] = u := ⟨_, rfl⟩
              obtain ⟨TX, hTX⟩ : ∃ TX, (last)[j] = TX := ⟨_, rfl⟩
              rw [hu] at hr2 hr1
              rw [hTX] at hr1
              obtain ⟨Y, hY⟩ : ∃ Y, (Dv.read (Dv.torn1 d (i : Int)) (j : Int)).1 = Y := ⟨_, rfl⟩
              rw [hY] at hr1
              have R1 := Lib.hid (show Dv.read (Dv.torn1 d (i : Int)) (j : Int) = (Y, u) from Prod.ext hY hr2)
              have HC1 := Lib.hid (show (Dv.ints (st.set i 13))[j]? = some (.int .i64 u) from by rw [List.getElem?_map, List.getElem?_eq_getElem hl2, hu]; rfl)
              have HC2 := Lib.hid (show (Dv.strs (last))[j]? = some (.string TX) from by rw [List.getElem?_map, List.getElem?_eq_getElem hl1, hTX]; rfl)
              have HY := Lib.hid hr1
              clear hr1 hr2 hl1 hl2 hu hTX hY
              go_wp2_with fail
              refine (Dv.readA SJ.out.dev.dev R1.out).mono ?_
              rintro e wb ⟨rfl, hq⟩
              have SB := Lib.hid (SJ.out.below hq)
              have c1 := (World.ownsRow.cellAt SB.out.st j (by omega)).trans HC1.out
              have c2 := (World.ownsRow.cellAt SB.out.la j (by omega)).trans HC2.out
              clear hq p0 p1 p2 p3 p4 p5 f0 f1 f2 f3 f4 f5
              by_cases hu0 : u = 0
              · obtain rfl := HY.out hu0
                subst hu0
                go_wp2_with fail
                go_roundw
                case rel => exact ⟨j + 1, by omega, by go_num, SB.out⟩
                case measure => simp [intOf]; omega
              · have d1 : (u == 0) = false := beq_eq_false_iff_ne.2 hu0
                clear hu0
                go_wp2_with fail
                go_roundw
                case rel => exact ⟨j + 1, by omega, by go_num, SB.out⟩
                case measure => simp [intOf]; omega
            · obtain rfl : j = nn := by omega
              have e0 : decide ((j : Int) < (j : Int)) = false := by simp
              go_wp2_with fail
              go_roundw
              case rel => exact ⟨k + 1, _, _, _, _, _, _, _, _, _, _, _, _, _, _, _, by omega, by go_num, SJ.out, HM2.out, HT2.out⟩
              case measure => simp [intOf]; omega
      · have e0c : ((cc : Int) == 0) = false := beq_eq_false_iff_ne.2 (by omega)
        have e1c : ((cc : Int) == 1) = false := beq_eq_false_iff_ne.2 (by omega)
        go_wp2_with fail
        refine (T1.out g _ S10.out.deck).mono ?_
        rintro e w11 ⟨T, rfl, hT', hd11, hk11⟩
        have hT : T.size ≤ 16 := hT'
        have S11 := Lib.hid (S10.out.next hd11 hk11)
        clear hT' hd11 hk11 p0 p1 p2 p3 p4 p5 f0 f1 f2 f3 f4 f5
        obtain ⟨p0, p1, p2, p3, p4, p5, f0, f1, f2, f3, f4, f5⟩ := S11.out.box.s
        by_cases hbad : (i : Int) ∈ d.bad
        · have A3 := Lib.hid (show ∀ W v, DevV W v d → Dv.Ans 26 #[v, .int .i64 (i : Int), .string T] W Dv.none' 12 from fun W v h => Dv.writeA h (by omega) (HM.out.wbad hi hT hbad))
          obtain rfl := HUB.out.2 hbad
          go_wp2_with fail
          refine (A3.out _ _ S11.out.dev.dev).mono ?_
          rintro e w12 ⟨xbs, xbA, xbn, xbc, xbB, xbm, xbd, xbC, xbk, xbe, xbf, xbb, rfl, xbV, xb1, xb2, xb3, xb4, hq⟩
          have SA := Lib.hid (S11.out.below hq)
          have SN := Lib.hid ((S11.out.below hq).below ((Below.refl _ _).alloc (Nat.le_refl _) (.cells #[.int .i64 xbs, .slice xbA xbn xbc, .slice xbB xbm xbd, .slice xbC xbk xbe, .int .i64 xbf, .bool xbb] 25)))
          have hs12 := hq.size
          have hg12 := SA.out.lt.2
          have cst := (World.ownsRow.cellAt SA.out.st i (by omega)).trans HC.out
          clear hq xbV xb1 xb2 xb3 xb4 p0 p1 p2 p3 p4 p5 f0 f1 f2 f3 f4 f5
          go_wp2_with fail
          go_roundw
          case rel => exact ⟨k + 1, _, _, _, _, _, _, _, _, _, _, _, _, _, _, _, by omega, by go_num, SN.out, HM.out, HT.out⟩
          case measure => simp [intOf]; omega
        · have A3 := Lib.hid (show ∀ W v, DevV W v d → Dv.Ans 26 #[v, .int .i64 (i : Int), .string T] W (Dv.put d (i : Int) T) 0 from fun W v h => Dv.writeA h (by omega) (HM.out.wput hi hT hbad))
          have HM2 := Lib.hid (HM.out.put hi hT hbad)
          have HT2 := Lib.hid (HM.out.text HT.out (i := i) hT)
          have du : (u == 12) = false := beq_eq_false_iff_ne.2 fun e => hbad (HUB.out.1 e)
          go_wp2_with fail
          refine (A3.out _ _ S11.out.dev.dev).mono ?_
          rintro e w12 ⟨xbs, xbA, xbn, xbc, xbB, xbm, xbd, xbC, xbk, xbe, xbf, xbb, rfl, xbV, xb1, xb2, xb3, xb4, hq⟩
          have SA := Lib.hid (S11.out.below hq)
          have hgl11 := S11.out.lt.1
          have SN := Lib.hid (((((S11.out.below hq).store xbV hgl11).putl i T).puts i 0).below ((Below.refl _ _).alloc (Nat.le_refl _) (.cells #[.int .i64 xbs, .slice xbA xbn xbc, .slice xbB xbm xbd, .slice xbC xbk xbe, .int .i64 xbf, .bool xbb] 25)))
          have hp12 := SA.out.box.lt
          have hl12 := SA.out.lt.1
          have hg12 := SA.out.lt.2
          have hs12 := hq.size
          have cst := (World.ownsRow.cellAt SA.out.st i (by omega)).trans HC.out
          have fst := World.ownsRow.frozenAt SA.out.st i
          obtain ⟨gq, hgq, _, _, ⟨u2, hu2⟩, fla⟩ := own_at SA.out.la hi
          injection hgq with hgq
          injection hgq with hgq
          subst hgq
          clear hq xbV xb1 xb2 xb3 xb4 p0 p1 p2 p3 p4 p5 f0 f1 f2 f3 f4 f5
          obtain ⟨p0, p1, p2, p3, p4, p5, f0, f1, f2, f3, f4, f5⟩ := SA.out.box.s
          go_wp2_with fail
          go_loopw [152] (fun iv wr => ∃ j : Nat, j ≤ nn ∧ iv = .int .i64 j ∧ Rd.St w0 A n c g p gl gs nn wr (Dv.put d (i : Int) T) (last.set i T) (st.set i 0) (.int .i64 xbs) (.slice xbA xbn xbc) (.slice xbB xbm xbd) (.slice xbC xbk xbe) (.int .i64 xbf) (.bool xbb)) (fun iv _ => nn - (intOf iv).toNat)
          case atStart => exact ⟨0, by omega, rfl, SN.out⟩
          case round =>
            obtain ⟨j, hj, rfl, hS⟩ := hrel
            have SJ := Lib.hid hS
            obtain ⟨p0, p1, p2, p3, p4, p5, f0, f1, f2, f3, f4, f5⟩ := hS.box.s
            clear hS
            by_cases hlt : j < nn
            · have e0 : decide ((j : Int) < (nn : Int)) = true := by simp; omega
              have i0 : (0 : Int) ≤ (j : Int) := by omega
              have i1 : (j : Int) < (nn : Int) := by omega
              obtain ⟨hr2, hr1⟩ := HM2.out.read hlt
              have hl1 : j < (last.set i T).length := by rw [HM2.out.ll]; exact hlt
              have hl2 : j < (st.set i 0).length := by rw [HM2.out.sl]; exact hlt
              obtain ⟨u, hu⟩ : ∃ u, (st.set i 0)[j] = u := ⟨_, rfl⟩
              obtain ⟨TX, hTX⟩ : ∃ TX, (last.set i T)[j] = TX := ⟨_, rfl⟩
              rw [hu] at hr2 hr1
              rw [hTX] at hr1
              obtain ⟨Y, hY⟩ : ∃ Y, (Dv.read (Dv.put d (i : Int) T) (j : Int)).1 = Y := ⟨_, rfl⟩
              rw [hY] at hr1
              have R1 := Lib.hid (show Dv.read (Dv.put d (i : Int) T) (j : Int) = (Y, u) from Prod.ext hY hr2)
              have HC1 := Lib.hid (show (Dv.ints (st.set i 0))[j]? = some (.int .i64 u) from by rw [List.getElem?_map, List.getElem?_eq_getElem hl2, hu]; rfl)
              have HC2 := Lib.hid (show (Dv.strs (last.set i T))[j]? = some (.string TX) from by rw [List.getElem?_map, List.getElem?_eq_getElem hl1, hTX]; rfl)
              have HY := Lib.hid hr1
              clear hr1 hr2 hl1 hl2 hu hTX hY
              go_wp2_with fail
              refine (Dv.readA SJ.out.dev.dev R1.out).mono ?_
              rintro e wb ⟨rfl, hq⟩
              have SB := Lib.hid (SJ.out.below hq)
              have c1 := (World.ownsRow.cellAt SB.out.st j (by omega)).trans HC1.out
              have c2 := (World.ownsRow.cellAt SB.out.la j (by omega)).trans HC2.out
              clear hq p0 p1 p2 p3 p4 p5 f0 f1 f2 f3 f4 f5
              by_cases hu0 : u = 0
              · obtain rfl := HY.out hu0
                subst hu0
                go_wp2_with fail
                go_roundw
                case rel => exact ⟨j + 1, by omega, by go_num, SB.out⟩
                case measure => simp [intOf]; omega
              · have d1 : (u == 0) = false := beq_eq_false_iff_ne.2 hu0
                clear hu0
                go_wp2_with fail
                go_roundw
                case rel => exact ⟨j + 1, by omega, by go_num, SB.out⟩
                case measure => simp [intOf]; omega
            · obtain rfl : j = nn := by omega
              have e0 : decide ((j : Int) < (j : Int)) = false := by simp
              go_wp2_with fail
              go_roundw
              case rel => exact ⟨k + 1, _, _, _, _, _, _, _, _, _, _, _, _, _, _, _, by omega, by go_num, SJ.out, HM2.out, HT2.out⟩
              case measure => simp [intOf]; omega
    · obtain rfl : k = 60 := by omega
      have e0 : decide (((60 : Nat) : Int) < 60) = false := by decide
      go_wp2_with fail
      go_ret
      exact ⟨rfl, S.out.deck.1⟩
end Go.Proofs.Ythdkidiemhfffaa
