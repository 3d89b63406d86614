/-
  ChunkCuts: its walk.
-/
import Derived.Test.YtenkloceonojeaaLawCS
namespace Go.Proofs.Ytenkloceonojeaa
open Go.RowKit
set_option maxHeartbeats 4000000

/-- the cells of a literal slice of three cuttings -/
theorem Cm.three (cs : Array Value) (hi : ∀ i, i < 12 → ∃ x : Int, cs[i]? = some (.int .i64 x)) (j : Nat) (hj : j < 3) :
    ∃ x0 x1 x2 x3 : Int, cs[j * 4]? = some (.int .i64 x0) ∧ cs[j * 4 + 1]? = some (.int .i64 x1) ∧ cs[j * 4 + 2]? = some (.int .i64 x2) ∧ cs[j * 4 + 3]? = some (.int .i64 x3) := by
  obtain ⟨x0, h0⟩ := hi (j * 4) (by omega)
  obtain ⟨x1, h1⟩ := hi (j * 4 + 1) (by omega)
  obtain ⟨x2, h2⟩ := hi (j * 4 + 2) (by omega)
  obtain ⟨x3, h3⟩ := hi (j * 4 + 3) (by omega)
  exact ⟨x0, x1, x2, x3, h0, h1, h2, h3⟩

set_option maxRecDepth 100000 in
theorem chunkCuts_walk (A : Option Addr) (n c : Nat) (z : List Int) (s u : ByteArray) (r0 r1 r2 r3 win : Int) (w : World) (hz : IntsIn .i64 w A n c z) (hc : c * Try.prog.bytesOf 3 ≤ 140737488351232)
    (hs : s.size ≤ 140737488351232) (hu : u.size ≤ 140737488351232) (_ : -9223372036854775808 ≤ r0) (_ : r0 ≤ 9223372036854775807) (_ : -9223372036854775808 ≤ r1) (_ : r1 ≤ 9223372036854775807)
    (_ : -9223372036854775808 ≤ r2) (_ : r2 ≤ 9223372036854775807) (_ : -9223372036854775808 ≤ r3) (_ : r3 ≤ 9223372036854775807) (hw0 : -9223372036854775808 ≤ win) (hw1 : win ≤ 9223372036854775807) :
    Calls Try.prog 3 #[.slice A n c, .string s, .string u, .agg #[.int .i64 r0, .int .i64 r1, .int .i64 r2, .int .i64 r3], .int .i64 win] w fun e w' => e = .returned (.bool true) ∧ Below w.heap.size w w' := by
  have hb8 : Try.prog.bytesOf 3 = 8 := by kernel_rfl
  rw [hb8] at hc
  have hnc := hz.2.1
  have hn : n ≤ 17592186044416 := by omega
  clear hb8 hc hnc
  have F1 := Lib.hid (fun V => few_any A n c V (by omega))
  by_cases h500 : 500 < n
  · have d1 : decide ((n : Int) ≤ 500) = false := by simp; omega
    go_enter Try.func3, Try.ntmps3
    go_wp2_with fail
    refine (csane_any _).mono ?_
    rintro e w1 ⟨rfl, hB1⟩
    go_wp2_with fail
    refine (F1.out _).mono ?_
    rintro e w2 ⟨rfl, rfl⟩
    go_wp2
    go_ret
    exact ⟨rfl, ((Below.refl _ _).alloc (Nat.le_refl _) _).trans (hB1.mono (by simp))⟩
  have d1 : decide ((n : Int) ≤ 500) = true := by simp; omega
  by_cases h3000 : 3000 < s.size + u.size
  · go_enter Try.func3, Try.ntmps3
    go_wp2_with fail
    refine (csane_any _).mono ?_
    rintro e w1 ⟨rfl, hB1⟩
    go_wp2_with fail
    refine (F1.out _).mono ?_
    rintro e w2 ⟨rfl, rfl⟩
    go_wp2
    go_ret
    exact ⟨rfl, ((Below.refl _ _).alloc (Nat.le_refl _) _).trans (hB1.mono (by simp))⟩
  have hsu : s.size + u.size ≤ 3000 := by omega
  have hsu2 : (s.size : Int) + (u.size : Int) ≤ 3000 := by omega
  obtain ⟨wr0, hwr0⟩ : ∃ V, w.alloc (.cells #[.int .i64 r0, .int .i64 r1, .int .i64 r2, .int .i64 r3] 24) = V := ⟨_, rfl⟩
  have hbw : Below w.heap.size w wr0 := by rw [← hwr0]; exact (Below.refl _ _).alloc (Nat.le_refl _) _
  have hzr : IntsIn .i64 wr0 A n c z := hz.below hbw
  have hrb : CutB w.heap.size r0 r1 r2 r3 wr0 := by rw [← hwr0]; exact heap_alloc_new _ _
  have N1 := Lib.hid (fun V hb => new_any A n c wr0 V hb)
  have K1 := Lib.hid (fun g V hd => cutting_any A n c z g wr0 V hzr hn hd)
  have T1 := Lib.hid (fun g V hd => mkText_any A n c z g wr0 V 200 hzr hn hd (by decide) (by decide))
  have T2 := Lib.hid (fun g V hd => mkText_any A n c z g wr0 V 80 hzr hn hd (by decide) (by decide))
  have HWR := Lib.hid hwr0
  have HBW := Lib.hid hbw
  have HRB := Lib.hid hrb
  clear hz h500 h3000 hwr0 hbw hzr hrb hs hu
  go_enter Try.func3, Try.ntmps3
  go_wp2_with fail
  rw [HWR.out]
  refine (csane_any _).mono ?_
  rintro e w1 ⟨rfl, hB1⟩
  go_wp2_with fail
  refine (F1.out _).mono ?_
  rintro e w2 ⟨rfl, rfl⟩
  go_wp2_with fail
  refine (N1.out _ hB1).mono ?_
  rintro e w2 ⟨rfl, hd2, _⟩
  obtain ⟨g, hg⟩ : ∃ g, w1.heap.size = g := ⟨_, rfl⟩
  rw [hg] at hd2 ⊢
  have HD2 := Lib.hid hd2
  clear hd2 hB1 hg
  go_wp2_with fail
  refine (T1.out g _ HD2.out).mono ?_
  rintro e wt1 ⟨a, rfl, ha, hd1, _⟩
  have HD1 := Lib.hid hd1
  clear hd1
  go_wp2_with fail
  refine (T2.out g _ HD1.out).mono ?_
  rintro e wt2 ⟨b, rfl, hb, hd1, _⟩
  have HD2 := Lib.hid hd1
  clear hd1 HD1
  go_wp2_with fail
  refine (K1.out g _ HD2.out).mono ?_
  rintro e w3 ⟨⟨L, M, W, K⟩, rfl, _, hd3⟩
  unfold Cm.C.val Cm.C.cells
  simp only
  have hB3 := hd3.1
  clear hd3 HD2 N1 K1 T1 T2 F1
  obtain ⟨rb, hrb⟩ : ∃ rb, w.heap.size = rb := ⟨_, rfl⟩
  have hrbw : rb < wr0.heap.size := by rw [← hrb]; exact lt_of_block HRB.out
  obtain ⟨q0, q1, q2, q3, _, _, _⟩ := CutB.s (show CutB rb r0 r1 r2 r3 w3 from by rw [← hrb]; exact (hB3.block _ (lt_of_block HRB.out)).trans HRB.out)
  have HB3 := Lib.hid (HBW.out.trans (hB3.mono HBW.out.size))
  have HRBE := Lib.hid hrb
  have hw3 : rb < w3.heap.size := by have := hB3.size; omega
  rw [hrb]
  clear hB3 hrb hrbw HRB HBW HWR
  have ha : a.size ≤ 200 := ha
  have hb : b.size ≤ 80 := hb
  go_wp2_with fail
  obtain ⟨cs, hcs⟩ : ∃ cs : Array Value, #[Value.int .i64 r0, .int .i64 r1, .int .i64 r2, .int .i64 r3, .int .i64 (L : Nat), .int .i64 (M : Nat), .int .i64 (W : Nat), .int .i64 (K : Nat), .int .i64 4, .int .i64 256, .int .i64 4, .int .i64 1024] = cs := ⟨_, rfl⟩
  have hci : ∀ i, i < 12 → ∃ x : Int, cs[i]? = some (.int .i64 x) := fun i h => by
    rw [← hcs]
    match i, h with
    | 0, _ => exact ⟨_, rfl⟩
    | 1, _ => exact ⟨_, rfl⟩
    | 2, _ => exact ⟨_, rfl⟩
    | 3, _ => exact ⟨_, rfl⟩
    | 4, _ => exact ⟨_, rfl⟩
    | 5, _ => exact ⟨_, rfl⟩
    | 6, _ => exact ⟨_, rfl⟩
    | 7, _ => exact ⟨_, rfl⟩
    | 8, _ => exact ⟨_, rfl⟩
    | 9, _ => exact ⟨_, rfl⟩
    | 10, _ => exact ⟨_, rfl⟩
    | 11, _ => exact ⟨_, rfl⟩
  have h3 := Cm.three cs hci
  rw [hcs]
  obtain ⟨wq, hwq⟩ : ∃ wq, w3.alloc (.cells #[.int .i64 (L : Nat), .int .i64 (M : Nat), .int .i64 (W : Nat), .int .i64 (K : Nat)] 24) = wq := ⟨_, rfl⟩
  have hG : w3.heap.size + 1 = wq.heap.size := by rw [← hwq]; simp
  have hBq : Below rb w wq := by rw [← hwq]; exact (HRBE.out ▸ HB3.out).alloc (by omega) _
  rw [hwq, hG]
  have hG2 : rb ≤ wq.heap.size := by omega
  have hc0 : ∀ k, (wq.alloc (.cells cs 24)).cell? ⟨wq.heap.size, k, none⟩ = cs[k]? := fun k => cell_new_at _ _ _ _ rfl k
  have hB0 : Below rb w (wq.alloc (.cells cs 24)) := hBq.alloc hG2 _
  have hs0 : (wq.alloc (.cells cs 24)).heap.size = wq.heap.size + 1 := by simp
  obtain ⟨G, hGe⟩ : ∃ G, wq.heap.size = G := ⟨_, rfl⟩
  rw [hGe] at hc0 hs0 hG2 ⊢
  generalize wq.alloc (.cells cs 24) = W0 at hc0 hB0 hs0 ⊢
  have H3 := Lib.hid (fun j hj => (by obtain ⟨x0, x1, x2, x3, h0, h1, h2, h4⟩ := h3 j hj; exact ⟨x0, x1, x2, x3, (hc0 _).trans h0, (hc0 _).trans h1, (hc0 _).trans h2, (hc0 _).trans h4⟩ :
    ∃ x0 x1 x2 x3 : Int, W0.cell? ⟨G, j * 4, none⟩ = some (.int .i64 x0) ∧ W0.cell? ⟨G, j * 4 + 1, none⟩ = some (.int .i64 x1) ∧ W0.cell? ⟨G, j * 4 + 2, none⟩ = some (.int .i64 x2) ∧ W0.cell? ⟨G, j * 4 + 3, none⟩ = some (.int .i64 x3)))
  have HB0 := Lib.hid hB0
  have HS0 := Lib.hid hs0
  have hG2' : rb ≤ G + 1 := by omega
  obtain ⟨aps, has⟩ : ∃ x, a ++ s = x := ⟨_, rfl⟩
  obtain ⟨sa, hsa⟩ : ∃ x, s ++ a = x := ⟨_, rfl⟩
  obtain ⟨ub, hub⟩ : ∃ x, u ++ b = x := ⟨_, rfl⟩
  have c1 : ∀ V : World, (Op.stringOp .add a s).run Try.prog V = .ok (.string aps) V := fun V => by rw [← has]; exact run_string_add_sum V a s (by omega)
  have c2 : ∀ V : World, (Op.stringOp .add s a).run Try.prog V = .ok (.string sa) V := fun V => by rw [← hsa]; exact run_string_add_sum V s a (by omega)
  have c3 : ∀ V : World, (Op.stringOp .add u b).run Try.prog V = .ok (.string ub) V := fun V => by rw [← hub]; exact run_string_add_sum V u b (by omega)
  have hass : aps.size ≤ 3200 := by rw [← has, ByteArray.size_append]; omega
  have hsas : sa.size ≤ 3200 := by rw [← hsa, ByteArray.size_append]; omega
  have hubs : ub.size ≤ 16384 := by rw [← hub, ByteArray.size_append]; omega
  have hss : s.size ≤ 3200 := by omega
  have has2 : a.size ≤ 3200 := by omega
  clear has hsa hub hcs hci h3 hwq hG hBq hG2 hc0 hB0 hs0 hGe HB3 q0 q1 q2 q3 hw3
  go_loopw [59] (fun i wr => ∃ j : Nat, j ≤ 3 ∧ i = .int .i64 j ∧ Below (G + 1) W0 wr) (fun i wr => 3 - (intOf i).toNat)
  case atStart => exact ⟨0, by omega, rfl, Below.refl _ _⟩
  case round =>
    obtain ⟨j, hj, rfl, hBr⟩ := hrel
    by_cases hlt : j < 3
    · have d8 : decide ((j : Int) < 3) = true := by simp; omega
      obtain ⟨x0, x1, x2, x3, y0, y1, y2, y3⟩ := H3.out j hlt
      have z0 := (hBr.cell (p := ⟨G, j * 4, none⟩) (by show G < G + 1; omega)).trans y0
      have z1 := (hBr.cell (p := ⟨G, j * 4 + 1, none⟩) (by show G < G + 1; omega)).trans y1
      have z2 := (hBr.cell (p := ⟨G, j * 4 + 2, none⟩) (by show G < G + 1; omega)).trans y2
      have z3 := (hBr.cell (p := ⟨G, j * 4 + 3, none⟩) (by show G < G + 1; omega)).trans y3
      have hGr : G < wr.heap.size := by have := hBr.size; have := HS0.out; omega
      obtain ⟨wo, hwo⟩ : ∃ wo : World, wo = wr := ⟨_, rfl⟩
      rw [← hwo] at hBr z0 z1 z2 z3 hGr ⊢
      have HBo := Lib.hid hBr
      clear hBr hwo y0 y1 y2 y3
      go_wp2_with fail
      obtain ⟨xb, hxb⟩ : ∃ xb, wo.heap.size = xb := ⟨_, rfl⟩
      have hbx : CutB xb x0 x1 x2 x3 (wo.alloc (.cells #[.int .i64 x0, .int .i64 x1, .int .i64 x2, .int .i64 x3] 24)) := by rw [← hxb]; exact heap_alloc_new _ _
      have hGx : G + 1 ≤ wo.heap.size := hGr
      have hBx := HBo.out.alloc hGx (.cells #[.int .i64 x0, .int .i64 x1, .int .i64 x2, .int .i64 x3] 24)
      rw [hxb] at hGx ⊢
      generalize wo.alloc (.cells #[.int .i64 x0, .int .i64 x1, .int .i64 x2, .int .i64 x3] 24) = wx at hbx hBx ⊢
      have hbl := lt_of_block hbx
      obtain ⟨ck, hck⟩ : ∃ ck, Cm.chk x0 x1 x2 x3 = ck := ⟨_, rfl⟩
      have P1 := Lib.hid (fun V => hck ▸ check_any x0 x1 x2 x3 V)
      have P2 := Lib.hid (fun V => hck ▸ rcheck_any x0 x1 x2 x3 V)
      have fc : ∀ y : Ext wx.heap.size wx, CutS xb x0 x1 x2 x3 y.1 := fun y => CutB.s ((y.2.block xb hbl).trans hbx)
      have g0 := fun y => (fc y).1
      have g1 := fun y => (fc y).2.1
      have g2 := fun y => (fc y).2.2.1
      have g3 := fun y => (fc y).2.2.2.1
      have HBX := Lib.hid hbx
      have HBx := Lib.hid hBx
      clear hbx hBx z0 z1 z2 z3 HBo hxb fc hck
      refine wp_region_below wx.heap.size (by kernel_rfl) (by kernel_rfl) ?_
      repeat (go_big_quiet_step ((first | (go_at_call 15; exact Calls.ext_of _ (Nat.le_refl _) (P1.out _)) | (go_at_call 16; exact Calls.ext_of _ (Nat.le_refl _) (P2.out _)))))
      refine wpQuiet_nil ?_
      intro w5 hB5
      clear g0 g1 g2 g3
      have hBX5 := Lib.hid (show CutB xb x0 x1 x2 x3 w5 from (hB5.block xb hbl).trans HBX.out)
      have HB5 := Lib.hid (HBx.out.trans (hB5.mono (by omega)))
      have h5 : xb < w5.heap.size := Nat.lt_of_lt_of_le hbl hB5.size
      clear hB5 HBX HBx P1 P2 hbl
      go_wp2_with fail
      obtain ⟨ts, hts⟩ : ∃ ts : List ByteArray, ts = [s, a, aps, sa] := ⟨_, rfl⟩
      have htl : ts.length = 4 := by rw [hts]; rfl
      have htz : ∀ t ∈ ts, t.size ≤ 3200 := by
        intro t ht
        rw [hts] at ht
        simp only [List.mem_cons, List.not_mem_nil, or_false] at ht
        rcases ht with rfl | rfl | rfl | rfl <;> assumption
      have hte : #[Value.string s, Value.string a, Value.string aps, Value.string sa] = (ts.map Value.string).toArray := by rw [hts]; rfl
      rw [hte]
      have hT0 := new_strs w5 9 ts w5.heap.size rfl
      have hT1 : Below (G + 1) W0 (w5.alloc (.cells (ts.map Value.string).toArray 9)) := HB5.out.alloc (by omega) _
      have hT2 : CutB xb x0 x1 x2 x3 (w5.alloc (.cells (ts.map Value.string).toArray 9)) := (Below.heap_alloc _ _ _ h5).trans hBX5.out
      have hT3 : (w5.alloc (.cells (ts.map Value.string).toArray 9)).heap.size = w5.heap.size + 1 := by simp
      obtain ⟨H, hH⟩ : ∃ H, w5.heap.size = H := ⟨_, rfl⟩
      rw [hH] at hT0 hT3 h5 ⊢
      generalize w5.alloc (.cells (ts.map Value.string).toArray 9) = W1 at hT0 hT1 hT2 hT3 ⊢
      have HT0 := Lib.hid hT0
      have HT1 := Lib.hid hT1
      have HT2 := Lib.hid hT2
      have HTL := Lib.hid htl
      have HTZ := Lib.hid htz
      have hHG : G + 1 ≤ H := by omega
      clear hT0 hT1 hT2 htl htz hts hte hH hBX5 HB5
      go_loopw [78] (fun i wr => ∃ p : Nat, p ≤ 4 ∧ i = .int .i64 p ∧ Below (H + 1) W1 wr) (fun i wr => 4 - (intOf i).toNat)
      case atStart => exact ⟨0, by omega, rfl, Below.refl _ _⟩
      case round =>
        obtain ⟨p, hp, rfl, hBp⟩ := hrel
        by_cases hlp : p < 4
        · have d9 : decide ((p : Int) < 4) = true := by simp; omega
          obtain ⟨y, hy, hcy⟩ : ∃ y : ByteArray, y.size ≤ 3200 ∧ wr.cell? ⟨H, p, none⟩ = some (.string y) :=
            ⟨ts[p]'(by rw [HTL.out]; exact hlp), HTZ.out _ (List.getElem_mem _), (hBp.cell (p := ⟨H, p, none⟩) (by show H < H + 1; omega)).trans (HT0.out p _)⟩
          have hbx0 : CutB xb x0 x1 x2 x3 wr := (hBp.block xb (by omega)).trans HT2.out
          have hg := Cm.cutV_good x0 x1 x2 x3 y.data.toList
          have K1 := fun V => cut_any y x0 x1 x2 x3 V (by omega)
          have K2 := fun V => rcut_any y x0 x1 x2 x3 V (by omega)
          have K3 := fun V => ends_any y x0 x1 x2 x3 V (by omega)
          have K4 := fun V => rends_any y x0 x1 x2 x3 V (by omega)
          have K5 := fun V => common_any y ub x0 x1 x2 x3 V (by omega) hubs
          have K6 := fun V => rcommon_any y ub x0 x1 x2 x3 V (by omega) hubs
          obtain ⟨l, er, hr⟩ : ∃ l er, Cm.cutV x0 x1 x2 x3 y.data.toList = (l, er) := ⟨_, _, rfl⟩
          rw [hr] at K1 K2 K3 K4 K5 K6 hg
          obtain ⟨cm, ce, hcm⟩ : ∃ cm ce, Cm.comV (l, er) (Cm.cutV x0 x1 x2 x3 ub.data.toList) = (cm, ce) := ⟨_, _, rfl⟩
          rw [hcm] at K5 K6
          obtain ⟨m, hm⟩ : ∃ m, l.length = m := ⟨_, rfl⟩
          have hm2 : m ≤ 256 := by have := hg.len; simp only at this; omega
          obtain ⟨ee, hee⟩ : ∃ ee, Cm.endsF 0 l = ee := ⟨_, rfl⟩
          have hel : ee.length = m := by rw [← hee, Cm.endsF_length, hm]
          rw [hee] at K3 K4
          have C1 := Lib.hid (fun V => (by
            refine Calls.mono (K1 V) ?_
            rintro e w' ⟨v, rfl, ho, hb⟩
            obtain ⟨A, c, rfl, hci⟩ := own_cells ho
            simp only [hm] at hci
            exact ⟨A, c, by rw [hm], hci, hb⟩ : Calls Try.prog 17 #[.string y, .agg #[.int .i64 x0, .int .i64 x1, .int .i64 x2, .int .i64 x3]] V fun e w' => ∃ A c, e = .returned (.tuple #[.slice A m c, .int .i64 er]) ∧ CellsIn w' A m c (l.map Cm.str) ∧ Below V.heap.size V w'))
          have C2 := Lib.hid (fun V => (by
            refine Calls.mono (K2 V) ?_
            rintro e w' ⟨v, rfl, ho, hb⟩
            obtain ⟨A, c, rfl, hci⟩ := own_cells ho
            simp only [hm] at hci
            exact ⟨A, c, by rw [hm], hci, hb⟩ : Calls Try.prog 18 #[.string y, .agg #[.int .i64 x0, .int .i64 x1, .int .i64 x2, .int .i64 x3]] V fun e w' => ∃ A c, e = .returned (.tuple #[.slice A m c, .int .i64 er]) ∧ CellsIn w' A m c (l.map Cm.str) ∧ Below V.heap.size V w'))
          have C3 := Lib.hid (fun V => (by
            refine Calls.mono (K3 V) ?_
            rintro e w' ⟨v, rfl, ho, hb⟩
            obtain ⟨A, c, rfl, hci⟩ := own_cells ho
            simp only [hel] at hci
            exact ⟨A, c, by rw [hel], hci, hb⟩ : Calls Try.prog 19 #[.string y, .agg #[.int .i64 x0, .int .i64 x1, .int .i64 x2, .int .i64 x3]] V fun e w' => ∃ A c, e = .returned (.tuple #[.slice A m c, .int .i64 er]) ∧ CellsIn w' A m c (ee.map (Value.int .i64)) ∧ Below V.heap.size V w'))
          have C4 := Lib.hid (fun V => (by
            refine Calls.mono (K4 V) ?_
            rintro e w' ⟨v, rfl, ho, hb⟩
            obtain ⟨A, c, rfl, hci⟩ := own_cells ho
            simp only [hel] at hci
            exact ⟨A, c, by rw [hel], hci, hb⟩ : Calls Try.prog 20 #[.string y, .agg #[.int .i64 x0, .int .i64 x1, .int .i64 x2, .int .i64 x3]] V fun e w' => ∃ A c, e = .returned (.tuple #[.slice A m c, .int .i64 er]) ∧ CellsIn w' A m c (ee.map (Value.int .i64)) ∧ Below V.heap.size V w'))
          have C5 := Lib.hid K5
          have C6 := Lib.hid K6
          have S1 := Lib.hid (fun V A A' c c' (h : CellsIn V A m c (l.map Cm.str)) (h' : CellsIn V A' m c' (l.map Cm.str)) => csame_any A A' m m c c' l l V h h' (by omega) (by omega))
          have S2 := Lib.hid (fun V A A' c c' (h : CellsIn V A m c (ee.map (Value.int .i64))) (h' : CellsIn V A' m c' (ee.map (Value.int .i64))) => ints_any A A' m m c c' ee ee V h h' (by omega) (by omega))
          have D1 := Lib.hid (show decide (l = l) = true from decide_eq_true rfl)
          have D2 := Lib.hid (show decide (ee = ee) = true from decide_eq_true rfl)
          obtain ⟨wo, hwo⟩ : ∃ wo : World, wo = wr := ⟨_, rfl⟩
          rw [← hwo] at hBp hcy hbx0 ⊢
          have HBp := Lib.hid hBp
          have HX0 := Lib.hid hbx0
          have hH1 : H + 1 ≤ wo.heap.size := by have := hBp.size; omega
          obtain ⟨q0, q1, q2, q3, _, _, _⟩ := CutB.s hbx0
          clear hBp hbx0 hwo K1 K2 K3 K4 K5 K6 hr hcm hm hel hee hg
          go_wp2_with fail
          refine (C1.out _).mono ?_
          rintro e v1 ⟨A1, c1', rfl, hc1, hb⟩
          have I1 := Lib.hid hc1
          have HX1 := Lib.hid (show CutB xb x0 x1 x2 x3 v1 from (hb.block xb (lt_of_block HX0.out)).trans HX0.out)
          have HY1 := Lib.hid (HBp.out.trans (hb.mono hH1))
          have hH2 : H + 1 ≤ v1.heap.size := Nat.le_trans hH1 hb.size
          clear hc1 hb q0 q1 q2 q3 HX0 HBp hcy
          obtain ⟨q0, q1, q2, q3, _, _, _⟩ := CutB.s HX1.out
          go_wp2_with fail
          refine (C2.out _).mono ?_
          rintro e v2 ⟨A2, c2', rfl, hc1, hb⟩
          have I2 := Lib.hid hc1
          have I1b := Lib.hid (I1.out.below hb)
          have HX2 := Lib.hid (show CutB xb x0 x1 x2 x3 v2 from (hb.block xb (lt_of_block HX1.out)).trans HX1.out)
          have HY2 := Lib.hid (HY1.out.trans (hb.mono hH2))
          have hH3 : H + 1 ≤ v2.heap.size := Nat.le_trans hH2 hb.size
          clear hc1 hb q0 q1 q2 q3 HX1 HY1 I1
          obtain ⟨q0, q1, q2, q3, _, _, _⟩ := CutB.s HX2.out
          go_wp2_with fail
          refine (C3.out _).mono ?_
          rintro e v3 ⟨A3, c3', rfl, hc1, hb⟩
          have I3 := Lib.hid hc1
          have I1c := Lib.hid (I1b.out.below hb)
          have I2c := Lib.hid (I2.out.below hb)
          have HX3 := Lib.hid (show CutB xb x0 x1 x2 x3 v3 from (hb.block xb (lt_of_block HX2.out)).trans HX2.out)
          have HY3 := Lib.hid (HY2.out.trans (hb.mono hH3))
          have hH4 : H + 1 ≤ v3.heap.size := Nat.le_trans hH3 hb.size
          clear hc1 hb q0 q1 q2 q3 HX2 HY2 I1b I2
          obtain ⟨q0, q1, q2, q3, _, _, _⟩ := CutB.s HX3.out
          go_wp2_with fail
          refine (C4.out _).mono ?_
          rintro e v4 ⟨A4, c4', rfl, hc1, hb⟩
          have I4 := Lib.hid hc1
          have I1d := Lib.hid (I1c.out.below hb)
          have I2d := Lib.hid (I2c.out.below hb)
          have I3d := Lib.hid (I3.out.below hb)
          have HX4 := Lib.hid (show CutB xb x0 x1 x2 x3 v4 from (hb.block xb (lt_of_block HX3.out)).trans HX3.out)
          have HY4 := Lib.hid (HY3.out.trans (hb.mono hH4))
          have hH5 : H + 1 ≤ v4.heap.size := Nat.le_trans hH4 hb.size
          clear hc1 hb q0 q1 q2 q3 HX3 HY3 I1c I2c I3
          obtain ⟨q0, q1, q2, q3, _, _, _⟩ := CutB.s HX4.out
          go_wp2_with fail
          refine (C5.out _).mono ?_
          rintro e v5 ⟨rfl, hb⟩
          have I1e := Lib.hid (I1d.out.below hb)
          have I2e := Lib.hid (I2d.out.below hb)
          have I3e := Lib.hid (I3d.out.below hb)
          have I4e := Lib.hid (I4.out.below hb)
          have HX5 := Lib.hid (show CutB xb x0 x1 x2 x3 v5 from (hb.block xb (lt_of_block HX4.out)).trans HX4.out)
          have HY5 := Lib.hid (HY4.out.trans (hb.mono hH5))
          have hH6 : H + 1 ≤ v5.heap.size := Nat.le_trans hH5 hb.size
          clear hb q0 q1 q2 q3 HX4 HY4 I1d I2d I3d I4
          obtain ⟨q0, q1, q2, q3, _, _, _⟩ := CutB.s HX5.out
          go_wp2_with fail
          refine (C6.out _).mono ?_
          rintro e v6 ⟨rfl, hb⟩
          have J1 := Lib.hid (I1e.out.below hb)
          have J2 := Lib.hid (I2e.out.below hb)
          have J3 := Lib.hid (I3e.out.below hb)
          have J4 := Lib.hid (I4e.out.below hb)
          have HY6 := Lib.hid (HY5.out.trans (hb.mono hH6))
          have hH7 : H + 1 ≤ v6.heap.size := Nat.le_trans hH6 hb.size
          clear hb q0 q1 q2 q3 HX5 HY5 I1e I2e I3e I4e C1 C2 C3 C4 C5 C6
          go_wp2_with fail
          refine (S1.out _ _ _ _ _ J1.out J2.out).mono ?_
          rintro e v7 ⟨rfl, hb⟩
          rw [D1.out]
          have J3b := Lib.hid (J3.out.below hb)
          have J4b := Lib.hid (J4.out.below hb)
          have HY7 := Lib.hid (HY6.out.trans (hb.mono hH7))
          have hH8 : H + 1 ≤ v7.heap.size := Nat.le_trans hH7 hb.size
          clear hb J1 J2 J3 J4 HY6 S1
          go_wp2_with fail
          refine (S2.out _ _ _ _ _ J3b.out J4b.out).mono ?_
          rintro e v8 ⟨rfl, hb⟩
          rw [D2.out]
          have HY8 := Lib.hid (HY7.out.trans (hb.mono hH8))
          clear hb J3b J4b HY7 S2
          go_wp2_with fail
          go_roundw
          case rel => exact ⟨p + 1, by omega, by go_num, HY8.out⟩
          case measure => simp [intOf]; omega
        · obtain rfl : p = 4 := by omega
          have HBp := Lib.hid (HT1.out.trans (hBp.mono (by omega)))
          clear hBp
          go_wp2_with fail
          go_roundw
          case rel => exact ⟨j + 1, by omega, by go_num, HBp.out⟩
          case measure => simp [intOf]; omega
    · obtain rfl : j = 3 := by omega
      obtain ⟨wm, hwm⟩ : ∃ wm, win % 9 = wm := ⟨_, rfl⟩
      have hwm0 : 0 ≤ wm ∧ wm < 9 := by omega
      have M1 := Lib.hid (fun V => hwm ▸ mkMod_any win 9 V hw0 hw1 (by decide) (by decide))
      have hGr : G + 1 ≤ wr.heap.size := by have := hBr.size; have := HS0.out; omega
      have HBr := Lib.hid (HB0.out.trans (hBr.mono hG2'))
      clear hBr hwm
      go_wp2_with fail
      refine (M1.out _).mono ?_
      rintro e w' ⟨rfl, rfl⟩
      go_wp2_with fail
      obtain ⟨ws, hws⟩ : ∃ ws : List Int, ws = [win, wm] := ⟨_, rfl⟩
      have hwl : ws.length = 2 := by rw [hws]; rfl
      have hwb : ∀ x ∈ ws, -9223372036854775808 ≤ x ∧ x ≤ 9223372036854775807 := by
        intro x hx
        rw [hws] at hx
        simp only [List.mem_cons, List.not_mem_nil, or_false] at hx
        rcases hx with rfl | rfl <;> omega
      have hwe : #[Value.int .i64 win, Value.int .i64 wm] = (ws.map (Value.int .i64)).toArray := by rw [hws]; rfl
      rw [hwe]
      have hT0 := new_ints wr .i64 3 ws wr.heap.size rfl
      have hrw : rb ≤ wr.heap.size := by rw [← HRBE.out]; exact HBr.out.size
      have hT1 : Below rb w (wr.alloc (.cells (ws.map (Value.int .i64)).toArray 3)) := HBr.out.alloc hrw _
      obtain ⟨Hh, hH⟩ : ∃ H, wr.heap.size = H := ⟨_, rfl⟩
      rw [hH] at hT0 hrw ⊢
      generalize wr.alloc (.cells (ws.map (Value.int .i64)).toArray 3) = W1 at hT0 hT1 ⊢
      have HT0 := Lib.hid hT0
      have HT1 := Lib.hid hT1
      have HWL := Lib.hid hwl
      have HWB := Lib.hid hwb
      clear hT0 hT1 hwl hwb hws hwe hH HBr M1
      go_loopw [161] (fun i wr => ∃ p : Nat, p ≤ 2 ∧ i = .int .i64 p ∧ Below (Hh + 1) W1 wr) (fun i wr => 2 - (intOf i).toNat)
      case atStart => exact ⟨0, by omega, rfl, Below.refl _ _⟩
      case round =>
        obtain ⟨p, hp, rfl, hBp⟩ := hrel
        by_cases hlp : p < 2
        · have d9 : decide ((p : Int) < 2) = true := by simp; omega
          have hpl : p < ws.length := by rw [HWL.out]; exact hlp
          obtain ⟨v, hv, hcv⟩ : ∃ v : Int, (-9223372036854775808 ≤ v ∧ v ≤ 9223372036854775807) ∧ wr.cell? ⟨Hh, p, none⟩ = some (.int .i64 v) :=
            ⟨ws[p]'hpl, HWB.out _ (List.getElem_mem _), (hBp.cell (p := ⟨Hh, p, none⟩) (by show Hh < Hh + 1; omega)).trans (HT0.out p _)⟩
          have hub := Cm.wt_le s.data.toList v.toNat
          obtain ⟨k, hk⟩ : ∃ k, Cm.wt s.data.toList v.toNat = k := ⟨_, rfl⟩
          have A1 := Lib.hid (fun V => hk ▸ weight_any s v V (by omega) hv.1 hv.2)
          have A2 := Lib.hid (fun V => hk ▸ rweight_any s v V (by omega) hv.1 hv.2)
          have HBp := Lib.hid hBp
          clear hub hk hBp
          go_wp2_with fail
          refine (A1.out _).mono ?_
          rintro e w' ⟨rfl, rfl⟩
          go_wp2_with fail
          refine (A2.out _).mono ?_
          rintro e w' ⟨rfl, rfl⟩
          go_wp2_with fail
          go_roundw
          case rel => exact ⟨p + 1, by omega, by go_num, HBp.out⟩
          case measure => simp [intOf]; omega
        · obtain rfl : p = 2 := by omega
          go_wp2_with fail
          go_ret
          exact ⟨rfl, by first | (rw [HRBE.out]; exact HT1.out.trans (hBp.mono (show rb ≤ Hh + 1 by omega))) | exact HT1.out.trans (hBp.mono (show rb ≤ Hh + 1 by omega))⟩

end Go.Proofs.Ytenkloceonojeaa
