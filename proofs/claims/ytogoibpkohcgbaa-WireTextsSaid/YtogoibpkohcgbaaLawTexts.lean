/-
  WireTexts: its walk.
-/
import Derived.Test.YtogoibpkohcgbaaLawBack
import Derived.Deep.RegionHeld3
import Derived.Deep.DrawnRows
namespace Go.Proofs.Ytogoibpkohcgbaa
open Go.RowKit
set_option maxHeartbeats 2000000
set_option linter.unusedVariables false
attribute [local go_sem ↓] Go.wp_at_zero Go.wp_at_succ

/-- the cells of a new block of numbers -/
theorem ints_new (W : World) (xs : List Int) (g : Nat) (hg : g = W.heap.size) : ∀ i (h : i < xs.length), (W.alloc (.cells (xs.map (Value.int .i64)).toArray 3)).cell? ⟨g, i, none⟩ = some (.int .i64 xs[i]) := fun i h => by
  rw [cell_new_at _ _ _ _ hg]
  simp only [List.getElem?_toArray, List.getElem?_map, List.getElem?_eq_getElem h]
  rfl
theorem strs_new (W : World) (xs : List ByteArray) (g : Nat) (hg : g = W.heap.size) : ∀ i (h : i < xs.length), (W.alloc (.cells (xs.map Value.string).toArray 9)).cell? ⟨g, i, none⟩ = some (.string xs[i]) := fun i h => by
  rw [cell_new_at _ _ _ _ hg]
  simp only [List.getElem?_toArray, List.getElem?_map, List.getElem?_eq_getElem h]
  rfl
/-- a row of one's own, later -/
theorem IntsAt.own {w w' : World} {B n : Nat} {A : Option Addr} {c : Nat} {z : List Int} (h : w.ownsRow B 3 1 (.slice A n c) z.length (z.map (Value.int .i64))) (hb : Below w.heap.size w w') : IntsAt w' A z.length z := by
  refine ⟨rfl, fun hn => ?_⟩
  rcases h.2 with ⟨_, hz⟩ | ⟨g, cap, cur, hv, _, hg, _⟩
  · omega
  · injection hv with h1 h2 h3
    subst h1 h2 h3
    refine ⟨g, 0, rfl, fun i hi => ?_⟩
    have := h.cells rfl i _ (by rw [List.getElem?_map, List.getElem?_eq_getElem hi]; rfl)
    have e1 : (⟨g, 0, none⟩ : Addr).add i = ⟨g, 0 + i, none⟩ := by unfold Addr.add; split <;> simp_all
    rw [e1] at this
    exact (hb.cell (p := ⟨g, 0 + i, none⟩) (Array.getElem?_eq_some_iff.1 hg).1).trans this
theorem Wm.nil_app' (l : List UInt8) : (⟨#[]⟩ : ByteArray).data.toList ++ l = l := rfl

set_option maxRecDepth 100000 in
theorem wireTexts_walk (s t : ByteArray) (A : Option Addr) (m c : Nat) (z : List Int) (k mo cut : Int) (w : World) (hs : s.size ≤ 140737488351232) (ht : t.size ≤ 140737488351232) (hz : IntsIn .i64 w A m c z) (hc : c * Try.prog.bytesOf 3 ≤ 140737488351232)
    (hk0 : -9223372036854775808 ≤ k) (hk1 : k ≤ 9223372036854775807) (ho0 : -9223372036854775808 ≤ mo) (ho1 : mo ≤ 9223372036854775807) (hq0 : 0 ≤ cut) (hq1 : cut ≤ 255) :
    Calls Try.prog 4 #[.string s, .string t, .slice A m c, .int .i64 k, .int .i64 mo, .int .u8 cut] w fun e w' => e = .returned (.bool true) ∧ Below w.heap.size w w' := by
  have hmc := hz.2.1
  have hzl := hz.1
  have hb8 : Try.prog.bytesOf 3 = 8 := by kernel_rfl
  rw [hb8] at hc
  have hm : m ≤ 17592186044000 := by omega
  clear hb8 hc
  by_cases hbig : 4000 < s.size + t.size
  · go_enter Try.func4, Try.ntmps4
    go_wp2_with fail
    refine (sane_any _).mono ?_
    rintro e w1 ⟨rfl, hB1⟩
    go_wp2_with fail
    go_ret
    exact ⟨rfl, hB1⟩
  by_cases hbig2 : 400 < m
  · go_enter Try.func4, Try.ntmps4
    go_wp2_with fail
    refine (sane_any _).mono ?_
    rintro e w1 ⟨rfl, hB1⟩
    go_wp2_with fail
    go_ret
    exact ⟨rfl, hB1⟩
  have hst : s.size + t.size ≤ 4000 := by omega
  have hm4 : m ≤ 400 := by omega
  have d1 : decide ((4000 : Int) < (s.size : Int) + (t.size : Int)) = false := by simp; omega
  have d2 : decide (400 < m) = false := by simp; omega
  have lt : t.data.toList.length = t.size := by simp
  obtain ⟨q, rfl⟩ := Int.eq_ofNat_of_zero_le hq0
  have eT : 1 ≤ (Wm.encT t.data.toList).length ∧ (Wm.encT t.data.toList).length ≤ 10 + t.size := by
    have := Wm.encI_length (t.data.toList.length : Int)
    rw [Wm.encT, List.length_append]; omega
  have eL : 1 ≤ (Wm.encL z).length ∧ (Wm.encL z).length ≤ 10 + 10 * m := by
    have := Wm.encI_length (z.length : Int)
    have := Wm.flatMap_length z
    rw [Wm.encL, List.length_append]; omega
  have eI := Wm.encI_length mo
  obtain ⟨P1, hP1, zP1⟩ := Wm.of_list (s.data.toList ++ Wm.encT t.data.toList)
  obtain ⟨P2, hP2, zP2⟩ := Wm.of_list (s.data.toList ++ Wm.encL z)
  obtain ⟨Sa, hSa, zSa⟩ := Wm.of_list (Wm.encT t.data.toList)
  obtain ⟨Sb, hSb, zSb⟩ := Wm.of_list (Wm.encL z)
  obtain ⟨Sm, hSm, zSm⟩ := Wm.of_list (Wm.encI mo)
  have a1 : 1 ≤ Sa.size := by omega
  have a2 : Sa.size ≤ 4010 := by omega
  have b1 : 1 ≤ Sb.size := by omega
  have b2 : Sb.size ≤ 4010 := by omega
  have m2 : Sm.size ≤ 10 := by omega
  have s4 : s.size ≤ 4000 := by omega
  have t4 : t.size ≤ 4000 := by omega
  have m1 := Nat.mod_lt q a1
  have n1 := Nat.mod_lt q b1
  have e1 : ((Sa.size : Int) == 0) = false := beq_eq_false_iff_ne.2 (by omega)
  have e2 : ((Sb.size : Int) == 0) = false := beq_eq_false_iff_ne.2 (by omega)
  have e5 : ¬ Sa.size = 0 := by omega
  have e6 : ¬ Sb.size = 0 := by omega
  have e7 : ¬ Sa = ByteArray.empty := fun h => e5 (by rw [h]; rfl)
  have e8 : ¬ Sb = ByteArray.empty := fun h => e6 (by rw [h]; rfl)
  have e3 : (1 : Int) ≤ (Sa.size : Int) := by omega
  have e4 : (1 : Int) ≤ (Sb.size : Int) := by omega
  obtain ⟨ka, hka⟩ : ∃ ka, q % Sa.size = ka := ⟨_, rfl⟩
  obtain ⟨kb, hkb⟩ : ∃ kb, q % Sb.size = kb := ⟨_, rfl⟩
  rw [hka] at m1
  rw [hkb] at n1
  have f1 : (q : Int).tmod (Sa.size : Int) = (ka : Int) := by rw [Int.tmod_eq_emod_of_nonneg (by omega), ← hka]; simp
  have f2 : (q : Int).tmod (Sb.size : Int) = (kb : Int) := by rw [Int.tmod_eq_emod_of_nonneg (by omega), ← hkb]; simp
  have f3 : (q : Int) % (Sa.size : Int) = (ka : Int) := by rw [← hka]; simp
  have f4 : (q : Int) % (Sb.size : Int) = (kb : Int) := by rw [← hkb]; simp
  have f5 : (0 : Int) ≤ (ka : Int) := by omega
  have f6 : (0 : Int) ≤ (kb : Int) := by omega
  have f7 : (ka : Int) ≤ (Sa.size : Int) := by omega
  have f8 : (kb : Int) ≤ (Sb.size : Int) := by omega
  have f9 : (Sa.extract 0 ka).size ≤ 4010 := by rw [ByteArray.size_extract]; omega
  have f10 : (Sb.extract 0 kb).size ≤ 4010 := by rw [ByteArray.size_extract]; omega
  have f11 : ¬ Sa.size < ka := by omega
  have f12 : ¬ Sb.size < kb := by omega
  have F9 := Lib.hid f9
  have F10 := Lib.hid f10
  clear hka hkb f9 f10
  have K1 := Lib.hid (Wm.str_as P1 hP1)
  have K2 := Lib.hid (Wm.str_as P2 hP2)
  have KA := Lib.hid (Wm.str_as Sa hSa)
  have KB := Lib.hid (Wm.str_as Sb hSb)
  have KM := Lib.hid (Wm.str_as Sm hSm)
  have HZ := Lib.hid hz
  clear hz hzl hmc lt eT eL eI hP1 hP2 hSa hSb hSm zP1 zP2 zSa zSb zSm hbig hbig2 hs ht hm hst
  go_enter Try.func4, Try.ntmps4
  go_wp2_with fail
  refine (sane_any _).mono ?_
  rintro e w1 ⟨rfl, hB1⟩
  have HB1 := Lib.hid hB1
  clear hB1
  go_wp2_with fail
  refine (putText_any s t _ (by omega)).mono ?_
  rintro e w2 ⟨rfl, hB2⟩
  rw [K1.out]
  have HB2 := Lib.hid (HB1.out.trans (hB2.mono HB1.out.size))
  clear hB2
  go_wp2_with fail
  refine (rputText_any s t _ (by omega)).mono ?_
  rintro e w3 ⟨rfl, hB3⟩
  rw [K1.out]
  have HB3 := Lib.hid (HB2.out.trans (hB3.mono HB2.out.size))
  clear hB3
  go_wp2_with fail
  refine (putList_any s A m c z _ (by omega) (HZ.out.below HB3.out) (by omega)).mono ?_
  rintro e w4 ⟨rfl, hB4⟩
  rw [K2.out]
  have HB4 := Lib.hid (HB3.out.trans (hB4.mono HB3.out.size))
  clear hB4
  go_wp2_with fail
  refine (rputList_any s A m c z _ (by omega) (HZ.out.below HB4.out) (by omega)).mono ?_
  rintro e w5 ⟨rfl, hB5⟩
  rw [K2.out]
  have HB5 := Lib.hid (HB4.out.trans (hB5.mono HB4.out.size))
  clear hB5
  go_wp2_with fail
  refine (rputText_any ⟨#[]⟩ t _ (by rw [show (⟨#[]⟩ : ByteArray).size = 0 from rfl]; omega)).mono ?_
  rintro e w6 ⟨rfl, hB6⟩
  rw [Wm.nil_app', KA.out]
  have HB6 := Lib.hid (HB5.out.trans (hB6.mono HB5.out.size))
  clear hB6
  go_wp2_with fail
  refine (rputList_any ⟨#[]⟩ A m c z _ (by decide) (HZ.out.below HB6.out) (by omega)).mono ?_
  rintro e w7 ⟨rfl, hB7⟩
  rw [Wm.nil_app', KB.out]
  have hB7' := HB6.out.trans (hB7.mono HB6.out.size)
  clear hB7 HB1 HB2 HB3 HB4 HB5 HB6 K1 K2
  have hrp : ∀ W : World, Calls Try.prog 10 #[.string ⟨#[]⟩, .int .i64 mo] W fun e w' => e = .returned (.string Sm) ∧ Below W.heap.size W w' := fun W => by
    rw [← KM.out, ← Wm.nil_app' (Wm.encI mo)]; exact rput_any ⟨#[]⟩ mo W (by decide) ho0 ho1
  have HRP := Lib.hid hrp
  have HB7 := Lib.hid hB7'
  clear hrp hB7' KA KB KM
  have c1 : ∀ W : World, (Op.stringOp .add Sa s).run Try.prog W = .ok (.string (Sa ++ s)) W := fun W => run_string_add_sum W Sa s (by omega)
  have c2 : ∀ W : World, (Op.stringOp .add Sb s).run Try.prog W = .ok (.string (Sb ++ s)) W := fun W => run_string_add_sum W Sb s (by omega)
  have c3 : ∀ W : World, (Op.stringOp .add Sm t).run Try.prog W = .ok (.string (Sm ++ t)) W := fun W => run_string_add_sum W Sm t (by omega)
  go_wp2_with fail
  have g1 : IntKind.i64.wrap (q : Int) = (q : Int) := IntWalk.i64_in _ (by omega)
  go_region_held3 (fun _ => True) (exact trivial) ((go_at_call 10; refine (HRP.out _).mono ?_; rintro e w8 ⟨rfl, hB8⟩))
  have hB8' := HB7.out.drew.trans (hB8.mono HB7.out.drew.size)
  obtain ⟨L, hL⟩ : ∃ L : List ByteArray, L = [s, Sa, Sa ++ s, Sa.extract 0 ka, Sb, Sb ++ s, Sb.extract 0 kb, Sm ++ t] := ⟨_, rfl⟩
  have hLl : L.length = 8 := by rw [hL]; rfl
  have hLs : ∀ x ∈ L, x.size ≤ 10000 := by
    intro x hx
    have F9 := F9.out
    have F10 := F10.out
    rw [hL] at hx
    simp only [List.mem_cons, List.not_mem_nil, or_false] at hx
    rcases hx with rfl | rfl | rfl | rfl | rfl | rfl | rfl | rfl
    · omega
    · omega
    · rw [ByteArray.size_append]; omega
    · omega
    · omega
    · rw [ByteArray.size_append]; omega
    · omega
    · rw [ByteArray.size_append]; omega
  have e9 : #[Value.string s, Value.string Sa, Value.string (Sa ++ s), Value.string (Sa.extract 0 ka), Value.string Sb, Value.string (Sb ++ s), Value.string (Sb.extract 0 kb), Value.string (Sm ++ t)] = (L.map Value.string).toArray := by rw [hL]; rfl
  have hc0 := strs_new w8 L w8.heap.size rfl
  rw [e9]
  obtain ⟨G, hG⟩ : ∃ G, w8.heap.size = G := ⟨_, rfl⟩
  have hs0 : (w8.alloc (.cells (L.map Value.string).toArray 9)).heap.size = G + 1 := by simp [hG]
  have hB0 : Below w.heap.size w (w8.alloc (.cells (L.map Value.string).toArray 9)) := hB8'.alloc hB8'.size _
  rw [hG] at hc0 ⊢
  generalize (w8.alloc (.cells (L.map Value.string).toArray 9)) = W0 at hc0 hs0 hB0 ⊢
  have HC0 := Lib.hid hc0
  have HLs := Lib.hid hLs
  have HLl := Lib.hid hLl
  have HB0 := Lib.hid hB0
  clear hc0 hLs hLl hL hB0 e9 hG hB8 hB8' HB7 c1 c2 c3 F9 F10 HRP f1 f2 f3 f4 f5 f6 f7 f8 f11 f12 e1 e2 e3 e4 e5 e6 e7 e8 g1
  go_wp2_with fail
  go_loopw [91] (fun i wr => ∃ j : Nat, j ≤ 8 ∧ i = .int .i64 j ∧ Below (G + 1) W0 wr) (fun i wr => 8 - (intOf i).toNat)
  case atStart => exact ⟨0, by omega, rfl, Below.refl _ _⟩
  case round =>
    obtain ⟨j, hj, rfl, hBr⟩ := hrel
    by_cases hlt : j < 8
    · obtain ⟨x, hx, hcx⟩ : ∃ x : ByteArray, x.size ≤ 10000 ∧ wr.cell? ⟨G, j, none⟩ = some (.string x) :=
        ⟨L[j]'(by rw [HLl.out]; exact hlt), HLs.out _ (List.getElem_mem _), (hBr.cell (p := ⟨G, j, none⟩) (by show G < G + 1; omega)).trans (HC0.out j _)⟩
      obtain ⟨wo, hwo⟩ : ∃ wo : World, wo = wr := ⟨_, rfl⟩
      rw [← hwo] at hBr hcx ⊢
      clear hwo
      have HBo := Lib.hid hBr
      clear hBr
      have d8 : decide ((j : Int) < 8) = true := by simp; omega
      go_wp2_with fail
      -- the two indices
      obtain ⟨Z, hZl, hZ⟩ : ∃ Z : List Int, Z.length = 2 ∧ ∀ i (h : i < Z.length), (wo.alloc (.cells #[Value.int .i64 k, Value.int .i64 0] 3)).cell? ⟨wo.heap.size, i, none⟩ = some (.int .i64 Z[i]) := ⟨[k, 0], rfl, ints_new wo [k, 0] wo.heap.size rfl⟩
      have hsi : (wo.alloc (.cells #[Value.int .i64 k, Value.int .i64 0] 3)).heap.size = wo.heap.size + 1 := by simp
      have hBi := HBo.out.alloc (show G + 1 ≤ wo.heap.size by rw [← hs0]; exact HBo.out.size) (.cells #[Value.int .i64 k, Value.int .i64 0] 3)
      generalize (wo.alloc (.cells #[Value.int .i64 k, Value.int .i64 0] 3)) = wi at hZ hBi hsi ⊢
      have HZ2 := Lib.hid hZ
      have HZ2l := Lib.hid hZl
      have HBi := Lib.hid hBi
      clear hZ hZl hBi hcx
      go_loopw [98] (fun i wr => ∃ p : Nat, p ≤ 2 ∧ i = .int .i64 p ∧ Below (wo.heap.size + 1) wi wr) (fun i wr => 2 - (intOf i).toNat)
      case atStart => exact ⟨0, by omega, rfl, Below.refl _ _⟩
      case round =>
        obtain ⟨p, hp, rfl, hBp⟩ := hrel
        by_cases hlp : p < 2
        · obtain ⟨i, hci⟩ : ∃ i : Int, wr.cell? ⟨wo.heap.size, p, none⟩ = some (.int .i64 i) :=
            ⟨_, (hBp.cell (p := ⟨wo.heap.size, p, none⟩) (by show wo.heap.size < wo.heap.size + 1; omega)).trans (HZ2.out p (by rw [HZ2l.out]; exact hlp))⟩
          obtain ⟨wq, hwq⟩ : ∃ wq : World, wq = wr := ⟨_, rfl⟩
          rw [← hwq] at hBp hci ⊢
          clear hwq
          have HBp := Lib.hid hBp
          clear hBp
          have d9 : decide ((p : Int) < 2) = true := by simp; omega
          go_wp2_with fail
          obtain ⟨Y, hYl, hY⟩ : ∃ Y : List Int, Y.length = 4 ∧ ∀ i (h : i < Y.length), (wq.alloc (.cells #[Value.int .i64 mo, Value.int .i64 5000, Value.int .i64 (t.size : Int), Value.int .i64 (m : Int)] 3)).cell? ⟨wq.heap.size, i, none⟩ = some (.int .i64 Y[i]) :=
            ⟨[mo, 5000, (t.size : Int), (m : Int)], rfl, ints_new wq [mo, 5000, (t.size : Int), (m : Int)] wq.heap.size rfl⟩
          have hsj : (wq.alloc (.cells #[Value.int .i64 mo, Value.int .i64 5000, Value.int .i64 (t.size : Int), Value.int .i64 (m : Int)] 3)).heap.size = wq.heap.size + 1 := by simp
          have hBj := HBp.out.alloc (show wo.heap.size + 1 ≤ wq.heap.size by rw [← hsi]; exact HBp.out.size) (.cells #[Value.int .i64 mo, Value.int .i64 5000, Value.int .i64 (t.size : Int), Value.int .i64 (m : Int)] 3)
          generalize (wq.alloc (.cells #[Value.int .i64 mo, Value.int .i64 5000, Value.int .i64 (t.size : Int), Value.int .i64 (m : Int)] 3)) = wj at hY hBj hsj ⊢
          have HY := Lib.hid hY
          have HYl := Lib.hid hYl
          have HBj := Lib.hid hBj
          clear hY hYl hBj hci
          go_loopw [109] (fun i wr => ∃ r : Nat, r ≤ 4 ∧ i = .int .i64 r ∧ Below (wq.heap.size + 1) wj wr) (fun i wr => 4 - (intOf i).toNat)
          case atStart => exact ⟨0, by omega, rfl, Below.refl _ _⟩
          case round =>
            obtain ⟨r, hr, rfl, hBr⟩ := hrel
            by_cases hlr : r < 4
            · obtain ⟨u, hcu⟩ : ∃ u : Int, wr.cell? ⟨wq.heap.size, r, none⟩ = some (.int .i64 u) :=
                ⟨_, (hBr.cell (p := ⟨wq.heap.size, r, none⟩) (by show wq.heap.size < wq.heap.size + 1; omega)).trans (HY.out r (by rw [HYl.out]; exact hlr))⟩
              have hwr : wq.heap.size + 1 ≤ wr.heap.size := by rw [← hsj]; exact hBr.size
              have HBr := Lib.hid hBr
              clear hBr
              obtain ⟨T, t1, t2, hT⟩ : ∃ a b c, Wm.text x.data.toList i u = (a, b, c) := ⟨_, _, _, rfl⟩
              obtain ⟨TS, hTS, _⟩ := Wm.of_list T
              obtain ⟨Q, q1, q2, hQ⟩ : ∃ a b c, Wm.list x.data.toList i u = (a, b, c) := ⟨_, _, _, rfl⟩
              have hTv : Wm.tval (T, t1, t2) = .tuple #[.string TS, .int .i64 t1, .int .i64 t2] := by unfold Wm.tval; simp only []; rw [Wm.str_as TS hTS]
              have HT := Lib.hid hT
              have HTv := Lib.hid hTv
              have HQ := Lib.hid hQ
              clear hT hTv hQ hTS
              go_wp2_with fail
              refine (text_any x i u _ (by omega)).mono ?_
              rintro e v1 ⟨rfl, hV1⟩
              rw [HT.out, HTv.out]
              have HV1 := Lib.hid (HBr.out.trans (hV1.mono hwr))
              have l1 := hV1.size
              clear hV1
              go_wp2_with fail
              refine (rtext_any x i u _ (by omega)).mono ?_
              rintro e w' ⟨rfl, rfl⟩
              rw [HT.out, HTv.out]
              go_wp2_with fail
              refine (list_any x i u _ (by omega)).mono ?_
              rintro e v2 ⟨y1, rfl, ho1, hV2⟩
              rw [HQ.out] at ho1 ⊢
              have HO1 := Lib.hid ho1
              have HV2 := Lib.hid (HV1.out.trans (hV2.mono (by omega)))
              have l2 := hV2.size
              clear hV2 ho1
              go_wp2_with fail
              refine (rlist_any x i u _ (by omega)).mono ?_
              rintro e v3 ⟨y2, rfl, ho2, hV3⟩
              rw [HQ.out] at ho2 ⊢
              obtain ⟨A1, c1, rfl, hI1⟩ := own_ints HO1.out
              obtain ⟨A2, c2, rfl, hI2⟩ := own_ints ho2
              have hQl : Q.length ≤ 9223372036854775807 := by
                rcases HO1.out.2 with ⟨_, hz⟩ | ⟨_, _, _, _, _, _, hn, hm, _⟩
                · omega
                · unfold maxLen at hm; omega
              have HI1 := Lib.hid (IntsAt.own HO1.out hV3)
              have HI2 := Lib.hid hI2
              have HV3 := Lib.hid (HV2.out.trans (hV3.mono (by omega)))
              have l3 := hV3.size
              clear hV3 ho2 hI1 hI2 HO1
              go_wp2_with fail
              refine (same_any A1 A2 Q.length c1 c2 Q _ HI1.out HI2.out hQl).mono ?_
              rintro e v4 ⟨rfl, hV4⟩
              have HV4 := Lib.hid (HV3.out.trans (hV4.mono (by omega)))
              clear hV4
              go_wp2_with fail
              go_roundw
              case rel => exact ⟨r + 1, by omega, by go_num, HV4.out⟩
              case measure => simp [intOf]; omega
            · obtain rfl : r = 4 := by omega
              have HBz := Lib.hid (HBj.out.trans (hBr.mono (show wo.heap.size + 1 ≤ wq.heap.size + 1 by have := HBp.out.size; omega)))
              clear hBr
              go_wp2
              go_roundw
              case rel => exact ⟨p + 1, by omega, by go_num, HBz.out⟩
              case measure => simp [intOf]; omega
        · obtain rfl : p = 2 := by omega
          have HBz := Lib.hid (HBi.out.trans (hBp.mono (show G + 1 ≤ wo.heap.size + 1 by have := HBo.out.size; omega)))
          clear hBp
          go_wp2
          go_roundw
          case rel => exact ⟨j + 1, by omega, by go_num, HBz.out⟩
          case measure => simp [intOf]; omega
    · obtain rfl : j = 8 := by omega
      have HBz := Lib.hid (HB0.out.trans (hBr.mono (by rw [← hs0]; exact HB0.out.size)))
      clear hBr
      go_wp2
      go_ret
      exact ⟨rfl, HBz.out⟩
end Go.Proofs.Ytogoibpkohcgbaa
