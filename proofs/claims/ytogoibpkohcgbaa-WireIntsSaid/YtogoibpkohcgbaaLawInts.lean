/-
  WireInts: its walk.
-/
import Derived.Test.YtogoibpkohcgbaaLawA
import Derived.Test.YtogoibpkohcgbaaKit
import Derived.Deep.RegionHeld3
import Derived.Deep.DrawnRows
import Derived.Laws.IdiomStrings
namespace Go.Proofs.Ytogoibpkohcgbaa
open Go.RowKit
set_option maxHeartbeats 1000000
set_option linter.unusedVariables false
attribute [local go_sem ↓] Go.wp_at_zero Go.wp_at_succ

set_option maxRecDepth 100000 in
theorem wireInts_walk (n m : Int) (s : ByteArray) (k by_ : Int) (w : World) (hn0 : -9223372036854775808 ≤ n) (hn1 : n ≤ 9223372036854775807) (hm0 : -9223372036854775808 ≤ m) (hm1 : m ≤ 9223372036854775807) (hs : s.size ≤ 140737488351232)
    (hk0 : -9223372036854775808 ≤ k) (hk1 : k ≤ 9223372036854775807) (hb0 : 0 ≤ by_) (hb1 : by_ ≤ 255) :
    Calls Try.prog 3 #[.int .i64 n, .int .i64 m, .string s, .int .i64 k, .int .u8 by_] w fun e w' => e = .returned (.bool true) ∧ Below w.heap.size w w' := by
  obtain ⟨X, hX⟩ : ∃ X : ByteArray, X.data.toList = s.data.toList ++ Wm.encI n := ⟨⟨(s.data.toList ++ Wm.encI n).toArray⟩, by simp⟩
  obtain ⟨M, hM⟩ : ∃ M : ByteArray, M.data.toList = (⟨#[]⟩ : ByteArray).data.toList ++ Wm.encI m := ⟨⟨(Wm.encI m).toArray⟩, by simp⟩
  have PX := Lib.hid (put_on s n hn0 hn1 X hX (by omega))
  have RX := Lib.hid (rput_on s n hn0 hn1 X hX (by omega))
  have RM := Lib.hid (rput_on ⟨#[]⟩ m hm0 hm1 M hM (by decide))
  have hMl : 1 ≤ M.size ∧ M.size ≤ 10 := by
    have := Wm.encI_length m
    have e : M.size = (Wm.encI m).length := by rw [show (Wm.encI m).length = M.data.toList.length by rw [hM]; simp]; simp
    omega
  obtain ⟨hM1, hM2⟩ := hMl
  clear hX hM
  go_enter Try.func3, Try.ntmps3
  go_wp2_with fail
  refine (sane_any _).mono ?_
  rintro e w1 ⟨rfl, hB1⟩
  go_wp2_with fail
  refine (PX.out _).mono ?_
  rintro e w2 ⟨rfl, hB2⟩
  go_wp2_with fail
  refine (RX.out _).mono ?_
  rintro e w3 ⟨rfl, hB3⟩
  go_wp2_with fail
  refine (RM.out _).mono ?_
  rintro e w4 ⟨rfl, hB4⟩
  have hB := ((hB1.trans (hB2.mono hB1.size)).trans (hB3.mono (Nat.le_trans hB1.size hB2.size))).trans (hB4.mono (Nat.le_trans hB1.size (Nat.le_trans hB2.size hB3.size)))
  clear hB1 hB2 hB3 hB4 PX RX RM
  obtain ⟨C, w5, hcv, hC, hB5, hsz5, hcell5, hfr5⟩ := bytes_of_string (P := Try.prog) w4 9 24 5 M Try.underlying9 Try.underlying24 Try.underlying5
  have hB' := hB.trans (hB5.mono hB.size)
  obtain ⟨t, ht, _, hcell6⟩ := bytes_set hcell5 (M.size - 1) (by omega) by_ hb0 hb1
  obtain ⟨u5, hc5⟩ : ∃ u, w5.cell? ⟨w4.heap.size, M.size - 1, none⟩ = some u := ⟨_, hcell5 (M.size - 1) (by omega)⟩
  have hf5 := hfr5 (M.size - 1) (by omega)
  have hge : w.heap.size ≤ w4.heap.size := hB.size
  have hB6 := hB'.setCell (p := ⟨w4.heap.size, M.size - 1, none⟩) hge (.int .u8 by_)
  have HC6 := Lib.hid hcell6
  have HC5 := Lib.hid hcell5
  have HF5 := Lib.hid hfr5
  have HT := Lib.hid ht
  clear hB hB5 hcell5 hfr5 hB' hcell6 ht
  obtain ⟨l, hl, _, hcl⟩ := string_of_new (P := Try.prog) (w5.setCell ⟨w4.heap.size, M.size - 1, none⟩ (.int .u8 by_)) 24 9 5 (w4.heap.size + 1) (by simp [hsz5])
    [bits BinOp.or .u8 by_ 128, 128, 129, 128, 255, 128, 128, 128, 128, n % 256, m % 256] Try.underlying24 Try.underlying5 Try.underlying9
  simp only [List.map_cons, List.map_nil, List.length_cons, List.length_nil, Nat.zero_add, Nat.reduceAdd] at hl hcl
  go_wp2_with fail
  -- the world under one name
  have hlt7 : ∀ o : Obj, ((w5.setCell ⟨w4.heap.size, M.size - 1, none⟩ (.int .u8 by_)).alloc o).heap.size = w4.heap.size + 2 := fun o => by simp [hsz5]
  have hcell7 : ∀ o : Obj, BytesAt ((w5.setCell ⟨w4.heap.size, M.size - 1, none⟩ (.int .u8 by_)).alloc o) w4.heap.size t := fun o => BytesAt.alloc (W := w5.setCell ⟨w4.heap.size, M.size - 1, none⟩ (.int .u8 by_)) HC6.out (by simp [hsz5]) o
  have hB7 : ∀ o : Obj, Below w.heap.size w ((w5.setCell ⟨w4.heap.size, M.size - 1, none⟩ (.int .u8 by_)).alloc o) := fun o => hB6.alloc hB6.size o
  generalize (Obj.cells #[Value.int IntKind.u8 (bits BinOp.or IntKind.u8 by_ 128), Value.int IntKind.u8 128, Value.int IntKind.u8 129, Value.int IntKind.u8 128, Value.int IntKind.u8 255, Value.int IntKind.u8 128, Value.int IntKind.u8 128,
        Value.int IntKind.u8 128, Value.int IntKind.u8 128, Value.int IntKind.u8 (n % 256), Value.int IntKind.u8 (m % 256)] 5) = o
  have hlt7 := hlt7 o
  have hcell7 := hcell7 o
  have hB7 := hB7 o
  generalize ((w5.setCell ⟨w4.heap.size, M.size - 1, none⟩ (.int .u8 by_)).alloc o) = w7 at hlt7 hcell7 hB7 ⊢
  clear hcl hB6 hsz5 hf5 hc5 hcv HC6 HC5 HF5
  obtain ⟨G, hG⟩ : ∃ G, w4.heap.size = G := ⟨_, rfl⟩
  rw [hG] at hlt7 hcell7 hge ⊢
  have ht := HT.out
  have hconv : ∀ W : World, BytesAt W G t → (convert 24 9 (.slice (some ⟨G, 0, none⟩) M.size C)).run Try.prog W = .ok (.string t) W := fun W h => h.conv 24 9 5 M.size C ht.symm Try.underlying24 Try.underlying5 Try.underlying9
  have HV := Lib.hid hconv
  have hts : t.size ≤ 10 := by omega
  have a1 : ∀ W : World, (Op.stringOp .add t s).run Try.prog W = .ok (.string (t ++ s)) W := fun W => run_string_add_sum W t s (by omega)
  have a2 : ∀ W : World, (Op.stringOp .add s t).run Try.prog W = .ok (.string (s ++ t)) W := fun W => run_string_add_sum W s t (by omega)
  clear hconv hG ht
  have hS : (convert 24 9 (.slice (some ⟨G, 0, none⟩) M.size C)).run Try.prog w7 = .ok (.string t) w7 ∧ BytesAt w7 G t := ⟨HV.out _ hcell7, hcell7⟩
  go_region_held3 (fun w' => (convert 24 9 (.slice (some ⟨G, 0, none⟩) M.size C)).run Try.prog w' = .ok (.string t) w' ∧ BytesAt w' G t) (first | exact ⟨HV.out _ (BytesAt.drew hcell7), BytesAt.drew hcell7⟩ | exact ⟨HV.out _ (BytesAt.alloc (BytesAt.drew hcell7) (by simp; omega) _), BytesAt.alloc (BytesAt.drew hcell7) (by simp; omega) _⟩) (fail)
  clear a1 a2 HV hS hcell7
  have hsz1 : (t ++ s).size ≤ 9223372036854775000 := by rw [ByteArray.size_append]; omega
  have hsz2 : (s ++ t).size ≤ 9223372036854775000 := by rw [ByteArray.size_append]; omega
  have hsz3 : ∀ b : UInt8, (l.extract 0 9 ++ ⟨#[b]⟩).size ≤ 9223372036854775000 := fun b => by
    rw [ByteArray.size_append, ByteArray.size_extract]
    show _ + 1 ≤ _
    omega
  obtain ⟨L, hL⟩ : ∃ L : List ByteArray, L = [s, t, t ++ s, s ++ t, l, l.extract 0 9 ++ ⟨#[1]⟩, l.extract 0 9 ++ ⟨#[2]⟩, l.extract 0 9 ++ ⟨#[0]⟩] := ⟨_, rfl⟩
  have hLs : ∀ x ∈ L, x.size ≤ 9223372036854775000 := by
    intro x hx
    rw [hL] at hx
    simp only [List.mem_cons, List.not_mem_nil, or_false] at hx
    rcases hx with rfl | rfl | rfl | rfl | rfl | rfl | rfl | rfl
    · omega
    · omega
    · exact hsz1
    · exact hsz2
    · omega
    · exact hsz3 1
    · exact hsz3 2
    · exact hsz3 0
  have hLl : L.length = 8 := by rw [hL]; rfl
  have hB0 : ∀ o : Obj, Below w.heap.size w ((w7.alloc o).drew) := fun o => (hB7.alloc hB7.size o).drew
  have hs0 : ∀ o : Obj, ((w7.alloc o).drew).heap.size = G + 3 := fun o => by simp [hlt7]
  have hc0 : ∀ j (h : j < L.length), ((w7.alloc (.cells #[Value.string s, Value.string t, Value.string (t ++ s), Value.string (s ++ t), Value.string l,
          Value.string (l.extract 0 9 ++ ⟨#[1]⟩), Value.string (l.extract 0 9 ++ ⟨#[2]⟩), Value.string (l.extract 0 9 ++ ⟨#[0]⟩)] 9)).drew).cell? ⟨G + 2, j, none⟩ = some (.string L[j]) := fun j h => by
    rw [cell_drew, cell_new_at _ _ _ _ hlt7.symm]
    have e1 : #[Value.string s, Value.string t, Value.string (t ++ s), Value.string (s ++ t), Value.string l,
          Value.string (l.extract 0 9 ++ ⟨#[1]⟩), Value.string (l.extract 0 9 ++ ⟨#[2]⟩), Value.string (l.extract 0 9 ++ ⟨#[0]⟩)] = (L.map Value.string).toArray := by rw [hL]; rfl
    rw [e1]
    simp [h]
  have hB0 := hB0 (.cells #[Value.string s, Value.string t, Value.string (t ++ s), Value.string (s ++ t), Value.string l,
          Value.string (l.extract 0 9 ++ ⟨#[1]⟩), Value.string (l.extract 0 9 ++ ⟨#[2]⟩), Value.string (l.extract 0 9 ++ ⟨#[0]⟩)] 9)
  have hs0 := hs0 (.cells #[Value.string s, Value.string t, Value.string (t ++ s), Value.string (s ++ t), Value.string l,
          Value.string (l.extract 0 9 ++ ⟨#[1]⟩), Value.string (l.extract 0 9 ++ ⟨#[2]⟩), Value.string (l.extract 0 9 ++ ⟨#[0]⟩)] 9)
  generalize ((w7.alloc (.cells #[Value.string s, Value.string t, Value.string (t ++ s), Value.string (s ++ t), Value.string l,
          Value.string (l.extract 0 9 ++ ⟨#[1]⟩), Value.string (l.extract 0 9 ++ ⟨#[2]⟩), Value.string (l.extract 0 9 ++ ⟨#[0]⟩)] 9)).drew) = W0 at hB0 hs0 hc0 ⊢
  have HC0 := Lib.hid hc0
  have HLs := Lib.hid hLs
  have HLl := Lib.hid hLl
  clear hc0 hLs hLl hL hsz1 hsz2 hsz3 hB7 hlt7
  go_wp2_with fail
  go_loopw [72] (fun i wr => ∃ j : Nat, j ≤ 8 ∧ i = .int .i64 j ∧ Below (G + 3) W0 wr) (fun i wr => 8 - (intOf i).toNat)
  case atStart => exact ⟨0, by omega, rfl, Below.refl _ _⟩
  case round =>
    obtain ⟨j, hj, rfl, hBr⟩ := hrel
    by_cases hlt : j < 8
    · obtain ⟨x, hx, hcx⟩ : ∃ x : ByteArray, x.size ≤ 9223372036854775000 ∧ wr.cell? ⟨G + 2, j, none⟩ = some (.string x) :=
        ⟨L[j]'(by rw [HLl.out]; exact hlt), HLs.out _ (List.getElem_mem _), (hBr.cell (p := ⟨G + 2, j, none⟩) (by show G + 2 < G + 3; omega)).trans (HC0.out j _)⟩
      obtain ⟨wo, hwo⟩ : ∃ wo : World, wo = wr := ⟨_, rfl⟩
      rw [← hwo] at hBr hcx ⊢
      clear hwo
      have hBo := hBr
      have HBo := Lib.hid hBo
      clear hBr hBo
      have d8 : decide ((j : Int) < 8) = true := by simp; omega
      go_wp2_with fail
      obtain ⟨Z, hZl, hZ⟩ : ∃ Z : List Int, Z.length = 4 ∧ ∀ i (h : i < Z.length), (wo.alloc (.cells #[Value.int .i64 k, Value.int .i64 0, Value.int .i64 (x.size : Int), Value.int .i64 (wrap64 ((IntKind.u64.wrap k).tmod ((x.size : Int) + 2)))] 3)).cell? ⟨wo.heap.size, i, none⟩ = some (.int .i64 Z[i]) :=
        ⟨[k, 0, (x.size : Int), wrap64 ((IntKind.u64.wrap k).tmod ((x.size : Int) + 2))], rfl, fun i h => by
          rw [cell_new_at _ _ _ _ rfl]
          rw [show #[Value.int .i64 k, Value.int .i64 0, Value.int .i64 (x.size : Int), Value.int .i64 (wrap64 ((IntKind.u64.wrap k).tmod ((x.size : Int) + 2)))] = ([k, 0, (x.size : Int), wrap64 ((IntKind.u64.wrap k).tmod ((x.size : Int) + 2))].map (Value.int .i64)).toArray from rfl]
          simp only [List.getElem?_toArray, List.getElem?_map, List.getElem?_eq_getElem h]
          rfl⟩
      have hsi : (wo.alloc (.cells #[Value.int .i64 k, Value.int .i64 0, Value.int .i64 (x.size : Int), Value.int .i64 (wrap64 ((IntKind.u64.wrap k).tmod ((x.size : Int) + 2)))] 3)).heap.size = wo.heap.size + 1 := by simp
      have hBi : Below (G + 3) W0 (wo.alloc (.cells #[Value.int .i64 k, Value.int .i64 0, Value.int .i64 (x.size : Int), Value.int .i64 (wrap64 ((IntKind.u64.wrap k).tmod ((x.size : Int) + 2)))] 3)) := HBo.out.alloc (by rw [← hs0]; exact HBo.out.size) _
      generalize (wo.alloc (.cells #[Value.int .i64 k, Value.int .i64 0, Value.int .i64 (x.size : Int), Value.int .i64 (wrap64 ((IntKind.u64.wrap k).tmod ((x.size : Int) + 2)))] 3)) = wi at hZ hBi hsi ⊢
      have HZ := Lib.hid hZ
      have HZl := Lib.hid hZl
      have HBi := Lib.hid hBi
      clear hZ hZl hBi hcx
      go_loopw [89] (fun i wr => ∃ q : Nat, q ≤ 4 ∧ i = .int .i64 q ∧ Below (wo.heap.size + 1) wi wr) (fun i wr => 4 - (intOf i).toNat)
      case atStart => exact ⟨0, by omega, rfl, Below.refl _ _⟩
      case round =>
        obtain ⟨q, hq, rfl, hBq⟩ := hrel
        by_cases hlq : q < 4
        · obtain ⟨z, hcz⟩ : ∃ z : Int, wr.cell? ⟨wo.heap.size, q, none⟩ = some (.int .i64 z) :=
            ⟨_, (hBq.cell (p := ⟨wo.heap.size, q, none⟩) (by show wo.heap.size < wo.heap.size + 1; omega)).trans (HZ.out q (by rw [HZl.out]; exact hlq))⟩
          obtain ⟨r1, r2, r3, hr⟩ : ∃ a b c, Wm.int x.data.toList z = (a, b, c) := ⟨_, _, _, rfl⟩
          have HR := Lib.hid hr
          have HBq := Lib.hid hBq
          clear hr hBq
          go_wp2_with fail
          refine (int_any x z _ (by unfold maxLen; omega)).mono ?_
          rintro e w' ⟨rfl, rfl⟩
          rw [HR.out]
          unfold Wm.val
          go_wp2_with fail
          refine (rint_any x z _ (by omega)).mono ?_
          rintro e w' ⟨rfl, rfl⟩
          rw [HR.out]
          unfold Wm.val
          go_wp2_with fail
          go_roundw
          case rel => exact ⟨q + 1, by omega, by go_num, HBq.out⟩
          case measure => simp [intOf]; omega
        · obtain rfl : q = 4 := by omega
          have hBz := HBi.out.trans (hBq.mono (show G + 3 ≤ wo.heap.size + 1 by have := HBo.out.size; omega))
          have HBz := Lib.hid hBz
          clear hBq hBz
          go_wp2
          go_roundw
          case rel => exact ⟨j + 1, by omega, by go_num, HBz.out⟩
          case measure => simp [intOf]; omega
    · obtain rfl : j = 8 := by omega
      go_wp2
      go_ret
      exact ⟨rfl, hB0.trans (hBr.mono (by omega))⟩
end Go.Proofs.Ytogoibpkohcgbaa
