/-
  Contracts of Join.
-/
import Derived.Test.YtnijengmdagmeaaChE
import Derived.Test.YtnijengmdagmeaaBld
namespace Go.Proofs.Ytnijengmdagmeaa
open Go.RowKit
set_option maxHeartbeats 1000000

/-- what Join answers -/
def Cm.joinR (l : List (List UInt8)) : List UInt8 × Int := if l.flatten.length ≤ 16384 then (l.flatten, 0) else ([], 4)
theorem Cm.flat_succ (l : List (List UInt8)) (k : Nat) (h : k < l.length) : (l.take (k + 1)).flatten = (l.take k).flatten ++ l[k] := by
  rw [List.take_succ_eq_append_getElem h, List.flatten_append]; simp

set_option maxRecDepth 100000 in
/-- Join of chunk -/
theorem join_any (A : Option Addr) (n c : Nat) (l : List (List UInt8)) (w : World) (h : CellsIn w A n c (l.map Cm.str)) (hn : n ≤ 100000000000000) (hs : ∀ x ∈ l, x.length ≤ 140737488351232) :
    Calls Try.prog 27 #[.slice A n c] w fun e w' => e = .returned (.tuple #[Cm.str (Cm.joinR l).1, .int .i64 (Cm.joinR l).2]) ∧ Below w.heap.size w w' := by
  have hl : l.length = n := by rw [← h.1, List.length_map]
  obtain ⟨r, hr⟩ : ∃ r, Cm.joinR l = r := ⟨_, rfl⟩
  rw [hr]
  have HR := Lib.hid hr
  have HL := Lib.hid hl
  have HC := Lib.hid h
  have HS := Lib.hid hs
  clear hr hl h hs
  go_enter Try.func27, Try.ntmps27
  go_wp2
  have hb0 : Bld w.heap.size w.heap.size [] (w.alloc (.cells #[.pointer none, .slice none 0 0] 63)) := Lib.fresh_isBuilder _ _ w
  have hB0 : Below w.heap.size w (w.alloc (.cells #[.pointer none, .slice none 0 0] 63)) := (Below.refl _ _).alloc (Nat.le_refl _) _
  generalize w.alloc (.cells #[.pointer none, .slice none 0 0] 63) = w1 at hb0 hB0 ⊢
  obtain ⟨B, hB⟩ : ∃ B, w.heap.size = B := ⟨_, rfl⟩
  rw [hB] at hb0 hB0 ⊢
  have HCB := Lib.hid (fun V (hv : Below B w V) => HC.out.below (by rw [hB]; exact hv))
  have HBB := Lib.hid hB
  have H0 := Lib.hid hb0
  have H1 := Lib.hid hB0
  clear hb0 hB0 HC
  go_loopw [9] (fun i wr => ∃ k : Nat, k ≤ n ∧ i = .int .i64 k ∧ Bld B B (l.take k).flatten wr ∧ (l.take k).flatten.length ≤ 16384 ∧ Below B w wr) (fun i wr => n - (intOf i).toNat)
  case atStart => exact ⟨0, by omega, rfl, H0.out, by simp, H1.out⟩
  case round =>
    obtain ⟨k, hk, rfl, hbd, hfl, hBr⟩ := hrel
    have hBs : B ≤ wr.heap.size := by rw [← hB]; exact hBr.size
    by_cases hlt : k < n
    · obtain ⟨g, o, rfl, hgl, hz, hcell⟩ := (HCB.out wr hBr).at hlt
      rw [List.getElem_map] at hcell
      have hkl : k < l.length := by rw [HL.out]; exact hlt
      have hxs := HS.out _ (List.getElem_mem hkl)
      have hfs := Cm.flat_succ l k hkl
      have hft := Cm.flat_take l k hkl
      have hfm := Cm.flat_take_le l (k + 1)
      obtain ⟨x, hx⟩ : ∃ x, l[k] = x := ⟨_, rfl⟩
      rw [hx] at hcell hfs hft hxs
      obtain ⟨X, hX⟩ : ∃ X, Cm.b x = X := ⟨_, rfl⟩
      have hXl : X.data.toList = x := by rw [← hX, Cm.b_list]
      have hXs : x.length = X.size := by rw [← hXl, size_list]
      unfold Cm.str at hcell
      rw [hX] at hcell
      rw [hXs] at hft hxs
      have L1 := Lib.hid (bldLen_any B B _ wr hbd)
      obtain ⟨q, hq⟩ : ∃ q, (l.take k).flatten.length = q := ⟨_, rfl⟩
      rw [hq] at hft hfl L1
      have i0 : (0 : Int) ≤ (k : Int) := by omega
      have i1 : (k : Int) < (n : Int) := by omega
      have e1 : (16384 : Int) - (q : Int) = ((16384 - q : Nat) : Int) := by omega
      obtain ⟨q2, hq2⟩ : ∃ q2, 16384 - q = q2 := ⟨_, rfl⟩
      rw [hq2] at e1
      by_cases hbig : q2 < X.size
      · have hF : ([], 4) = r := by rw [← HR.out]; unfold Cm.joinR; rw [if_neg (by omega)]
        subst hF
        have HBr := Lib.hid hBr
        clear hbd hBr hfs hft hfm hx hX hXl hXs hkl hz hgl hq
        go_wp2_with fail
        refine L1.out.mono ?_
        rintro e w' ⟨rfl, rfl⟩
        go_wp2_with fail
        go_ret2
        exact ⟨rfl, by first | exact HBr.out | (rw [HBB.out]; exact HBr.out)⟩
      · have hlen : (l.take k).flatten.length + X.size ≤ 100000000 := by omega
        have W1 := Lib.hid (bldWrite_any B B _ X wr hbd hlen hBs)
        rw [hXl, ← hfs] at W1
        have hnew : (l.take (k + 1)).flatten.length ≤ 16384 := by omega
        have HN := Lib.hid hnew
        have HBr := Lib.hid hBr
        clear hbd hBr hfs hft hfm hx hX hXl hXs hkl hz hgl hq hlen hnew
        go_wp2_with fail
        refine L1.out.mono ?_
        rintro e w' ⟨rfl, rfl⟩
        go_wp2_with fail
        refine W1.out.mono ?_
        rintro e w' ⟨rfl, hbd2, hB2⟩
        have HB2 := Lib.hid (HBr.out.trans hB2)
        have HD2 := Lib.hid hbd2
        clear hbd2 hB2
        go_wp2_with fail
        go_roundw
        case rel => exact ⟨k + 1, by omega, by go_num, HD2.out, HN.out, HB2.out⟩
        case measure => simp [intOf]; omega
    · obtain rfl : k = n := by omega
      have htk : l.take k = l := List.take_of_length_le (by rw [HL.out]; exact Nat.le_refl _)
      rw [htk] at hbd hfl
      have hF : (l.flatten, 0) = r := by rw [← HR.out]; unfold Cm.joinR; rw [if_pos hfl]
      subst hF
      have S1 := Lib.hid (bldString_any B B _ wr hbd hBs)
      have HBr := Lib.hid hBr
      clear hbd hfl htk hBr
      go_wp2_with fail
      refine S1.out.mono ?_
      rintro e w' ⟨rfl, hB2⟩
      go_wp2_with fail
      go_ret2
      exact ⟨rfl, by first | exact HBr.out.trans hB2 | (rw [HBB.out]; exact HBr.out.trans hB2)⟩

set_option maxRecDepth 100000 in
/-- Join of the reference -/
theorem rjoin_any (A : Option Addr) (n c : Nat) (l : List (List UInt8)) (w : World) (h : CellsIn w A n c (l.map Cm.str)) (hn : n ≤ 100000000000000) (ht : l.flatten.length ≤ 4611686018427387903) :
    Calls Try.prog 28 #[.slice A n c] w fun e w' => e = .returned (.tuple #[Cm.str (Cm.joinR l).1, .int .i64 (Cm.joinR l).2]) ∧ w = w' := by
  have hl : l.length = n := by rw [← h.1, List.length_map]
  obtain ⟨r, hr⟩ : ∃ r, Cm.joinR l = r := ⟨_, rfl⟩
  rw [hr]
  have HR := Lib.hid hr
  have HL := Lib.hid hl
  have HC := Lib.hid h
  have HT := Lib.hid ht
  clear hr hl h ht
  go_enter Try.func28, Try.ntmps28
  go_wp2
  go_loop [4, 12] (fun v i => ∃ k : Nat, k ≤ n ∧ i = .int .i64 k ∧ v = .int .i64 ((l.take k).flatten.length : Nat)) (fun v i => n - (intOf i).toNat)
  case atStart => exact ⟨0, by omega, rfl, rfl⟩
  case round =>
    obtain ⟨k, hk, rfl, rfl⟩ := hrel
    by_cases hlt : k < n
    · obtain ⟨g, o, rfl, hgl, hz, hcell⟩ := HC.out.at hlt
      rw [List.getElem_map] at hcell
      have hkl : k < l.length := by rw [HL.out]; exact hlt
      have hft := Cm.flat_take l k hkl
      have hfm := Nat.le_trans (Cm.flat_take_le l (k + 1)) HT.out
      obtain ⟨X, hX⟩ : ∃ X, Cm.b l[k] = X := ⟨_, rfl⟩
      have hXs : l[k].length = X.size := by rw [← hX]; rfl
      unfold Cm.str at hcell
      rw [hX] at hcell
      rw [hXs] at hft
      obtain ⟨q, hq⟩ : ∃ q, (l.take k).flatten.length = q := ⟨_, rfl⟩
      rw [hq] at hft ⊢
      have i0 : (0 : Int) ≤ (k : Int) := by omega
      have i1 : (k : Int) < (n : Int) := by omega
      have HF := Lib.hid hft
      rw [hft] at hfm
      clear hft hX hXs hkl hz hgl hq
      go_wp2
      go_round
      case rel => exact ⟨k + 1, by omega, by go_num, by rw [HF.out]; go_num⟩
      case measure => simp [intOf]; omega
    · obtain rfl : k = n := by omega
      have htk : l.take k = l := List.take_of_length_le (by rw [HL.out]; exact Nat.le_refl _)
      rw [htk]
      obtain ⟨t, htt⟩ : ∃ t, l.flatten.length = t := ⟨_, rfl⟩
      rw [htt]
      by_cases hbig : 16384 < t
      · have hF : ([], 4) = r := by rw [← HR.out]; unfold Cm.joinR; rw [if_neg (by omega)]
        subst hF
        clear htk htt
        go_wp2
        go_ret2
        exact ⟨rfl, rfl⟩
      · have hF : (l.flatten, 0) = r := by rw [← HR.out]; unfold Cm.joinR; rw [if_pos (by omega)]
        subst hF
        have HTT := Lib.hid (show l.flatten.length ≤ 16384 by omega)
        have HTK := Lib.hid htk
        clear htk htt
        go_wp2
        go_loop [7, 25] (fun v i => ∃ j : Nat, j ≤ k ∧ i = .int .i64 j ∧ v = .string (Cm.b (l.take j).flatten)) (fun v i => k - (intOf i).toNat)
        case atStart => exact ⟨0, by omega, rfl, rfl⟩
        case round =>
          obtain ⟨j, hj, rfl, rfl⟩ := hrel
          by_cases hlj : j < k
          · obtain ⟨g, o, rfl, hgl, hz, hcell⟩ := HC.out.at hlj
            rw [List.getElem_map] at hcell
            have hkl : j < l.length := by rw [HL.out]; exact hlj
            have hft := Cm.flat_take l j hkl
            have hfs := Cm.flat_succ l j hkl
            have hfm := Nat.le_trans (Cm.flat_take_le l (j + 1)) HTT.out
            obtain ⟨X, hX⟩ : ∃ X, Cm.b l[j] = X := ⟨_, rfl⟩
            obtain ⟨Y, hY⟩ : ∃ Y, Cm.b (l.take j).flatten = Y := ⟨_, rfl⟩
            have hYX : Cm.b (l.take (j + 1)).flatten = Y ++ X := by
              rw [hfs, ← hX, ← hY]
              apply bytes_ext
              simp [Cm.b]
            have hXs : l[j].length = X.size := by rw [← hX]; rfl
            have hYs : (l.take j).flatten.length = Y.size := by rw [← hY]; rfl
            unfold Cm.str at hcell
            rw [hX] at hcell
            rw [hY]
            have i0 : (0 : Int) ≤ (j : Int) := by omega
            have i1 : (j : Int) < (k : Int) := by omega
            have c1 : ∀ W : World, (Op.stringOp .add Y X).run Try.prog W = .ok (.string (Y ++ X)) W := fun W => run_string_add_sum W Y X (by omega)
            have HYX := Lib.hid hYX
            clear hft hfs hfm hX hY hXs hYs hkl hz hgl hYX
            go_wp2
            go_round
            case rel => exact ⟨j + 1, by omega, by go_num, by rw [HYX.out]⟩
            case measure => simp [intOf]; omega
          · obtain rfl : j = k := by omega
            rw [HTK.out]
            go_wp2
            go_ret2
            exact ⟨rfl, rfl⟩

end Go.Proofs.Ytnijengmdagmeaa
