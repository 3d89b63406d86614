/-
  Contract of the reference's Cut.
-/
import Derived.Test.YtebkgndcgcdogaaChG
namespace Go.Proofs.Ytebkgndcgcdogaa
open Go.RowKit
set_option maxHeartbeats 1000000

theorem Cm.cutV_flat (a b c d : Int) (s : List UInt8) (h : (Cm.cutV a b c d s).2 = 0) : (Cm.cutV a b c d s).1.flatten = s := by
  unfold Cm.cutV at h ⊢
  cases hc : Cm.okB a b c d with
  | false => rw [hc, if_neg (by decide)] at h; cases h
  | true =>
    rw [hc, if_pos rfl] at h
    rw [if_pos rfl]
    unfold Cm.cutR at h ⊢
    by_cases h2 : (Cm.cut ⟨a.toNat, b.toNat, c.toNat, d.toNat⟩ s).length ≤ 256
    · rw [if_pos h2]; exact Cm.cut_flat (Cm.ok_of hc).1 s
    · rw [if_neg h2] at h; cases h
theorem Cm.flat_at (l : List (List UInt8)) : ∀ (k : Nat) (h : k < l.length), (l.flatten.drop (l.take k).flatten.length).take l[k].length = l[k] := by
  induction l with
  | nil => intro k h; simp at h
  | cons x l ih =>
    intro k h
    cases k with
    | zero => simp
    | succ k =>
      simp only [List.take_succ_cons, List.flatten_cons, List.length_append, List.getElem_cons_succ]
      rw [← List.drop_drop, List.drop_left]
      exact ih k (by simpa using h)

set_option maxRecDepth 100000 in
/-- Cut of the reference -/
theorem rcut_any (s : ByteArray) (a b c d : Int) (w : World) (hs : s.size ≤ 16384) :
    Calls Try.prog 37 #[.string s, .agg #[.int .i64 a, .int .i64 b, .int .i64 c, .int .i64 d]] w (Cm.Ret w.heap.size w (Cm.cutV a b c d s.data.toList)) := by
  have hg := Cm.cutV_good a b c d s.data.toList
  have hfl := Cm.cutV_flat a b c d s.data.toList
  rw [size_list] at hg
  obtain ⟨l, er, hr⟩ : ∃ l er, Cm.cutV a b c d s.data.toList = (l, er) := ⟨_, _, rfl⟩
  have C1 := Lib.hid (fun V => (by have h := rends_any s a b c d V hs; rw [hr] at h; exact h : Calls Try.prog 61 #[.string s, .agg #[.int .i64 a, .int .i64 b, .int .i64 c, .int .i64 d]] V (Cm.RetI V.heap.size V (Cm.endsF 0 l, er))))
  rw [hr] at hg hfl ⊢
  obtain ⟨hl, hf, he⟩ := hg
  simp only at hl hf he hfl ⊢
  clear hr
  rcases he with rfl | ⟨rfl, he, he0, he4⟩
  · obtain ⟨i0, hi, hz0, hz1, hz2⟩ := info_parts info_str
    have hfl := hfl rfl
    obtain ⟨n, hn⟩ : ∃ n, l.length = n := ⟨_, rfl⟩
    have hn2 : n ≤ 256 := by omega
    have HN := Lib.hid hn
    have HF := Lib.hid hf
    have HFL := Lib.hid hfl
    have HEN := Lib.hid (show (Cm.endsF 0 l).length = n by rw [Cm.endsF_length, hn])
    clear hn hf hl hfl
    go_enter Try.func37, Try.ntmps37
    go_wp2_with fail
    refine (C1.out _).mono ?_
    rintro e w2 ⟨v, rfl, hown, hB2⟩
    obtain ⟨A, cc, rfl, hci⟩ := own_cells hown
    simp only [HEN.out] at hci
    rw [HEN.out]
    have HB2 := Lib.hid (((Below.refl w.heap.size w).alloc (Nat.le_refl _) _).trans (hB2.mono (by simp)))
    have hw2 := HB2.out.size
    obtain ⟨b', hb⟩ : ∃ b, w2.heap.size = b := ⟨_, rfl⟩
    have hCb : ∀ W, Below b' w2 W → CellsIn W A n cc ((Cm.endsF 0 l).map (Value.int .i64)) := fun W h => hci.below (by rw [hb]; exact h)
    have hb2 : b' ≤ w2.heap.size := by omega
    have hb3 : w.heap.size ≤ b' := by omega
    have HCB := Lib.hid hCb
    clear hci hB2 hown hb hCb hw2
    go_wp2_with fail
    go_loopw [8, 9, 23] (fun v p i wr => ∃ k : Nat, k ≤ n ∧ i = .int .i64 k ∧ p = .int .i64 ((l.take k).flatten.length : Nat) ∧ wr.ownsRow b' 9 1 v k ((l.take k).map Cm.str) ∧ Below b' w2 wr) (fun v p i wr => n - (intOf i).toNat)
    case atStart => exact ⟨0, by omega, rfl, rfl, World.ownsRow_nil _ _ _ _, Below.refl _ _⟩
    case round =>
      obtain ⟨k, hk, rfl, rfl, hrow, hBr⟩ := hrel
      have hbr := Nat.le_trans hb2 hBr.size
      by_cases hlt : k < n
      · obtain ⟨g, o, rfl, hgl, hz, hcell⟩ := (HCB.out wr hBr).at hlt
        have hkl : k < l.length := by rw [HN.out]; exact hlt
        rw [List.getElem_map, Cm.endsF_get, Nat.zero_add] at hcell
        have hft := Cm.flat_take l k hkl
        have hfl := Cm.flat_take_le l (k + 1)
        have hat := Cm.flat_at l k hkl
        obtain ⟨q, hq⟩ : ∃ q, (l.take k).flatten.length = q := ⟨_, rfl⟩
        obtain ⟨q2, hq2⟩ : ∃ q2, (l.take (k + 1)).flatten.length = q2 := ⟨_, rfl⟩
        obtain ⟨zs, hzs⟩ : ∃ zs, (l.take k).map Cm.str = zs := ⟨_, rfl⟩
        obtain ⟨x, hx⟩ : ∃ x, s.extract q q2 = x := ⟨_, rfl⟩
        have hzs2 : (l.take (k + 1)).map Cm.str = zs ++ [.string x] := by
          rw [List.take_succ_eq_append_getElem hkl, List.map_append, hzs, List.map_singleton, Cm.str]
          congr 3
          rw [← hx]
          refine (Cm.b_eq ?_).symm
          rw [← hat, hq, HFL.out]
          simp only [ByteArray.data_extract, Array.toList_extract, List.extract_eq_take_drop]
          rw [show q2 - q = l[k].length by omega]
        rw [hzs] at hrow
        rw [hq2] at hft hfl hcell
        rw [hq] at hft ⊢
        have hq3 : q2 ≤ s.size := by have := HF.out; omega
        have i0' : (0 : Int) ≤ (k : Int) := by omega
        have i1' : (k : Int) < (n : Int) := by omega
        have i2' : (0 : Int) ≤ (q : Int) := by omega
        have i3' : (q : Int) ≤ (q2 : Int) := by omega
        have i4' : (q2 : Int) ≤ (s.size : Int) := by omega
        have HQ2 := Lib.hid hq2
        have HZ2 := Lib.hid hzs2
        have HBr := Lib.hid hBr
        clear hq2 hzs2 hBr hzs hq hft hfl hkl hz hgl hat
        go_wp2_with (at_builtin; refine wpList_append_own _ rfl _ _ 26 rfl b' 9 i0 (.string ByteArray.empty) 1 16 Try.underlying26 hi hz0 hz1 hz2 rfl (by decide) _ _ _ rfl (hrow.alloc _) ⟨wr.heap.size, 0, none⟩ 1 1 [.string x] rfl rfl (cell_one_new _ _ _) (by simp [Value.oneCell']) (by unfold maxLen; omega) (by omega) (by simp; omega) ?_; intro v' w1 hown' hgrow _; have HO := Lib.hid hown'; have HG := Lib.hid hgrow; clear hown' hgrow)
        have HB2' := Lib.hid (grown_below HG.out HBr.out hbr (fun g hg => (hrow.lt g hg).1))
        clear hrow
        go_roundw
        case rel => first | exact ⟨k + 1, by omega, by go_num, by rw [HQ2.out], by rw [HZ2.out]; exact HO.out, HB2'.out⟩ | ((repeat apply Exists.intro); exact ⟨⟨k + 1, by omega, by go_num, by rw [HQ2.out], by rw [HZ2.out]; exact HO.out, HB2'.out⟩, rfl⟩)
        case measure => simp [intOf]; omega
      · obtain rfl : k = n := by omega
        have hz : l.take k = l := List.take_of_length_le (by rw [HN.out]; exact Nat.le_refl _)
        rw [hz] at hrow
        have HR2 := Lib.hid hrow
        have HBr := Lib.hid hBr
        clear hrow hBr hz
        go_wp2
        go_ret2
        exact ⟨_, rfl, by rw [HN.out]; exact own_mono HR2.out hb3, HB2.out.trans (HBr.out.mono hb3)⟩
  · have g0 : (er == 0) = false := beq_eq_false_iff_ne.2 he
    go_enter Try.func37, Try.ntmps37
    go_wp2_with fail
    refine (C1.out _).mono ?_
    rintro e w2 ⟨v, rfl, hown, hB2⟩
    obtain ⟨A, cc, rfl, hci⟩ := own_cells hown
    clear hci hown
    go_wp2_with fail
    go_ret2
    exact ⟨.slice none 0 0, rfl, World.ownsRow_nil _ _ _ _, ((Below.refl w.heap.size w).alloc (Nat.le_refl _) _).trans (hB2.mono (by simp))⟩

end Go.Proofs.Ytebkgndcgcdogaa
