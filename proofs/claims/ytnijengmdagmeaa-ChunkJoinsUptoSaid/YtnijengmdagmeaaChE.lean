/-
  Contract of Ends.
-/
import Derived.Test.YtnijengmdagmeaaChD
namespace Go.Proofs.Ytnijengmdagmeaa
open Go.RowKit
set_option maxHeartbeats 1000000

/-- an answer of Cut -/
structure Cm.Good (m : Nat) (r : List (List UInt8) × Int) : Prop where
  len : r.1.length ≤ 256
  flat : r.1.flatten.length ≤ m
  err : r.2 = 0 ∨ (r.1 = [] ∧ r.2 ≠ 0 ∧ 0 ≤ r.2 ∧ r.2 ≤ 4)
theorem Cm.cutR_good {c : Cm.C} (hc : c.ok) (s : List UInt8) : Cm.Good s.length (Cm.cutR c s) := by
  unfold Cm.cutR
  by_cases h : (Cm.cut c s).length ≤ 256
  · rw [if_pos h]; exact ⟨h, by rw [Cm.cut_flat hc]; exact Nat.le_refl _, .inl rfl⟩
  · rw [if_neg h]; exact ⟨by simp, by simp, .inr ⟨rfl, by decide, by decide, by decide⟩⟩
theorem Cm.cutV_good (a b c d : Int) (s : List UInt8) : Cm.Good s.length (Cm.cutV a b c d s) := by
  unfold Cm.cutV
  cases hc : Cm.okB a b c d with
  | false => rw [if_neg (by decide)]; exact ⟨by simp, by simp, .inr ⟨rfl, by decide, by decide, by decide⟩⟩
  | true => rw [if_pos rfl]; exact Cm.cutR_good (Cm.ok_of hc).1 s
theorem Cm.cutV_ok {c : Cm.C} (hc : c.ok) (s : List UInt8) : Cm.cutV c.L c.M c.W c.K s = Cm.cutR c s := by
  have h1 := hc.l4; have h2 := hc.lm; have h3 := hc.m256; have h4 := hc.w1; have h5 := hc.wl; have h6 := hc.k1; have h7 := hc.k1024
  unfold Cm.cutV Cm.okB
  rw [if_pos (by simp; omega)]
  rfl

/-- a list of numbers and an error, as an answer -/
def Cm.RetI (B : Nat) (w : World) (r : List Int × Int) (e : Ending) (w' : World) : Prop :=
  ∃ v, e = .returned (.tuple #[v, .int .i64 r.2]) ∧ w'.ownsRow B 3 1 v r.1.length (r.1.map (Value.int .i64)) ∧ Below B w w'
theorem info_i64 : (Try.prog.info? 3).map (fun i => (i.zero, i.size, i.bytes)) = some (some (.int .i64 0), 1, 8) := by kernel_rfl

theorem Cm.flat_take (l : List (List UInt8)) (k : Nat) (h : k < l.length) : (l.take (k + 1)).flatten.length = (l.take k).flatten.length + l[k].length := by
  rw [List.take_succ_eq_append_getElem h, List.flatten_append, List.length_append]; simp
theorem Cm.flat_take_le (l : List (List UInt8)) (k : Nat) : (l.take k).flatten.length ≤ l.flatten.length := by
  have h : l.flatten = (l.take k).flatten ++ (l.drop k).flatten := by rw [← List.flatten_append, List.take_append_drop]
  have := congrArg List.length h
  rw [List.length_append] at this
  omega
theorem Cm.ends_take (l : List (List UInt8)) (k : Nat) (h : k < l.length) : (Cm.endsF 0 l).take (k + 1) = (Cm.endsF 0 l).take k ++ [((l.take (k + 1)).flatten.length : Int)] := by
  have h2 : k < (Cm.endsF 0 l).length := by rw [Cm.endsF_length]; exact h
  rw [List.take_succ_eq_append_getElem h2, Cm.endsF_get]
  simp

set_option maxRecDepth 100000 in
/-- Ends -/
theorem ends_any (s : ByteArray) (a b c d : Int) (w : World) (hs : s.size ≤ 16384) :
    Calls Try.prog 18 #[.string s, .agg #[.int .i64 a, .int .i64 b, .int .i64 c, .int .i64 d]] w (Cm.RetI w.heap.size w (Cm.endsF 0 (Cm.cutV a b c d s.data.toList).1, (Cm.cutV a b c d s.data.toList).2)) := by
  have hg := Cm.cutV_good a b c d s.data.toList
  rw [size_list] at hg
  obtain ⟨l, er, hr⟩ : ∃ l er, Cm.cutV a b c d s.data.toList = (l, er) := ⟨_, _, rfl⟩
  have C1 := Lib.hid (fun V => (by have h := cut_any s a b c d V hs; rw [hr] at h; exact h : Calls Try.prog 16 #[.string s, .agg #[.int .i64 a, .int .i64 b, .int .i64 c, .int .i64 d]] V (Cm.Ret V.heap.size V (l, er))))
  rw [hr] at hg ⊢
  obtain ⟨hl, hf, he⟩ := hg
  simp only at hl hf he ⊢
  clear hr
  rcases he with rfl | ⟨rfl, he, he0, he4⟩
  · obtain ⟨i0, hi, hz0, hz1, hz2⟩ := info_parts info_i64
    obtain ⟨n, hn⟩ : ∃ n, l.length = n := ⟨_, rfl⟩
    have hn2 : n ≤ 256 := by omega
    have HN := Lib.hid hn
    have HF := Lib.hid hf
    clear hn hf hl
    go_enter Try.func18, Try.ntmps18
    go_wp2_with fail
    refine (C1.out _).mono ?_
    rintro e w2 ⟨v, rfl, hown, hB2⟩
    obtain ⟨A, cc, rfl, hci⟩ := own_cells hown
    simp only [HN.out] at hci
    rw [HN.out]
    have HCI := Lib.hid hci
    have HB2 := Lib.hid (((Below.refl w.heap.size w).alloc (Nat.le_refl _) _).trans (hB2.mono (by simp)))
    clear hci hB2 hown
    obtain ⟨M, hM, hmk⟩ : ∃ M : Array Value, M.size = n * 1 ∧ ∀ W : World, (Instr.makeSlice 22 (.int .i64 0) (.int .i64 (n : Int))).run Try.prog W = .ok (.slice (some ⟨W.heap.size, 0, none⟩) 0 n) (W.alloc (.cells M 3)) :=
      ⟨madeCells (Value.int .i64 0).cells (((n : Nat) : Int).toNat * i0.size), by rw [size_madeCells, hz1]; simp, fun W => by
        simpa using run_make (P := Try.prog) W 22 3 i0 (.int .i64 0) Try.underlying22 hi hz0 .i64 .i64 0 (n : Int) (by omega) (by omega) (by rw [hz2]; omega) (by omega)⟩
    go_wp2_with fail
    have hrow : (w2.alloc (.cells M 3)).ownsRow w2.heap.size 3 1 (.slice (some ⟨w2.heap.size, 0, none⟩) 0 n) 0 [] :=
      ⟨rfl, .inr ⟨w2.heap.size, n, M, rfl, Nat.le_refl _, heap_alloc_new _ _, Nat.zero_le _, by unfold maxLen; omega, hM, by simp⟩⟩
    have hB3 : Below w2.heap.size w2 (w2.alloc (.cells M 3)) := (Below.refl _ _).alloc (Nat.le_refl _) _
    have hw2 := HB2.out.size
    obtain ⟨b, hb⟩ : ∃ b, w2.heap.size = b := ⟨_, rfl⟩
    have hCb : ∀ W, Below b w2 W → CellsIn W A n cc (l.map Cm.str) := fun W h => HCI.out.below (by rw [hb]; exact h)
    rw [hb] at hrow hB3 hw2 ⊢
    have hb2 : b ≤ w2.heap.size := by omega
    have h3b : b ≤ (w2.alloc (.cells M 3)).heap.size := by simp; omega
    generalize w2.alloc (.cells M 3) = w3 at hrow hB3 h3b ⊢
    have HCB := Lib.hid hCb
    have HR := Lib.hid hrow
    have HB3 := Lib.hid hB3
    clear hCb hrow hB3 hmk hM hb HCI
    go_loopw [8, 9, 26] (fun v p i wr => ∃ k : Nat, k ≤ n ∧ i = .int .i64 k ∧ p = .int .i64 ((l.take k).flatten.length : Nat) ∧ wr.ownsRow b 3 1 v k (((Cm.endsF 0 l).take k).map (Value.int .i64)) ∧ Below b w2 wr) (fun v p i wr => n - (intOf i).toNat)
    case atStart => exact ⟨0, by omega, rfl, rfl, HR.out, HB3.out⟩
    case round =>
      obtain ⟨k, hk, rfl, rfl, hrow, hBr⟩ := hrel
      have hbr := Nat.le_trans hb2 hBr.size
      by_cases hlt : k < n
      · obtain ⟨g, o, rfl, hgl, hz, hcell⟩ := (HCB.out wr hBr).at hlt
        rw [List.getElem_map] at hcell
        have hkl : k < l.length := by rw [HN.out]; exact hlt
        obtain ⟨x, hx⟩ : ∃ x, Cm.b l[k] = x := ⟨_, rfl⟩
        have hxs : x.size = l[k].length := by rw [← hx]; rfl
        unfold Cm.str at hcell
        rw [hx] at hcell
        have hft := Cm.flat_take l k hkl
        have hfl := Cm.flat_take_le l (k + 1)
        have hen := Cm.ends_take l k hkl
        obtain ⟨q, hq⟩ : ∃ q, (l.take k).flatten.length = q := ⟨_, rfl⟩
        obtain ⟨q2, hq2⟩ : ∃ q2, (l.take (k + 1)).flatten.length = q2 := ⟨_, rfl⟩
        obtain ⟨zs, hzs⟩ : ∃ zs, ((Cm.endsF 0 l).take k).map (Value.int .i64) = zs := ⟨_, rfl⟩
        have hzs2 : ((Cm.endsF 0 l).take (k + 1)).map (Value.int .i64) = zs ++ [.int .i64 (q2 : Nat)] := by rw [hen, List.map_append, hzs, hq2]; rfl
        rw [hzs] at hrow
        rw [hq2] at hft hfl
        rw [hq] at hft ⊢
        have hqq : (q : Int) + (x.size : Int) = (q2 : Int) := by omega
        have hq3 : q2 ≤ 16384 := by have := HF.out; omega
        have i0' : (0 : Int) ≤ (k : Int) := by omega
        have i1' : (k : Int) < (n : Int) := by omega
        have HQ2 := Lib.hid hq2
        have HZ2 := Lib.hid hzs2
        have HBr := Lib.hid hBr
        clear hq2 hzs2 hBr hzs hq hen hft hfl hxs hx hkl hz hgl
        go_wp2_with (at_builtin; refine wpList_append_own _ rfl _ _ 22 rfl b 3 i0 (.int .i64 0) 1 8 Try.underlying22 hi hz0 hz1 hz2 rfl (by decide) _ _ _ rfl (hrow.alloc _) ⟨wr.heap.size, 0, none⟩ 1 1 [.int .i64 (q2 : Nat)] rfl rfl (cell_one_new _ _ _) (by simp [Value.oneCell']) (by unfold maxLen; omega) (by omega) (by simp; omega) ?_; intro v' w1 hown' hgrow _; have HO := Lib.hid hown'; have HG := Lib.hid hgrow; clear hown' hgrow)
        have hB2' := (HBr.out.alloc (by omega) _).grown HG.out (by simp; omega) (fun g hg => (hrow.lt g hg).1)
        have HB2' := Lib.hid hB2'
        clear hrow hB2'
        go_roundw
        case rel => first | exact ⟨k + 1, by omega, by go_num, by rw [HQ2.out], by rw [HZ2.out]; exact HO.out, HB2'.out⟩ | ((repeat apply Exists.intro); exact ⟨⟨k + 1, by omega, by go_num, by rw [HQ2.out], by rw [HZ2.out]; exact HO.out, HB2'.out⟩, rfl⟩)
        case measure => simp [intOf]; omega
      · obtain rfl : k = n := by omega
        have hz : (Cm.endsF 0 l).take k = Cm.endsF 0 l := List.take_of_length_le (by rw [Cm.endsF_length, HN.out]; exact Nat.le_refl _)
        rw [hz] at hrow
        have HR2 := Lib.hid hrow
        have HBr := Lib.hid hBr
        clear hrow hBr hz
        go_wp2
        go_ret2
        exact ⟨_, rfl, by rw [Cm.endsF_length, HN.out]; exact own_mono HR2.out hw2, HB2.out.trans (HBr.out.mono hw2)⟩
  · have g0 : (er == 0) = false := beq_eq_false_iff_ne.2 he
    go_enter Try.func18, Try.ntmps18
    go_wp2_with fail
    refine (C1.out _).mono ?_
    rintro e w2 ⟨v, rfl, hown, hB2⟩
    obtain ⟨A, cc, rfl, hci⟩ := own_cells hown
    clear hci hown
    go_wp2_with fail
    go_ret2
    exact ⟨.slice none 0 0, rfl, World.ownsRow_nil _ _ _ _, ((Below.refl w.heap.size w).alloc (Nat.le_refl _) _).trans (hB2.mono (by simp))⟩

end Go.Proofs.Ytnijengmdagmeaa
