/-
  Contracts of Clone, PutText, PutList, length, Text, List of wire.
-/
import Derived.Test.YtapmdneepinbgaaWireB
import Derived.Test.YtapmdneepinbgaaWm2
import Derived.Test.YtapmdneepinbgaaKit
import Derived.Lib.BufferWrite
import Derived.Lib.UnsafeStr
import Derived.Laws.MakeOwn
import Derived.OwnWalk
import Derived.Maps.AppendAt
namespace Go.Proofs.Ytapmdneepinbgaa
open Go.RowKit
set_option maxHeartbeats 1000000

theorem cells_u8 : Try.prog.cellsOf 5 = 1 := by kernel_rfl

set_option maxRecDepth 100000 in
/-- a copy of a string is the string -/
theorem clone1_any (s : ByteArray) (w : World) (hs : s.size ≤ 281474976710656) :
    Calls Try.prog 45 #[.string s] w fun e w' => e = .returned (.string s) ∧ Below w.heap.size w w' := by
  by_cases h0 : s.size = 0
  · obtain rfl : s = ⟨#[]⟩ := ByteArray.ext (Array.eq_empty_of_size_eq_zero h0)
    go_enter Try.func45, Try.ntmps45
    go_wp2
    go_ret
    exact ⟨rfl, Below.refl _ _⟩
  · obtain ⟨i0, hi, hz0, hz1, hz2⟩ := info_parts info_u8
    have hinfo : (Try.prog.info? 5).map (·.size) = some 1 := by rw [hi]; simp [hz1]
    have hlen : s.data.toList.length = s.size := by simp
    -- the new row
    obtain ⟨M, hMs, hmk⟩ : ∃ M : Array Value, M.size = s.size ∧ ∀ W : World, (Instr.makeSlice 38 (.int .i64 (s.size : Int)) (.int .i64 (s.size : Int))).run Try.prog W = .ok (.slice (some ⟨W.heap.size, 0, none⟩) s.size s.size) (W.alloc (.cells M 5)) :=
      ⟨madeCells (Value.int .u8 0).cells (((s.size : Nat) : Int).toNat * i0.size), by rw [size_madeCells, hz1]; simp, fun W => by
        simpa using run_make (P := Try.prog) W 38 5 i0 (.int .u8 0) Try.underlying38 hi hz0 .i64 .i64 (s.size : Int) (s.size : Int) (by omega) (by omega) (by rw [hz2]; omega) (by omega)⟩
    have hcp := Lib.run_copy_row_string (P := Try.prog) (w.alloc (.cells M 5)) 38 9 3 5 w.heap.size 0 s.size s.size s M 5 Try.underlying38 hinfo (heap_alloc_new w _) (Nat.le_refl _) (by omega)
    obtain ⟨Y, hY⟩ : ∃ Y, (M.toList.take 0 ++ Lib.byteCells s.data.toList ++ M.toList.drop (0 + s.size)).toArray = Y := ⟨_, rfl⟩
    rw [hY] at hcp
    have hYl : Y.toList = Lib.byteCells s.data.toList := by
      rw [← hY, List.toList_toArray, List.take_zero, List.nil_append, List.drop_of_length_le (by rw [Array.length_toList]; omega), List.append_nil]
    have hYs : Y.size = s.size := by rw [← Array.length_toList, hYl, Lib.byteCells_length, hlen]
    have hgY : ((w.alloc (.cells M 5)).setRow w.heap.size Y).heap[w.heap.size]? = some (.cells Y 5 (0, 0)) := setRow_heap _ _ M _ 5 (0, 0) (heap_alloc_new w _)
    have hUS := Lib.run_unsafeString_row (P := Try.prog) ((w.alloc (.cells M 5)).setRow w.heap.size Y) 68 3 9 5 Try.underlying68 cells_u8 w.heap.size Y.size (by unfold World.shape?; rw [hgY]) s.data.toList
      (fun e => h0 (by rw [← hlen, e]; rfl)) (by rw [hlen]; omega) (by rw [hlen]; omega)
      (fun j x hx => Lib.cells_of_row hgY Y.size j _ (by rw [List.take_of_length_le (by rw [Array.length_toList]; exact Nat.le_refl _), hYl]; simp [Lib.byteCells, hx]))
    rw [hlen] at hUS
    have hb1 : Below w.heap.size w (w.alloc (.cells M 5)) := (Below.refl _ w).alloc (Nat.le_refl _) _
    have hb2 : Below w.heap.size (w.alloc (.cells M 5)) ((w.alloc (.cells M 5)).setRow w.heap.size Y) := ⟨rfl, rfl, rfl, by simp, fun k hk => setRow_other _ _ _ _ (by omega)⟩
    have HB := Lib.hid (hb1.trans hb2)
    clear hY hYl hlen hb1 hb2
    go_enter Try.func45, Try.ntmps45
    go_wp2
    go_ret
    exact ⟨rfl, Lib.below_freeze HB.out (p := ⟨w.heap.size, 0, none⟩) (Nat.le_refl _) _⟩
theorem clone_any (s : ByteArray) (w : World) (hs : s.size ≤ 281474976710656) :
    Calls Try.prog 30 #[.string s] w fun e w' => e = .returned (.string s) ∧ Below w.heap.size w w' := by
  go_enter Try.func30, Try.ntmps30
  go_wp2_with fail
  refine (clone1_any s _ hs).mono ?_
  rintro e w' ⟨rfl, hB⟩
  go_wp2_with fail
  go_ret
  exact ⟨rfl, hB⟩

/-- length -/
theorem length_any (s : ByteArray) (i m : Int) (w : World) (hs : s.size ≤ maxLen) :
    Calls Try.prog 49 #[.string s, .int .i64 i, .int .i64 m] w fun e w' => e = .returned (Wm.val (Wm.lenR s.data.toList i m)) ∧ w = w' := by
  obtain ⟨x, q, r, hr⟩ : ∃ x q r, Wm.int s.data.toList i = (x, q, r) := ⟨_, _, _, rfl⟩
  have hL : Wm.lenR s.data.toList i m = if r ≠ 0 then (0, 0, r) else if x < 0 then (0, 0, 2) else if m < x then (0, 0, 4) else (x, q, r) := by
    unfold Wm.lenR; rw [hr]
  have HR := Lib.hid hr
  have HL := Lib.hid hL
  clear hr hL
  by_cases h0 : r = 0
  · subst h0
    by_cases h1 : x < 0
    · have HF := Lib.hid (show Wm.lenR s.data.toList i m = (0, 0, 2) by rw [HL.out]; simp [h1])
      clear HL
      go_enter Try.func49, Try.ntmps49
      go_wp2_with fail
      refine (int_any s i _ hs).mono ?_
      rintro e w' ⟨rfl, rfl⟩
      rw [HR.out]
      unfold Wm.val
      go_wp2_with fail
      go_ret3
      exact ⟨by rw [HF.out]; rfl, rfl⟩
    · by_cases h2 : m < x
      · have HF := Lib.hid (show Wm.lenR s.data.toList i m = (0, 0, 4) by rw [HL.out]; simp [h1, h2])
        clear HL
        go_enter Try.func49, Try.ntmps49
        go_wp2_with fail
        refine (int_any s i _ hs).mono ?_
        rintro e w' ⟨rfl, rfl⟩
        rw [HR.out]
        unfold Wm.val
        go_wp2_with fail
        go_ret3
        exact ⟨by rw [HF.out]; rfl, rfl⟩
      · have HF := Lib.hid (show Wm.lenR s.data.toList i m = (x, q, 0) by rw [HL.out]; simp [h1, h2])
        clear HL
        go_enter Try.func49, Try.ntmps49
        go_wp2_with fail
        refine (int_any s i _ hs).mono ?_
        rintro e w' ⟨rfl, rfl⟩
        rw [HR.out]
        unfold Wm.val
        go_wp2_with fail
        go_ret3
        exact ⟨by rw [HF.out]; rfl, rfl⟩
  · have HF := Lib.hid (show Wm.lenR s.data.toList i m = (0, 0, r) by rw [HL.out]; simp [h0])
    have g0 : (r == 0) = false := by simpa using h0
    clear HL h0
    go_enter Try.func49, Try.ntmps49
    go_wp2_with fail
    refine (int_any s i _ hs).mono ?_
    rintro e w' ⟨rfl, rfl⟩
    rw [HR.out]
    unfold Wm.val
    go_wp2_with fail
    go_ret3
    exact ⟨by rw [HF.out]; rfl, rfl⟩

/-- what Text answers, as a value -/
def Wm.tval (r : List UInt8 × Int × Int) : Value := .tuple #[Wm.str r.1, .int .i64 r.2.1, .int .i64 r.2.2]
theorem Wm.extract_str (s : ByteArray) (a n : Nat) : Value.string (s.extract a (a + n)) = Wm.str ((s.data.toList.drop a).take n) := by
  unfold Wm.str
  congr 1
  apply bytes_ext
  simp [List.extract_eq_take_drop]

/-- Text -/
theorem text_big (s : ByteArray) (i m : Int) (w : World) (hs : s.size ≤ 9223372036854775000) (hsm : s.size ≤ 281474976710656 ∨ m ≤ 281474976710656) :
    Calls Try.prog 38 #[.string s, .int .i64 i, .int .i64 m] w fun e w' => e = .returned (Wm.tval (Wm.text s.data.toList i m)) ∧ Below w.heap.size w w' := by
  have hlen : s.data.toList.length = s.size := by simp
  rcases Wm.lenR_cases s.data.toList i m with ⟨r, h0, hr⟩ | ⟨x, q, hr, _, hx0, hxm, hi0, hiq, hq, hx1⟩
  · have HF := Lib.hid (show Wm.text s.data.toList i m = ([], 0, r) by unfold Wm.text; rw [hr]; simp [h0])
    have HR := Lib.hid hr
    have g0 : (r == 0) = false := by simpa using h0
    clear hr h0 hlen
    go_enter Try.func38, Try.ntmps38
    go_wp2_with fail
    refine (length_any s i m _ (by unfold maxLen; omega)).mono ?_
    rintro e w' ⟨rfl, rfl⟩
    rw [HR.out]
    unfold Wm.val
    go_wp2_with fail
    go_ret3
    exact ⟨by rw [HF.out]; rfl, Below.refl _ _⟩
  · obtain ⟨X, rfl⟩ := Int.eq_ofNat_of_zero_le hx0
    obtain ⟨Q, rfl⟩ := Int.eq_ofNat_of_zero_le (show 0 ≤ q by omega)
    rw [hlen] at hq
    by_cases hsh : s.size < Q + X
    · have HF := Lib.hid (show Wm.text s.data.toList i m = ([], 0, 3) by unfold Wm.text; rw [hr, hlen]; simp; omega)
      have HR := Lib.hid hr
      clear hr hlen
      go_enter Try.func38, Try.ntmps38
      go_wp2_with fail
      refine (length_any s i m _ (by unfold maxLen; omega)).mono ?_
      rintro e w' ⟨rfl, rfl⟩
      rw [HR.out]
      unfold Wm.val
      go_wp2_with fail
      go_ret3
      exact ⟨by rw [HF.out]; rfl, Below.refl _ _⟩
    · have hq2 : Q + X ≤ s.size := by omega
      have hq3 : (Q : Int) + (X : Int) ≤ (s.size : Int) := by omega
      have hq4 : (0 : Int) ≤ (Q : Int) := by omega
      have hq5 : (Q : Int) ≤ (Q : Int) + (X : Int) := by omega
      have hX : X ≤ 281474976710656 := by omega
      clear hsm
      have HF := Lib.hid (show Wm.text s.data.toList i m = ((s.data.toList.drop Q).take X, (Q : Int) + X, 0) by unfold Wm.text; rw [hr, hlen]; simp; omega)
      have HR := Lib.hid hr
      clear hr hlen
      go_enter Try.func38, Try.ntmps38
      go_wp2_with fail
      refine (length_any s i m _ (by unfold maxLen; omega)).mono ?_
      rintro e w' ⟨rfl, rfl⟩
      rw [HR.out]
      unfold Wm.val
      go_wp2_with fail
      refine (clone_any _ _ ?_).mono ?_
      · rw [ByteArray.size_extract]; omega
      rintro e w' ⟨rfl, hB⟩
      go_wp2_with fail
      go_ret3
      exact ⟨by rw [HF.out]; exact congrArg Ending.returned (by simp only [Wm.tval]; rw [← Wm.extract_str]; rfl), hB⟩

theorem text_any (s : ByteArray) (i m : Int) (w : World) (hs : s.size ≤ 281474976710656) :
    Calls Try.prog 38 #[.string s, .int .i64 i, .int .i64 m] w fun e w' => e = .returned (Wm.tval (Wm.text s.data.toList i m)) ∧ Below w.heap.size w w' :=
  text_big s i m w (by omega) (.inl hs)

theorem Wm.str_app2 (s t : ByteArray) (l : List UInt8) : Value.string (s ++ ⟨l.toArray⟩ ++ t) = Wm.str (s.data.toList ++ (l ++ t.data.toList)) := by
  unfold Wm.str
  congr 1
  apply bytes_ext
  simp

/-- PutText -/
theorem putText_any (s t : ByteArray) (w : World) (hs : s.size + t.size ≤ 9223372036854775000) :
    Calls Try.prog 41 #[.string s, .string t] w fun e w' => e = .returned (Wm.str (s.data.toList ++ Wm.encT t.data.toList)) ∧ Below w.heap.size w w' := by
  have hl : t.data.toList.length = t.size := by simp
  have hE := Wm.encI_length (t.size : Int)
  have HF := Lib.hid (show Wm.encT t.data.toList = Wm.encI (t.size : Int) ++ t.data.toList by unfold Wm.encT; rw [hl])
  clear hl
  go_enter Try.func41, Try.ntmps41
  go_wp2_with fail
  refine (appendInt_any w.heap.size _ [] 0 t.size rfl (by omega) (by omega) (by simp) _ (Nat.le_refl _) (World.ownsRow_nil _ _ _ _)).mono ?_
  rintro e w' ⟨v, rfl, hrow, hB⟩
  simp only [List.nil_append] at hrow
  have hc := Wm.conv_own hrow
  clear hrow
  obtain ⟨E, hE1, hE2⟩ : ∃ E : ByteArray, E = ⟨(Wm.encI (t.size : Int)).toArray⟩ ∧ E.size ≤ 10 := ⟨_, rfl, by show Array.size _ ≤ 10; simp; omega⟩
  rw [← hE1] at hc
  have a1 : ∀ W : World, (Op.stringOp .add s E).run Try.prog W = .ok (.string (s ++ E)) W := fun W => run_string_add_sum W s E (by omega)
  have a2 : ∀ W : World, (Op.stringOp .add (s ++ E) t).run Try.prog W = .ok (.string (s ++ E ++ t)) W := fun W => run_string_add_sum W (s ++ E) t (by rw [ByteArray.size_append]; omega)
  have HE := Lib.hid hE1
  clear hE1 hE
  go_wp2_with fail
  go_ret
  exact ⟨by rw [HF.out, ← Wm.str_app2, ← HE.out]; rfl, hB⟩

theorem info_int : (Try.prog.info? 3).map (fun i => (i.zero, i.size, i.bytes)) = some (some (.int .i64 0), 1, 8) := by kernel_rfl

/-- what List answers: the slice owns the numbers -/
def Wm.LRet (B : Nat) (w : World) (r : List Int × Int × Int) (e : Ending) (w' : World) : Prop :=
  ∃ v, e = .returned (.tuple #[v, .int .i64 r.2.1, .int .i64 r.2.2]) ∧ w'.ownsRow B 3 1 v r.1.length (r.1.map (Value.int .i64)) ∧ Below B w w'

end Go.Proofs.Ytapmdneepinbgaa
