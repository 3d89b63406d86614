/-
  Contracts of Clone, PutText, PutList, length, Text, List of wire.
-/
import Derived.Test.YtebkgndcgcdogaaWireB
import Derived.Test.YtebkgndcgcdogaaWm2
import Derived.Test.YtebkgndcgcdogaaKit
import Derived.Test.YtebkgndcgcdogaaClone
import Derived.Lib.BufferWrite
import Derived.Lib.UnsafeStr
import Derived.Laws.MakeOwn
import Derived.OwnWalk
import Derived.Maps.AppendAt
namespace Go.Proofs.Ytebkgndcgcdogaa
open Go.RowKit
set_option maxHeartbeats 1000000

/-- length -/
theorem length_any (s : ByteArray) (i m : Int) (w : World) (hs : s.size ≤ maxLen) :
    Calls Try.prog 73 #[.string s, .int .i64 i, .int .i64 m] w fun e w' => e = .returned (Wm.val (Wm.lenR s.data.toList i m)) ∧ w = w' := by
  obtain ⟨x, q, r, hr⟩ : ∃ x q r, Wm.int s.data.toList i = (x, q, r) := ⟨_, _, _, rfl⟩
  have hL : Wm.lenR s.data.toList i m = if r ≠ 0 then (0, 0, r) else if x < 0 then (0, 0, 2) else if m < x then (0, 0, 4) else (x, q, r) := by
    unfold Wm.lenR; rw [hr]
  have HR := Lib.hid hr
  have HL := Lib.hid hL
  clear hr hL
  by_cases h0 : r = 0
  · subst h0
    by_cases h1 : x < 0
    · have HF := Lib.hid (show Wm.lenR s.data.toList i m = (0, 0, 2) by rw [HL.out]; simp [h1])
      clear HL
      go_enter Try.func73, Try.ntmps73
      go_wp2_with fail
      refine (int_any s i _ hs).mono ?_
      rintro e w' ⟨rfl, rfl⟩
      rw [HR.out]
      unfold Wm.val
      go_wp2_with fail
      go_ret3
      exact ⟨by rw [HF.out]; rfl, rfl⟩
    · by_cases h2 : m < x
      · have HF := Lib.hid (show Wm.lenR s.data.toList i m = (0, 0, 4) by rw [HL.out]; simp [h1, h2])
        clear HL
        go_enter Try.func73, Try.ntmps73
        go_wp2_with fail
        refine (int_any s i _ hs).mono ?_
        rintro e w' ⟨rfl, rfl⟩
        rw [HR.out]
        unfold Wm.val
        go_wp2_with fail
        go_ret3
        exact ⟨by rw [HF.out]; rfl, rfl⟩
      · have HF := Lib.hid (show Wm.lenR s.data.toList i m = (x, q, 0) by rw [HL.out]; simp [h1, h2])
        clear HL
        go_enter Try.func73, Try.ntmps73
        go_wp2_with fail
        refine (int_any s i _ hs).mono ?_
        rintro e w' ⟨rfl, rfl⟩
        rw [HR.out]
        unfold Wm.val
        go_wp2_with fail
        go_ret3
        exact ⟨by rw [HF.out]; rfl, rfl⟩
  · have HF := Lib.hid (show Wm.lenR s.data.toList i m = (0, 0, r) by rw [HL.out]; simp [h0])
    have g0 : (r == 0) = false := by simpa using h0
    clear HL h0
    go_enter Try.func73, Try.ntmps73
    go_wp2_with fail
    refine (int_any s i _ hs).mono ?_
    rintro e w' ⟨rfl, rfl⟩
    rw [HR.out]
    unfold Wm.val
    go_wp2_with fail
    go_ret3
    exact ⟨by rw [HF.out]; rfl, rfl⟩

/-- what Text answers, as a value -/
def Wm.tval (r : List UInt8 × Int × Int) : Value := .tuple #[Wm.str r.1, .int .i64 r.2.1, .int .i64 r.2.2]
theorem Wm.extract_str (s : ByteArray) (a n : Nat) : Value.string (s.extract a (a + n)) = Wm.str ((s.data.toList.drop a).take n) := by
  unfold Wm.str
  congr 1
  apply bytes_ext
  simp [List.extract_eq_take_drop]

theorem Wm.str_app2 (s t : ByteArray) (l : List UInt8) : Value.string (s ++ ⟨l.toArray⟩ ++ t) = Wm.str (s.data.toList ++ (l ++ t.data.toList)) := by
  unfold Wm.str
  congr 1
  apply bytes_ext
  simp

/-- PutList -/
theorem putList_any (s : ByteArray) (A : Option Addr) (n c : Nat) (z : List Int) (w : World) (hs : s.size ≤ 9223000000000000000) (hz : IntsIn .i64 w A n c z) (hn : n ≤ 17592186044416) :
    Calls Try.prog 59 #[.string s, .slice A n c] w fun e w' => e = .returned (Wm.str (s.data.toList ++ Wm.encL z)) ∧ Below w.heap.size w w' := by
  have hzl := hz.1
  have hbd : ∀ x ∈ z, -9223372036854775808 ≤ x ∧ x ≤ 9223372036854775807 := fun x hx => bd_i64 (hz.2.2.1 x hx)
  obtain ⟨D, hD⟩ : ∃ D : Nat → List UInt8, D = fun k => Wm.encI n ++ (z.take k).flatMap Wm.encI := ⟨_, rfl⟩
  have hD0 : D 0 = Wm.encI n := by rw [hD]; simp
  have hDs : ∀ k (h : k < z.length), D (k + 1) = D k ++ Wm.encI z[k] := fun k h => by rw [hD]; simp only; rw [Wm.flatMap_take_succ z k h]; simp
  have hDl : ∀ k, k ≤ n → (D k).length ≤ 10 + 10 * k := fun k h => by
    rw [hD]
    have h1 := (Wm.encI_length (n : Int)).2
    have h2 := Wm.flatMap_length (z.take k)
    simp only [List.length_append, List.length_take] at h2 ⊢
    omega
  have hDn : D n = Wm.encL z := by
    rw [hD, Wm.encL]; simp only; rw [List.take_of_length_le (by omega), hzl]
  have HZ := Lib.hid hz
  have HD0 := Lib.hid hD0
  have HDs := Lib.hid hDs
  have HDl := Lib.hid hDl
  have HDn := Lib.hid hDn
  have HBd := Lib.hid hbd
  clear hz hD hD0 hDs hDl hDn hbd hzl
  go_enter Try.func59, Try.ntmps59
  go_wp2_with fail
  refine (appendInt_any w.heap.size _ [] 0 n rfl (by omega) (by omega) (by simp) _ (Nat.le_refl _) (World.ownsRow_nil _ _ _ _)).mono ?_
  rintro e w1 ⟨v, rfl, hrow, hB⟩
  simp only [List.nil_append] at hrow
  have HR := Lib.hid hrow
  have HB := Lib.hid hB
  clear hrow hB
  go_wp2_with fail
  go_loopw [5, 13] (fun v i wr => ∃ k : Nat, k ≤ n ∧ i = .int .i64 k ∧ wr.ownsRow w.heap.size 5 1 v (D k).length ((D k).map Wm.u8) ∧ Below w.heap.size w wr) (fun v i wr => n - (intOf i).toNat)
  case atStart => exact ⟨0, by omega, rfl, by rw [HD0.out]; exact HR.out, HB.out⟩
  case round =>
    obtain ⟨k, hk, rfl, hrow, hBr⟩ := hrel
    clear HR HB
    by_cases hlt : k < n
    · obtain ⟨b, o, rfl, hbl, hzk, hcell⟩ := HZ.out.at hlt
      have hcr := (hBr.cell (p := ⟨b, o + k, none⟩) hbl).trans hcell
      obtain ⟨x, hx⟩ : ∃ x, z[k] = x := ⟨_, rfl⟩
      have hxb := HBd.out _ (List.getElem_mem hzk)
      have hDk := HDs.out k hzk
      have hDkl := HDl.out k hk
      rw [hx] at hcr hxb hDk
      clear hcell
      have HROW := Lib.hid hrow
      have HBr := Lib.hid hBr
      have HDk := Lib.hid hDk
      have HDkl := Lib.hid hDkl
      clear hrow hBr hDk hDkl hx
      go_wp2_with fail
      refine (appendInt_any w.heap.size _ (D k) _ x rfl hxb.1 hxb.2 (by have := HDkl.out; omega) _ HBr.out.size HROW.out).mono ?_
      rintro e w2 ⟨v2, rfl, hrow2, hB2⟩
      have HR2 := Lib.hid hrow2
      have HB2 := Lib.hid (HBr.out.trans hB2)
      clear hrow2 hB2
      go_wp2_with fail
      go_roundw
      case rel => exact ⟨k + 1, by omega, by go_num, by rw [HDk.out]; exact HR2.out, HB2.out⟩
      case measure => simp [intOf]; omega
    · obtain rfl : k = n := by omega
      have hc := Wm.conv_own hrow
      rw [HDn.out] at hc
      have hl2 := HDl.out k (Nat.le_refl _)
      rw [HDn.out] at hl2
      obtain ⟨E, hE1, hE2⟩ : ∃ E : ByteArray, E = ⟨(Wm.encL z).toArray⟩ ∧ E.size ≤ 10 + 10 * k := ⟨_, rfl, by show Array.size _ ≤ _; simpa using hl2⟩
      rw [← hE1] at hc
      have a1 : ∀ W : World, (Op.stringOp .add s E).run Try.prog W = .ok (.string (s ++ E)) W := fun W => run_string_add_sum W s E (by omega)
      have HE := Lib.hid hE1
      clear hE1 hrow
      go_wp2_with fail
      go_ret
      exact ⟨by rw [← Wm.str_app, ← HE.out]; rfl, hBr⟩

theorem info_int : (Try.prog.info? 3).map (fun i => (i.zero, i.size, i.bytes)) = some (some (.int .i64 0), 1, 8) := by kernel_rfl

/-- what List answers: the slice owns the numbers -/
def Wm.LRet (B : Nat) (w : World) (r : List Int × Int × Int) (e : Ending) (w' : World) : Prop :=
  ∃ v, e = .returned (.tuple #[v, .int .i64 r.2.1, .int .i64 r.2.2]) ∧ w'.ownsRow B 3 1 v r.1.length (r.1.map (Value.int .i64)) ∧ Below B w w'

set_option maxRecDepth 100000 in
/-- List -/
theorem list_big (s : ByteArray) (i m : Int) (w : World) (hs : s.size ≤ 9223372036854775000) (hsm : s.size ≤ 17592186044000 ∨ m ≤ 17592186044000) :
    Calls Try.prog 55 #[.string s, .int .i64 i, .int .i64 m] w (Wm.LRet w.heap.size w (Wm.list s.data.toList i m)) := by
  have hlen : s.data.toList.length = s.size := by simp
  obtain ⟨i0, hi, hz0, hz1, hz2⟩ := info_parts info_int
  rcases Wm.lenR_cases s.data.toList i m with ⟨r, h0, hr⟩ | ⟨x, q, hr, _, hx0, hxm, hi0, hiq, hq, hx1⟩
  · have HF := Lib.hid (show Wm.list s.data.toList i m = ([], 0, r) by unfold Wm.list; rw [hr]; simp [h0])
    have HR := Lib.hid hr
    have g0 : (r == 0) = false := by simpa using h0
    clear hr h0 hlen
    go_enter Try.func55, Try.ntmps55
    go_wp2_with fail
    refine (length_any s i m _ (by unfold maxLen; omega)).mono ?_
    rintro e w' ⟨rfl, rfl⟩
    rw [HR.out]
    unfold Wm.val
    go_wp2_with fail
    go_ret3
    exact ⟨.slice none 0 0, by rw [HF.out]; rfl, by rw [HF.out]; exact World.ownsRow_nil _ _ _ _, Below.refl _ _⟩
  · obtain ⟨X, rfl⟩ := Int.eq_ofNat_of_zero_le hx0
    obtain ⟨Q, rfl⟩ := Int.eq_ofNat_of_zero_le (show 0 ≤ q by omega)
    rw [hlen] at hq
    obtain ⟨R, hRd⟩ : ∃ R, Wm.list s.data.toList i m = R := ⟨_, rfl⟩
    have hL : Wm.listFrom s.data.toList X Q [] = R := by rw [← hRd]; unfold Wm.list; rw [hr]; simp
    rw [hRd]
    have HL := Lib.hid hL
    have HR := Lib.hid hr
    have HLen := Lib.hid hlen
    have hXs : X ≤ 17592186044000 ∨ s.size ≤ 17592186044000 := by omega
    clear hr hlen hL hRd hsm
    go_enter Try.func55, Try.ntmps55
    go_wp2_with fail
    refine (length_any s i m _ (by unfold maxLen; omega)).mono ?_
    rintro e w' ⟨rfl, rfl⟩
    rw [HR.out]
    unfold Wm.val
    go_wp2_with fail
    go_loopw [1, 9, 11] (fun a n v wr => ∃ (K N : Nat) (acc : List Int), a = .int .i64 K ∧ n = .int .i64 N ∧ N ≤ X ∧ wr.ownsRow w.heap.size 3 1 v acc.length (acc.map (Value.int .i64)) ∧ Below w.heap.size w wr ∧
      Wm.listFrom s.data.toList N K acc = R ∧ acc.length ≤ K ∧ K ≤ s.size ∧ acc.length + N ≤ X) (fun a n v wr => (intOf n).toNat)
    case atStart => exact ⟨Q, X, [], rfl, rfl, Nat.le_refl _, World.ownsRow_nil _ _ _ _, Below.refl _ _, HL.out, by simp, by omega, by simp⟩
    case round =>
      obtain ⟨K, N, acc, rfl, rfl, hNX, hrow, hBr, hLf, hacc, hK, hNa⟩ := hrel
      clear HL
      have HROW := Lib.hid hrow
      have HBr := Lib.hid hBr
      have HLf := Lib.hid hLf
      clear hrow hBr hLf
      by_cases hN : 0 < N
      · obtain ⟨N, rfl⟩ : ∃ M, N = M + 1 := ⟨N - 1, by omega⟩
        rcases Wm.int_cases s.data.toList K with ⟨r, h0, hr⟩ | ⟨x, q, hr, _, h1, h2, hx⟩
        · have HF := Lib.hid (show R = ([], 0, r) by rw [← HLf.out, Wm.listFrom, hr]; simp [h0])
          have HR2 := Lib.hid hr
          have g0 : (r == 0) = false := by simpa using h0
          clear hr h0 HLf
          go_wp2_with fail
          refine (int_any s K _ (by unfold maxLen; omega)).mono ?_
          rintro e w' ⟨rfl, rfl⟩
          rw [HR2.out]
          unfold Wm.val
          go_wp2_with fail
          go_ret3
          exact ⟨.slice none 0 0, by rw [HF.out]; rfl, by rw [HF.out]; exact World.ownsRow_nil _ _ _ _, HBr.out⟩
        · obtain ⟨Q2, rfl⟩ := Int.eq_ofNat_of_zero_le (show 0 ≤ q by omega)
          rw [HLen.out] at h2
          have HF := Lib.hid (show Wm.listFrom s.data.toList N Q2 (acc ++ [x]) = R by rw [← HLf.out, Wm.listFrom, hr]; simp)
          have HR2 := Lib.hid hr
          obtain ⟨L, hLl⟩ : ∃ L, acc.length = L := ⟨_, rfl⟩
          have hrow := HROW.out
          rw [hLl] at hrow hacc hNa
          have hLs : (acc ++ [x]).length = L + 1 := by rw [List.length_append, hLl]; rfl
          have hLm : (acc ++ [x]).map (Value.int .i64) = acc.map (Value.int .i64) ++ [.int .i64 x] := by simp
          have HLs := Lib.hid hLs
          have HLm := Lib.hid hLm
          have HLl := Lib.hid hLl
          clear hr HLf HROW hLs hLm hLl
          go_wp2_with fail
          refine (int_any s K _ (by unfold maxLen; omega)).mono ?_
          rintro e w' ⟨rfl, rfl⟩
          rw [HR2.out]
          unfold Wm.val
          go_wp2_with (at_builtin; refine wpList_append_own _ rfl _ _ 22 rfl w.heap.size 3 i0 (.int .i64 0) 1 8 Try.underlying22 hi hz0 hz1 hz2 rfl (by decide) _ _ _ rfl (hrow.alloc _) ⟨wr.heap.size, 0, none⟩ 1 1 [.int .i64 x] rfl rfl (cell_one_new _ _ _) (by simp [Value.oneCell']) (by unfold maxLen; omega) (by omega) (by have := HBr.out.size; simp; omega) ?_; intro v' w1 hown' hgrow _; have HO := Lib.hid hown'; have HG := Lib.hid hgrow; clear hown' hgrow)
          have hB2 := (HBr.out.alloc HBr.out.size _).grown HG.out (by have := HBr.out.size; simp; omega) (fun g hg => (hrow.lt g hg).1)
          have HB2 := Lib.hid hB2
          clear hrow hB2
          go_roundw
          case rel => exact ⟨Q2, N, acc ++ [x], rfl, by go_num, by omega, by rw [HLs.out, HLm.out]; exact HO.out, HB2.out, HF.out, by rw [HLs.out]; omega, by omega, by rw [HLs.out]; omega⟩
          case measure => simp [intOf]
      · obtain rfl : N = 0 := by omega
        have HF := Lib.hid (show R = (acc, (K : Int), 0) by rw [← HLf.out]; rfl)
        clear HLf
        go_wp2_with fail
        go_ret3
        exact ⟨_, by rw [HF.out]; rfl, by rw [HF.out]; exact HROW.out, HBr.out⟩

theorem list_any (s : ByteArray) (i m : Int) (w : World) (hs : s.size ≤ 17592186044000) :
    Calls Try.prog 55 #[.string s, .int .i64 i, .int .i64 m] w (Wm.LRet w.heap.size w (Wm.list s.data.toList i m)) :=
  list_big s i m w (by omega) (.inl hs)

end Go.Proofs.Ytebkgndcgcdogaa
