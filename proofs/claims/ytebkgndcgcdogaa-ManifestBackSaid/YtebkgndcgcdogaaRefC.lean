/-
  Contracts of the reference's PutText, PutList, Text, List, Same.
-/
import Derived.Test.YtebkgndcgcdogaaWireC
namespace Go.Proofs.Ytebkgndcgcdogaa
open Go.RowKit
set_option maxHeartbeats 1000000

/-- what the reference answers for the number of bytes -/
theorem Wm.len_of (s : List UInt8) (i m : Int) {x q r : Int} (h : Wm.int s i = (x, q, r)) :
    Wm.lenR s i m = if r ≠ 0 then (0, 0, r) else if x < 0 then (0, 0, 2) else if m < x then (0, 0, 4) else (x, q, r) := by
  unfold Wm.lenR; rw [h]

theorem Wm.str_eta (l : List UInt8) : Wm.str l = .string ⟨l.toArray⟩ := rfl

set_option maxRecDepth 100000 in
theorem rputList_any (s : ByteArray) (A : Option Addr) (n c : Nat) (z : List Int) (w : World) (hs : s.size ≤ 9223000000000000000) (hz : IntsIn .i64 w A n c z) (hn : n ≤ 14073748835500) :
    Calls Try.prog 52 #[.string s, .slice A n c] w fun e w' => e = .returned (Wm.str (s.data.toList ++ Wm.encL z)) ∧ Below w.heap.size w w' := by
  have hzl := hz.1
  have hbd : ∀ x ∈ z, -9223372036854775808 ≤ x ∧ x ≤ 9223372036854775807 := fun x hx => bd_i64 (hz.2.2.1 x hx)
  obtain ⟨D, hD⟩ : ∃ D : Nat → List UInt8, D = fun k => s.data.toList ++ (Wm.encI n ++ (z.take k).flatMap Wm.encI) := ⟨_, rfl⟩
  have hD0 : s.data.toList ++ Wm.encI n = D 0 := by rw [hD]; simp
  have hDs : ∀ k (h : k < z.length), D k ++ Wm.encI z[k] = D (k + 1) := fun k h => by rw [hD]; simp only; rw [Wm.flatMap_take_succ z k h]; simp
  have hDl : ∀ k, k ≤ n → (D k).length ≤ s.size + 10 + 10 * k := fun k h => by
    rw [hD]
    have h1 := (Wm.encI_length (n : Int)).2
    have h2 := Wm.flatMap_length (z.take k)
    simp only [List.length_append, List.length_take, Array.length_toList, ByteArray.size_data] at h2 ⊢
    omega
  have hDn : D n = s.data.toList ++ Wm.encL z := by
    rw [hD, Wm.encL]; simp only; rw [List.take_of_length_le (by omega), hzl]
  have HZ := Lib.hid hz
  have HD0 := Lib.hid hD0
  have HDs := Lib.hid hDs
  have HDl := Lib.hid hDl
  have HDn := Lib.hid hDn
  have HBd := Lib.hid hbd
  clear hz hD hD0 hDs hDl hDn hbd hzl
  go_enter Try.func52, Try.ntmps52
  go_wp2_with fail
  refine (rput_any s n _ (by omega) (by omega) (by omega)).mono ?_
  rintro e w1 ⟨rfl, hB⟩
  rw [HD0.out]
  have HB := Lib.hid hB
  clear hB
  go_wp2_with fail
  go_loopw [0, 13] (fun v i wr => ∃ k : Nat, k ≤ n ∧ i = .int .i64 k ∧ v = Wm.str (D k) ∧ Below w.heap.size w wr) (fun v i wr => n - (intOf i).toNat)
  case atStart => exact ⟨0, by omega, rfl, rfl, HB.out⟩
  case round =>
    obtain ⟨k, hk, rfl, rfl, hBr⟩ := hrel
    clear HB
    by_cases hlt : k < n
    · obtain ⟨b, o, rfl, hbl, hzk, hcell⟩ := HZ.out.at hlt
      have hcr := (hBr.cell (p := ⟨b, o + k, none⟩) hbl).trans hcell
      obtain ⟨x, hx⟩ : ∃ x, z[k] = x := ⟨_, rfl⟩
      have hxb := HBd.out _ (List.getElem_mem hzk)
      have hDk := HDs.out k hzk
      have hDkl := HDl.out k hk
      rw [hx] at hcr hxb hDk
      clear hcell
      obtain ⟨E, hE1, hE2, hE3⟩ : ∃ E : ByteArray, E = ⟨(D k).toArray⟩ ∧ E.size ≤ s.size + 10 + 10 * k ∧ E.data.toList = D k := ⟨_, rfl, by show Array.size _ ≤ _; simpa using hDkl, by simp⟩
      rw [Wm.str_eta (D k), ← hE1]
      have HBr := Lib.hid hBr
      have HDk := Lib.hid hDk
      have HE3 := Lib.hid hE3
      clear hBr hDk hDkl hx hE1 hE3
      go_wp2_with fail
      refine (rput_any E x _ (by omega) hxb.1 hxb.2).mono ?_
      rintro e w2 ⟨rfl, hB2⟩
      rw [HE3.out, HDk.out]
      have HB2 := Lib.hid (HBr.out.trans (hB2.mono HBr.out.size))
      clear hB2
      go_wp2_with fail
      go_roundw
      case rel => exact ⟨k + 1, by omega, by go_num, rfl, HB2.out⟩
      case measure => simp [intOf]; omega
    · obtain rfl : k = n := by omega
      go_wp2_with fail
      go_ret
      exact ⟨by rw [← HDn.out]; rfl, hBr⟩

set_option maxRecDepth 100000 in
theorem rlist_any (s : ByteArray) (i m : Int) (w : World) (hs : s.size ≤ 17592186044000) :
    Calls Try.prog 58 #[.string s, .int .i64 i, .int .i64 m] w (Wm.LRet w.heap.size w (Wm.list s.data.toList i m)) := by
  have hlen : s.data.toList.length = s.size := by simp
  obtain ⟨i0, hi, hz0, hz1, hz2⟩ := info_parts info_int
  rcases Wm.int_cases s.data.toList i with ⟨r, h0, hr⟩ | ⟨x, q, hr, hi0, hiq, hq, hx⟩
  · have hl := Wm.len_of s.data.toList i m hr
    rw [if_pos h0] at hl
    have HF := Lib.hid (show Wm.list s.data.toList i m = ([], 0, r) by unfold Wm.list; rw [hl]; simp [h0])
    have HR := Lib.hid hr
    have g0 : (r == 0) = false := by simpa using h0
    clear hr h0 hl hlen
    go_enter Try.func58, Try.ntmps58
    go_wp2_with fail
    refine (rint_any s i _ (by omega)).mono ?_
    rintro e w' ⟨rfl, rfl⟩
    rw [HR.out]
    unfold Wm.val
    go_wp2_with fail
    go_ret3
    exact ⟨.slice none 0 0, by rw [HF.out]; rfl, by rw [HF.out]; exact World.ownsRow_nil _ _ _ _, Below.refl _ _⟩
  · have hl := Wm.len_of s.data.toList i m hr
    rw [if_neg (by simp)] at hl
    have HR := Lib.hid hr
    clear hr
    obtain ⟨Q, rfl⟩ := Int.eq_ofNat_of_zero_le (show 0 ≤ q by omega)
    rw [hlen] at hq
    by_cases h1 : x < 0
    · rw [if_pos h1] at hl
      have HF := Lib.hid (show Wm.list s.data.toList i m = ([], 0, 2) by unfold Wm.list; rw [hl]; simp)
      clear hl hlen
      go_enter Try.func58, Try.ntmps58
      go_wp2_with fail
      refine (rint_any s i _ (by omega)).mono ?_
      rintro e w' ⟨rfl, rfl⟩
      rw [HR.out]
      unfold Wm.val
      go_wp2_with fail
      go_ret3
      exact ⟨.slice none 0 0, by rw [HF.out]; rfl, by rw [HF.out]; exact World.ownsRow_nil _ _ _ _, Below.refl _ _⟩
    · rw [if_neg h1] at hl
      obtain ⟨X, rfl⟩ := Int.eq_ofNat_of_zero_le (show 0 ≤ x by omega)
      by_cases h2 : m < (X : Int)
      · rw [if_pos h2] at hl
        have HF := Lib.hid (show Wm.list s.data.toList i m = ([], 0, 4) by unfold Wm.list; rw [hl]; simp)
        clear hl hlen
        go_enter Try.func58, Try.ntmps58
        go_wp2_with fail
        refine (rint_any s i _ (by omega)).mono ?_
        rintro e w' ⟨rfl, rfl⟩
        rw [HR.out]
        unfold Wm.val
        go_wp2_with fail
        go_ret3
        exact ⟨.slice none 0 0, by rw [HF.out]; rfl, by rw [HF.out]; exact World.ownsRow_nil _ _ _ _, Below.refl _ _⟩
      · rw [if_neg h2] at hl
        obtain ⟨R, hRd⟩ : ∃ R, Wm.list s.data.toList i m = R := ⟨_, rfl⟩
        have hL : Wm.listFrom s.data.toList X Q [] = R := by rw [← hRd]; unfold Wm.list; rw [hl]; simp
        rw [hRd]
        have hX9 := hx.2
        have HL := Lib.hid hL
        have HLen := Lib.hid hlen
        clear hl hlen hL hRd hx
        go_enter Try.func58, Try.ntmps58
        go_wp2_with fail
        refine (rint_any s i _ (by omega)).mono ?_
        rintro e w' ⟨rfl, rfl⟩
        rw [HR.out]
        unfold Wm.val
        go_wp2_with fail
        go_loopw [10, 12] (fun a v wr => ∃ (K N c : Nat) (A : Option Addr) (acc : List Int), a = .int .i64 K ∧ v = .slice A acc.length c ∧ acc.length + N = X ∧ wr.ownsRow w.heap.size 3 1 v acc.length (acc.map (Value.int .i64)) ∧ Below w.heap.size w wr ∧
          Wm.listFrom s.data.toList N K acc = R ∧ acc.length ≤ K ∧ K ≤ s.size) (fun a v wr => s.size - (intOf a).toNat)
        case atStart => exact ⟨Q, X, 0, none, [], rfl, rfl, by simp, World.ownsRow_nil _ _ _ _, Below.refl _ _, HL.out, by simp, by omega⟩
        case round =>
          obtain ⟨K, N, c, A, acc, rfl, rfl, hNX, hrow, hBr, hLf, hacc, hK⟩ := hrel
          clear HL
          obtain ⟨L, hLl⟩ : ∃ L, acc.length = L := ⟨_, rfl⟩
          rw [hLl] at hrow hacc hNX ⊢
          have HROW := Lib.hid hrow
          have HBr := Lib.hid hBr
          have HLf := Lib.hid hLf
          have HLl := Lib.hid hLl
          clear hBr hLf hLl hrow
          by_cases hN : 0 < N
          · obtain ⟨N, rfl⟩ : ∃ M, N = M + 1 := ⟨N - 1, by omega⟩
            have hlx : L < X := by omega
            rcases Wm.int_cases s.data.toList K with ⟨r, h0, hr⟩ | ⟨x, q, hr, _, h1, h2, hx⟩
            · have HF := Lib.hid (show R = ([], 0, r) by rw [← HLf.out, Wm.listFrom, hr]; simp [h0])
              have HR2 := Lib.hid hr
              have g0 : (r == 0) = false := by simpa using h0
              clear hr h0 HLf
              go_wp2_with fail
              refine (rint_any s K _ (by omega)).mono ?_
              rintro e w' ⟨rfl, rfl⟩
              rw [HR2.out]
              unfold Wm.val
              go_wp2_with fail
              go_ret3
              exact ⟨.slice none 0 0, by rw [HF.out]; rfl, by rw [HF.out]; exact World.ownsRow_nil _ _ _ _, HBr.out⟩
            · obtain ⟨Q2, rfl⟩ := Int.eq_ofNat_of_zero_le (show 0 ≤ q by omega)
              rw [HLen.out] at h2
              have HF := Lib.hid (show Wm.listFrom s.data.toList N Q2 (acc ++ [x]) = R by rw [← HLf.out, Wm.listFrom, hr]; simp)
              have HR2 := Lib.hid hr
              have hrow := HROW.out
              have hLs : (acc ++ [x]).length = L + 1 := by rw [List.length_append, HLl.out]; rfl
              have hLm : (acc ++ [x]).map (Value.int .i64) = acc.map (Value.int .i64) ++ [.int .i64 x] := by simp
              have HLs := Lib.hid hLs
              have HLm := Lib.hid hLm
              clear hr HLf HROW hLs hLm
              go_wp2_with fail
              refine (rint_any s K _ (by omega)).mono ?_
              rintro e w' ⟨rfl, rfl⟩
              rw [HR2.out]
              unfold Wm.val
              go_wp2_with (at_builtin; refine wpList_append_own _ rfl _ _ 22 rfl w.heap.size 3 i0 (.int .i64 0) 1 8 Try.underlying22 hi hz0 hz1 hz2 rfl (by decide) _ _ _ rfl (hrow.alloc _) ⟨wr.heap.size, 0, none⟩ 1 1 [.int .i64 x] rfl rfl (cell_one_new _ _ _) (by simp [Value.oneCell']) (by unfold maxLen; omega) (by omega) (by have := HBr.out.size; simp; omega) ?_; intro v' w1 hown' hgrow _; obtain ⟨g', cap', rfl⟩ := ownsRow_succ hown'; have HO := Lib.hid hown'; have HG := Lib.hid hgrow; clear hown' hgrow)
              have hB2 := (HBr.out.alloc HBr.out.size _).grown HG.out (by have := HBr.out.size; simp; omega) (fun g hg => (hrow.lt g hg).1)
              have HB2 := Lib.hid hB2
              clear hrow hB2
              go_roundw
              case rel => exact ⟨Q2, N, cap', some ⟨g', 0, none⟩, acc ++ [x], rfl, by rw [HLs.out], by rw [HLs.out]; omega, by rw [HLs.out, HLm.out]; exact HO.out, HB2.out, HF.out, by rw [HLs.out]; omega, by omega⟩
              case measure => simp [intOf]; omega
          · obtain rfl : N = 0 := by omega
            have hlx : ¬ L < X := by omega
            have HF := Lib.hid (show R = (acc, (K : Int), 0) by rw [← HLf.out]; rfl)
            clear HLf
            go_wp2_with fail
            go_ret3
            exact ⟨_, by rw [HF.out]; rfl, by rw [HF.out]; show World.ownsRow _ _ _ _ _ acc.length _; rw [HLl.out]; exact HROW.out, HBr.out⟩

/-- a slice whose cells are these numbers -/
def IntsAt (w : World) (A : Option Addr) (n : Nat) (z : List Int) : Prop :=
  z.length = n ∧ (0 < n → ∃ b o, A = some ⟨b, o, none⟩ ∧ ∀ i (h : i < z.length), w.cell? ⟨b, o + i, none⟩ = some (.int .i64 z[i]))
theorem IntsIn.ints {w : World} {A : Option Addr} {n c : Nat} {z : List Int} (h : IntsIn .i64 w A n c z) : IntsAt w A n z :=
  ⟨h.1, fun hn => by obtain ⟨b, o, hA, _, hc⟩ := h.2.2.2.2 hn; exact ⟨b, o, hA, hc⟩⟩
theorem own_ints {w : World} {B : Nat} {v : Value} {z : List Int} (h : w.ownsRow B 3 1 v z.length (z.map (Value.int .i64))) : ∃ A c, v = .slice A z.length c ∧ IntsAt w A z.length z := by
  rcases h.2 with ⟨rfl, hz⟩ | ⟨g, cap, cur, hv, _⟩
  · exact ⟨none, 0, by rw [hz], rfl, fun hn => absurd hn (by omega)⟩
  · subst hv
    exact ⟨_, _, rfl, rfl, fun _ => ⟨g, 0, rfl, fun i hi => by
      have := h.cells rfl i _ (by rw [List.getElem?_map, List.getElem?_eq_getElem hi]; rfl)
      have e1 : (⟨g, 0, none⟩ : Addr).add i = ⟨g, 0 + i, none⟩ := by unfold Addr.add; split <;> simp_all
      rw [e1] at this
      exact this⟩⟩

end Go.Proofs.Ytebkgndcgcdogaa
