/-
  WireShort: its walk.
-/
import Derived.Test.YtogaljgekaogkaaLawBack
namespace Go.Proofs.Ytogaljgekaogkaa
open Go.RowKit
set_option maxHeartbeats 1000000
set_option linter.unusedVariables false

theorem Wm.extract_take (S : ByteArray) (l : List UInt8) (h : S.data.toList = l) (k : Nat) : (S.extract 0 k).data.toList = l.take k := by
  rw [ByteArray.data_extract, Array.toList_extract, List.extract_eq_take_drop, h]
  simp
theorem Wm.text_limit (t : List UInt8) (hn : (t.length : Int) ≤ 9223372036854775807) : Wm.text (Wm.encT t) 0 ((t.length : Int) - 1) = ([], 0, 4) := by
  have h := Wm.lenR_enc [] t.length t ((t.length : Int) - 1) hn
  rw [if_pos (by omega)] at h
  simp only [List.nil_append, List.length_nil] at h
  unfold Wm.text Wm.encT
  rw [show ((0 : Nat) : Int) = 0 from rfl] at h
  rw [h]
  simp
theorem Wm.list_limit (l : List Int) (hn : (l.length : Int) ≤ 9223372036854775807) : Wm.list (Wm.encL l) 0 ((l.length : Int) - 1) = ([], 0, 4) := by
  have h := Wm.lenR_enc [] l.length (l.flatMap Wm.encI) ((l.length : Int) - 1) hn
  rw [if_pos (by omega)] at h
  simp only [List.nil_append, List.length_nil] at h
  unfold Wm.list Wm.encL
  rw [show ((0 : Nat) : Int) = 0 from rfl] at h
  rw [h]
  simp
theorem Wm.nil_app (l : List UInt8) : (⟨#[]⟩ : ByteArray).data.toList ++ l = l := rfl

set_option maxRecDepth 100000 in
theorem wireShort_walk (t : ByteArray) (A : Option Addr) (m c : Nat) (z : List Int) (n cut more : Int) (w : World) (h3 : t.size ≤ 140737488351232) (hz : IntsIn .i64 w A m c z) (hc : c * Try.prog.bytesOf 3 ≤ 140737488351232)
    (hn0 : -9223372036854775808 ≤ n) (hn1 : n ≤ 9223372036854775807) (hq0 : 0 ≤ cut) (hq1 : cut ≤ 65535) (hm0 : 0 ≤ more) (hm1 : more ≤ 255) :
    Calls Try.prog 4 #[.string t, .slice A m c, .int .i64 n, .int .u16 cut, .int .u8 more] w fun e w' => e = .returned (.bool true) ∧ Below w.heap.size w w' := by
  have hb8 : Try.prog.bytesOf 3 = 8 := by kernel_rfl
  rw [hb8] at hc
  replace hc : c ≤ 17592186043904 := by omega
  have hmc := hz.2.1
  have hzl := hz.1
  have hbd : ∀ x ∈ z, Wm.I64 x := fun x hx => bd_i64 (hz.2.2.1 x hx)
  have lt : t.data.toList.length = t.size := by simp
  obtain ⟨q, rfl⟩ := Int.eq_ofNat_of_zero_le hq0
  obtain ⟨S1, hS1, zS1⟩ := Wm.of_list (Wm.encI n)
  obtain ⟨S2, hS2, zS2⟩ := Wm.of_list (Wm.encT t.data.toList)
  obtain ⟨S3, hS3, zS3⟩ := Wm.of_list (Wm.encL z)
  have eI := Wm.encI_length n
  have eT : 1 ≤ (Wm.encT t.data.toList).length ∧ (Wm.encT t.data.toList).length ≤ 10 + t.size := by
    have := Wm.encI_length (t.data.toList.length : Int)
    rw [Wm.encT, List.length_append]; omega
  have eL : 1 ≤ (Wm.encL z).length ∧ (Wm.encL z).length ≤ 10 + 10 * m := by
    have := Wm.encI_length (z.length : Int)
    have := Wm.flatMap_length z
    rw [Wm.encL, List.length_append]; omega
  have p1 : 1 ≤ S1.size ∧ S1.size ≤ 10 := by omega
  have p2 : 1 ≤ S2.size ∧ S2.size ≤ 10 + t.size := by omega
  have p3 : 1 ≤ S3.size ∧ S3.size ≤ 10 + 10 * m := by omega
  have m1 := Nat.mod_lt q p1.1
  have m2 := Nat.mod_lt q p2.1
  have m3 := Nat.mod_lt q p3.1
  have m4 := Nat.mod_le q S2.size
  have m5 := Nat.mod_le q S3.size
  -- what is read
  have r1 : Wm.int (S1.extract 0 (q % S1.size)).data.toList 0 = (0, 0, 3) := by
    rw [Wm.extract_take S1 _ hS1]; exact Wm.int_short n _ hn0 hn1 (by omega)
  have r2 : Wm.text (S2.extract 0 (q % S2.size)).data.toList 0 ((t.size : Int) + more) = ([], 0, 3) := by
    rw [Wm.extract_take S2 _ hS2]; exact Wm.text_short _ _ _ (by omega) (by omega) (by omega)
  have r3 : Wm.list (S3.extract 0 (q % S3.size)).data.toList 0 ((m : Int) + more) = ([], 0, 3) := by
    rw [Wm.extract_take S3 _ hS3]; exact Wm.list_short _ _ _ (by omega) (by omega) hbd (by omega)
  have r4 : Wm.text S2.data.toList 0 ((t.size : Int) - 1) = ([], 0, 4) := by rw [hS2, ← lt]; exact Wm.text_limit _ (by omega)
  have r5 : Wm.list S3.data.toList 0 ((m : Int) - 1) = ([], 0, 4) := by rw [hS3, ← hzl]; exact Wm.list_limit _ (by omega)
  have k1 := Wm.str_as S1 hS1
  have k2 := Wm.str_as S2 hS2
  have k3 := Wm.str_as S3 hS3
  have x1 : (S1.extract 0 (q % S1.size)).size ≤ 10 := by rw [ByteArray.size_extract]; omega
  have x2 : (S2.extract 0 (q % S2.size)).size ≤ 65535 := by rw [ByteArray.size_extract]; omega
  have x3 : (S3.extract 0 (q % S3.size)).size ≤ 65535 := by rw [ByteArray.size_extract]; omega
  have P1 : 1 ≤ S1.size := p1.1
  have P2 : 1 ≤ S2.size := p2.1
  have P3 : 1 ≤ S3.size := p3.1
  have U1 : S1.size ≤ 10 := p1.2
  have U2 : S2.size ≤ 140737488351300 := by omega
  have U3 : S3.size ≤ 175921860439100 := by omega
  have b1 : ((S1.size : Int) == 0) = false := beq_eq_false_iff_ne.2 (by omega)
  have b2 : ((S2.size : Int) == 0) = false := beq_eq_false_iff_ne.2 (by omega)
  have b3 : ((S3.size : Int) == 0) = false := beq_eq_false_iff_ne.2 (by omega)
  have K1 := Lib.hid k1
  have K2 := Lib.hid k2
  have K3 := Lib.hid k3
  have R1 := Lib.hid r1
  have R2 := Lib.hid r2
  have R3 := Lib.hid r3
  have R4 := Lib.hid r4
  have R5 := Lib.hid r5
  have HZ := Lib.hid hz
  have X1 := Lib.hid x1
  have X2 := Lib.hid x2
  have X3 := Lib.hid x3
  clear hz hzl hbd lt hS1 hS2 hS3 zS1 zS2 zS3 eI eT eL p1 p2 p3 r1 r2 r3 r4 r5 k1 k2 k3 x1 x2 x3
  go_enter Try.func4, Try.ntmps4
  go_wp2_with fail
  refine (sane_any _).mono ?_
  rintro e w1 ⟨rfl, hB1⟩
  go_wp2_with fail
  refine (put_any ⟨#[]⟩ n _ (by decide) hn0 hn1).mono ?_
  rintro e w2 ⟨rfl, hB2⟩
  rw [Wm.nil_app, K1.out]
  go_wp2_with fail
  refine (putText_any ⟨#[]⟩ t _ (by rw [show (⟨#[]⟩ : ByteArray).size = 0 from rfl]; omega)).mono ?_
  rintro e w3 ⟨rfl, hB3⟩
  rw [Wm.nil_app, K2.out]
  have hB := (hB1.trans (hB2.mono hB1.size)).trans (hB3.mono (Nat.le_trans hB1.size hB2.size))
  have HB := Lib.hid hB
  clear hB1 hB2 hB3 hB
  go_wp2_with fail
  refine (putList_any ⟨#[]⟩ A m c z _ (by decide) (HZ.out.below HB.out) (by omega)).mono ?_
  rintro e w4 ⟨rfl, hB4⟩
  rw [Wm.nil_app, K3.out]
  have HB4 := Lib.hid (HB.out.trans (hB4.mono HB.out.size))
  clear hB4
  go_wp2_with fail
  refine (int_any _ 0 _ (by have := X1.out; unfold maxLen; omega)).mono ?_
  rintro e w' ⟨rfl, rfl⟩
  rw [R1.out]
  unfold Wm.val
  go_wp2_with fail
  refine (text_any _ _ _ _ (by have := X2.out; omega)).mono ?_
  rintro e w5 ⟨rfl, hB5⟩
  rw [R2.out]
  unfold Wm.tval Wm.str
  have HB5 := Lib.hid (HB4.out.trans (hB5.mono HB4.out.size))
  clear hB5
  go_wp2_with fail
  refine (list_any _ _ _ _ (by have := X3.out; omega)).mono ?_
  rintro e w6 ⟨v, rfl, _, hB6⟩
  rw [R3.out]
  have HB6 := Lib.hid (HB5.out.trans (hB6.mono HB5.out.size))
  clear hB6
  go_wp2_with fail
  refine (text_any _ _ _ _ (by omega)).mono ?_
  rintro e w7 ⟨rfl, hB7⟩
  rw [R4.out]
  unfold Wm.tval Wm.str
  have HB7 := Lib.hid (HB6.out.trans (hB7.mono HB6.out.size))
  clear hB7
  go_wp2_with fail
  refine (list_big _ _ _ _ (by omega) (.inr (by omega))).mono ?_
  rintro e w8 ⟨v2, rfl, _, hB8⟩
  rw [R5.out]
  have HB8 := Lib.hid (HB7.out.trans (hB8.mono HB7.out.size))
  clear hB8
  go_wp2_with fail
  go_ret
  exact ⟨rfl, HB8.out⟩

end Go.Proofs.Ytogaljgekaogkaa
