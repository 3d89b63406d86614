/-
  WireBack: its walk.
-/
import Derived.Test.YtogaljgekaogkaaLawA
import Derived.Test.YtogaljgekaogkaaRefC
namespace Go.Proofs.Ytogaljgekaogkaa
open Go.RowKit
set_option maxHeartbeats 1000000

theorem Wm.str_as {l : List UInt8} (S : ByteArray) (h : S.data.toList = l) : Wm.str l = .string S := by
  unfold Wm.str
  congr 1
  apply bytes_ext
  rw [h]
theorem Wm.of_list (l : List UInt8) : ∃ S : ByteArray, S.data.toList = l ∧ S.size = l.length := ⟨⟨l.toArray⟩, by simp, by show Array.size _ = _; simp⟩

set_option maxRecDepth 100000 in
theorem wireBack_walk (bf bh t : ByteArray) (n : Int) (A : Option Addr) (m c : Nat) (z : List Int) (w : World) (h1 : bf.size ≤ 140737488351232) (h2 : bh.size ≤ 140737488351232) (h3 : t.size ≤ 140737488351232)
    (hn0 : -9223372036854775808 ≤ n) (hn1 : n ≤ 9223372036854775807) (hz : IntsIn .i64 w A m c z) (hc : c * Try.prog.bytesOf 3 ≤ 140737488351232) :
    Calls Try.prog 3 #[.string bf, .string bh, .string t, .int .i64 n, .slice A m c] w fun e w' => e = .returned (.bool true) ∧ Below w.heap.size w w' := by
  have hb8 : Try.prog.bytesOf 3 = 8 := by kernel_rfl
  rw [hb8] at hc
  replace hc : c ≤ 17592186043904 := by omega
  have hmc := hz.2.1
  have hzl := hz.1
  have hbd : ∀ x ∈ z, Wm.I64 x := fun x hx => bd_i64 (hz.2.2.1 x hx)
  have lf : bf.data.toList.length = bf.size := by simp
  have lh : bh.data.toList.length = bh.size := by simp
  have lt : t.data.toList.length = t.size := by simp
  -- the texts, one after the other
  obtain ⟨S1, hS1, zS1⟩ := Wm.of_list (bf.data.toList ++ Wm.encI n)
  obtain ⟨S2, hS2, zS2⟩ := Wm.of_list (S1.data.toList ++ Wm.encT t.data.toList)
  obtain ⟨S3, hS3, zS3⟩ := Wm.of_list (S2.data.toList ++ Wm.encL z)
  obtain ⟨S, hS, zS⟩ := Wm.of_list (S3.data.toList ++ bh.data.toList)
  have eI := Wm.encI_length n
  have eT : (Wm.encT t.data.toList).length ≤ 10 + t.size := by
    have := (Wm.encI_length (t.size : Int)).2
    rw [Wm.encT, List.length_append, lt]; omega
  have eL : (Wm.encL z).length ≤ 10 + 10 * m := by
    have := (Wm.encI_length (z.length : Int)).2
    have := Wm.flatMap_length z
    rw [Wm.encL, List.length_append]; omega
  have z1 : S1.data.toList.length = S1.size := by simp
  have z2 : S2.data.toList.length = S2.size := by simp
  have z3 : S3.data.toList.length = S3.size := by simp
  simp only [List.length_append, lf, z1, z2, z3, lh] at zS1 zS2 zS3 zS
  -- what is read
  have rI : Wm.int S.data.toList bf.size = (n, (S1.size : Int), 0) := by
    rw [hS, hS3, hS2, hS1, ← lf]
    have := Wm.int_enc bf.data.toList n (Wm.encT t.data.toList ++ (Wm.encL z ++ bh.data.toList)) hn0 hn1
    simp only [List.append_assoc] at this ⊢
    rw [this, zS1, lf]; simp
  have rT : Wm.text S.data.toList S1.size t.size = (t.data.toList, (S2.size : Int), 0) := by
    rw [hS, hS3, hS2, ← z1]
    have := Wm.text_enc S1.data.toList t.data.toList (Wm.encL z ++ bh.data.toList) t.size (by rw [lt]; omega) (by rw [lt]; omega)
    simp only [List.append_assoc] at this ⊢
    rw [this, zS2, z1]; simp
  have rL : Wm.list S.data.toList S2.size m = (z, (S3.size : Int), 0) := by
    rw [hS, hS3, ← z2]
    have := Wm.list_enc S2.data.toList bh.data.toList z m (by omega) (by omega) hbd
    simp only [List.append_assoc] at this ⊢
    rw [this, zS3, z2]; simp
  have rE : S.extract S3.size S.size = bh := by
    apply bytes_ext
    have : S.data.toList = S3.data.toList ++ bh.data.toList := hS
    rw [ByteArray.data_extract, Array.toList_extract, this, List.extract_eq_take_drop, ← z3, List.drop_left, zS]
    simp only [Nat.add_sub_cancel_left, z3]
    exact List.take_of_length_le (by rw [lh]; exact Nat.le_refl _)
  have rB : S.extract 0 bf.size = bf := by
    apply bytes_ext
    rw [ByteArray.data_extract, Array.toList_extract, hS, hS3, hS2, hS1, List.extract_eq_take_drop, ← lf]
    simp only [List.drop_zero, Nat.sub_zero, List.append_assoc]
    exact List.take_left
  have k1 := Wm.str_as S1 hS1
  have k2 := Wm.str_as S2 hS2
  have k3 := Wm.str_as S3 hS3
  have kA : S3 ++ bh = S := by apply bytes_ext; rw [hS]; simp
  have sS1 : S1.size ≤ 140737488351300 := by omega
  have sS2 : S2.size ≤ 281474976702600 := by omega
  have sS3 : S3.size ≤ 457396837141800 := by omega
  have sS : S.size ≤ 598134325493100 := by omega
  have bS : bf.size ≤ S.size := by omega
  have eS : S3.size ≤ S.size := by omega
  have K1 := Lib.hid k1
  have K2 := Lib.hid k2
  have K3 := Lib.hid k3
  have KA := Lib.hid kA
  have RI := Lib.hid rI
  have RT := Lib.hid rT
  have RL := Lib.hid rL
  have RE := Lib.hid rE
  have RB := Lib.hid rB
  have HZ := Lib.hid hz
  have KT := Lib.hid (Wm.str_as t rfl)
  have HZl := Lib.hid hzl
  clear k1 k2 k3 kA rI rT rL rE rB hS1 hS2 hS3 hS zS1 zS2 zS3 zS z1 z2 z3 lf lh lt eI eT eL hbd hz hzl
  go_enter Try.func3, Try.ntmps3
  go_wp2_with fail
  refine (sane_any _).mono ?_
  rintro e w1 ⟨rfl, hB1⟩
  go_wp2_with fail
  refine (put_any bf n _ (by omega) hn0 hn1).mono ?_
  rintro e w2 ⟨rfl, hB2⟩
  rw [K1.out]
  go_wp2_with fail
  refine (putText_any S1 t _ (by omega)).mono ?_
  rintro e w3 ⟨rfl, hB3⟩
  rw [K2.out]
  have hB := (hB1.trans (hB2.mono hB1.size)).trans (hB3.mono (Nat.le_trans hB1.size hB2.size))
  have HB := Lib.hid hB
  clear hB1 hB2 hB3 hB
  go_wp2_with fail
  refine (putList_any S2 A m c z _ (by omega) (HZ.out.below HB.out) (by omega)).mono ?_
  rintro e w4 ⟨rfl, hB4⟩
  rw [K3.out]
  have HB4 := Lib.hid (HB.out.trans (hB4.mono HB.out.size))
  clear hB4
  have ha : ∀ W : World, (Op.stringOp .add S3 bh).run Try.prog W = .ok (.string S) W := fun W => by rw [← KA.out]; exact run_string_add_sum W S3 bh (by omega)
  go_wp2_with fail
  clear ha
  refine (int_any S bf.size _ (by unfold maxLen; omega)).mono ?_
  rintro e w' ⟨rfl, rfl⟩
  rw [RI.out]
  unfold Wm.val
  go_wp2_with fail
  refine (text_big S S1.size t.size _ (by omega) (.inr (by omega))).mono ?_
  rintro e w5 ⟨rfl, hB5⟩
  rw [RT.out]
  unfold Wm.tval
  simp only []
  rw [KT.out]
  have HB5 := Lib.hid (HB4.out.trans (hB5.mono HB4.out.size))
  clear hB5
  go_wp2_with fail
  refine (list_big S S2.size m _ (by omega) (.inr (by omega))).mono ?_
  rintro e w6 ⟨v, rfl, hrow, hB6⟩
  rw [RL.out] at hrow ⊢
  obtain ⟨A', c', rfl, hI'⟩ := own_ints hrow
  rw [HZl.out] at hI' ⊢
  have HB6 := Lib.hid (HB5.out.trans (hB6.mono HB5.out.size))
  have HI := Lib.hid hI'
  clear hB6 hrow hI'
  have q1 := str_same RE.out
  have q2 := str_same RB.out
  go_wp2_with fail
  refine (same_any A' A m c' c z _ HI.out (HZ.out.below HB6.out).ints (by omega)).mono ?_
  rintro e w7 ⟨rfl, hB7⟩
  have HB7 := Lib.hid (HB6.out.trans (hB7.mono HB6.out.size))
  clear hB7
  go_wp2_with fail
  go_ret
  exact ⟨rfl, HB7.out⟩

end Go.Proofs.Ytogaljgekaogkaa
