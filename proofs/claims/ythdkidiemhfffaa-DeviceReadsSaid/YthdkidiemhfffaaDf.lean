/-
  Contracts of the reference of device: Read.
-/
import Derived.Test.YthdkidiemhfffaaDe
namespace Go.Proofs.Ythdkidiemhfffaa
open Go.RowKit
set_option maxHeartbeats 2000000

theorem Dv.read_form {d : Dv.D} (h : Dv.chk d = 2) (n : Int) : Dv.read d n = (ByteArray.empty, 2) := by unfold Dv.read; simp [h]
theorem Dv.read_down {d : Dv.D} (h : Dv.chk d = 0) (h1 : d.down = true) (n : Int) : Dv.read d n = (ByteArray.empty, 11) := by unfold Dv.read; simp [h, h1]
theorem Dv.read_range {d : Dv.D} (h : Dv.chk d = 0) (h1 : d.down = false) {n : Int} (h2 : n < 0 ∨ (d.blocks.length : Int) ≤ n) : Dv.read d n = (ByteArray.empty, 1) := by
  unfold Dv.read; rw [if_neg (by simp [h]), if_neg (by simp [h1]), if_pos h2]
theorem Dv.read_bad {d : Dv.D} (h : Dv.chk d = 0) (h1 : d.down = false) {n : Int} (h2 : ¬ (n < 0 ∨ (d.blocks.length : Int) ≤ n)) (h3 : n ∈ d.bad) : Dv.read d n = (ByteArray.empty, 12) := by
  unfold Dv.read; rw [if_neg (by simp [h]), if_neg (by simp [h1]), if_neg h2, if_pos h3]
theorem Dv.read_torn {d : Dv.D} (h : Dv.chk d = 0) (h1 : d.down = false) {n : Int} (h2 : ¬ (n < 0 ∨ (d.blocks.length : Int) ≤ n)) (h3 : n ∉ d.bad) (h4 : n ∈ d.torn) : Dv.read d n = (ByteArray.empty, 13) := by
  unfold Dv.read; rw [if_neg (by simp [h]), if_neg (by simp [h1]), if_neg h2, if_neg h3, if_pos h4]
theorem Dv.read_ok {d : Dv.D} (h : Dv.chk d = 0) (h1 : d.down = false) {n : Int} (h2 : ¬ (n < 0 ∨ (d.blocks.length : Int) ≤ n)) (h3 : n ∉ d.bad) (h4 : n ∉ d.torn) : Dv.read d n = (d.blocks.getD n.toNat ByteArray.empty, 0) := by
  unfold Dv.read; rw [if_neg (by simp [h]), if_neg (by simp [h1]), if_neg h2, if_neg h3, if_neg h4]

set_option maxRecDepth 100000 in
theorem rreadD_any (v : Value) (d : Dv.D) (m : Int) (w : World) (hd : DevV w v d) :
    Calls Try.prog 23 #[v, .int .i64 m] w fun e w' => e = .returned (.tuple #[.string (Dv.read d m).1, .int .i64 (Dv.read d m).2]) ∧ Below w.heap.size w w' := by
  obtain ⟨q, hq⟩ : ∃ q, Dv.read d m = q := ⟨_, rfl⟩
  rw [hq]
  obtain ⟨q1, q2⟩ := q
  simp only
  obtain ⟨A, n, c, A1, n1, c1, A2, n2, c2, rfl, hp⟩ := hd
  obtain ⟨B, hB⟩ : ∃ B, w.heap.size = B := ⟨_, rfl⟩
  obtain ⟨sz, hsz⟩ : ∃ x, d.size = x := ⟨_, rfl⟩
  obtain ⟨fu, hfu⟩ : ∃ x, d.fuse = x := ⟨_, rfl⟩
  obtain ⟨dn, hdn⟩ : ∃ x, d.down = x := ⟨_, rfl⟩
  obtain ⟨w1, hw1⟩ : ∃ V, w.alloc (.cells #[.int .i64 sz, .slice A n c, .slice A1 n1 c1, .slice A2 n2 c2, .int .i64 fu, .bool dn] 25) = V := ⟨_, rfl⟩
  have hb1 : Below B w w1 := by rw [← hw1, ← hB]; exact (Below.refl _ _).alloc (Nat.le_refl _) _
  have hs1 : w1.heap.size = B + 1 := by rw [← hw1]; simp [hB]
  have X1 := Lib.hid (show Box6 w1 B 25 (.int .i64 sz) (.slice A n c) (.slice A1 n1 c1) (.slice A2 n2 c2) (.int .i64 fu) (.bool dn) from by rw [← hw1]; exact Box6.new _ _ _ _ _ _ _ _ _ hB)
  have HP := Lib.hid (show ∀ W, Below (B + 1) w1 W → DevP W A n c A1 n1 c1 A2 n2 c2 d from fun W h => hp.below (by rw [hB]; exact hb1.trans (h.mono (by omega))))
  have HE := Lib.hid (show ∀ W V, Below (B + 1) w1 W → Below W.heap.size W V → Below (B + 1) w1 V from fun W V h h2 => h.trans (h2.mono (by have := h.size; omega)))
  have hc0 : ∀ W, Below (B + 1) w1 W → Calls Try.prog 18 #[.agg #[.int .i64 sz, .slice A n c, .slice A1 n1 c1, .slice A2 n2 c2, .int .i64 fu, .bool dn]] W fun e w' => e = .returned (.int .i64 (Dv.chk d)) ∧ Below W.heap.size W w' := fun W h => by
    have h2 := rchkD_any _ d W ⟨A, n, c, A1, n1, c1, A2, n2, c2, rfl, HP.out W h⟩
    unfold Dv.val at h2
    rw [hsz, hfu, hdn] at h2
    exact h2
  have l0 := hp.lens.1
  have hn := hp.b.2.2
  have HB1 := Lib.hid hb1
  have HW1 := Lib.hid hw1
  have HL := Lib.hid l0
  have HQ := Lib.hid hq
  have HDN := Lib.hid hdn
  clear hp hb1 hw1 l0 hq
  unfold Dv.val
  rw [hB, hsz, hfu, hdn]
  clear hsz hfu hdn
  rcases Dv.chk_is d with hk | hk
  · rw [hk] at hc0
    have HC0 := Lib.hid hc0
    have HK := Lib.hid hk
    clear hc0 hk
    go_enter Try.func23, Try.ntmps23
    go_wp2_with fail
    rw [HW1.out]
    clear hB
    refine (HC0.out _ (Below.refl _ _)).mono ?_
    rintro e w2 ⟨rfl, hq⟩
    have hb2 : Below (B + 1) w1 w2 := HE.out _ _ (Below.refl _ _) hq
    clear hq
    obtain ⟨p0, p1, p2, p3, p4, p5, _, _, _, _, _, _⟩ := (X1.out.below hb2 (by omega)).s
    have HB2 := Lib.hid hb2
    clear hb2
    cases dn with
    | true =>
      obtain ⟨rfl, rfl⟩ := Prod.mk.inj (HQ.out.symm.trans (Dv.read_down HK.out HDN.out m))
      go_wp2_with fail
      exact bodyPost_ret (v := .tuple #[.string ByteArray.empty, .int .i64 11]) (by simp [results, Try.results23, go_sem] <;> rfl) rfl ⟨rfl, HB1.out.trans (HB2.out.mono (by omega))⟩
    | false =>
    by_cases k1 : m < 0
    · have d1 : decide (m < 0) = true := by simpa using k1
      obtain ⟨rfl, rfl⟩ := Prod.mk.inj (HQ.out.symm.trans (Dv.read_range HK.out HDN.out (.inl k1)))
      go_wp2_with fail
      exact bodyPost_ret (v := .tuple #[.string ByteArray.empty, .int .i64 1]) (by simp [results, Try.results23, go_sem] <;> rfl) rfl ⟨rfl, HB1.out.trans (HB2.out.mono (by omega))⟩
    have d1 : decide (m < 0) = false := by simpa using k1
    obtain ⟨j, rfl⟩ := Int.eq_ofNat_of_zero_le (show 0 ≤ m by omega)
    by_cases k2 : n ≤ j
    · have d2 : decide ((n : Int) ≤ (j : Int)) = true := by simpa using k2
      obtain ⟨rfl, rfl⟩ := Prod.mk.inj (HQ.out.symm.trans (Dv.read_range HK.out HDN.out (.inr (by rw [HL.out]; omega))))
      go_wp2_with fail
      exact bodyPost_ret (v := .tuple #[.string ByteArray.empty, .int .i64 1]) (by simp [results, Try.results23, go_sem] <;> rfl) rfl ⟨rfl, HB1.out.trans (HB2.out.mono (by omega))⟩
    have d2 : decide ((n : Int) ≤ (j : Int)) = false := by simpa using k2
    have HR := Lib.hid (show ¬ ((j : Int) < 0 ∨ (d.blocks.length : Int) ≤ (j : Int)) from by rw [HL.out]; omega)
    obtain ⟨t1, ht1⟩ : ∃ b, decide ((j : Int) ∈ d.torn) = b := ⟨_, rfl⟩
    obtain ⟨f1, hf1⟩ : ∃ b, decide ((j : Int) ∈ d.bad) = b := ⟨_, rfl⟩
    have J1 := Lib.hid (fun W h => ht1 ▸ rhasD_any A1 n1 c1 d.torn (j : Int) W (HP.out W h).t)
    have J2 := Lib.hid (fun W h => hf1 ▸ rhasD_any A2 n2 c2 d.bad (j : Int) W (HP.out W h).f)
    have HT1 := Lib.hid ht1
    have HF1 := Lib.hid hf1
    clear ht1 hf1
    go_wp2_with fail
    refine (J2.out _ HB2.out).mono ?_
    rintro e w3 ⟨rfl, hq⟩
    have hb3 : Below (B + 1) w1 w3 := HE.out _ _ HB2.out hq
    clear hq p0 p1 p2 p3 p4 p5
    obtain ⟨p0, p1, p2, p3, p4, p5, _, _, _, _, _, _⟩ := (X1.out.below hb3 (by omega)).s
    have HB3 := Lib.hid hb3
    clear hb3
    cases f1 with
    | true =>
      obtain ⟨rfl, rfl⟩ := Prod.mk.inj (HQ.out.symm.trans (Dv.read_bad HK.out HDN.out HR.out (of_decide_eq_true HF1.out)))
      go_wp2_with fail
      exact bodyPost_ret (v := .tuple #[.string ByteArray.empty, .int .i64 12]) (by simp [results, Try.results23, go_sem] <;> rfl) rfl ⟨rfl, HB1.out.trans (HB3.out.mono (by omega))⟩
    | false =>
    go_wp2_with fail
    refine (J1.out _ HB3.out).mono ?_
    rintro e w4 ⟨rfl, hq⟩
    have hb4 : Below (B + 1) w1 w4 := HE.out _ _ HB3.out hq
    clear hq p0 p1 p2 p3 p4 p5
    obtain ⟨p0, p1, p2, p3, p4, p5, _, _, _, _, _, _⟩ := (X1.out.below hb4 (by omega)).s
    have HB4 := Lib.hid hb4
    cases t1 with
    | true =>
      obtain ⟨rfl, rfl⟩ := Prod.mk.inj (HQ.out.symm.trans (Dv.read_torn HK.out HDN.out HR.out (of_decide_eq_false HF1.out) (of_decide_eq_true HT1.out)))
      clear hb4
      go_wp2_with fail
      exact bodyPost_ret (v := .tuple #[.string ByteArray.empty, .int .i64 13]) (by simp [results, Try.results23, go_sem] <;> rfl) rfl ⟨rfl, HB1.out.trans (HB4.out.mono (by omega))⟩
    | false =>
    obtain ⟨g, o, hA, hg, hz, g1⟩ := (HP.out _ hb4).b.1.at (i := j) (by omega)
    subst hA
    have hkl : j < d.blocks.length := by rw [HL.out]; omega
    rw [List.getElem_map] at g1
    have hqq := HQ.out.symm.trans (Dv.read_ok HK.out HDN.out HR.out (of_decide_eq_false HF1.out) (of_decide_eq_false HT1.out))
    rw [Int.toNat_natCast, List.getD_eq_getElem?_getD, List.getElem?_eq_getElem hkl] at hqq
    obtain ⟨e1, rfl⟩ := Prod.mk.inj hqq
    have e1 : q1 = d.blocks[j] := e1
    rw [← e1] at g1
    have i0 : (0 : Int) ≤ (j : Int) := by omega
    have i1 : (j : Int) < (n : Int) := by omega
    have HE1 := Lib.hid e1
    clear hqq e1 hz hb4
    go_wp2_with fail
    exact bodyPost_ret (v := .tuple #[.string q1, .int .i64 0]) (by simp [results, Try.results23, go_sem] <;> exact HE1.out.symm) rfl ⟨rfl, HB1.out.trans (HB4.out.mono (by omega))⟩
  · rw [hk] at hc0
    have HC0 := Lib.hid hc0
    obtain ⟨rfl, rfl⟩ := Prod.mk.inj (HQ.out.symm.trans (Dv.read_form hk m))
    clear hc0 hk
    go_enter Try.func23, Try.ntmps23
    go_wp2_with fail
    rw [HW1.out]
    clear hB
    refine (HC0.out _ (Below.refl _ _)).mono ?_
    rintro e w2 ⟨rfl, hq⟩
    have hb2 : Below (B + 1) w1 w2 := HE.out _ _ (Below.refl _ _) hq
    have HB2 := Lib.hid hb2
    clear hb2 hq
    go_wp2_with fail
    exact bodyPost_ret (v := .tuple #[.string ByteArray.empty, .int .i64 2]) (by simp [results, Try.results23, go_sem] <;> rfl) rfl ⟨rfl, HB1.out.trans (HB2.out.mono (by omega))⟩

end Go.Proofs.Ythdkidiemhfffaa
