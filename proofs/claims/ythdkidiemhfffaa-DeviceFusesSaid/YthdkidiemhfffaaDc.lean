/-
  Contracts of the reference of device: ints, Check.
-/
import Derived.Test.YthdkidiemhfffaaDb
namespace Go.Proofs.Ythdkidiemhfffaa
open Go.RowKit
set_option maxHeartbeats 2000000

theorem Dv.empty_list : ByteArray.empty.toList = [] := by rw [ByteArray.toList_eq]; rfl
theorem Dv.empty_is : ByteArray.empty.toList.isEmpty = true := by rw [Dv.empty_list]; rfl
theorem Dv.empty_not {x : ByteArray} (h : x ≠ ByteArray.empty) : x.toList.isEmpty = false := by
  rw [Bool.eq_false_iff]; intro k; exact h (toList_inj (by rw [List.isEmpty_iff.1 k, Dv.empty_list]))
theorem Dv.ret_e {a b : Int} (h : a = b) : Ending.returned (.int .i64 a) = .returned (.int .i64 b) := by rw [h]
theorem Dv.no_size {d : Dv.D} (h : d.size < 16 ∨ 64 < d.size ∨ d.blocks.length < 1 ∨ 512 < d.blocks.length ∨ d.fuse < 0 ∨ 1048576 < d.fuse) : Dv.chk d = 2 := Dv.chk_two fun k => by
  have h1 := k.s0; have h2 := k.s1; have h3 := k.n0; have h4 := k.n1; have h5 := k.f0; have h6 := k.f1
  omega
theorem Dv.no_torn {d : Dv.D} {n : Nat} (hn : d.blocks.length = n) (h : Dv.numsB d.torn n = false) : Dv.chk d = 2 := Dv.chk_two fun k => by
  subst hn; exact Dv.numsB_false.1 h k.t
theorem Dv.no_bad {d : Dv.D} {n : Nat} (hn : d.blocks.length = n) (h : Dv.numsB d.bad n = false) : Dv.chk d = 2 := Dv.chk_two fun k => by
  subst hn; exact Dv.numsB_false.1 h k.b

set_option maxRecDepth 100000 in
theorem rchkD_any (v : Value) (d : Dv.D) (w : World) (hd : DevV w v d) :
    Calls Try.prog 18 #[v] w fun e w' => e = .returned (.int .i64 (Dv.chk d)) ∧ Below w.heap.size w w' := by
  obtain ⟨A, n, c, A1, n1, c1, A2, n2, c2, rfl, hp⟩ := hd
  obtain ⟨l0, l1, l2⟩ := hp.lens
  have hn := hp.b.2.2
  obtain ⟨B, hB⟩ : ∃ B, w.heap.size = B := ⟨_, rfl⟩
  obtain ⟨r, hr⟩ : ∃ r, Dv.chk d = r := ⟨_, rfl⟩
  obtain ⟨t0, ht0⟩ : ∃ t0, Dv.numsB d.torn n = t0 := ⟨_, rfl⟩
  obtain ⟨f0, hf0⟩ : ∃ f0, Dv.numsB d.bad n = f0 := ⟨_, rfl⟩
  have HT := Lib.hid (fun W (h : DevP W A n c A1 n1 c1 A2 n2 c2 d) => ht0 ▸ rnumbers_any A1 n1 c1 d.torn n W h.t)
  have HF := Lib.hid (fun W (h : DevP W A n c A1 n1 c1 A2 n2 c2 d) => hf0 ▸ rnumbers_any A2 n2 c2 d.bad n W h.f)
  have HHT := Lib.hid (fun W (h : DevP W A n c A1 n1 c1 A2 n2 c2 d) m => rhasD_any A1 n1 c1 d.torn m W h.t)
  have HHF := Lib.hid (fun W (h : DevP W A n c A1 n1 c1 A2 n2 c2 d) m => rhasD_any A2 n2 c2 d.bad m W h.f)
  have HS := Lib.hid (fun h => hr.symm.trans (Dv.no_size (d := d) h))
  rw [l0] at HS
  have HTF := Lib.hid (fun h => hr.symm.trans (Dv.no_torn (d := d) l0 (ht0.trans h)))
  have HFF := Lib.hid (fun h => hr.symm.trans (Dv.no_bad (d := d) l0 (hf0.trans h)))
  have HOK := Lib.hid (show t0 = true → f0 = true → 16 ≤ d.size → d.size ≤ 64 → 1 ≤ n → n ≤ 512 → 0 ≤ d.fuse → d.fuse ≤ 1048576 → (∀ i (h : i < d.blocks.length), (d.blocks[i].size : Int) ≤ d.size) → (∀ i (h : i < d.blocks.length), (i : Int) ∈ d.torn ∨ (i : Int) ∈ d.bad → d.blocks[i] = ByteArray.empty) → r = 0 from by
    intro h1 h2 a1 a2 a3 a4 a5 a6 a7 a8
    rw [← hr]
    refine Dv.chk_ok ⟨a1, a2, by rw [l0]; exact a3, by rw [l0]; exact a4, ?_, ?_, a5, a6, a7, a8⟩
    · rw [l0]; exact Dv.numsB_true.1 (ht0.trans h1)
    · rw [l0]; exact Dv.numsB_true.1 (hf0.trans h2))
  have HNO := Lib.hid (show ∀ i (h : i < d.blocks.length), d.size < (d.blocks[i].size : Int) ∨ (d.blocks[i] ≠ ByteArray.empty ∧ ((i : Int) ∈ d.torn ∨ (i : Int) ∈ d.bad)) → r = 2 from fun i hi h => by
    rw [← hr]
    refine Dv.chk_two fun k => ?_
    rcases h with h | ⟨h, h'⟩
    · have := k.le i hi; omega
    · exact h (k.em i hi h'))
  have HL0 := Lib.hid l0
  obtain ⟨sz, hsz⟩ : ∃ x, d.size = x := ⟨_, rfl⟩
  obtain ⟨fu, hfu⟩ : ∃ x, d.fuse = x := ⟨_, rfl⟩
  obtain ⟨dn, hdn⟩ : ∃ x, d.down = x := ⟨_, rfl⟩
  rw [hr]
  unfold Dv.val
  rw [hsz, hfu, hdn]
  rw [hsz, hfu] at HOK HS
  rw [hsz] at HNO
  have HP := Lib.hid hp
  have HB := Lib.hid hB
  obtain ⟨w1, hw1⟩ : ∃ V, w.alloc (.cells #[.int .i64 sz, .slice A n c, .slice A1 n1 c1, .slice A2 n2 c2, .int .i64 fu, .bool dn] 25) = V := ⟨_, rfl⟩
  have hb1 : Below B w w1 := by rw [← hw1, ← hB]; exact (Below.refl _ _).alloc (Nat.le_refl _) _
  have hs1 : w1.heap.size = B + 1 := by rw [← hw1]; simp [hB]
  have HX1 := Lib.hid (show Box6 w1 B 25 (.int .i64 sz) (.slice A n c) (.slice A1 n1 c1) (.slice A2 n2 c2) (.int .i64 fu) (.bool dn) from by rw [← hw1]; exact Box6.new _ _ _ _ _ _ _ _ _ hB)
  have HDW := Lib.hid (show ∀ W, Below (B + 1) w1 W → DevP W A n c A1 n1 c1 A2 n2 c2 d from fun W h => hp.below (by rw [hB]; exact hb1.trans (h.mono (by omega))))
  have HB1 := Lib.hid hb1
  have HW1 := Lib.hid hw1
  obtain ⟨p0, p1, p2, p3, p4, p5, _, _, _, _, _, _⟩ := HX1.out.s
  clear hp hr ht0 hf0 l0 l1 l2 hb1 hw1 hsz hfu hdn
  rw [hB]
  by_cases k1 : sz < 16
  · have d1 : decide (sz < 16) = true := by simpa using k1
    obtain rfl := HS.out (.inl k1)
    go_enter Try.func18, Try.ntmps18
    go_wp2_with fail
    go_ret
    exact ⟨rfl, by rw [HW1.out]; exact HB1.out⟩
  have d1 : decide (sz < 16) = false := by simpa using k1
  by_cases k2 : 64 < sz
  · have d2 : decide (64 < sz) = true := by simpa using k2
    obtain rfl := HS.out (.inr (.inl k2))
    go_enter Try.func18, Try.ntmps18
    go_wp2_with fail
    go_ret
    exact ⟨rfl, by rw [HW1.out]; exact HB1.out⟩
  have d2 : decide (64 < sz) = false := by simpa using k2
  by_cases k3 : (n : Int) < 1
  · have d3 : decide ((n : Int) < 1) = true := by simpa using k3
    obtain rfl := HS.out (.inr (.inr (.inl (by omega))))
    go_enter Try.func18, Try.ntmps18
    go_wp2_with fail
    go_ret
    exact ⟨rfl, by rw [HW1.out]; exact HB1.out⟩
  have d3 : decide ((n : Int) < 1) = false := by simpa using k3
  by_cases k4 : (512 : Int) < (n : Int)
  · have d4 : decide ((512 : Int) < (n : Int)) = true := by simpa using k4
    obtain rfl := HS.out (.inr (.inr (.inr (.inl (by omega)))))
    go_enter Try.func18, Try.ntmps18
    go_wp2_with fail
    go_ret
    exact ⟨rfl, by rw [HW1.out]; exact HB1.out⟩
  have d4 : decide ((512 : Int) < (n : Int)) = false := by simpa using k4
  have HE := Lib.hid (show ∀ W V, Below (B + 1) w1 W → Below W.heap.size W V → Below (B + 1) w1 V from fun W V h h2 => h.trans (h2.mono (by have := h.size; omega)))
  go_enter Try.func18, Try.ntmps18
  go_wp2_with fail
  rw [HW1.out]
  clear hB
  refine (HT.out _ (HDW.out _ (Below.refl _ _))).mono ?_
  rintro e w2 ⟨rfl, hq⟩
  have hb2 : Below (B + 1) w1 w2 := HE.out _ _ (Below.refl _ _) hq
  clear hq p0 p1 p2 p3 p4 p5
  obtain ⟨p0, p1, p2, p3, p4, p5, _, _, _, _, _, _⟩ := (HX1.out.below hb2 (by omega)).s
  have HB2 := Lib.hid hb2
  clear hb2
  cases t0 with
  | false =>
    obtain rfl := HTF.out rfl
    go_wp2_with fail
    go_ret
    exact ⟨rfl, HB1.out.trans (HB2.out.mono (by omega))⟩
  | true =>
  go_wp2_with fail
  refine (HF.out _ (HDW.out _ HB2.out)).mono ?_
  rintro e w3 ⟨rfl, hq⟩
  have hb3 : Below (B + 1) w1 w3 := HE.out _ _ HB2.out hq
  clear hq p0 p1 p2 p3 p4 p5
  obtain ⟨p0, p1, p2, p3, p4, p5, _, _, _, _, _, _⟩ := (HX1.out.below hb3 (by omega)).s
  have HB3 := Lib.hid hb3
  clear hb3
  cases f0 with
  | false =>
    obtain rfl := HFF.out rfl
    go_wp2_with fail
    go_ret
    exact ⟨rfl, HB1.out.trans (HB3.out.mono (by omega))⟩
  | true =>
  by_cases k5 : fu < 0
  · have d5 : decide (fu < 0) = true := by simpa using k5
    obtain rfl := HS.out (.inr (.inr (.inr (.inr (.inl k5)))))
    go_wp2_with fail
    go_ret
    exact ⟨rfl, HB1.out.trans (HB3.out.mono (by omega))⟩
  have d5 : decide (fu < 0) = false := by simpa using k5
  by_cases k6 : 1048576 < fu
  · have d6 : decide (1048576 < fu) = true := by simpa using k6
    obtain rfl := HS.out (.inr (.inr (.inr (.inr (.inr k6)))))
    go_wp2_with fail
    go_ret
    exact ⟨rfl, HB1.out.trans (HB3.out.mono (by omega))⟩
  have d6 : decide (1048576 < fu) = false := by simpa using k6
  go_wp2_with fail
  clear p0 p1 p2 p3 p4 p5
  go_loopw [52] (fun i wr => ∃ k : Nat, k ≤ n ∧ i = .int .i64 k ∧ Below (B + 1) w1 wr ∧ (∀ j (hj : j < d.blocks.length), j < k → (d.blocks[j].size : Int) ≤ sz) ∧ (∀ j (hj : j < d.blocks.length), j < k → (j : Int) ∈ d.torn ∨ (j : Int) ∈ d.bad → d.blocks[j] = ByteArray.empty)) (fun i _ => n - (intOf i).toNat)
  case atStart => exact ⟨0, by omega, rfl, HB3.out, fun j _ h => absurd h (by omega), fun j _ h => absurd h (by omega)⟩
  case round =>
    obtain ⟨k, hk, rfl, hBr, hle, hem⟩ := hrel
    have HBR := Lib.hid hBr
    have HLE := Lib.hid hle
    have HEM := Lib.hid hem
    obtain ⟨p0, p1, p2, p3, p4, p5, _, _, _, _, _, _⟩ := (HX1.out.below hBr (by omega)).s
    clear hle hem
    by_cases hlt : k < n
    · have HPr := (HDW.out _ hBr).b.1
      obtain ⟨g, o, rfl, hg, hz, g1⟩ := HPr.at hlt
      have hkl : k < d.blocks.length := by rw [HL0.out]; exact hlt
      rw [List.getElem_map] at g1
      obtain ⟨x, hx⟩ : ∃ x, d.blocks[k] = x := ⟨_, rfl⟩
      rw [hx] at g1
      have i0 : (0 : Int) ≤ (k : Int) := by omega
      have i1 : (k : Int) < (n : Int) := by omega
      have HX := Lib.hid (show ∃ h : k < d.blocks.length, d.blocks[k] = x from ⟨hkl, hx⟩)
      have hxs := (HDW.out _ hBr).s x (by rw [← hx]; exact List.getElem_mem hkl)
      clear hx hz hkl HPr hBr
      by_cases c1 : sz < (x.size : Int)
      · have e1 : decide (sz < (x.size : Int)) = true := by simpa using c1
        obtain rfl := HNO.out k HX.out.1 (by rw [HX.out.2]; exact .inl c1)
        go_wp2_with fail
        go_ret
        exact ⟨rfl, HB1.out.trans (HBR.out.mono (by omega))⟩
      have e1 : decide (sz < (x.size : Int)) = false := by simpa using c1
      have HLE2 := Lib.hid (show ∀ j (hj : j < d.blocks.length), j < k + 1 → (d.blocks[j].size : Int) ≤ sz from fun j hj h => by
        by_cases e : j = k
        · subst e; rw [HX.out.2]; omega
        · exact HLE.out j hj (by omega))
      by_cases c2 : x = ByteArray.empty
      · have e2 : x.toList.isEmpty = true := by subst c2; exact Dv.empty_is
        have HEM2 := Lib.hid (show ∀ j (hj : j < d.blocks.length), j < k + 1 → (j : Int) ∈ d.torn ∨ (j : Int) ∈ d.bad → d.blocks[j] = ByteArray.empty from fun j hj h => by
          by_cases e : j = k
          · subst e; intro _; rw [HX.out.2]; exact c2
          · exact HEM.out j hj (by omega))
        clear c2
        go_wp2_with fail
        go_roundw
        case rel => exact ⟨k + 1, by omega, by go_num, HBR.out, HLE2.out, HEM2.out⟩
        case measure => simp [intOf]; omega
      · have e2 : x.toList.isEmpty = false := Dv.empty_not c2
        have HC2 := Lib.hid c2
        clear c2
        obtain ⟨t1, ht1⟩ : ∃ b, decide ((k : Int) ∈ d.torn) = b := ⟨_, rfl⟩
        obtain ⟨f1, hf1⟩ : ∃ b, decide ((k : Int) ∈ d.bad) = b := ⟨_, rfl⟩
        have J1 := Lib.hid (fun W h => ht1 ▸ HHT.out W h (k : Int))
        have J2 := Lib.hid (fun W h => hf1 ▸ HHF.out W h (k : Int))
        have HT1 := Lib.hid ht1
        have HF1 := Lib.hid hf1
        clear ht1 hf1
        go_wp2_with fail
        refine (J1.out _ (HDW.out _ HBR.out)).mono ?_
        rintro e w4 ⟨rfl, hq⟩
        have hb4 : Below (B + 1) w1 w4 := HE.out _ _ HBR.out hq
        clear hq p0 p1 p2 p3 p4 p5 g1
        obtain ⟨p0, p1, p2, p3, p4, p5, _, _, _, _, _, _⟩ := (HX1.out.below hb4 (by omega)).s
        have HB4 := Lib.hid hb4
        clear hb4
        cases t1 with
        | true =>
          obtain rfl := HNO.out k HX.out.1 (by rw [HX.out.2]; exact .inr ⟨HC2.out, .inl (of_decide_eq_true HT1.out)⟩)
          go_wp2_with fail
          go_ret
          exact ⟨rfl, HB1.out.trans (HB4.out.mono (by omega))⟩
        | false =>
        go_wp2_with fail
        refine (J2.out _ (HDW.out _ HB4.out)).mono ?_
        rintro e w5 ⟨rfl, hq⟩
        have hb5 : Below (B + 1) w1 w5 := HE.out _ _ HB4.out hq
        have HB5 := Lib.hid hb5
        clear hq hb5
        cases f1 with
        | true =>
          obtain rfl := HNO.out k HX.out.1 (by rw [HX.out.2]; exact .inr ⟨HC2.out, .inr (of_decide_eq_true HF1.out)⟩)
          go_wp2_with fail
          go_ret
          exact ⟨rfl, HB1.out.trans (HB5.out.mono (by omega))⟩
        | false =>
          have HEM2 := Lib.hid (show ∀ j (hj : j < d.blocks.length), j < k + 1 → (j : Int) ∈ d.torn ∨ (j : Int) ∈ d.bad → d.blocks[j] = ByteArray.empty from fun j hj h => by
            by_cases e : j = k
            · subst e
              rintro (h | h)
              · exact absurd h (of_decide_eq_false HT1.out)
              · exact absurd h (of_decide_eq_false HF1.out)
            · exact HEM.out j hj (by omega))
          go_wp2_with fail
          go_roundw
          case rel => exact ⟨k + 1, by omega, by go_num, HB5.out, HLE2.out, HEM2.out⟩
          case measure => simp [intOf]; omega
    · obtain rfl : k = n := by omega
      obtain rfl := HOK.out (by simp) (by simp) (by omega) (by omega) (by omega) (by omega) (by omega) (by omega) (fun i hi => HLE.out i hi (by rw [← HL0.out]; exact hi)) (fun i hi => HEM.out i hi (by rw [← HL0.out]; exact hi))
      go_wp2_with fail
      go_ret
      exact ⟨rfl, HB1.out.trans (HBR.out.mono (by omega))⟩

end Go.Proofs.Ythdkidiemhfffaa
