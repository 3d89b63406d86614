/-
  The sanity check of layer 3; SealOpens: its walk.
-/
import Derived.Test.YtapmdneepinbgaaSealC
namespace Go.Proofs.Ytapmdneepinbgaa
open Go.RowKit
set_option maxHeartbeats 1000000

theorem Sm.s1 : Sm.priv 1 = (3, 0) := by decide
theorem Sm.s2 : Sm.lock 3 = (10, 0) := by decide
theorem Sm.s3 : Sm.sl ⟨#[120]⟩ 3 = ((10, ⟨#[120]⟩), 0) := Sm.seal_ok (by decide) (by decide) (by decide)
theorem Sm.s4 : Sm.opn 10 ⟨#[120]⟩ 3 = (⟨#[120]⟩, 0) := Sm.opn_ok (k := 3) (q := 3) (by decide) (by decide) (by decide) (by decide) (by decide)
theorem Sm.s5 : Sm.opn 10 ⟨#[120]⟩ 5 = (⟨#[]⟩, 9) := Sm.opn_ok (k := 3) (q := 5) (by decide) (by decide) (by decide) (by decide) (by decide)

theorem ssane_any (w : World) : Calls Try.prog 8 #[] w fun e w' => e = .returned (.bool true) ∧ Below w.heap.size w w' := by
  go_enter Try.func8, Try.ntmps8
  go_wp2_with fail
  refine (private_any 1 _ (by decide) (by decide)).mono ?_
  rintro e w' ⟨rfl, rfl⟩
  rw [Sm.s1]
  go_wp2_with fail
  refine (lock_any 3 _ (by decide) (by decide)).mono ?_
  rintro e w' ⟨rfl, rfl⟩
  rw [Sm.s2]
  go_wp2_with fail
  refine (seal_any ⟨#[120]⟩ 3 _ (by decide) (by decide) (by decide)).mono ?_
  rintro e w1 ⟨rfl, hB1⟩
  rw [Sm.s3]
  unfold Sm.sval
  go_wp2_with fail
  refine (open_any 10 ⟨#[120]⟩ 3 _ (by decide) (by decide) (by decide) (by decide) (by decide)).mono ?_
  rintro e w2 ⟨rfl, hB2⟩
  rw [Sm.s4]
  unfold Sm.tval
  have hc := (bcell hB2).1
  have c0 := hc w1.heap.size 0 (by simp)
  have c1 := hc w1.heap.size 1 (by simp)
  rw [cell_new_at _ _ _ _ rfl] at c0 c1
  simp only [List.getElem?_toArray, List.getElem?_cons_zero, List.getElem?_cons_succ] at c0 c1
  clear hc
  go_wp2_with fail
  refine (open_any 10 ⟨#[120]⟩ 5 _ (by decide) (by decide) (by decide) (by decide) (by decide)).mono ?_
  rintro e w3 ⟨rfl, hB3⟩
  rw [Sm.s5]
  unfold Sm.tval
  go_wp2_with fail
  go_ret
  exact ⟨rfl, (hB1.alloc hB1.size _).trans ((hB2.trans (hB3.mono hB2.size)).mono (Nat.le_trans hB1.size (by simp)))⟩

set_option maxRecDepth 100000 in
theorem sealOpens_walk (T U : ByteArray) (key wrong pr : Int) (w : World) (hT : T.size ≤ 140737488351232) (hU : U.size ≤ 140737488351232) (hk0 : -9223372036854775808 ≤ key) (hk1 : key ≤ 9223372036854775807)
    (hw0 : -9223372036854775808 ≤ wrong) (hw1 : wrong ≤ 9223372036854775807) (hp0 : -9223372036854775808 ≤ pr) (hp1 : pr ≤ 9223372036854775807) :
    Calls Try.prog 5 #[.string T, .string U, .int .i64 key, .int .i64 wrong, .int .i64 pr] w fun e w' => e = .returned (.bool true) ∧ Below w.heap.size w w' := by
  by_cases hbig : 16384 < T.size
  · go_enter Try.func5, Try.ntmps5
    go_wp2_with fail
    refine (ssane_any _).mono ?_
    rintro e w1 ⟨rfl, hB1⟩
    go_wp2
    go_ret
    exact ⟨rfl, hB1⟩
  have hT : T.size ≤ 16384 := by omega
  obtain ⟨k, hk⟩ : ∃ k, key % 4294967294 = k := ⟨_, rfl⟩
  obtain ⟨v, hv⟩ : ∃ k, wrong % 4294967294 = k := ⟨_, rfl⟩
  obtain ⟨x, hx⟩ : ∃ k, pr % 2147483647 = k := ⟨_, rfl⟩
  have k0 : 0 ≤ k := by omega
  have k1 : k < 4294967294 := by omega
  have v0 : 0 ≤ v := by omega
  have v1 : v < 4294967294 := by omega
  have x0 : 0 ≤ x := by omega
  have x1 : x < 2147483647 := by omega
  obtain ⟨m, hm⟩ : ∃ m, 3 * k + 1 = m := ⟨_, rfl⟩
  obtain ⟨n, hn⟩ : ∃ n, 3 * v + 1 = n := ⟨_, rfl⟩
  obtain ⟨p, hp⟩ : ∃ p, 2 * x + 1 = p := ⟨_, rfl⟩
  obtain ⟨d, hd⟩ : ∃ d, Dm.sum U.data.toList = d := ⟨_, rfl⟩
  obtain ⟨c, hc⟩ : ∃ c, 2 * d = c := ⟨_, rfl⟩
  have hdl := Dm.sum_lt U.data.toList
  rw [hd] at hdl
  obtain ⟨d0, d1⟩ := hdl
  have M1 := Lib.hid (fun W => hk ▸ mkMod_any key 4294967294 W hk0 hk1 (by decide) (by decide))
  have M2 := Lib.hid (fun W => hv ▸ mkMod_any wrong 4294967294 W hw0 hw1 (by decide) (by decide))
  have M3 := Lib.hid (fun W => hx ▸ mkMod_any pr 2147483647 W hp0 hp1 (by decide) (by decide))
  have eS : Sm.sl T k = ((m, T), 0) := by rw [Sm.seal_ok k0 k1 hT, hm]
  have S1 := Lib.hid (fun W => eS ▸ seal_any T k W (by omega) (by omega) (by omega))
  have eO : Sm.opn m T k = (T, 0) := by rw [← hm, Sm.opn_ok k0 k1 hT k0 k1, if_pos rfl]
  have O1 := Lib.hid (fun W => eO ▸ open_any m T k W (by omega) (by omega) (by omega) (by omega) (by omega))
  have eL : Sm.lock k = (m, 0) := by unfold Sm.lock; rw [if_pos (Sm.keyB_true k0 k1), hm]
  have L1 := Lib.hid (fun W => eL ▸ lock_any k W (by omega) (by omega))
  have eM : Sm.lock v = (n, 0) := by unfold Sm.lock; rw [if_pos (Sm.keyB_true v0 v1), hn]
  have L2 := Lib.hid (fun W => eM ▸ lock_any v W (by omega) (by omega))
  have eP : Sm.priv x = (p, 0) := by unfold Sm.priv; rw [if_pos ⟨x0, x1⟩, hp]
  have P1 := Lib.hid (fun W => eP ▸ private_any x W (by omega) (by omega))
  have C1 := Lib.hid (fun W => (show 2 * Dm.sum U.data.toList = c by rw [hd, hc]) ▸ convergent_any U W (by unfold maxLen; omega))
  have D1 := Lib.hid (fun W => hd ▸ sum_any U W (by unfold maxLen; omega))
  have q1 : (p == c) = false := beq_eq_false_iff_ne.2 (by omega)
  have q1' : (p != c) = true := by rw [bne, q1]; rfl
  have q2 : (c == 2 * d) = true := beq_iff_eq.2 hc.symm
  obtain ⟨o, ho⟩ : ∃ o, Sm.opn m T v = o := ⟨_, rfl⟩
  have O2 := Lib.hid (fun W => ho ▸ open_any m T v W (by omega) (by omega) (by omega) (by omega) (by omega))
  rw [← hm, Sm.opn_ok k0 k1 hT v0 v1] at ho
  by_cases hkv : k = v
  · rw [if_pos hkv] at ho
    subst hkv
    have q3 : (m == n) = true := beq_iff_eq.2 (by omega)
    subst ho
    clear hk hv hx hm hn hp hd hc eS eO eL eM eP
    go_enter Try.func5, Try.ntmps5
    go_wp2_with fail
    refine (ssane_any _).mono ?_
    rintro e w1 ⟨rfl, hB1⟩
    go_wp2_with fail
    refine (M1.out _).mono ?_
    rintro e w' ⟨rfl, rfl⟩
    go_wp2_with fail
    refine (M2.out _).mono ?_
    rintro e w' ⟨rfl, rfl⟩
    go_wp2_with fail
    refine (S1.out _).mono ?_
    rintro e w2 ⟨rfl, hB2⟩
    unfold Sm.sval
    go_wp2_with fail
    refine (O1.out _).mono ?_
    rintro e w3 ⟨rfl, hB3⟩
    unfold Sm.tval
    have hc := (bcell hB3).1
    have c0 := hc w2.heap.size 0 (by simp)
    have c1 := hc w2.heap.size 1 (by simp)
    rw [cell_new_at _ _ _ _ rfl] at c0 c1
    simp only [List.getElem?_toArray, List.getElem?_cons_zero, List.getElem?_cons_succ] at c0 c1
    clear hc
    go_wp2_with fail
    refine (O2.out _).mono ?_
    rintro e w4 ⟨rfl, hB4⟩
    unfold Sm.tval
    clear c0 c1
    go_wp2_with fail
    refine (L1.out _).mono ?_
    rintro e w' ⟨rfl, rfl⟩
    go_wp2_with fail
    refine (L2.out _).mono ?_
    rintro e w' ⟨rfl, rfl⟩
    go_wp2_with fail
    refine (M3.out _).mono ?_
    rintro e w' ⟨rfl, rfl⟩
    go_wp2_with fail
    refine (P1.out _).mono ?_
    rintro e w' ⟨rfl, rfl⟩
    go_wp2_with fail
    refine (C1.out _).mono ?_
    rintro e w' ⟨rfl, rfl⟩
    go_wp2_with fail
    refine (C1.out _).mono ?_
    rintro e w' ⟨rfl, rfl⟩
    go_wp2_with fail
    refine (D1.out _).mono ?_
    rintro e w' ⟨rfl, rfl⟩
    go_wp2
    go_ret
    exact ⟨rfl, ((hB1.trans (hB2.mono hB1.size)).alloc (Nat.le_trans hB1.size hB2.size) _).trans ((hB3.trans (hB4.mono hB3.size)).mono (Nat.le_trans hB1.size (Nat.le_trans hB2.size (by simp))))⟩
  · rw [if_neg hkv] at ho
    have q3 : (m == n) = false := beq_eq_false_iff_ne.2 (by omega)
    have q4 : (k == v) = false := beq_eq_false_iff_ne.2 hkv
    subst ho
    clear hkv hk hv hx hm hn hp hd hc eS eO eL eM eP
    go_enter Try.func5, Try.ntmps5
    go_wp2_with fail
    refine (ssane_any _).mono ?_
    rintro e w1 ⟨rfl, hB1⟩
    go_wp2_with fail
    refine (M1.out _).mono ?_
    rintro e w' ⟨rfl, rfl⟩
    go_wp2_with fail
    refine (M2.out _).mono ?_
    rintro e w' ⟨rfl, rfl⟩
    go_wp2_with fail
    refine (S1.out _).mono ?_
    rintro e w2 ⟨rfl, hB2⟩
    unfold Sm.sval
    go_wp2_with fail
    refine (O1.out _).mono ?_
    rintro e w3 ⟨rfl, hB3⟩
    unfold Sm.tval
    have hc := (bcell hB3).1
    have c0 := hc w2.heap.size 0 (by simp)
    have c1 := hc w2.heap.size 1 (by simp)
    rw [cell_new_at _ _ _ _ rfl] at c0 c1
    simp only [List.getElem?_toArray, List.getElem?_cons_zero, List.getElem?_cons_succ] at c0 c1
    clear hc
    go_wp2_with fail
    refine (O2.out _).mono ?_
    rintro e w4 ⟨rfl, hB4⟩
    unfold Sm.tval Sm.nil
    clear c0 c1
    go_wp2_with fail
    refine (L1.out _).mono ?_
    rintro e w' ⟨rfl, rfl⟩
    go_wp2_with fail
    refine (L2.out _).mono ?_
    rintro e w' ⟨rfl, rfl⟩
    go_wp2_with fail
    refine (M3.out _).mono ?_
    rintro e w' ⟨rfl, rfl⟩
    go_wp2_with fail
    refine (P1.out _).mono ?_
    rintro e w' ⟨rfl, rfl⟩
    go_wp2_with fail
    refine (C1.out _).mono ?_
    rintro e w' ⟨rfl, rfl⟩
    go_wp2_with fail
    refine (C1.out _).mono ?_
    rintro e w' ⟨rfl, rfl⟩
    go_wp2_with fail
    refine (D1.out _).mono ?_
    rintro e w' ⟨rfl, rfl⟩
    go_wp2
    go_ret
    exact ⟨rfl, ((hB1.trans (hB2.mono hB1.size)).alloc (Nat.le_trans hB1.size hB2.size) _).trans ((hB3.trans (hB4.mono hB3.size)).mono (Nat.le_trans hB1.size (Nat.le_trans hB2.size (by simp))))⟩

end Go.Proofs.Ytapmdneepinbgaa
