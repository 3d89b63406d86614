/-
  Contracts of device: Check, reach, Same.
-/
import Derived.Test.YthdkidiemhfffaaEb
namespace Go.Proofs.Ythdkidiemhfffaa
open Go.RowKit
set_option maxHeartbeats 4000000

theorem Dv.fitB_true {l : List ByteArray} {s : Int} : Dv.fitB l s = true ↔ ∀ i (h : i < l.length), (l[i].size : Int) ≤ s := by
  unfold Dv.fitB
  rw [List.all_eq_true]
  constructor
  · intro h i hi
    simpa using h _ (List.getElem_mem hi)
  · intro h x hx
    obtain ⟨i, hi, rfl⟩ := List.mem_iff_getElem.1 hx
    simpa using h i hi
theorem Dv.chk_parts {d : Dv.D} (a : Dv.permB d.size d.blocks.length = true) (b : Dv.fitB d.blocks d.size = true) (c : Dv.empB d.torn d.blocks = true) (e : Dv.empB d.bad d.blocks = true) (f : Dv.fuseB d.fuse = true) : Dv.chk d = 0 := by
  simp only [Dv.permB, decide_eq_true_eq] at a
  simp only [Dv.fuseB, decide_eq_true_eq] at f
  have c := Dv.empB_true.1 c
  have e := Dv.empB_true.1 e
  refine Dv.chk_ok ⟨by omega, by omega, by omega, by omega, c.1, e.1, by omega, by omega, Dv.fitB_true.1 b, fun i hi h => ?_⟩
  rcases h with h | h
  · exact c.2 i hi h
  · exact e.2 i hi h
theorem Dv.chk_perm {d : Dv.D} (h : Dv.permB d.size d.blocks.length = false) : Dv.chk d = 2 := Dv.chk_two fun k => by
  have h0 := k.s0; have h1 := k.s1; have h2 := k.n0; have h3 := k.n1
  simp only [Dv.permB, decide_eq_false_iff_not] at h; omega
theorem Dv.chk_fit {d : Dv.D} (h : Dv.fitB d.blocks d.size = false) : Dv.chk d = 2 := Dv.chk_two fun k => by
  have := Dv.fitB_true.2 k.le; rw [h] at this; cases this
theorem Dv.chk_et {d : Dv.D} (h : Dv.empB d.torn d.blocks = false) : Dv.chk d = 2 := Dv.chk_two fun k =>
  Dv.empB_false.1 h ⟨k.t, fun i hi hm => k.em i hi (.inl hm)⟩
theorem Dv.chk_eb {d : Dv.D} (h : Dv.empB d.bad d.blocks = false) : Dv.chk d = 2 := Dv.chk_two fun k =>
  Dv.empB_false.1 h ⟨k.b, fun i hi hm => k.em i hi (.inr hm)⟩
theorem Dv.chk_fu {d : Dv.D} (h : Dv.fuseB d.fuse = false) : Dv.chk d = 2 := Dv.chk_two fun k => by
  have h0 := k.f0; have h1 := k.f1
  simp only [Dv.fuseB, decide_eq_false_iff_not] at h; omega

set_option maxRecDepth 100000 in
theorem chkD_any (v : Value) (d : Dv.D) (w : World) (hd : DevV w v d) :
    Calls Try.prog 17 #[v] w fun e w' => e = .returned (.int .i64 (Dv.chk d)) ∧ Below w.heap.size w w' := by
  obtain ⟨A, n, c, A1, n1, c1, A2, n2, c2, rfl, hp⟩ := hd
  obtain ⟨l0, l1, l2⟩ := hp.lens
  have hn := hp.b.2.2
  obtain ⟨r, hr⟩ : ∃ r, Dv.chk d = r := ⟨_, rfl⟩
  obtain ⟨x1, hx1⟩ : ∃ b, Dv.permB d.size d.blocks.length = b := ⟨_, rfl⟩
  obtain ⟨x2, hx2⟩ : ∃ b, Dv.fitB d.blocks d.size = b := ⟨_, rfl⟩
  obtain ⟨x3, hx3⟩ : ∃ b, Dv.empB d.torn d.blocks = b := ⟨_, rfl⟩
  obtain ⟨x4, hx4⟩ : ∃ b, Dv.empB d.bad d.blocks = b := ⟨_, rfl⟩
  obtain ⟨x5, hx5⟩ : ∃ b, Dv.fuseB d.fuse = b := ⟨_, rfl⟩
  have HALL := Lib.hid (show x1 = true → x2 = true → x3 = true → x4 = true → x5 = true → r = 0 from fun a b c e f => by
    rw [← hr]; exact Dv.chk_parts (hx1.trans a) (hx2.trans b) (hx3.trans c) (hx4.trans e) (hx5.trans f))
  have H1 := Lib.hid (show x1 = false → r = 2 from fun h => by rw [← hr]; exact Dv.chk_perm (hx1.trans h))
  have H2 := Lib.hid (show x2 = false → r = 2 from fun h => by rw [← hr]; exact Dv.chk_fit (hx2.trans h))
  have H3 := Lib.hid (show x3 = false → r = 2 from fun h => by rw [← hr]; exact Dv.chk_et (hx3.trans h))
  have H4 := Lib.hid (show x4 = false → r = 2 from fun h => by rw [← hr]; exact Dv.chk_eb (hx4.trans h))
  have H5 := Lib.hid (show x5 = false → r = 2 from fun h => by rw [← hr]; exact Dv.chk_fu (hx5.trans h))
  rw [l0] at hx1
  rw [hr]
  unfold Dv.val
  obtain ⟨sz, hsz⟩ : ∃ x, d.size = x := ⟨_, rfl⟩
  obtain ⟨fu, hfu⟩ : ∃ x, d.fuse = x := ⟨_, rfl⟩
  obtain ⟨dn, hdn⟩ : ∃ x, d.down = x := ⟨_, rfl⟩
  rw [hsz] at hx1 hx2
  rw [hfu] at hx5
  rw [hsz, hfu, hdn]
  obtain ⟨w1, hw1⟩ : ∃ V, w.alloc (.cells #[.int .i64 sz, .slice A n c, .slice A1 n1 c1, .slice A2 n2 c2, .int .i64 fu, .bool dn] 25) = V := ⟨_, rfl⟩
  have hb1 : Below w.heap.size w w1 := by rw [← hw1]; exact (Below.refl _ _).alloc (Nat.le_refl _) _
  obtain ⟨B, hB⟩ : ∃ B, w.heap.size = B := ⟨_, rfl⟩
  have X1 := Lib.hid (show Box6 w1 B 25 (.int .i64 sz) (.slice A n c) (.slice A1 n1 c1) (.slice A2 n2 c2) (.int .i64 fu) (.bool dn) from by rw [← hw1]; exact Box6.new _ _ _ _ _ _ _ _ _ hB)
  have hp1 := hp.below hb1
  have C1 := Lib.hid (show Calls Try.prog 36 #[.int .i64 sz, .int .i64 (n : Nat)] w1 fun e w' => e = .returned (.bool x1) ∧ w1 = w' from hx1 ▸ permD_any sz (n : Nat) w1)
  have C2 := Lib.hid (show Calls Try.prog 37 #[.slice A n c, .int .i64 sz] w1 fun e w' => e = .returned (.bool x2) ∧ w1 = w' from hx2 ▸ fitD_any A n c d.blocks sz w1 hp1.b hp1.s)
  have C3 := Lib.hid (show Calls Try.prog 38 #[.slice A1 n1 c1, .slice A n c] w1 fun e w' => e = .returned (.bool x3) ∧ w1 = w' from hx3 ▸ empD_any A1 A n1 n c1 c d.torn d.blocks w1 hp1.t hp1.b)
  have C4 := Lib.hid (show Calls Try.prog 38 #[.slice A2 n2 c2, .slice A n c] w1 fun e w' => e = .returned (.bool x4) ∧ w1 = w' from hx4 ▸ empD_any A2 A n2 n c2 c d.bad d.blocks w1 hp1.f hp1.b)
  have C5 := Lib.hid (show Calls Try.prog 39 #[.int .i64 fu] w1 fun e w' => e = .returned (.bool x5) ∧ w1 = w' from hx5 ▸ fuseD_any fu w1)
  have HW1 := Lib.hid hw1
  have HB1 := Lib.hid hb1
  have HBE := Lib.hid hB
  obtain ⟨p0, p1, p2, p3, p4, p5, _, _, _, _, _, _⟩ := X1.out.s
  clear hp hp1 hr hx1 hx2 hx3 hx4 hx5 hsz hfu hdn hw1 hb1 l0 l1 l2
  rw [hB]
  rw [hB] at HB1
  go_enter Try.func17, Try.ntmps17
  go_wp2_with fail
  rw [HW1.out]
  clear hB
  refine C1.out.mono ?_
  rintro e w' ⟨rfl, rfl⟩
  cases x1 with
  | false =>
    obtain rfl := H1.out rfl
    go_wp2_with fail
    go_ret
    exact ⟨rfl, HB1.out⟩
  | true =>
  go_wp2_with fail
  refine C2.out.mono ?_
  rintro e w' ⟨rfl, rfl⟩
  cases x2 with
  | false =>
    obtain rfl := H2.out rfl
    go_wp2_with fail
    go_ret
    exact ⟨rfl, HB1.out⟩
  | true =>
  go_wp2_with fail
  refine C3.out.mono ?_
  rintro e w' ⟨rfl, rfl⟩
  cases x3 with
  | false =>
    obtain rfl := H3.out rfl
    go_wp2_with fail
    go_ret
    exact ⟨rfl, HB1.out⟩
  | true =>
  go_wp2_with fail
  refine C4.out.mono ?_
  rintro e w' ⟨rfl, rfl⟩
  cases x4 with
  | false =>
    obtain rfl := H4.out rfl
    go_wp2_with fail
    go_ret
    exact ⟨rfl, HB1.out⟩
  | true =>
  go_wp2_with fail
  refine C5.out.mono ?_
  rintro e w' ⟨rfl, rfl⟩
  cases x5 with
  | false =>
    obtain rfl := H5.out rfl
    go_wp2_with fail
    go_ret
    exact ⟨rfl, HB1.out⟩
  | true =>
    obtain rfl := HALL.out (by simp) (by simp) (by simp) (by simp) (by simp)
    go_wp2_with fail
    go_ret
    exact ⟨rfl, HB1.out⟩

/-- the first error with which a block can neither be read nor written -/
noncomputable def Dv.reach (d : Dv.D) (n : Int) : Int :=
  if Dv.chk d ≠ 0 then 2 else if d.down = true then 11 else if n < 0 ∨ (d.blocks.length : Int) ≤ n then 1 else 0
theorem Dv.reach_form {d : Dv.D} (h : Dv.chk d = 2) (n : Int) : Dv.reach d n = 2 := by unfold Dv.reach; simp [h]
theorem Dv.reach_down {d : Dv.D} (h : Dv.chk d = 0) (h1 : d.down = true) (n : Int) : Dv.reach d n = 11 := by unfold Dv.reach; simp [h, h1]
theorem Dv.reach_range {d : Dv.D} (h : Dv.chk d = 0) (h1 : d.down = false) {n : Int} (h2 : n < 0 ∨ (d.blocks.length : Int) ≤ n) : Dv.reach d n = 1 := by unfold Dv.reach; rw [if_neg (by simp [h]), if_neg (by simp [h1]), if_pos h2]
theorem Dv.reach_ok {d : Dv.D} (h : Dv.chk d = 0) (h1 : d.down = false) {n : Int} (h2 : ¬ (n < 0 ∨ (d.blocks.length : Int) ≤ n)) : Dv.reach d n = 0 := by unfold Dv.reach; rw [if_neg (by simp [h]), if_neg (by simp [h1]), if_neg h2]

set_option maxRecDepth 100000 in
theorem reachD_any (v : Value) (d : Dv.D) (m : Int) (w : World) (hd : DevV w v d) :
    Calls Try.prog 44 #[v, .int .i64 m] w fun e w' => e = .returned (.int .i64 (Dv.reach d m)) ∧ Below w.heap.size w w' := by
  have hd0 := hd
  obtain ⟨A, n, c, A1, n1, c1, A2, n2, c2, rfl, hp⟩ := hd
  obtain ⟨l0, l1, l2⟩ := hp.lens
  have hn := hp.b.2.2
  obtain ⟨r, hr⟩ : ∃ r, Dv.reach d m = r := ⟨_, rfl⟩
  have HR := Lib.hid hr
  rw [hr]
  obtain ⟨sz, hsz⟩ : ∃ x, d.size = x := ⟨_, rfl⟩
  obtain ⟨fu, hfu⟩ : ∃ x, d.fuse = x := ⟨_, rfl⟩
  obtain ⟨dn, hdn⟩ : ∃ x, d.down = x := ⟨_, rfl⟩
  have HV := Lib.hid (show Dv.val d (.slice A n c) (.slice A1 n1 c1) (.slice A2 n2 c2) = .agg #[.int .i64 sz, .slice A n c, .slice A1 n1 c1, .slice A2 n2 c2, .int .i64 fu, .bool dn] from by unfold Dv.val; rw [hsz, hfu, hdn])
  obtain ⟨w1, hw1⟩ : ∃ V, w.alloc (.cells #[.int .i64 sz, .slice A n c, .slice A1 n1 c1, .slice A2 n2 c2, .int .i64 fu, .bool dn] 25) = V := ⟨_, rfl⟩
  have hb1 : Below w.heap.size w w1 := by rw [← hw1]; exact (Below.refl _ _).alloc (Nat.le_refl _) _
  obtain ⟨B, hB⟩ : ∃ B, w.heap.size = B := ⟨_, rfl⟩
  have hs1 : w1.heap.size = B + 1 := by rw [← hw1]; simp [hB]
  have X1 := Lib.hid (show Box6 w1 B 25 (.int .i64 sz) (.slice A n c) (.slice A1 n1 c1) (.slice A2 n2 c2) (.int .i64 fu) (.bool dn) from by rw [← hw1]; exact Box6.new _ _ _ _ _ _ _ _ _ hB)
  have HD := Lib.hid (show ∀ W, Below B w W → DevV W (.agg #[.int .i64 sz, .slice A n c, .slice A1 n1 c1, .slice A2 n2 c2, .int .i64 fu, .bool dn]) d from fun W h => by rw [← HV.out]; exact hd0.below (by rw [hB]; exact h))
  have HDN := Lib.hid hdn
  have HL := Lib.hid l0
  have HW1 := Lib.hid hw1
  rw [hB] at hb1
  have HB1 := Lib.hid hb1
  have C1 := Lib.hid (fun W h => chkD_any _ d W (HD.out W h))
  have C2 := Lib.hid (fun W h => blkD_any _ d m W (HD.out W h))
  obtain ⟨p0, p1, p2, p3, p4, p5, _, _, _, _, _, _⟩ := X1.out.s
  rw [HV.out, hB]
  obtain ⟨k, hk⟩ : ∃ k, Dv.chk d = k := ⟨_, rfl⟩
  have HK := Lib.hid hk
  have hk2 := Dv.chk_is d
  rw [hk] at hk2 C1
  clear hd0 hp hr hsz hfu hdn hw1 hb1 l0 l1 l2 hk
  go_enter Try.func44, Try.ntmps44
  go_wp2_with fail
  rw [HW1.out]
  clear hB
  refine (C1.out _ HB1.out).mono ?_
  rintro e w2 ⟨rfl, hb2⟩
  clear p0 p1 p2 p3 p4 p5
  obtain ⟨p0, p1, p2, p3, p4, p5, _, _, _, _, _, _⟩ := (X1.out.below hb2 (by omega)).s
  have HB2 := Lib.hid (HB1.out.trans (hb2.mono (by omega)))
  have hs2 := hb2.size
  clear hb2
  rcases hk2 with rfl | rfl
  · by_cases hdn : dn = true
    · subst hdn
      obtain rfl : r = 11 := by rw [← HR.out]; exact Dv.reach_down HK.out HDN.out m
      go_wp2_with fail
      go_ret
      exact ⟨rfl, HB2.out⟩
    · obtain rfl : dn = false := by simpa using hdn
      clear hdn
      obtain ⟨b, hb⟩ : ∃ b, Dv.blkB d.blocks.length m = b := ⟨_, rfl⟩
      rw [hb] at C2
      have HBL := Lib.hid hb
      clear hb
      go_wp2_with fail
      refine (C2.out _ HB2.out).mono ?_
      rintro e w3 ⟨rfl, hb3⟩
      have HB3 := Lib.hid (HB2.out.trans (hb3.mono (by omega)))
      clear hb3
      cases b with
      | true =>
        obtain rfl : r = 0 := by
          rw [← HR.out]; refine Dv.reach_ok HK.out HDN.out ?_
          have := HBL.out
          simp only [Dv.blkB, decide_eq_true_eq] at this; omega
        go_wp2_with fail
        go_ret
        exact ⟨rfl, HB3.out⟩
      | false =>
        obtain rfl : r = 1 := by
          rw [← HR.out]; refine Dv.reach_range HK.out HDN.out ?_
          have := HBL.out
          simp only [Dv.blkB, decide_eq_false_iff_not] at this; omega
        go_wp2_with fail
        go_ret
        exact ⟨rfl, HB3.out⟩
  · obtain rfl : r = 2 := by rw [← HR.out]; exact Dv.reach_form HK.out m
    go_wp2_with fail
    go_ret
    exact ⟨rfl, HB2.out⟩

end Go.Proofs.Ythdkidiemhfffaa
