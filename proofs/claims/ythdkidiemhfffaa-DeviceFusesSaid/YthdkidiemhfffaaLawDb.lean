/-
  DeviceFuses.
-/
import Derived.Test.YthdkidiemhfffaaLawDa
namespace Go.Proofs.Ythdkidiemhfffaa
open Go.RowKit
set_option maxHeartbeats 4000000

/-- the text of DeviceFuses, the blocks behind i writes -/
def Fz.t : ByteArray := ⟨#[119]⟩
def Fz.bl (i : Nat) : List ByteArray := List.replicate i Fz.t ++ List.replicate (40 - i) ByteArray.empty
theorem Fz.len (i : Nat) (h : i ≤ 40) : (Fz.bl i).length = 40 := by simp [Fz.bl]; omega
theorem Fz.at (i j : Nat) (hj : j < (Fz.bl i).length) : (Fz.bl i)[j] = if j < i then Fz.t else ByteArray.empty := by
  simp only [Fz.bl, List.getElem_append, List.length_replicate]
  split <;> simp
theorem Fz.fit (i : Nat) (sz : Int) (h0 : 16 ≤ sz) (j : Nat) (hj : j < (Fz.bl i).length) : ((Fz.bl i)[j].size : Int) ≤ sz := by
  rw [Fz.at]
  split
  · show ((1 : Nat) : Int) ≤ sz; omega
  · show ((0 : Nat) : Int) ≤ sz; omega
theorem Fz.get (i j : Nat) (h : i ≤ 40) (hj : j < 40) : (Fz.bl i).getD j ByteArray.empty = if j < i then Fz.t else ByteArray.empty := by
  have hl := Fz.len i h
  rw [List.getD, List.getElem?_eq_getElem (by omega), Option.getD_some, Fz.at]
theorem Fz.set (i : Nat) (h : i < 40) : (Fz.bl i).set i Fz.t = Fz.bl (i + 1) := by
  have h1 := Fz.len i (by omega)
  have h2 := Fz.len (i + 1) (by omega)
  refine List.ext_getElem (by rw [List.length_set, h1, h2]) fun j h3 h4 => ?_
  rw [List.getElem_set, Fz.at, Fz.at]
  by_cases e : i = j
  · subst e; simp
  · rw [if_neg e]
    by_cases h3 : j < i
    · rw [if_pos h3, if_pos (by omega)]
    · rw [if_neg h3, if_neg (by omega)]
theorem Fz.same (i : Nat) (_ : i < 40) : (Fz.bl i).set i ByteArray.empty = Fz.bl i := by
  refine List.ext_getElem (by rw [List.length_set]) fun j h3 h4 => ?_
  rw [List.getElem_set, Fz.at]
  split
  · rw [if_neg (by omega)]
  · rfl
/-- behind i writes with the fuse k -/
def Fz.d (sz : Int) (k i : Nat) : Dv.D := ⟨sz, Fz.bl i, [], [], (k : Int) - (i : Int), false⟩
/-- torn, and started -/
def Fz.e (sz : Int) (k : Nat) (dn : Bool) : Dv.D := ⟨sz, Fz.bl (k - 1), [((k - 1 : Nat) : Int)], [], 0, dn⟩
theorem Fz.d_ok {sz : Int} {k i : Nat} (h0 : 16 ≤ sz) (h1 : sz ≤ 64) (hk : k ≤ 20) (hi : i < k) : Dv.Ok (Fz.d sz k i) := by
  have hl : (Fz.d sz k i).blocks.length = 40 := Fz.len i (by omega)
  exact ⟨h0, h1, by rw [hl]; decide, by rw [hl]; decide, Dv.Nums.nil _, Dv.Nums.nil _, by show 0 ≤ (k : Int) - (i : Int); omega, by show (k : Int) - (i : Int) ≤ 1048576; omega, fun j hj => Fz.fit i sz h0 j hj, fun j hj h => by rcases h with h | h <;> cases h⟩
theorem Fz.e_ok {sz : Int} {k : Nat} (h0 : 16 ≤ sz) (h1 : sz ≤ 64) (hk : k ≤ 20) (hk1 : 1 ≤ k) (dn : Bool) : Dv.Ok (Fz.e sz k dn) := by
  have hl : (Fz.e sz k dn).blocks.length = 40 := Fz.len (k - 1) (by omega)
  refine ⟨h0, h1, by rw [hl]; decide, by rw [hl]; decide, ⟨fun x hx => ?_, List.pairwise_singleton _ _⟩, Dv.Nums.nil _, by show (0 : Int) ≤ 0; decide, by show (0 : Int) ≤ 1048576; decide, fun j hj => Fz.fit (k - 1) sz h0 j hj, fun j hj h => ?_⟩
  · rw [List.mem_singleton.1 hx, hl]; omega
  · rcases h with h | h
    · have h := List.mem_singleton.1 h
      exact (Fz.at (k - 1) j hj).trans (if_neg (by omega))
    · cases h
theorem Fz.new (sz : Int) (h0 : 16 ≤ sz) (h1 : sz ≤ 64) : Dv.new sz 40 = (⟨sz, List.replicate 40 ByteArray.empty, [], [], 0, false⟩, 0) := Dv.new_yes (by omega)
theorem Fz.arm (sz : Int) (h0 : 16 ≤ sz) (h1 : sz ≤ 64) (k : Nat) (hk : k ≤ 20) : Dv.arm ⟨sz, List.replicate 40 ByteArray.empty, [], [], 0, false⟩ (k : Int) = (Fz.d sz k 0, 0) := by
  have ok : Dv.Ok ⟨sz, List.replicate 40 ByteArray.empty, [], [], 0, false⟩ := Dv.Ok.new (size := sz) (blocks := 40) h0 h1 (by decide) (by decide)
  rw [Dv.arm_ok (Dv.chk_ok ok) (by omega)]
  simp [Fz.d, Fz.bl]
theorem Fz.rg {sz : Int} {k i : Nat} (hi : i < k) (hk : k ≤ 20) (j : Nat) (hj : j < 40) : ¬ ((j : Int) < 0 ∨ ((Fz.d sz k i).blocks.length : Int) ≤ (j : Int)) := by
  have hl : (Fz.d sz k i).blocks.length = 40 := Fz.len i (by omega)
  rw [hl]; omega
theorem Fz.rh {sz : Int} {k : Nat} {dn : Bool} (hk : k ≤ 20) (j : Nat) (hj : j < 40) : ¬ ((j : Int) < 0 ∨ ((Fz.e sz k dn).blocks.length : Int) ≤ (j : Int)) := by
  have hl : (Fz.e sz k dn).blocks.length = 40 := Fz.len (k - 1) (by omega)
  rw [hl]; omega
theorem Fz.fitT {sz : Int} (h0 : 16 ≤ sz) : ¬ sz < ((Fz.t.size : Nat) : Int) := by show ¬ sz < ((1 : Nat) : Int); omega
theorem Fz.write {sz : Int} {k i : Nat} (h0 : 16 ≤ sz) (h1 : sz ≤ 64) (hk : k ≤ 20) (hi : i + 1 < k) : Dv.write (Fz.d sz k i) (i : Int) Fz.t = (Fz.d sz k (i + 1), 0) := by
  rw [Dv.write_put (Dv.chk_ok (Fz.d_ok h0 h1 hk (by omega))) rfl (Fz.rg (by omega) hk i (by omega)) (Fz.fitT h0) (by show ¬ (i : Int) ∈ []; simp) (by show (k : Int) - (i : Int) ≠ 1; omega)]
  unfold Dv.put Fz.d
  simp only [Int.toNat_natCast]
  rw [Fz.set i (by omega), if_pos (by omega)]
  simp [Dv.del]; omega
theorem Fz.tear {sz : Int} {k : Nat} (h0 : 16 ≤ sz) (h1 : sz ≤ 64) (hk : k ≤ 20) (hk1 : 1 ≤ k) : Dv.write (Fz.d sz k (k - 1)) ((k - 1 : Nat) : Int) Fz.t = (Fz.e sz k true, 11) := by
  rw [Dv.write_tear (Dv.chk_ok (Fz.d_ok h0 h1 hk (by omega))) rfl (Fz.rg (by omega) hk (k - 1) (by omega)) (Fz.fitT h0) (by show ¬ ((k - 1 : Nat) : Int) ∈ []; simp) (by show (k : Int) - ((k - 1 : Nat) : Int) = 1; omega)]
  unfold Dv.tear Fz.d Fz.e
  simp only [Int.toNat_natCast]
  rw [Fz.same (k - 1) (by omega)]
  simp [Dv.ins]
theorem Fz.down {sz : Int} {k : Nat} (h0 : 16 ≤ sz) (h1 : sz ≤ 64) (hk : k ≤ 20) (hk1 : 1 ≤ k) (j : Int) : Dv.write (Fz.e sz k true) j Fz.t = (Dv.none', 11) :=
  Dv.write_down (Dv.chk_ok (Fz.e_ok h0 h1 hk hk1 true)) rfl j _
theorem Fz.start {sz : Int} {k : Nat} (h0 : 16 ≤ sz) (h1 : sz ≤ 64) (hk : k ≤ 20) (hk1 : 1 ≤ k) : Dv.start (Fz.e sz k true) = (Fz.e sz k false, 0) := by
  rw [Dv.start_ok (Dv.chk_ok (Fz.e_ok h0 h1 hk hk1 true))]
  rfl
theorem Fz.read1 {sz : Int} {k j : Nat} (h0 : 16 ≤ sz) (h1 : sz ≤ 64) (hk : k ≤ 20) (hj : j + 1 < k) : Dv.read (Fz.e sz k false) (j : Int) = (Fz.t, 0) := by
  rw [Dv.read_ok (Dv.chk_ok (Fz.e_ok h0 h1 hk (by omega) false)) rfl (Fz.rh hk j (by omega)) (by show ¬ (j : Int) ∈ []; simp) (by show ¬ (j : Int) ∈ [((k - 1 : Nat) : Int)]; simp; omega)]
  unfold Fz.e
  simp only [Int.toNat_natCast]
  rw [Fz.get _ _ (by omega) (by omega), if_pos (by omega)]
theorem Fz.read2 {sz : Int} {k : Nat} (h0 : 16 ≤ sz) (h1 : sz ≤ 64) (hk : k ≤ 20) (hk1 : 1 ≤ k) : Dv.read (Fz.e sz k false) ((k - 1 : Nat) : Int) = (ByteArray.empty, 13) :=
  Dv.read_torn (Dv.chk_ok (Fz.e_ok h0 h1 hk (by omega) false)) rfl (Fz.rh hk (k - 1) (by omega)) (by show ¬ ((k - 1 : Nat) : Int) ∈ []; simp) (by show ((k - 1 : Nat) : Int) ∈ [((k - 1 : Nat) : Int)]; simp)
theorem Fz.read3 {sz : Int} {k j : Nat} (h0 : 16 ≤ sz) (h1 : sz ≤ 64) (hk : k ≤ 20) (hk1 : 1 ≤ k) (hj : k ≤ j) (hj2 : j < 40) : Dv.read (Fz.e sz k false) (j : Int) = (ByteArray.empty, 0) := by
  rw [Dv.read_ok (Dv.chk_ok (Fz.e_ok h0 h1 hk (by omega) false)) rfl (Fz.rh hk j (by omega)) (by show ¬ (j : Int) ∈ []; simp) (by show ¬ (j : Int) ∈ [((k - 1 : Nat) : Int)]; simp; omega)]
  unfold Fz.e
  simp only [Int.toNat_natCast]
  rw [Fz.get _ _ (by omega) (by omega), if_neg (by omega)]

set_option maxRecDepth 100000 in
theorem deviceFuses_any (n more size : Int) (w : World) (n0 : 0 ≤ n) (n1 : n ≤ 255) (m0 : 0 ≤ more) (m1 : more ≤ 255) (z0 : 0 ≤ size) (z1 : size ≤ 255) :
    Calls Try.prog 5 #[.int .u8 n, .int .u8 more, .int .u8 size] w fun e w' => e = .returned (.bool true) ∧ Below w.heap.size w w' := by
  obtain ⟨B, hB⟩ : ∃ B, w.heap.size = B := ⟨_, rfl⟩
  have HBE := Lib.hid hB
  obtain ⟨k, hk⟩ : ∃ k : Nat, 1 + n % 20 = (k : Int) := ⟨(1 + n % 20).toNat, by omega⟩
  have k1 : 1 ≤ k := by omega
  have k2 : k ≤ 20 := by omega
  obtain ⟨sz, hsz⟩ : ∃ s : Int, 16 + size % 49 = s := ⟨_, rfl⟩
  have s0 : 16 ≤ sz := by omega
  have s1 : sz ≤ 64 := by omega
  obtain ⟨t, ht⟩ : ∃ t : Nat, more % 10 = (t : Int) := ⟨(more % 10).toNat, by omega⟩
  have t1 : t ≤ 9 := by omega
  have HK := Lib.hid hk
  have HSZ := Lib.hid hsz
  have HT := Lib.hid ht
  have e119 : ((⟨#[119]⟩ : ByteArray).toList == (⟨#[119]⟩ : ByteArray).toList) = true := beq_iff_eq.2 rfl
  have eemp := Dv.empty_is
  rw [hB]
  clear hB hk hsz ht
  go_enter Try.func5, Try.ntmps5
  go_wp2_with fail
  refine (saneD_any _).mono ?_
  rintro e w1 ⟨rfl, hq⟩
  rw [HBE.out] at hq
  have HB1 := Lib.hid hq
  have hs1 := hq.size
  rw [HBE.out] at hs1
  clear hq
  go_wp2_with fail
  simp only [HK.out, HSZ.out]
  refine (Dv.newA sz 40 _ (Fz.new sz s0 s1)).mono ?_
  rintro e w2 ⟨xas, xaA, xan, xac, xaB, xam, xad, xaC, xak, xae, xaf, xab, rfl, xaV, xa1, xa2, xa3, xa4, hq⟩
  have hs2 := hq.size
  have HB2 := Lib.hid (HB1.out.trans (hq.mono hs1))
  obtain ⟨r, hr⟩ : ∃ r, w2.heap.size = r := ⟨_, rfl⟩
  obtain ⟨w3, hw3⟩ : ∃ V, w2.alloc (.cells #[.int .i64 xas, .slice xaA xan xac, .slice xaB xam xad, .slice xaC xak xae, .int .i64 xaf, .bool xab] 25) = V := ⟨_, rfl⟩
  have S3 := Lib.hid (show Dv.Va w B w3 r _ (.int .i64 xas) (.slice xaA xan xac) (.slice xaB xam xad) (.slice xaC xak xae) (.int .i64 xaf) (.bool xab) from by rw [← hw3]; exact Dv.Va.new xaV HB2.out (by omega) hr)
  have HW3 := Lib.hid hw3
  clear hq hw3 xaV xa1 xa2 xa3 xa4
  go_wp2_with fail
  rw [HW3.out]
  clear hr
  obtain ⟨p0, p1, p2, p3, p4, p5, f0, f1, f2, f3, f4, f5⟩ := S3.out.box.s
  refine (Dv.armA S3.out.dev.dev (Fz.arm sz s0 s1 k k2)).mono ?_
  rintro e w4 ⟨xbs, xbA, xbn, xbc, xbB, xbm, xbd, xbC, xbk, xbe, xbf, xbb, rfl, xbV, xb1, xb2, xb3, xb4, hq⟩
  have T4 := Lib.hid (S3.out.below hq)
  obtain ⟨w5, hw5⟩ : ∃ V, ((((((w4.setCell ⟨r, 0, none⟩ (.int .i64 xbs)).setCell ⟨r, 1, none⟩ (.slice xbA xbn xbc)).setCell ⟨r, 2, none⟩ (.slice xbB xbm xbd)).setCell ⟨r, 3, none⟩ (.slice xbC xbk xbe)).setCell ⟨r, 4, none⟩ (.int .i64 xbf)).setCell ⟨r, 5, none⟩ (.bool xbb)) = V := ⟨_, rfl⟩
  have S5 := Lib.hid (show Dv.Va w B w5 r _ (.int .i64 xbs) (.slice xbA xbn xbc) (.slice xbB xbm xbd) (.slice xbC xbk xbe) (.int .i64 xbf) (.bool xbb) from by rw [← hw5]; exact T4.out.store xbV)
  have HW5 := Lib.hid hw5
  clear hq hw5 xbV xb1 xb2 xb3 xb4 p0 p1 p2 p3 p4 p5 f0 f1 f2 f3 f4 f5
  obtain ⟨p0, p1, p2, p3, p4, p5, f0, f1, f2, f3, f4, f5⟩ := T4.out.box.s
  go_wp2_with fail
  rw [HW5.out]
  clear p0 p1 p2 p3 p4 p5 f0 f1 f2 f3 f4 f5 hs1 hs2
  go_loopw [11] (fun i wr => ∃ (i0 : Nat) (d : Dv.D) (s : Int) (A : Option Addr) (n' c : Nat) (B' : Option Addr) (m k' : Nat) (C : Option Addr) (l q : Nat) (f : Int) (b : Bool), i0 ≤ k + t ∧ i = .int .i64 i0 ∧ Dv.Va w B wr r d (.int .i64 s) (.slice A n' c) (.slice B' m k') (.slice C l q) (.int .i64 f) (.bool b) ∧ (i0 < k → d = Fz.d sz k i0) ∧ (k ≤ i0 → d = Fz.e sz k true)) (fun i _ => k + t - (intOf i).toNat)
  case atStart => exact ⟨0, _, _, _, _, _, _, _, _, _, _, _, _, _, by omega, rfl, S5.out, fun _ => rfl, fun h => absurd h (by omega)⟩
  case round =>
    obtain ⟨i0, d, s, A, n', c, B', m, k', C, l, q, f, b, hi, rfl, hS, hd1, hd2⟩ := hrel
    have S := Lib.hid hS
    have HD1 := Lib.hid hd1
    have HD2 := Lib.hid hd2
    obtain ⟨p0, p1, p2, p3, p4, p5, f0, f1, f2, f3, f4, f5⟩ := S.out.box.s
    clear hS hd1 hd2
    by_cases hlt : i0 < k + t
    · have d0 : decide ((i0 : Int) < (k : Int) + more % 10) = true := by have := HT.out; simp; omega
      by_cases hc1 : i0 + 1 < k
      · have W1 := Lib.hid (show Dv.write d (i0 : Int) Fz.t = (Fz.d sz k (i0 + 1), 0) from by rw [HD1.out (by omega)]; exact Fz.write s0 s1 k2 hc1)
        have d1 : decide ((i0 : Int) < (k : Int) - 1) = true := by simp; omega
        go_wp2_with fail
        refine (Dv.writeA (s := Fz.t) S.out.dev.dev (by decide) W1.out).mono ?_
        rintro e wa ⟨xcs, xcA, xcn, xcc, xcB, xcm, xcd, xcC, xck, xce, xcf, xcb, rfl, xcV, xc1, xc2, xc3, xc4, hq⟩
        have hpa := (S.out.below hq).box.lt
        have SN := Lib.hid (((S.out.below hq).store xcV).below ((Below.refl _ _).alloc (Nat.le_refl _) (.cells #[.int .i64 xcs, .slice xcA xcn xcc, .slice xcB xcm xcd, .slice xcC xck xce, .int .i64 xcf, .bool xcb] 25)))
        have TA := Lib.hid (S.out.below hq)
        clear p0 p1 p2 p3 p4 p5 f0 f1 f2 f3 f4 f5 hq xcV xc1 xc2 xc3 xc4
        obtain ⟨p0, p1, p2, p3, p4, p5, f0, f1, f2, f3, f4, f5⟩ := TA.out.box.s
        go_wp2_with fail
        go_roundw
        case rel => exact ⟨i0 + 1, _, _, _, _, _, _, _, _, _, _, _, _, _, by omega, by go_num, SN.out, fun _ => rfl, fun h => absurd h (by omega)⟩
        case measure => simp [intOf]; omega
      · have d1 : decide ((i0 : Int) < (k : Int) - 1) = false := by simp; omega
        by_cases hc2 : i0 + 1 = k
        · have hi0 : i0 = k - 1 := by omega
          have W1 := Lib.hid (show Dv.write d (i0 : Int) Fz.t = (Fz.e sz k true, 11) from by rw [HD1.out (by omega), hi0]; exact Fz.tear s0 s1 k2 k1)
          have d2 : ((i0 : Int) == (k : Int) - 1) = true := beq_iff_eq.2 (by omega)
          clear hi0 hc2
          go_wp2_with fail
          refine (Dv.writeA (s := Fz.t) S.out.dev.dev (by decide) W1.out).mono ?_
          rintro e wa ⟨xcs, xcA, xcn, xcc, xcB, xcm, xcd, xcC, xck, xce, xcf, xcb, rfl, xcV, xc1, xc2, xc3, xc4, hq⟩
          obtain rfl : true = xcb := xc4
          have hpa := (S.out.below hq).box.lt
          have SN := Lib.hid (((S.out.below hq).store xcV).below ((Below.refl _ _).alloc (Nat.le_refl _) (.cells #[.int .i64 xcs, .slice xcA xcn xcc, .slice xcB xcm xcd, .slice xcC xck xce, .int .i64 xcf, .bool true] 25)))
          have TA := Lib.hid (S.out.below hq)
          clear p0 p1 p2 p3 p4 p5 f0 f1 f2 f3 f4 f5 hq xcV xc1 xc2 xc3
          obtain ⟨p0, p1, p2, p3, p4, p5, f0, f1, f2, f3, f4, f5⟩ := TA.out.box.s
          go_wp2_with fail
          go_roundw
          case rel => exact ⟨i0 + 1, _, _, _, _, _, _, _, _, _, _, _, _, _, by omega, by go_num, SN.out, fun h => absurd h (by omega), fun _ => rfl⟩
          case measure => simp [intOf]; omega
        · have W1 := Lib.hid (show Dv.write d (i0 : Int) Fz.t = (Dv.none', 11) from by rw [HD2.out (by omega)]; exact Fz.down s0 s1 k2 k1 _)
          have d2 : ((i0 : Int) == (k : Int) - 1) = false := beq_eq_false_iff_ne.2 (by omega)
          have hge : k ≤ i0 := by omega
          clear hc2
          go_wp2_with fail
          refine (Dv.writeA (s := Fz.t) S.out.dev.dev (by decide) W1.out).mono ?_
          rintro e wa ⟨xcs, xcA, xcn, xcc, xcB, xcm, xcd, xcC, xck, xce, xcf, xcb, rfl, xcV, xc1, xc2, xc3, xc4, hq⟩
          have hpa := (S.out.below hq).box.lt
          have SN := Lib.hid ((S.out.below hq).below ((Below.refl _ _).alloc (Nat.le_refl _) (.cells #[.int .i64 xcs, .slice xcA xcn xcc, .slice xcB xcm xcd, .slice xcC xck xce, .int .i64 xcf, .bool xcb] 25)))
          have TA := Lib.hid (S.out.below hq)
          clear p0 p1 p2 p3 p4 p5 f0 f1 f2 f3 f4 f5 hq xcV xc1 xc2 xc3 xc4
          obtain ⟨p0, p1, p2, p3, p4, p5, f0, f1, f2, f3, f4, f5⟩ := TA.out.box.s
          go_wp2_with fail
          go_roundw
          case rel => exact ⟨i0 + 1, _, _, _, _, _, _, _, _, _, _, _, _, _, by omega, by go_num, SN.out, fun h => absurd h (by omega), fun _ => HD2.out (by omega)⟩
          case measure => simp [intOf]; omega
    · have d0 : decide ((i0 : Int) < (k : Int) + more % 10) = false := by have := HT.out; simp; omega
      have W1 := Lib.hid (show Dv.start d = (Fz.e sz k false, 0) from by rw [HD2.out (by omega)]; exact Fz.start s0 s1 k2 k1)
      clear hlt hi
      go_wp2_with fail
      refine (Dv.startA S.out.dev.dev W1.out).mono ?_
      rintro e w6 ⟨xds, xdA, xdn, xdc, xdB, xdm, xdd, xdC, xdk, xde, xdf, xdb, rfl, xdV, xd1, xd2, xd3, xd4, hq⟩
      have T6 := Lib.hid (S.out.below hq)
      obtain ⟨w7, hw7⟩ : ∃ V, ((((((w6.setCell ⟨r, 0, none⟩ (.int .i64 xds)).setCell ⟨r, 1, none⟩ (.slice xdA xdn xdc)).setCell ⟨r, 2, none⟩ (.slice xdB xdm xdd)).setCell ⟨r, 3, none⟩ (.slice xdC xdk xde)).setCell ⟨r, 4, none⟩ (.int .i64 xdf)).setCell ⟨r, 5, none⟩ (.bool xdb)) = V := ⟨_, rfl⟩
      have S7 := Lib.hid (show Dv.Va w B w7 r _ (.int .i64 xds) (.slice xdA xdn xdc) (.slice xdB xdm xdd) (.slice xdC xdk xde) (.int .i64 xdf) (.bool xdb) from by rw [← hw7]; exact T6.out.store xdV)
      have HW7 := Lib.hid hw7
      clear hq hw7 xdV xd1 xd2 xd3 xd4 p0 p1 p2 p3 p4 p5 f0 f1 f2 f3 f4 f5
      obtain ⟨p0, p1, p2, p3, p4, p5, f0, f1, f2, f3, f4, f5⟩ := T6.out.box.s
      go_wp2_with fail
      rw [HW7.out]
      clear p0 p1 p2 p3 p4 p5 f0 f1 f2 f3 f4 f5
      go_loopw [15] (fun i wr => ∃ (j : Nat), j ≤ 40 ∧ i = .int .i64 j ∧ Dv.Va w B wr r (Fz.e sz k false) (.int .i64 xds) (.slice xdA xdn xdc) (.slice xdB xdm xdd) (.slice xdC xdk xde) (.int .i64 xdf) (.bool xdb)) (fun i _ => 40 - (intOf i).toNat)
      case atStart => exact ⟨0, by omega, rfl, S7.out⟩
      case round =>
        obtain ⟨j, hj, rfl, hS⟩ := hrel
        have SJ := Lib.hid hS
        obtain ⟨p0, p1, p2, p3, p4, p5, f0, f1, f2, f3, f4, f5⟩ := SJ.out.box.s
        clear hS
        by_cases hlt : j < 40
        · have e0 : decide ((j : Int) < 40) = true := by simp; omega
          by_cases hc1 : j + 1 < k
          · have R1 := Lib.hid (show Dv.read (Fz.e sz k false) (j : Int) = ((⟨#[119]⟩ : ByteArray), 0) from Fz.read1 (j := j) s0 s1 k2 hc1)
            have e1 : decide ((j : Int) < (k : Int) - 1) = true := by simp; omega
            have e2 : ((j : Int) == (k : Int) - 1) = false := beq_eq_false_iff_ne.2 (by omega)
            have e3 : decide ((k : Int) - 1 < (j : Int)) = false := by simp; omega
            go_wp2_with fail
            refine (Dv.readA SJ.out.dev.dev R1.out).mono ?_
            rintro e wb ⟨rfl, hq⟩
            have SN := Lib.hid (SJ.out.below hq)
            clear hq p0 p1 p2 p3 p4 p5 f0 f1 f2 f3 f4 f5
            go_wp2_with fail
            go_roundw
            case rel => exact ⟨j + 1, by omega, by go_num, SN.out⟩
            case measure => simp [intOf]; omega
          by_cases hc2 : j + 1 = k
          · have R1 := Lib.hid (show Dv.read (Fz.e sz k false) (j : Int) = (ByteArray.empty, 13) from by
              have h := Fz.read2 s0 s1 k2 k1 (sz := sz)
              rwa [show k - 1 = j by omega] at h)
            have e1 : decide ((j : Int) < (k : Int) - 1) = false := by simp; omega
            have e2 : ((j : Int) == (k : Int) - 1) = true := beq_iff_eq.2 (by omega)
            have e3 : decide ((k : Int) - 1 < (j : Int)) = false := by simp; omega
            clear hc1 hc2
            go_wp2_with fail
            refine (Dv.readA SJ.out.dev.dev R1.out).mono ?_
            rintro e wb ⟨rfl, hq⟩
            have SN := Lib.hid (SJ.out.below hq)
            clear hq p0 p1 p2 p3 p4 p5 f0 f1 f2 f3 f4 f5
            go_wp2_with fail
            go_roundw
            case rel => exact ⟨j + 1, by omega, by go_num, SN.out⟩
            case measure => simp [intOf]; omega
          · have R1 := Lib.hid (Fz.read3 (j := j) s0 s1 k2 k1 (by omega) hlt)
            have e1 : decide ((j : Int) < (k : Int) - 1) = false := by simp; omega
            have e2 : ((j : Int) == (k : Int) - 1) = false := beq_eq_false_iff_ne.2 (by omega)
            have e3 : decide ((k : Int) - 1 < (j : Int)) = true := by simp; omega
            clear hc1 hc2
            go_wp2_with fail
            refine (Dv.readA SJ.out.dev.dev R1.out).mono ?_
            rintro e wb ⟨rfl, hq⟩
            have SN := Lib.hid (SJ.out.below hq)
            clear hq p0 p1 p2 p3 p4 p5 f0 f1 f2 f3 f4 f5
            go_wp2_with fail
            go_roundw
            case rel => exact ⟨j + 1, by omega, by go_num, SN.out⟩
            case measure => simp [intOf]; omega
        · have e0 : decide ((j : Int) < 40) = false := by simp; omega
          go_wp2_with fail
          go_ret
          exact ⟨rfl, SJ.out.bel⟩

end Go.Proofs.Ythdkidiemhfffaa
