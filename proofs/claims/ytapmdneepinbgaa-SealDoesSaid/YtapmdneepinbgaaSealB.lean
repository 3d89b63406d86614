/-
  Contracts of seal and of its reference: sealing, opening.
-/
import Derived.Test.YtapmdneepinbgaaSealA
import Derived.Test.YtapmdneepinbgaaLawA
namespace Go.Proofs.Ytapmdneepinbgaa
open Go.RowKit
set_option maxHeartbeats 400000

theorem bcell {W w1 : World} {B : Nat} (hb : Below B W w1) : (∀ b o, b < B → w1.cell? ⟨b, o, none⟩ = W.cell? ⟨b, o, none⟩) ∧ (∀ b o, b < B → w1.frozen? ⟨b, o, none⟩ = W.frozen? ⟨b, o, none⟩) :=
  ⟨fun b o h => hb.cell (p := ⟨b, o, none⟩) h, fun b o h => hb.frozen (p := ⟨b, o, none⟩) h⟩

/-- what Seal, Open and Encode, Decode, Name answer, as values -/
def Sm.sval (r : (Int × ByteArray) × Int) : Value := .tuple #[.agg #[.int .i64 r.1.1, .string r.1.2], .int .i64 r.2]
def Sm.tval (r : ByteArray × Int) : Value := .tuple #[.string r.1, .int .i64 r.2]
def Sm.nval (r : (Int × Int) × Int) : Value := .tuple #[.agg #[.int .i64 r.1.1, .int .i64 r.1.2], .int .i64 r.2]
def Sm.dval (r : (Int × ByteArray) × Int × Int) : Value := .tuple #[.agg #[.int .i64 r.1.1, .string r.1.2], .int .i64 r.2.1, .int .i64 r.2.2]

theorem seal_any (T : ByteArray) (k : Int) (w : World) (hT : T.size ≤ 281474976710656) (h0 : -9223372036854775808 ≤ k) (h1 : k ≤ 9223372036854775807) :
    Calls Try.prog 14 #[.string T, .int .i64 k] w fun e w' => e = .returned (Sm.sval (Sm.sl T k)) ∧ Below w.heap.size w w' := by
  by_cases g : Sm.keyB k = true
  · obtain ⟨g0, g1⟩ := Sm.of_keyB g
    by_cases gT : 16384 < T.size
    · rw [show Sm.sl T k = ((0, ⟨#[]⟩), 4) by unfold Sm.sl; rw [if_neg (by rw [g]; decide), if_pos gT]; rfl]
      go_enter Try.func14, Try.ntmps14
      go_wp2_with fail
      refine (kvalid_any k _ h0 h1).mono ?_
      rintro e w' ⟨rfl, rfl⟩
      go_wp2
      exact bodyPost_ret (v := .tuple #[.agg #[.int .i64 0, .string ⟨#[]⟩], .int .i64 4]) (by simp [results, Try.results14, go_sem]) rfl ⟨rfl, ((Below.refl _ _).alloc (Nat.le_refl _) _)⟩
    · have gT' : T.size ≤ 16384 := by omega
      have b0 : -2147483648 ≤ k := by omega
      have b1 : k ≤ 8589934592 := by omega
      rw [Sm.seal_ok g0 g1 gT']
      go_enter Try.func14, Try.ntmps14
      go_wp2_with fail
      refine (kvalid_any k _ h0 h1).mono ?_
      rintro e w' ⟨rfl, rfl⟩
      go_wp2_with fail
      refine (klock_any k _ b0 b1).mono ?_
      rintro e w' ⟨rfl, rfl⟩
      go_wp2_with fail
      refine (clone_any T _ (by omega)).mono ?_
      rintro e w1 ⟨rfl, hB⟩
      obtain ⟨hc, hf⟩ := bcell hB
      go_wp2
      exact bodyPost_ret (v := .tuple #[.agg #[.int .i64 (3 * k + 1), .string T], .int .i64 0]) (by simp [results, Try.results14, go_sem, hc]) rfl ⟨rfl, (((((Below.refl _ w).alloc (Nat.le_refl _) _)).trans (hB.mono (by simp))).setCell (Nat.le_refl _) _).setCell (Nat.le_refl _) _⟩
  · have g : Sm.keyB k = false := by simpa using g
    rw [show Sm.sl T k = ((0, ⟨#[]⟩), 1) by unfold Sm.sl; rw [if_pos g]; rfl]
    go_enter Try.func14, Try.ntmps14
    go_wp2_with fail
    refine (kvalid_any k _ h0 h1).mono ?_
    rintro e w' ⟨rfl, rfl⟩
    go_wp2
    exact bodyPost_ret (v := .tuple #[.agg #[.int .i64 0, .string ⟨#[]⟩], .int .i64 1]) (by simp [results, Try.results14, go_sem]) rfl ⟨rfl, ((Below.refl _ _).alloc (Nat.le_refl _) _)⟩

theorem rseal_any (T : ByteArray) (k : Int) (w : World) (hT : T.size ≤ 281474976710656) (h0 : -9223372036854775808 ≤ k) (h1 : k ≤ 9223372036854775807) :
    Calls Try.prog 15 #[.string T, .int .i64 k] w fun e w' => e = .returned (Sm.sval (Sm.sl T k)) ∧ Below w.heap.size w w' := by
  by_cases g : Sm.keyB k = true
  · obtain ⟨g0, g1⟩ := Sm.of_keyB g
    by_cases gT : 16384 < T.size
    · rw [show Sm.sl T k = ((0, ⟨#[]⟩), 4) by unfold Sm.sl; rw [if_neg (by rw [g]; decide), if_pos gT]; rfl]
      go_enter Try.func15, Try.ntmps15
      go_wp2_with fail
      refine (rkey_any k _ h0 h1).mono ?_
      rintro e w' ⟨rfl, rfl⟩
      go_wp2
      exact bodyPost_ret (v := .tuple #[.agg #[.int .i64 0, .string ⟨#[]⟩], .int .i64 4]) (by simp [results, Try.results15, go_sem]) rfl ⟨rfl, ((Below.refl _ _).alloc (Nat.le_refl _) _)⟩
    · have gT' : T.size ≤ 16384 := by omega
      have b0 : -2147483648 ≤ k := by omega
      have b1 : k ≤ 8589934592 := by omega
      rw [Sm.seal_ok g0 g1 gT']
      go_enter Try.func15, Try.ntmps15
      go_wp2_with fail
      refine (rkey_any k _ h0 h1).mono ?_
      rintro e w' ⟨rfl, rfl⟩
      go_wp2
      exact bodyPost_ret (v := .tuple #[.agg #[.int .i64 (3 * k + 1), .string T], .int .i64 0]) (by simp [results, Try.results15, go_sem]) rfl ⟨rfl, ((Below.refl _ _).alloc (Nat.le_refl _) _)⟩
  · have g : Sm.keyB k = false := by simpa using g
    rw [show Sm.sl T k = ((0, ⟨#[]⟩), 1) by unfold Sm.sl; rw [if_pos g]; rfl]
    go_enter Try.func15, Try.ntmps15
    go_wp2_with fail
    refine (rkey_any k _ h0 h1).mono ?_
    rintro e w' ⟨rfl, rfl⟩
    go_wp2
    exact bodyPost_ret (v := .tuple #[.agg #[.int .i64 0, .string ⟨#[]⟩], .int .i64 1]) (by simp [results, Try.results15, go_sem]) rfl ⟨rfl, ((Below.refl _ _).alloc (Nat.le_refl _) _)⟩

theorem open_any (L : Int) (T : ByteArray) (k : Int) (w : World) (hT : T.size ≤ 281474976710656) (hL0 : -9223372036854775808 ≤ L) (hL1 : L ≤ 9223372036854775807) (h0 : -9223372036854775808 ≤ k) (h1 : k ≤ 9223372036854775807) :
    Calls Try.prog 16 #[.agg #[.int .i64 L, .string T], .int .i64 k] w fun e w' => e = .returned (Sm.tval (Sm.opn L T k)) ∧ Below w.heap.size w w' := by
  obtain ⟨v, hv⟩ : ∃ v, Sm.valB L T = v := ⟨_, rfl⟩
  have HV := Lib.hid (fun W => hv ▸ valid_any L T W hL0 hL1)
  cases v with
  | false =>
    rw [show Sm.opn L T k = (⟨#[]⟩, 2) by unfold Sm.opn; rw [if_pos hv]; rfl]
    clear hv
    go_enter Try.func16, Try.ntmps16
    go_wp2_with fail
    refine (HV.out _).mono ?_
    rintro e w1 ⟨rfl, hB⟩
    go_wp2
    go_ret2
    exact ⟨rfl, ((Below.refl _ w).alloc (Nat.le_refl _) _).trans (hB.mono (by simp))⟩
  | true =>
    obtain ⟨g, hg⟩ : ∃ g, Sm.keyB k = g := ⟨_, rfl⟩
    have HK := Lib.hid (fun W => hg ▸ kvalid_any k W h0 h1)
    cases g with
    | false =>
      rw [show Sm.opn L T k = (⟨#[]⟩, 1) by unfold Sm.opn; rw [if_neg (by rw [hv]; decide), if_pos hg]; rfl]
      clear hv hg
      go_enter Try.func16, Try.ntmps16
      go_wp2_with fail
      refine (HV.out _).mono ?_
      rintro e w1 ⟨rfl, hB⟩
      go_wp2_with fail
      refine (HK.out _).mono ?_
      rintro e w' ⟨rfl, rfl⟩
      go_wp2
      go_ret2
      exact ⟨rfl, ((Below.refl _ w).alloc (Nat.le_refl _) _).trans (hB.mono (by simp))⟩
    | true =>
      obtain ⟨g0, g1⟩ := Sm.of_keyB hg
      by_cases hk : L = 3 * k + 1
      · have hq : (3 * k + 1 == L) = true := beq_iff_eq.2 hk.symm
        rw [show Sm.opn L T k = (T, 0) by unfold Sm.opn; rw [if_neg (by rw [hv]; decide), if_neg (by rw [hg]; decide), if_neg (by omega)]]
        have HO := Lib.hid (fun W => hq ▸ opens_any k L T W g0 g1)
        clear hv hg hk hq
        go_enter Try.func16, Try.ntmps16
        go_wp2_with fail
        refine (HV.out _).mono ?_
        rintro e w1 ⟨rfl, hB⟩
        obtain ⟨hc, hf⟩ := bcell hB
        go_wp2_with fail
        refine (HK.out _).mono ?_
        rintro e w' ⟨rfl, rfl⟩
        go_wp2_with fail
        refine (HO.out _).mono ?_
        rintro e w2 ⟨rfl, hB2⟩
        obtain ⟨hc2, hf2⟩ := bcell (hB2.mono hB.size)
        go_wp2_with fail
        refine (clone_any T _ hT).mono ?_
        rintro e w3 ⟨rfl, hB3⟩
        go_wp2
        go_ret2
        exact ⟨rfl, (((Below.refl _ w).alloc (Nat.le_refl _) _).trans (hB.mono (by simp))).trans ((hB2.trans (hB3.mono hB2.size)).mono (Nat.le_trans (by simp) hB.size))⟩
      · have hq : (3 * k + 1 == L) = false := beq_eq_false_iff_ne.2 (fun h => hk h.symm)
        rw [show Sm.opn L T k = (⟨#[]⟩, 9) by unfold Sm.opn; rw [if_neg (by rw [hv]; decide), if_neg (by rw [hg]; decide), if_pos hk]; rfl]
        have HO := Lib.hid (fun W => hq ▸ opens_any k L T W g0 g1)
        clear hv hg hk hq
        go_enter Try.func16, Try.ntmps16
        go_wp2_with fail
        refine (HV.out _).mono ?_
        rintro e w1 ⟨rfl, hB⟩
        obtain ⟨hc, hf⟩ := bcell hB
        go_wp2_with fail
        refine (HK.out _).mono ?_
        rintro e w' ⟨rfl, rfl⟩
        go_wp2_with fail
        refine (HO.out _).mono ?_
        rintro e w2 ⟨rfl, hB2⟩
        go_wp2
        go_ret2
        exact ⟨rfl, (((Below.refl _ w).alloc (Nat.le_refl _) _).trans (hB.mono (by simp))).trans (hB2.mono (Nat.le_trans (by simp) hB.size))⟩

theorem ropen_any (L : Int) (T : ByteArray) (k : Int) (w : World) (hL0 : -9223372036854775808 ≤ L) (hL1 : L ≤ 9223372036854775807) (h0 : -9223372036854775808 ≤ k) (h1 : k ≤ 9223372036854775807) :
    Calls Try.prog 17 #[.agg #[.int .i64 L, .string T], .int .i64 k] w fun e w' => e = .returned (Sm.tval (Sm.opn L T k)) ∧ Below w.heap.size w w' := by
  obtain ⟨v, hv⟩ : ∃ v, Sm.valB L T = v := ⟨_, rfl⟩
  have HV := Lib.hid (fun W => hv ▸ rvalid_any L T W hL0 hL1)
  cases v with
  | false =>
    rw [show Sm.opn L T k = (⟨#[]⟩, 2) by unfold Sm.opn; rw [if_pos hv]; rfl]
    clear hv
    go_enter Try.func17, Try.ntmps17
    go_wp2_with fail
    refine (HV.out _).mono ?_
    rintro e w1 ⟨rfl, hB⟩
    go_wp2
    go_ret2
    exact ⟨rfl, ((Below.refl _ w).alloc (Nat.le_refl _) _).trans (hB.mono (by simp))⟩
  | true =>
    obtain ⟨g, hg⟩ : ∃ g, Sm.keyB k = g := ⟨_, rfl⟩
    have HK := Lib.hid (fun W => hg ▸ rkey_any k W h0 h1)
    cases g with
    | false =>
      rw [show Sm.opn L T k = (⟨#[]⟩, 1) by unfold Sm.opn; rw [if_neg (by rw [hv]; decide), if_pos hg]; rfl]
      clear hv hg
      go_enter Try.func17, Try.ntmps17
      go_wp2_with fail
      refine (HV.out _).mono ?_
      rintro e w1 ⟨rfl, hB⟩
      go_wp2_with fail
      refine (HK.out _).mono ?_
      rintro e w' ⟨rfl, rfl⟩
      go_wp2
      go_ret2
      exact ⟨rfl, ((Below.refl _ w).alloc (Nat.le_refl _) _).trans (hB.mono (by simp))⟩
    | true =>
      obtain ⟨g0, g1⟩ := Sm.of_keyB hg
      by_cases hk : L = 3 * k + 1
      · rw [show Sm.opn L T k = (T, 0) by unfold Sm.opn; rw [if_neg (by rw [hv]; decide), if_neg (by rw [hg]; decide), if_neg (by omega)]]
        have hq : (L == 3 * k + 1) = true := beq_iff_eq.2 hk
        have hq2 : (L != 3 * k + 1) = false := by rw [bne, hq]; rfl
        clear hv hg hk
        go_enter Try.func17, Try.ntmps17
        go_wp2_with fail
        refine (HV.out _).mono ?_
        rintro e w1 ⟨rfl, hB⟩
        obtain ⟨hc, hf⟩ := bcell hB
        go_wp2_with fail
        refine (HK.out _).mono ?_
        rintro e w' ⟨rfl, rfl⟩
        go_wp2
        go_ret2
        exact ⟨rfl, ((Below.refl _ w).alloc (Nat.le_refl _) _).trans (hB.mono (by simp))⟩
      · rw [show Sm.opn L T k = (⟨#[]⟩, 9) by unfold Sm.opn; rw [if_neg (by rw [hv]; decide), if_neg (by rw [hg]; decide), if_pos hk]; rfl]
        have hq : (L == 3 * k + 1) = false := beq_eq_false_iff_ne.2 hk
        have hq2 : (L != 3 * k + 1) = true := by rw [bne, hq]; rfl
        clear hv hg
        go_enter Try.func17, Try.ntmps17
        go_wp2_with fail
        refine (HV.out _).mono ?_
        rintro e w1 ⟨rfl, hB⟩
        obtain ⟨hc, hf⟩ := bcell hB
        go_wp2_with fail
        refine (HK.out _).mono ?_
        rintro e w' ⟨rfl, rfl⟩
        go_wp2
        go_ret2
        exact ⟨rfl, ((Below.refl _ w).alloc (Nat.le_refl _) _).trans (hB.mono (by simp))⟩

theorem convergent_any (T : ByteArray) (w : World) (hT : T.size ≤ maxLen) :
    Calls Try.prog 18 #[.string T] w fun e w' => e = .returned (.int .i64 (2 * Dm.sum T.data.toList)) ∧ w = w' := by
  obtain ⟨d, hd⟩ : ∃ d, Dm.sum T.data.toList = d := ⟨_, rfl⟩
  have hl := Dm.sum_lt T.data.toList
  rw [hd] at hl ⊢
  obtain ⟨d0, d1⟩ := hl
  have HS := Lib.hid (fun W => hd ▸ sum_any T W hT)
  clear hd
  go_enter Try.func18, Try.ntmps18
  go_wp2_with fail
  refine (HS.out _).mono ?_
  rintro e w' ⟨rfl, rfl⟩
  go_wp2
  go_ret
  exact ⟨rfl, rfl⟩

theorem rconvergent_any (T : ByteArray) (w : World) (hT : T.size ≤ maxLen) :
    Calls Try.prog 19 #[.string T] w fun e w' => e = .returned (.int .i64 (2 * Dm.sum T.data.toList)) ∧ w = w' := by
  obtain ⟨d, hd⟩ : ∃ d, Dm.sum T.data.toList = d := ⟨_, rfl⟩
  have hl := Dm.sum_lt T.data.toList
  rw [hd] at hl ⊢
  obtain ⟨d0, d1⟩ := hl
  have HS := Lib.hid (fun W => hd ▸ rsum_any T W hT)
  clear hd
  go_enter Try.func19, Try.ntmps19
  go_wp2_with fail
  refine (HS.out _).mono ?_
  rintro e w' ⟨rfl, rfl⟩
  go_wp2
  go_ret
  exact ⟨rfl, rfl⟩

end Go.Proofs.Ytapmdneepinbgaa
