/-
  Contracts of seal and of its reference: bytes and names.
-/
import Derived.Test.YtapmdneepinbgaaSealB
namespace Go.Proofs.Ytapmdneepinbgaa
open Go.RowKit
set_option maxHeartbeats 1000000

/-- PutText, the answer under another name, of either program -/
theorem putText_on (s t u : ByteArray) (hu : u.data.toList = s.data.toList ++ Wm.encT t.data.toList) (hs : s.size + t.size ≤ 9223372036854770000) (W : World) :
    Calls Try.prog 41 #[.string s, .string t] W fun e w' => e = .returned (.string u) ∧ Below W.heap.size W w' := by
  have e1 : Wm.str (s.data.toList ++ Wm.encT t.data.toList) = .string u := by
    unfold Wm.str; congr 1; exact bytes_ext (by simp [hu])
  rw [← e1]
  exact putText_any s t W (by omega)
theorem rputText_on (s t u : ByteArray) (hu : u.data.toList = s.data.toList ++ Wm.encT t.data.toList) (hs : s.size + t.size ≤ 9223372036854770000) (W : World) :
    Calls Try.prog 35 #[.string s, .string t] W fun e w' => e = .returned (.string u) ∧ Below W.heap.size W w' := by
  have e1 : Wm.str (s.data.toList ++ Wm.encT t.data.toList) = .string u := by
    unfold Wm.str; congr 1; exact bytes_ext (by simp [hu])
  rw [← e1]
  exact rputText_any s t W hs

theorem encode_any (L : Int) (T : ByteArray) (w : World) (hL0 : -9223372036854775808 ≤ L) (hL1 : L ≤ 9223372036854775807) :
    Calls Try.prog 23 #[.agg #[.int .i64 L, .string T]] w fun e w' => e = .returned (Sm.tval (Sm.enc L T)) ∧ Below w.heap.size w w' := by
  obtain ⟨v, hv⟩ : ∃ v, Sm.valB L T = v := ⟨_, rfl⟩
  have HV := Lib.hid (fun W => hv ▸ valid_any L T W hL0 hL1)
  cases v with
  | false =>
    rw [show Sm.enc L T = (⟨#[]⟩, 2) by unfold Sm.enc; rw [if_pos hv]; rfl]
    clear hv
    go_enter Try.func23, Try.ntmps23
    go_wp2_with fail
    refine (HV.out _).mono ?_
    rintro e w1 ⟨rfl, hB⟩
    go_wp2
    go_ret2
    exact ⟨rfl, ((Below.refl _ w).alloc (Nat.le_refl _) _).trans (hB.mono (by simp))⟩
  | true =>
    rw [Sm.enc_ok hv]
    obtain ⟨_, hT⟩ := Sm.of_valB hv
    obtain ⟨A, hA⟩ : ∃ A : ByteArray, A.data.toList = Wm.encI L := ⟨⟨(Wm.encI L).toArray⟩, by simp⟩
    have hAl : A.size ≤ 10 := by have := (Wm.encI_length L).2; rw [← hA] at this; simpa using this
    obtain ⟨E, hE⟩ : ∃ E : ByteArray, E = ⟨(Sm.bytes L T).toArray⟩ := ⟨_, rfl⟩
    rw [← hE]
    have PA := Lib.hid (put_as L hL0 hL1 A hA)
    have PE := Lib.hid (putText_on A T E (by rw [hE, hA]; simp [Sm.bytes]) (by omega))
    clear hv hA hE
    go_enter Try.func23, Try.ntmps23
    go_wp2_with fail
    refine (HV.out _).mono ?_
    rintro e w1 ⟨rfl, hB⟩
    have hc := (bcell hB).1
    have h1 : ∀ x : Ext w1.heap.size w1, x.1.cell? ⟨w.heap.size, 0, none⟩ = some (.int .i64 L) := fun x => by
      rw [x.2.cell (p := ⟨w.heap.size, 0, none⟩) (by have := hB.size; simp at this; show w.heap.size < _; omega), hc _ _ (by simp)]
      rw [cell_new_at _ _ _ _ rfl]; rfl
    have h2 : ∀ x : Ext w1.heap.size w1, x.1.cell? ⟨w.heap.size, 1, none⟩ = some (.string T) := fun x => by
      rw [x.2.cell (p := ⟨w.heap.size, 1, none⟩) (by have := hB.size; simp at this; show w.heap.size < _; omega), hc _ _ (by simp)]
      rw [cell_new_at _ _ _ _ rfl]; rfl
    clear hc
    go_wp2_with fail
    refine wp_region_below w1.heap.size (by kernel_rfl) (by kernel_rfl) ?_
    repeat (go_big_quiet_step ((first | (go_at_call 42; exact Calls.ext_of _ (Nat.le_refl _) (PA.out _)) | (go_at_call 41; exact Calls.ext_of _ (Nat.le_refl _) (PE.out _)))))
    refine wpQuiet_nil ?_
    intro w2 hB2
    go_wp2
    go_ret2
    exact ⟨rfl, (((Below.refl _ w).alloc (Nat.le_refl _) _).trans (hB.mono (by simp))).trans (hB2.mono (Nat.le_trans (by simp) hB.size))⟩

/-- PutInt of the reference onto nothing -/
theorem rput_as (x : Int) (h0 : -9223372036854775808 ≤ x) (h1 : x ≤ 9223372036854775807) (t : ByteArray) (ht : t.data.toList = Wm.encI x) (W : World) :
    Calls Try.prog 36 #[.string ⟨#[]⟩, .int .i64 x] W fun e w' => e = .returned (.string t) ∧ Below W.heap.size W w' :=
  rput_on ⟨#[]⟩ x h0 h1 t (by rw [ht]; rfl) (by decide) W

theorem rencode_any (L : Int) (T : ByteArray) (w : World) (hL0 : -9223372036854775808 ≤ L) (hL1 : L ≤ 9223372036854775807) :
    Calls Try.prog 20 #[.agg #[.int .i64 L, .string T]] w fun e w' => e = .returned (Sm.tval (Sm.enc L T)) ∧ Below w.heap.size w w' := by
  obtain ⟨v, hv⟩ : ∃ v, Sm.valB L T = v := ⟨_, rfl⟩
  have HV := Lib.hid (fun W => hv ▸ rvalid_any L T W hL0 hL1)
  cases v with
  | false =>
    rw [show Sm.enc L T = (⟨#[]⟩, 2) by unfold Sm.enc; rw [if_pos hv]; rfl]
    clear hv
    go_enter Try.func20, Try.ntmps20
    go_wp2_with fail
    refine (HV.out _).mono ?_
    rintro e w1 ⟨rfl, hB⟩
    go_wp2
    go_ret2
    exact ⟨rfl, ((Below.refl _ w).alloc (Nat.le_refl _) _).trans (hB.mono (by simp))⟩
  | true =>
    rw [Sm.enc_ok hv]
    obtain ⟨_, hT⟩ := Sm.of_valB hv
    obtain ⟨A, hA⟩ : ∃ A : ByteArray, A.data.toList = Wm.encI L := ⟨⟨(Wm.encI L).toArray⟩, by simp⟩
    have hAl : A.size ≤ 10 := by have := (Wm.encI_length L).2; rw [← hA] at this; simpa using this
    obtain ⟨E, hE⟩ : ∃ E : ByteArray, E = ⟨(Sm.bytes L T).toArray⟩ := ⟨_, rfl⟩
    rw [← hE]
    have PA := Lib.hid (rput_as L hL0 hL1 A hA)
    have PE := Lib.hid (rputText_on A T E (by rw [hE, hA]; simp [Sm.bytes]) (by omega))
    clear hv hA hE
    go_enter Try.func20, Try.ntmps20
    go_wp2_with fail
    refine (HV.out _).mono ?_
    rintro e w1 ⟨rfl, hB⟩
    have hc := (bcell hB).1
    have h1 : ∀ x : Ext w1.heap.size w1, x.1.cell? ⟨w.heap.size, 0, none⟩ = some (.int .i64 L) := fun x => by
      rw [x.2.cell (p := ⟨w.heap.size, 0, none⟩) (by have := hB.size; simp at this; show w.heap.size < _; omega), hc _ _ (by simp)]
      rw [cell_new_at _ _ _ _ rfl]; rfl
    have h2 : ∀ x : Ext w1.heap.size w1, x.1.cell? ⟨w.heap.size, 1, none⟩ = some (.string T) := fun x => by
      rw [x.2.cell (p := ⟨w.heap.size, 1, none⟩) (by have := hB.size; simp at this; show w.heap.size < _; omega), hc _ _ (by simp)]
      rw [cell_new_at _ _ _ _ rfl]; rfl
    clear hc
    go_wp2_with fail
    refine wp_region_below w1.heap.size (by kernel_rfl) (by kernel_rfl) ?_
    repeat (go_big_quiet_step ((first | (go_at_call 36; exact Calls.ext_of _ (Nat.le_refl _) (PA.out _)) | (go_at_call 35; exact Calls.ext_of _ (Nat.le_refl _) (PE.out _)))))
    refine wpQuiet_nil ?_
    intro w2 hB2
    go_wp2
    go_ret2
    exact ⟨rfl, (((Below.refl _ w).alloc (Nat.le_refl _) _).trans (hB.mono (by simp))).trans (hB2.mono (Nat.le_trans (by simp) hB.size))⟩

theorem name_any (L : Int) (T : ByteArray) (w : World) (hL0 : -9223372036854775808 ≤ L) (hL1 : L ≤ 9223372036854775807) :
    Calls Try.prog 24 #[.agg #[.int .i64 L, .string T]] w fun e w' => e = .returned (Sm.nval (Sm.name L T)) ∧ Below w.heap.size w w' := by
  obtain ⟨v, hv⟩ : ∃ v, Sm.valB L T = v := ⟨_, rfl⟩
  have HE := Lib.hid (fun W => encode_any L T W hL0 hL1)
  cases v with
  | false =>
    rw [show Sm.name L T = ((0, 0), 2) by unfold Sm.name; rw [if_pos hv]]
    have HR := Lib.hid (show Sm.enc L T = (⟨#[]⟩, 2) by unfold Sm.enc; rw [if_pos hv]; rfl)
    clear hv
    go_enter Try.func24, Try.ntmps24
    go_wp2_with fail
    refine (HE.out _).mono ?_
    rintro e w1 ⟨rfl, hB⟩
    rw [HR.out]
    unfold Sm.tval
    obtain ⟨hc, hf⟩ := bcell hB
    go_wp2
    exact bodyPost_ret (v := .tuple #[.agg #[.int .i64 0, .int .i64 0], .int .i64 2]) (by simp [results, Try.results24, go_sem, hc]) rfl ⟨rfl, (((((Below.refl _ w).alloc (Nat.le_refl _) _).alloc (by simp) _).trans (hB.mono (by simp; omega))).setCell (by simp) _).setCell (by simp) _⟩
  | true =>
    rw [show Sm.name L T = ((Dm.sum (Sm.bytes L T), ((Sm.bytes L T).length : Int)), 0) by unfold Sm.name; rw [if_neg (by rw [hv]; decide)]]
    have hr := Sm.enc_ok hv
    obtain ⟨_, hT⟩ := Sm.of_valB hv
    have hl := Sm.bytes_length L T
    obtain ⟨E, hE⟩ : ∃ E : ByteArray, E = ⟨(Sm.bytes L T).toArray⟩ := ⟨_, rfl⟩
    have hE2 : E.data.toList = Sm.bytes L T := by rw [hE]
    have hE3 : E.size = (Sm.bytes L T).length := by rw [← hE2]; simp
    rw [← hE3] at hl ⊢
    obtain ⟨d, hd⟩ : ∃ d, Dm.sum (Sm.bytes L T) = d := ⟨_, rfl⟩
    rw [hd]
    rw [← hE] at hr
    rw [← hE2] at hd
    have HR := Lib.hid hr
    have HS := Lib.hid (fun W => hd ▸ sum_any E W (by unfold maxLen; omega))
    clear hv hr hE hE2 hE3 hd
    go_enter Try.func24, Try.ntmps24
    go_wp2_with fail
    refine (HE.out _).mono ?_
    rintro e w1 ⟨rfl, hB⟩
    rw [HR.out]
    unfold Sm.tval
    obtain ⟨hc, hf⟩ := bcell hB
    go_wp2_with fail
    refine (HS.out _).mono ?_
    rintro e w' ⟨rfl, rfl⟩
    go_wp2
    exact bodyPost_ret (v := .tuple #[.agg #[.int .i64 d, .int .i64 E.size], .int .i64 0]) (by simp [results, Try.results24, go_sem, hc]) rfl ⟨rfl, (((((Below.refl _ w).alloc (Nat.le_refl _) _).alloc (by simp) _).trans (hB.mono (by simp; omega))).setCell (by simp) _).setCell (by simp) _⟩

theorem rname_any (L : Int) (T : ByteArray) (w : World) (hL0 : -9223372036854775808 ≤ L) (hL1 : L ≤ 9223372036854775807) :
    Calls Try.prog 25 #[.agg #[.int .i64 L, .string T]] w fun e w' => e = .returned (Sm.nval (Sm.name L T)) ∧ Below w.heap.size w w' := by
  obtain ⟨v, hv⟩ : ∃ v, Sm.valB L T = v := ⟨_, rfl⟩
  have HE := Lib.hid (fun W => rencode_any L T W hL0 hL1)
  cases v with
  | false =>
    rw [show Sm.name L T = ((0, 0), 2) by unfold Sm.name; rw [if_pos hv]]
    have HR := Lib.hid (show Sm.enc L T = (⟨#[]⟩, 2) by unfold Sm.enc; rw [if_pos hv]; rfl)
    clear hv
    go_enter Try.func25, Try.ntmps25
    go_wp2_with fail
    refine (HE.out _).mono ?_
    rintro e w1 ⟨rfl, hB⟩
    rw [HR.out]
    unfold Sm.tval
    obtain ⟨hc, hf⟩ := bcell hB
    go_wp2
    exact bodyPost_ret (v := .tuple #[.agg #[.int .i64 0, .int .i64 0], .int .i64 2]) (by simp [results, Try.results25, go_sem, hc]) rfl ⟨rfl, (((((Below.refl _ w).alloc (Nat.le_refl _) _).alloc (by simp) _).trans (hB.mono (by simp; omega))).setCell (by simp) _).setCell (by simp) _⟩
  | true =>
    rw [show Sm.name L T = ((Dm.sum (Sm.bytes L T), ((Sm.bytes L T).length : Int)), 0) by unfold Sm.name; rw [if_neg (by rw [hv]; decide)]]
    have hr := Sm.enc_ok hv
    obtain ⟨_, hT⟩ := Sm.of_valB hv
    have hl := Sm.bytes_length L T
    obtain ⟨E, hE⟩ : ∃ E : ByteArray, E = ⟨(Sm.bytes L T).toArray⟩ := ⟨_, rfl⟩
    have hE2 : E.data.toList = Sm.bytes L T := by rw [hE]
    have hE3 : E.size = (Sm.bytes L T).length := by rw [← hE2]; simp
    rw [← hE3] at hl ⊢
    obtain ⟨d, hd⟩ : ∃ d, Dm.sum (Sm.bytes L T) = d := ⟨_, rfl⟩
    rw [hd]
    rw [← hE] at hr
    rw [← hE2] at hd
    have HR := Lib.hid hr
    have HS := Lib.hid (fun W => hd ▸ rsum_any E W (by unfold maxLen; omega))
    clear hv hr hE hE2 hE3 hd
    go_enter Try.func25, Try.ntmps25
    go_wp2_with fail
    refine (HE.out _).mono ?_
    rintro e w1 ⟨rfl, hB⟩
    rw [HR.out]
    unfold Sm.tval
    obtain ⟨hc, hf⟩ := bcell hB
    go_wp2_with fail
    refine (HS.out _).mono ?_
    rintro e w' ⟨rfl, rfl⟩
    go_wp2
    exact bodyPost_ret (v := .tuple #[.agg #[.int .i64 d, .int .i64 E.size], .int .i64 0]) (by simp [results, Try.results25, go_sem, hc]) rfl ⟨rfl, (((((Below.refl _ w).alloc (Nat.le_refl _) _).alloc (by simp) _).trans (hB.mono (by simp; omega))).setCell (by simp) _).setCell (by simp) _⟩

/-- a text's bytes under their number -/
theorem Sm.str_def (l : List UInt8) : Wm.str l = .string ⟨l.toArray⟩ := rfl

theorem decode_any (s : ByteArray) (i : Int) (w : World) (hs : s.size ≤ 9223372036854775000) :
    Calls Try.prog 21 #[.string s, .int .i64 i] w fun e w' => e = .returned (Sm.dval (Sm.dec s.data.toList i)) ∧ Below w.heap.size w w' := by
  have hlen : s.data.toList.length = s.size := by simp
  rcases Wm.int_cases s.data.toList i with ⟨r, h0, hr⟩ | ⟨x, q, hr, _, _, hq, hx⟩
  · have HF := Lib.hid (show Sm.dec s.data.toList i = ((0, ⟨#[]⟩), 0, r) by unfold Sm.dec; rw [hr]; simp [h0]; rfl)
    have HR := Lib.hid hr
    have g0 : (r == 0) = false := by simpa using h0
    rw [HF.out]
    clear hr h0 hlen HF
    go_enter Try.func21, Try.ntmps21
    go_wp2_with fail
    refine (int_any s i _ (by unfold maxLen; omega)).mono ?_
    rintro e w' ⟨rfl, rfl⟩
    rw [HR.out]
    unfold Wm.val
    go_wp2
    exact bodyPost_ret (v := .tuple #[.agg #[.int .i64 0, .string ⟨#[]⟩], .int .i64 0, .int .i64 r]) (by simp [results, Try.results21, go_sem]) rfl ⟨rfl, ((Below.refl _ w).alloc (Nat.le_refl _) _)⟩
  · rw [hlen] at hq
    have HR := Lib.hid hr
    rcases Sm.text_cases s.data.toList q 16384 with ⟨r, h0, ht⟩ | ⟨t, q2, ht, htl, _, _⟩
    · have HF := Lib.hid (show Sm.dec s.data.toList i = ((0, ⟨#[]⟩), 0, r) by unfold Sm.dec; rw [hr]; simp [ht, h0]; rfl)
      have HT := Lib.hid ht
      have g0 : (r == 0) = false := by simpa using h0
      rw [HF.out]
      clear hr h0 hlen HF ht
      go_enter Try.func21, Try.ntmps21
      go_wp2_with fail
      refine (int_any s i _ (by unfold maxLen; omega)).mono ?_
      rintro e w' ⟨rfl, rfl⟩
      rw [HR.out]
      unfold Wm.val
      go_wp2_with fail
      refine (text_big s q 16384 _ hs (.inr (by decide))).mono ?_
      rintro e w1 ⟨rfl, hB⟩
      rw [HT.out]
      unfold Wm.tval
      rw [Sm.str_def]
      obtain ⟨hc, hf⟩ := bcell hB
      go_wp2
      exact bodyPost_ret (v := .tuple #[.agg #[.int .i64 0, .string ⟨#[]⟩], .int .i64 0, .int .i64 r]) (by simp [results, Try.results21, go_sem, hc]) rfl ⟨rfl, (((((Below.refl _ w).alloc (Nat.le_refl _) _)).trans (hB.mono (by simp))).setCell (Nat.le_refl _) _).setCell (Nat.le_refl _) _⟩
    · obtain ⟨V, hV⟩ : ∃ V : ByteArray, V = ⟨t.toArray⟩ := ⟨_, rfl⟩
      have HT := Lib.hid ht
      obtain ⟨v, hv⟩ : ∃ v, Sm.valB x V = v := ⟨_, rfl⟩
      have HV := Lib.hid (fun W => hv ▸ valid_any x V W hx.1 hx.2)
      cases v with
      | false =>
        have HF := Lib.hid (show Sm.dec s.data.toList i = ((0, ⟨#[]⟩), 0, 2) by unfold Sm.dec; rw [hr]; simp only [ht, ← hV, hv]; rfl)
        rw [HF.out]
        clear hr hlen HF ht hv
        go_enter Try.func21, Try.ntmps21
        go_wp2_with fail
        refine (int_any s i _ (by unfold maxLen; omega)).mono ?_
        rintro e w' ⟨rfl, rfl⟩
        rw [HR.out]
        unfold Wm.val
        go_wp2_with fail
        refine (text_big s q 16384 _ hs (.inr (by decide))).mono ?_
        rintro e w1 ⟨rfl, hB⟩
        rw [HT.out]
        unfold Wm.tval
        rw [Sm.str_def]
        simp only [← hV]
        clear hV
        obtain ⟨hc, hf⟩ := bcell hB
        have hz : w.heap.size < w1.heap.size := by have := hB.size; simp at this; omega
        have hz2 : w.heap.size < w1.heap.size + 1 := by omega
        go_wp2_with fail
        refine (HV.out _).mono ?_
        rintro e w2 ⟨rfl, hB2⟩
        obtain ⟨hc2, hf2⟩ := bcell hB2
        go_wp2
        exact bodyPost_ret (v := .tuple #[.agg #[.int .i64 0, .string ⟨#[]⟩], .int .i64 0, .int .i64 2]) (by simp [results, Try.results21, go_sem, hc, hc2, hz, hz2]) rfl ⟨rfl, (((((((Below.refl _ w).alloc (Nat.le_refl _) _)).trans (hB.mono (by simp))).alloc (by omega) _).trans (hB2.mono (by simp; omega))).setCell (by simp) _).setCell (by simp) _⟩
      | true =>
        have HF := Lib.hid (show Sm.dec s.data.toList i = ((x, V), q2, 0) by unfold Sm.dec; rw [hr]; simp only [ht, ← hV, hv]; rfl)
        rw [HF.out]
        clear hr hlen HF ht hv
        go_enter Try.func21, Try.ntmps21
        go_wp2_with fail
        refine (int_any s i _ (by unfold maxLen; omega)).mono ?_
        rintro e w' ⟨rfl, rfl⟩
        rw [HR.out]
        unfold Wm.val
        go_wp2_with fail
        refine (text_big s q 16384 _ hs (.inr (by decide))).mono ?_
        rintro e w1 ⟨rfl, hB⟩
        rw [HT.out]
        unfold Wm.tval
        rw [Sm.str_def]
        simp only [← hV]
        clear hV
        obtain ⟨hc, hf⟩ := bcell hB
        have hz : w.heap.size < w1.heap.size := by have := hB.size; simp at this; omega
        have hz2 : w.heap.size < w1.heap.size + 1 := by omega
        go_wp2_with fail
        refine (HV.out _).mono ?_
        rintro e w2 ⟨rfl, hB2⟩
        obtain ⟨hc2, hf2⟩ := bcell hB2
        go_wp2
        exact bodyPost_ret (v := .tuple #[.agg #[.int .i64 x, .string V], .int .i64 q2, .int .i64 0]) (by simp [results, Try.results21, go_sem, hc, hc2, hz, hz2]) rfl ⟨rfl, (((((((Below.refl _ w).alloc (Nat.le_refl _) _)).trans (hB.mono (by simp))).alloc (by omega) _).trans (hB2.mono (by simp; omega))).setCell (by simp) _).setCell (by simp) _⟩


theorem rdecode_any (s : ByteArray) (i : Int) (w : World) (hs : s.size ≤ 9223372036854775000) :
    Calls Try.prog 22 #[.string s, .int .i64 i] w fun e w' => e = .returned (Sm.dval (Sm.dec s.data.toList i)) ∧ Below w.heap.size w w' := by
  have hlen : s.data.toList.length = s.size := by simp
  rcases Wm.int_cases s.data.toList i with ⟨r, h0, hr⟩ | ⟨x, q, hr, _, _, hq, hx⟩
  · have HF := Lib.hid (show Sm.dec s.data.toList i = ((0, ⟨#[]⟩), 0, r) by unfold Sm.dec; rw [hr]; simp [h0]; rfl)
    have HR := Lib.hid hr
    have g0 : (r == 0) = false := by simpa using h0
    rw [HF.out]
    clear hr h0 hlen HF
    go_enter Try.func22, Try.ntmps22
    go_wp2_with fail
    refine (rint_any s i _ (by omega)).mono ?_
    rintro e w' ⟨rfl, rfl⟩
    rw [HR.out]
    unfold Wm.val
    go_wp2
    exact bodyPost_ret (v := .tuple #[.agg #[.int .i64 0, .string ⟨#[]⟩], .int .i64 0, .int .i64 r]) (by simp [results, Try.results22, go_sem]) rfl ⟨rfl, ((Below.refl _ w).alloc (Nat.le_refl _) _)⟩
  · rw [hlen] at hq
    have HR := Lib.hid hr
    rcases Sm.text_cases s.data.toList q 16384 with ⟨r, h0, ht⟩ | ⟨t, q2, ht, htl, _, _⟩
    · have HF := Lib.hid (show Sm.dec s.data.toList i = ((0, ⟨#[]⟩), 0, r) by unfold Sm.dec; rw [hr]; simp [ht, h0]; rfl)
      have HT := Lib.hid ht
      have g0 : (r == 0) = false := by simpa using h0
      rw [HF.out]
      clear hr h0 hlen HF ht
      go_enter Try.func22, Try.ntmps22
      go_wp2_with fail
      refine (rint_any s i _ (by omega)).mono ?_
      rintro e w' ⟨rfl, rfl⟩
      rw [HR.out]
      unfold Wm.val
      go_wp2_with fail
      refine (rtext_any s q 16384 _ (by omega)).mono ?_
      rintro e w1 ⟨rfl, rfl⟩
      rw [HT.out]
      unfold Wm.tval
      rw [Sm.str_def]
      skip
      go_wp2
      exact bodyPost_ret (v := .tuple #[.agg #[.int .i64 0, .string ⟨#[]⟩], .int .i64 0, .int .i64 r]) (by simp [results, Try.results22, go_sem]) rfl ⟨rfl, (Below.refl _ w).alloc (Nat.le_refl _) _⟩
    · obtain ⟨V, hV⟩ : ∃ V : ByteArray, V = ⟨t.toArray⟩ := ⟨_, rfl⟩
      have HT := Lib.hid ht
      obtain ⟨v, hv⟩ : ∃ v, Sm.valB x V = v := ⟨_, rfl⟩
      have HV := Lib.hid (fun W => hv ▸ rvalid_any x V W hx.1 hx.2)
      cases v with
      | false =>
        have HF := Lib.hid (show Sm.dec s.data.toList i = ((0, ⟨#[]⟩), 0, 2) by unfold Sm.dec; rw [hr]; simp only [ht, ← hV, hv]; rfl)
        rw [HF.out]
        clear hr hlen HF ht hv
        go_enter Try.func22, Try.ntmps22
        go_wp2_with fail
        refine (rint_any s i _ (by omega)).mono ?_
        rintro e w' ⟨rfl, rfl⟩
        rw [HR.out]
        unfold Wm.val
        go_wp2_with fail
        refine (rtext_any s q 16384 _ (by omega)).mono ?_
        rintro e w1 ⟨rfl, rfl⟩
        rw [HT.out]
        unfold Wm.tval
        rw [Sm.str_def]
        simp only [← hV]
        clear hV
        skip
        go_wp2_with fail
        refine (HV.out _).mono ?_
        rintro e w2 ⟨rfl, hB2⟩
        obtain ⟨hc2, hf2⟩ := bcell hB2
        have c0 := hc2 w.heap.size 0 (by simp; omega)
        have c1 := hc2 w.heap.size 1 (by simp; omega)
        rw [World.cell?_alloc_lt _ _ _ (by simp), cell_new_at _ _ _ _ rfl] at c0 c1
        simp only [List.getElem?_toArray, List.getElem?_cons_zero, List.getElem?_cons_succ] at c0 c1
        go_wp2
        exact bodyPost_ret (v := .tuple #[.agg #[.int .i64 0, .string ⟨#[]⟩], .int .i64 0, .int .i64 2]) (by simp [results, Try.results22, go_sem, c0, c1]) rfl ⟨rfl, (((((Below.refl _ w).alloc (Nat.le_refl _) _).alloc (by simp) _).trans (hB2.mono (by simp; omega))).setCell (by simp) _).setCell (by simp) _⟩
      | true =>
        have HF := Lib.hid (show Sm.dec s.data.toList i = ((x, V), q2, 0) by unfold Sm.dec; rw [hr]; simp only [ht, ← hV, hv]; rfl)
        rw [HF.out]
        clear hr hlen HF ht hv
        go_enter Try.func22, Try.ntmps22
        go_wp2_with fail
        refine (rint_any s i _ (by omega)).mono ?_
        rintro e w' ⟨rfl, rfl⟩
        rw [HR.out]
        unfold Wm.val
        go_wp2_with fail
        refine (rtext_any s q 16384 _ (by omega)).mono ?_
        rintro e w1 ⟨rfl, rfl⟩
        rw [HT.out]
        unfold Wm.tval
        rw [Sm.str_def]
        simp only [← hV]
        clear hV
        skip
        go_wp2_with fail
        refine (HV.out _).mono ?_
        rintro e w2 ⟨rfl, hB2⟩
        obtain ⟨hc2, hf2⟩ := bcell hB2
        have c0 := hc2 w.heap.size 0 (by simp; omega)
        have c1 := hc2 w.heap.size 1 (by simp; omega)
        rw [World.cell?_alloc_lt _ _ _ (by simp), cell_new_at _ _ _ _ rfl] at c0 c1
        simp only [List.getElem?_toArray, List.getElem?_cons_zero, List.getElem?_cons_succ] at c0 c1
        go_wp2
        exact bodyPost_ret (v := .tuple #[.agg #[.int .i64 x, .string V], .int .i64 q2, .int .i64 0]) (by simp [results, Try.results22, go_sem, c0, c1]) rfl ⟨rfl, (((((Below.refl _ w).alloc (Nat.le_refl _) _).alloc (by simp) _).trans (hB2.mono (by simp; omega))).setCell (by simp) _).setCell (by simp) _⟩


end Go.Proofs.Ytapmdneepinbgaa
