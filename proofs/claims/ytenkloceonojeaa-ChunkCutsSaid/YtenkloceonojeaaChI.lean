/-
  Contracts of Common.
-/
import Derived.Test.YtenkloceonojeaaChH
namespace Go.Proofs.Ytenkloceonojeaa
open Go.RowKit
set_option maxHeartbeats 2000000

/-- what Common answers -/
def Cm.comV (x y : List (List UInt8) × Int) : Int × Int := if x.2 ≠ 0 then (0, x.2) else if y.2 ≠ 0 then (0, y.2) else (Cm.common x.1 y.1, 0)

set_option maxRecDepth 100000 in
theorem common_any (s t : ByteArray) (a b c d : Int) (w : World) (hs : s.size ≤ 16384) (ht : t.size ≤ 16384) :
    Calls Try.prog 21 #[.string s, .string t, .agg #[.int .i64 a, .int .i64 b, .int .i64 c, .int .i64 d]] w
      fun e w' => e = .returned (.tuple #[.int .i64 (Cm.comV (Cm.cutV a b c d s.data.toList) (Cm.cutV a b c d t.data.toList)).1, .int .i64 (Cm.comV (Cm.cutV a b c d s.data.toList) (Cm.cutV a b c d t.data.toList)).2]) ∧ Below w.heap.size w w' := by
  have hg := Cm.cutV_good a b c d s.data.toList
  have hg' := Cm.cutV_good a b c d t.data.toList
  rw [size_list] at hg hg'
  obtain ⟨l, er, hr⟩ : ∃ l er, Cm.cutV a b c d s.data.toList = (l, er) := ⟨_, _, rfl⟩
  obtain ⟨l', er', hr'⟩ : ∃ l er, Cm.cutV a b c d t.data.toList = (l, er) := ⟨_, _, rfl⟩
  have C1 := Lib.hid (fun V => (by have h := cut_any s a b c d V hs; rw [hr] at h; exact h : Calls Try.prog 17 #[.string s, .agg #[.int .i64 a, .int .i64 b, .int .i64 c, .int .i64 d]] V (Cm.Ret V.heap.size V (l, er))))
  have C2 := Lib.hid (fun V => (by have h := cut_any t a b c d V ht; rw [hr'] at h; exact h : Calls Try.prog 17 #[.string t, .agg #[.int .i64 a, .int .i64 b, .int .i64 c, .int .i64 d]] V (Cm.Ret V.heap.size V (l', er'))))
  rw [hr] at hg
  rw [hr'] at hg'
  rw [hr, hr']
  obtain ⟨hl, _, he⟩ := hg
  obtain ⟨hl', _, he'⟩ := hg'
  simp only at hl hl' he he'
  clear hr hr'
  rcases he with rfl | ⟨rfl, he, he0, he4⟩
  · rcases he' with rfl | ⟨rfl, he, he0, he4⟩
    · have hF : Cm.comV (l, 0) (l', 0) = (((Cm.common l l' : Nat) : Int), 0) := by unfold Cm.comV; rw [if_neg (by simp), if_neg (by simp)]
      obtain ⟨R, hR⟩ : ∃ R, Cm.common l l' = R := ⟨_, rfl⟩
      have hR2 : R ≤ 256 := by have := (Cm.com_le l.reverse l'.reverse).1; rw [List.length_reverse] at this; rw [← hR, Cm.common]; omega
      rw [hF, hR]
      unfold Cm.common at hR
      obtain ⟨n, hn⟩ : ∃ n, l.length = n := ⟨_, rfl⟩
      obtain ⟨n', hn'⟩ : ∃ n, l'.length = n := ⟨_, rfl⟩
      have hn2 : n ≤ 256 := by omega
      have hn2' : n' ≤ 256 := by omega
      have HN := Lib.hid hn
      have HN' := Lib.hid hn'
      have HR := Lib.hid hR
      clear hn hn' hl hl' hR hF
      go_enter Try.func21, Try.ntmps21
      go_wp2_with fail
      refine (C1.out _).mono ?_
      rintro e w2 ⟨v, rfl, hown, hB2⟩
      obtain ⟨A, cc, rfl, hci⟩ := own_cells hown
      simp only [HN.out] at hci
      rw [HN.out]
      have x0 := (hB2.cell (p := ⟨w.heap.size, 0, none⟩) (by show w.heap.size < _; simp)).trans (cell_new_at w #[.int .i64 a, .int .i64 b, .int .i64 c, .int .i64 d] 24 w.heap.size rfl 0)
      have x1 := (hB2.cell (p := ⟨w.heap.size, 1, none⟩) (by show w.heap.size < _; simp)).trans (cell_new_at w #[.int .i64 a, .int .i64 b, .int .i64 c, .int .i64 d] 24 w.heap.size rfl 1)
      have x2 := (hB2.cell (p := ⟨w.heap.size, 2, none⟩) (by show w.heap.size < _; simp)).trans (cell_new_at w #[.int .i64 a, .int .i64 b, .int .i64 c, .int .i64 d] 24 w.heap.size rfl 2)
      have x3 := (hB2.cell (p := ⟨w.heap.size, 3, none⟩) (by show w.heap.size < _; simp)).trans (cell_new_at w #[.int .i64 a, .int .i64 b, .int .i64 c, .int .i64 d] 24 w.heap.size rfl 3)
      simp only [List.getElem?_toArray, List.getElem?_cons_succ, List.getElem?_cons_zero] at x0 x1 x2 x3
      have HB2 := Lib.hid (((Below.refl w.heap.size w).alloc (Nat.le_refl _) _).trans (hB2.mono (by simp)))
      have HCI := Lib.hid hci
      clear hci hB2 hown
      go_wp2_with fail
      refine (C2.out _).mono ?_
      rintro e w3 ⟨v, rfl, hown, hB3⟩
      obtain ⟨A', cc', rfl, hci'⟩ := own_cells hown
      simp only [HN'.out] at hci'
      rw [HN'.out]
      have HCJ := Lib.hid (HCI.out.below hB3)
      have HCJ' := Lib.hid hci'
      have HB3 := Lib.hid (HB2.out.trans (hB3.mono HB2.out.size))
      clear hci' hB3 hown x0 x1 x2 x3 HCI HB2
      go_wp2_with fail
      go_loopw [11] (fun i wr => ∃ k : Nat, k ≤ n ∧ k ≤ n' ∧ i = .int .i64 k ∧ k + Cm.com (l.reverse.drop k) (l'.reverse.drop k) = R ∧ ∃ q, wr = w3.drewN q) (fun i wr => n - (intOf i).toNat)
      case atStart => exact ⟨0, by omega, by omega, rfl, by rw [List.drop_zero, List.drop_zero, Nat.zero_add]; exact HR.out, 0, rfl⟩
      case round =>
        obtain ⟨k, hk, hk', rfl, hcom, q, rfl⟩ := hrel
        rw [Cm.com_drop] at hcom
        by_cases h1 : k < n
        · by_cases h2 : k < n'
          · obtain ⟨i, hi⟩ : ∃ i, n - 1 - k = i := ⟨_, rfl⟩
            obtain ⟨i', hi'⟩ : ∃ i, n' - 1 - k = i := ⟨_, rfl⟩
            obtain ⟨g, o, rfl, hgl, hz, g1⟩ := HCJ.out.at (i := i) (by omega)
            obtain ⟨g', o', rfl, hgl', hz', g2⟩ := HCJ'.out.at (i := i') (by omega)
            rw [List.getElem_map] at g1 g2
            have hkl : i < l.length := by rw [HN.out]; omega
            have hkl' : i' < l'.length := by rw [HN'.out]; omega
            have hr1 : k < l.reverse.length ∧ k < l'.reverse.length := by rw [List.length_reverse, List.length_reverse, HN.out, HN'.out]; exact ⟨h1, h2⟩
            have e1 : l.reverse[k]'hr1.1 = l[i] := by rw [List.getElem_reverse]; congr 1; rw [HN.out]; exact hi
            have e2 : l'.reverse[k]'hr1.2 = l'[i'] := by rw [List.getElem_reverse]; congr 1; rw [HN'.out]; exact hi'
            rw [dif_pos hr1, e1, e2] at hcom
            obtain ⟨x, hx⟩ : ∃ x, Cm.b l[i] = x := ⟨_, rfl⟩
            obtain ⟨y, hy⟩ : ∃ y, Cm.b l'[i'] = y := ⟨_, rfl⟩
            unfold Cm.str at g1 g2
            rw [hx] at g1
            rw [hy] at g2
            have j1 : (n : Int) - 1 - (k : Int) = (i : Int) := by omega
            have j2 : (n' : Int) - 1 - (k : Int) = (i' : Int) := by omega
            have j3 : (i : Int) < (n : Int) := by omega
            have j4 : (i' : Int) < (n' : Int) := by omega
            have j5 : (0 : Int) ≤ (i : Int) := by omega
            have j6 : (0 : Int) ≤ (i' : Int) := by omega
            have j7 : (k : Int) < (n : Int) := by omega
            have j8 : (k : Int) < (n' : Int) := by omega
            by_cases hxy : l[i] = l'[i']
            · have hxy2 : x = y := by rw [← hx, ← hy, hxy]
              subst hxy2
              rw [if_pos hxy] at hcom
              have HCom := Lib.hid hcom
              clear hcom e1 e2 hi hi' hkl hkl' hr1 hx hy hxy hz hz' hgl hgl'
              go_wp2_with fail
              go_quiet (fail)
              go_wp2_with fail
              go_roundw
              case rel => exact ⟨k + 1, by omega, by omega, by go_num, by have := HCom.out; omega, _, rfl⟩
              case measure => simp [intOf]; omega
            · have hxy2 : (x.toList == y.toList) = false := str_ne (fun e => hxy (Cm.b_inj (by rw [hx, hy, e])))
              rw [if_neg hxy] at hcom
              obtain rfl : k = R := by omega
              clear hcom e1 e2 hi hi' hkl hkl' hr1 hx hy hxy hz hz' hgl hgl'
              go_wp2_with fail
              go_quiet (fail)
              go_wp2_with fail
              go_ret2
              exact ⟨rfl, HB3.out.trans ⟨rfl, rfl, rfl, Nat.le_refl _, fun _ _ => rfl⟩⟩
          · have j7 : (k : Int) < (n : Int) := by omega
            have d2 : decide ((k : Int) < (n' : Int)) = false := by simp; omega
            rw [dif_neg (by rw [List.length_reverse, List.length_reverse, HN.out, HN'.out]; omega)] at hcom
            obtain rfl : k = R := by omega
            clear hcom
            go_wp2_with fail
            go_quiet (fail)
            go_wp2_with fail
            go_ret2
            exact ⟨rfl, HB3.out.trans ⟨rfl, rfl, rfl, Nat.le_refl _, fun _ _ => rfl⟩⟩
        · have d1 : decide ((k : Int) < (n : Int)) = false := by simp; omega
          rw [dif_neg (by rw [List.length_reverse, List.length_reverse, HN.out, HN'.out]; omega)] at hcom
          obtain rfl : k = R := by omega
          clear hcom
          go_wp2_with fail
          go_quiet (fail)
          go_wp2_with fail
          go_ret2
          exact ⟨rfl, HB3.out.trans ⟨rfl, rfl, rfl, Nat.le_refl _, fun _ _ => rfl⟩⟩
    · have hF : Cm.comV (l, 0) ([], er') = (0, er') := by unfold Cm.comV; rw [if_neg (by simp), if_pos he]
      rw [hF]
      have g0 : (er' == 0) = false := beq_eq_false_iff_ne.2 he
      clear hF hl hl'
      go_enter Try.func21, Try.ntmps21
      go_wp2_with fail
      refine (C1.out _).mono ?_
      rintro e w2 ⟨v, rfl, hown, hB2⟩
      obtain ⟨A, cc, rfl, hci⟩ := own_cells hown
      have x0 := (hB2.cell (p := ⟨w.heap.size, 0, none⟩) (by show w.heap.size < _; simp)).trans (cell_new_at w #[.int .i64 a, .int .i64 b, .int .i64 c, .int .i64 d] 24 w.heap.size rfl 0)
      have x1 := (hB2.cell (p := ⟨w.heap.size, 1, none⟩) (by show w.heap.size < _; simp)).trans (cell_new_at w #[.int .i64 a, .int .i64 b, .int .i64 c, .int .i64 d] 24 w.heap.size rfl 1)
      have x2 := (hB2.cell (p := ⟨w.heap.size, 2, none⟩) (by show w.heap.size < _; simp)).trans (cell_new_at w #[.int .i64 a, .int .i64 b, .int .i64 c, .int .i64 d] 24 w.heap.size rfl 2)
      have x3 := (hB2.cell (p := ⟨w.heap.size, 3, none⟩) (by show w.heap.size < _; simp)).trans (cell_new_at w #[.int .i64 a, .int .i64 b, .int .i64 c, .int .i64 d] 24 w.heap.size rfl 3)
      simp only [List.getElem?_toArray, List.getElem?_cons_succ, List.getElem?_cons_zero] at x0 x1 x2 x3
      have HB2 := Lib.hid (((Below.refl w.heap.size w).alloc (Nat.le_refl _) _).trans (hB2.mono (by simp)))
      clear hci hB2 hown
      go_wp2_with fail
      refine (C2.out _).mono ?_
      rintro e w3 ⟨v, rfl, hown, hB3⟩
      obtain ⟨A', cc', rfl, hci'⟩ := own_cells hown
      have HB3 := Lib.hid (HB2.out.trans (hB3.mono HB2.out.size))
      clear hci' hB3 hown x0 x1 x2 x3 HB2
      go_wp2_with fail
      go_ret2
      exact ⟨rfl, HB3.out⟩
  · have hF : ∀ y, Cm.comV ([], er) y = (0, er) := fun y => by unfold Cm.comV; rw [if_pos he]
    rw [hF]
    have g0 : (er == 0) = false := beq_eq_false_iff_ne.2 he
    clear hF hl hl' he'
    go_enter Try.func21, Try.ntmps21
    go_wp2_with fail
    refine (C1.out _).mono ?_
    rintro e w2 ⟨v, rfl, hown, hB2⟩
    obtain ⟨A, cc, rfl, hci⟩ := own_cells hown
    have HB2 := Lib.hid (((Below.refl w.heap.size w).alloc (Nat.le_refl _) _).trans (hB2.mono (by simp)))
    clear hci hB2 hown
    go_wp2_with fail
    go_ret2
    exact ⟨rfl, HB2.out⟩

set_option maxRecDepth 100000 in
theorem rcommon_any (s t : ByteArray) (a b c d : Int) (w : World) (hs : s.size ≤ 16384) (ht : t.size ≤ 16384) :
    Calls Try.prog 22 #[.string s, .string t, .agg #[.int .i64 a, .int .i64 b, .int .i64 c, .int .i64 d]] w
      fun e w' => e = .returned (.tuple #[.int .i64 (Cm.comV (Cm.cutV a b c d s.data.toList) (Cm.cutV a b c d t.data.toList)).1, .int .i64 (Cm.comV (Cm.cutV a b c d s.data.toList) (Cm.cutV a b c d t.data.toList)).2]) ∧ Below w.heap.size w w' := by
  have hg := Cm.cutV_good a b c d s.data.toList
  have hg' := Cm.cutV_good a b c d t.data.toList
  rw [size_list] at hg hg'
  obtain ⟨l, er, hr⟩ : ∃ l er, Cm.cutV a b c d s.data.toList = (l, er) := ⟨_, _, rfl⟩
  obtain ⟨l', er', hr'⟩ : ∃ l er, Cm.cutV a b c d t.data.toList = (l, er) := ⟨_, _, rfl⟩
  have C1 := Lib.hid (fun V => (by have h := rcut_any s a b c d V hs; rw [hr] at h; exact h : Calls Try.prog 18 #[.string s, .agg #[.int .i64 a, .int .i64 b, .int .i64 c, .int .i64 d]] V (Cm.Ret V.heap.size V (l, er))))
  have C2 := Lib.hid (fun V => (by have h := rcut_any t a b c d V ht; rw [hr'] at h; exact h : Calls Try.prog 18 #[.string t, .agg #[.int .i64 a, .int .i64 b, .int .i64 c, .int .i64 d]] V (Cm.Ret V.heap.size V (l', er'))))
  rw [hr] at hg
  rw [hr'] at hg'
  rw [hr, hr']
  obtain ⟨hl, _, he⟩ := hg
  obtain ⟨hl', _, he'⟩ := hg'
  simp only at hl hl' he he'
  clear hr hr'
  rcases he with rfl | ⟨rfl, he, he0, he4⟩
  · rcases he' with rfl | ⟨rfl, he, he0, he4⟩
    · have hF : Cm.comV (l, 0) (l', 0) = (((Cm.common l l' : Nat) : Int), 0) := by unfold Cm.comV; rw [if_neg (by simp), if_neg (by simp)]
      obtain ⟨R, hR⟩ : ∃ R, Cm.common l l' = R := ⟨_, rfl⟩
      have hR2 : R ≤ 256 := by have := (Cm.com_le l.reverse l'.reverse).1; rw [List.length_reverse] at this; rw [← hR, Cm.common]; omega
      rw [hF, hR]
      unfold Cm.common at hR
      obtain ⟨n, hn⟩ : ∃ n, l.length = n := ⟨_, rfl⟩
      obtain ⟨n', hn'⟩ : ∃ n, l'.length = n := ⟨_, rfl⟩
      have hn2 : n ≤ 256 := by omega
      have hn2' : n' ≤ 256 := by omega
      have HN := Lib.hid hn
      have HN' := Lib.hid hn'
      have HR := Lib.hid hR
      clear hn hn' hl hl' hR hF
      go_enter Try.func22, Try.ntmps22
      go_wp2_with fail
      refine (C1.out _).mono ?_
      rintro e w2 ⟨v, rfl, hown, hB2⟩
      obtain ⟨A, cc, rfl, hci⟩ := own_cells hown
      simp only [HN.out] at hci
      rw [HN.out]
      have x0 := (hB2.cell (p := ⟨w.heap.size, 0, none⟩) (by show w.heap.size < _; simp)).trans (cell_new_at w #[.int .i64 a, .int .i64 b, .int .i64 c, .int .i64 d] 24 w.heap.size rfl 0)
      have x1 := (hB2.cell (p := ⟨w.heap.size, 1, none⟩) (by show w.heap.size < _; simp)).trans (cell_new_at w #[.int .i64 a, .int .i64 b, .int .i64 c, .int .i64 d] 24 w.heap.size rfl 1)
      have x2 := (hB2.cell (p := ⟨w.heap.size, 2, none⟩) (by show w.heap.size < _; simp)).trans (cell_new_at w #[.int .i64 a, .int .i64 b, .int .i64 c, .int .i64 d] 24 w.heap.size rfl 2)
      have x3 := (hB2.cell (p := ⟨w.heap.size, 3, none⟩) (by show w.heap.size < _; simp)).trans (cell_new_at w #[.int .i64 a, .int .i64 b, .int .i64 c, .int .i64 d] 24 w.heap.size rfl 3)
      simp only [List.getElem?_toArray, List.getElem?_cons_succ, List.getElem?_cons_zero] at x0 x1 x2 x3
      have HB2 := Lib.hid (((Below.refl w.heap.size w).alloc (Nat.le_refl _) _).trans (hB2.mono (by simp)))
      have HCI := Lib.hid hci
      clear hci hB2 hown
      go_wp2_with fail
      refine (C2.out _).mono ?_
      rintro e w3 ⟨v, rfl, hown, hB3⟩
      obtain ⟨A', cc', rfl, hci'⟩ := own_cells hown
      simp only [HN'.out] at hci'
      rw [HN'.out]
      have HCJ := Lib.hid (HCI.out.below hB3)
      have HCJ' := Lib.hid hci'
      have HB3 := Lib.hid (HB2.out.trans (hB3.mono HB2.out.size))
      clear hci' hB3 hown x0 x1 x2 x3 HCI HB2
      go_wp2_with fail
      go_loopw [11] (fun i wr => ∃ k : Nat, k ≤ n ∧ k ≤ n' ∧ i = .int .i64 k ∧ k + Cm.com (l.reverse.drop k) (l'.reverse.drop k) = R ∧ ∃ q, wr = w3.drewN q) (fun i wr => n - (intOf i).toNat)
      case atStart => exact ⟨0, by omega, by omega, rfl, by rw [List.drop_zero, List.drop_zero, Nat.zero_add]; exact HR.out, 0, rfl⟩
      case round =>
        obtain ⟨k, hk, hk', rfl, hcom, q, rfl⟩ := hrel
        rw [Cm.com_drop] at hcom
        by_cases h1 : k < n
        · by_cases h2 : k < n'
          · obtain ⟨i, hi⟩ : ∃ i, n - 1 - k = i := ⟨_, rfl⟩
            obtain ⟨i', hi'⟩ : ∃ i, n' - 1 - k = i := ⟨_, rfl⟩
            obtain ⟨g, o, rfl, hgl, hz, g1⟩ := HCJ.out.at (i := i) (by omega)
            obtain ⟨g', o', rfl, hgl', hz', g2⟩ := HCJ'.out.at (i := i') (by omega)
            rw [List.getElem_map] at g1 g2
            have hkl : i < l.length := by rw [HN.out]; omega
            have hkl' : i' < l'.length := by rw [HN'.out]; omega
            have hr1 : k < l.reverse.length ∧ k < l'.reverse.length := by rw [List.length_reverse, List.length_reverse, HN.out, HN'.out]; exact ⟨h1, h2⟩
            have e1 : l.reverse[k]'hr1.1 = l[i] := by rw [List.getElem_reverse]; congr 1; rw [HN.out]; exact hi
            have e2 : l'.reverse[k]'hr1.2 = l'[i'] := by rw [List.getElem_reverse]; congr 1; rw [HN'.out]; exact hi'
            rw [dif_pos hr1, e1, e2] at hcom
            obtain ⟨x, hx⟩ : ∃ x, Cm.b l[i] = x := ⟨_, rfl⟩
            obtain ⟨y, hy⟩ : ∃ y, Cm.b l'[i'] = y := ⟨_, rfl⟩
            unfold Cm.str at g1 g2
            rw [hx] at g1
            rw [hy] at g2
            have j1 : (n : Int) - 1 - (k : Int) = (i : Int) := by omega
            have j2 : (n' : Int) - 1 - (k : Int) = (i' : Int) := by omega
            have j3 : (i : Int) < (n : Int) := by omega
            have j4 : (i' : Int) < (n' : Int) := by omega
            have j5 : (0 : Int) ≤ (i : Int) := by omega
            have j6 : (0 : Int) ≤ (i' : Int) := by omega
            have j7 : (k : Int) < (n : Int) := by omega
            have j8 : (k : Int) < (n' : Int) := by omega
            by_cases hxy : l[i] = l'[i']
            · have hxy2 : x = y := by rw [← hx, ← hy, hxy]
              subst hxy2
              rw [if_pos hxy] at hcom
              have HCom := Lib.hid hcom
              clear hcom e1 e2 hi hi' hkl hkl' hr1 hx hy hxy hz hz' hgl hgl'
              go_wp2_with fail
              go_quiet (fail)
              go_wp2_with fail
              go_roundw
              case rel => exact ⟨k + 1, by omega, by omega, by go_num, by have := HCom.out; omega, _, rfl⟩
              case measure => simp [intOf]; omega
            · have hxy2 : (x.toList == y.toList) = false := str_ne (fun e => hxy (Cm.b_inj (by rw [hx, hy, e])))
              rw [if_neg hxy] at hcom
              obtain rfl : k = R := by omega
              clear hcom e1 e2 hi hi' hkl hkl' hr1 hx hy hxy hz hz' hgl hgl'
              go_wp2_with fail
              go_quiet (fail)
              go_wp2_with fail
              go_ret2
              exact ⟨rfl, HB3.out.trans ⟨rfl, rfl, rfl, Nat.le_refl _, fun _ _ => rfl⟩⟩
          · have j7 : (k : Int) < (n : Int) := by omega
            have d2 : decide ((k : Int) < (n' : Int)) = false := by simp; omega
            rw [dif_neg (by rw [List.length_reverse, List.length_reverse, HN.out, HN'.out]; omega)] at hcom
            obtain rfl : k = R := by omega
            clear hcom
            go_wp2_with fail
            go_quiet (fail)
            go_wp2_with fail
            go_ret2
            exact ⟨rfl, HB3.out.trans ⟨rfl, rfl, rfl, Nat.le_refl _, fun _ _ => rfl⟩⟩
        · have d1 : decide ((k : Int) < (n : Int)) = false := by simp; omega
          rw [dif_neg (by rw [List.length_reverse, List.length_reverse, HN.out, HN'.out]; omega)] at hcom
          obtain rfl : k = R := by omega
          clear hcom
          go_wp2_with fail
          go_quiet (fail)
          go_wp2_with fail
          go_ret2
          exact ⟨rfl, HB3.out.trans ⟨rfl, rfl, rfl, Nat.le_refl _, fun _ _ => rfl⟩⟩
    · have hF : Cm.comV (l, 0) ([], er') = (0, er') := by unfold Cm.comV; rw [if_neg (by simp), if_pos he]
      rw [hF]
      have g0 : (er' == 0) = false := beq_eq_false_iff_ne.2 he
      clear hF hl hl'
      go_enter Try.func22, Try.ntmps22
      go_wp2_with fail
      refine (C1.out _).mono ?_
      rintro e w2 ⟨v, rfl, hown, hB2⟩
      obtain ⟨A, cc, rfl, hci⟩ := own_cells hown
      have x0 := (hB2.cell (p := ⟨w.heap.size, 0, none⟩) (by show w.heap.size < _; simp)).trans (cell_new_at w #[.int .i64 a, .int .i64 b, .int .i64 c, .int .i64 d] 24 w.heap.size rfl 0)
      have x1 := (hB2.cell (p := ⟨w.heap.size, 1, none⟩) (by show w.heap.size < _; simp)).trans (cell_new_at w #[.int .i64 a, .int .i64 b, .int .i64 c, .int .i64 d] 24 w.heap.size rfl 1)
      have x2 := (hB2.cell (p := ⟨w.heap.size, 2, none⟩) (by show w.heap.size < _; simp)).trans (cell_new_at w #[.int .i64 a, .int .i64 b, .int .i64 c, .int .i64 d] 24 w.heap.size rfl 2)
      have x3 := (hB2.cell (p := ⟨w.heap.size, 3, none⟩) (by show w.heap.size < _; simp)).trans (cell_new_at w #[.int .i64 a, .int .i64 b, .int .i64 c, .int .i64 d] 24 w.heap.size rfl 3)
      simp only [List.getElem?_toArray, List.getElem?_cons_succ, List.getElem?_cons_zero] at x0 x1 x2 x3
      have HB2 := Lib.hid (((Below.refl w.heap.size w).alloc (Nat.le_refl _) _).trans (hB2.mono (by simp)))
      clear hci hB2 hown
      go_wp2_with fail
      refine (C2.out _).mono ?_
      rintro e w3 ⟨v, rfl, hown, hB3⟩
      obtain ⟨A', cc', rfl, hci'⟩ := own_cells hown
      have HB3 := Lib.hid (HB2.out.trans (hB3.mono HB2.out.size))
      clear hci' hB3 hown x0 x1 x2 x3 HB2
      go_wp2_with fail
      go_ret2
      exact ⟨rfl, HB3.out⟩
  · have hF : ∀ y, Cm.comV ([], er) y = (0, er) := fun y => by unfold Cm.comV; rw [if_pos he]
    rw [hF]
    have g0 : (er == 0) = false := beq_eq_false_iff_ne.2 he
    clear hF hl hl' he'
    go_enter Try.func22, Try.ntmps22
    go_wp2_with fail
    refine (C1.out _).mono ?_
    rintro e w2 ⟨v, rfl, hown, hB2⟩
    obtain ⟨A, cc, rfl, hci⟩ := own_cells hown
    have HB2 := Lib.hid (((Below.refl w.heap.size w).alloc (Nat.le_refl _) _).trans (hB2.mono (by simp)))
    clear hci hB2 hown
    go_wp2_with fail
    go_ret2
    exact ⟨rfl, HB2.out⟩

end Go.Proofs.Ytenkloceonojeaa
