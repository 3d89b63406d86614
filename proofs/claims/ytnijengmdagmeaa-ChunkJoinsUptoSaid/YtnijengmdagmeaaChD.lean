/-
  Contracts of Cut and Ends.
-/
import Derived.Test.YtnijengmdagmeaaChC
import Derived.Deep.LoopGhost
namespace Go.Proofs.Ytnijengmdagmeaa
open Go.RowKit
set_option maxHeartbeats 1000000

/-- a text as a string -/
def Cm.b (x : List UInt8) : ByteArray := ⟨x.toArray⟩
theorem Cm.b_list (x : List UInt8) : (Cm.b x).data.toList = x := by simp [Cm.b]
theorem Cm.b_of (s : ByteArray) : Cm.b s.data.toList = s := bytes_ext (Cm.b_list _)
theorem Cm.b_eq {s : ByteArray} {x : List UInt8} (h : s.data.toList = x) : s = Cm.b x := by rw [← h, Cm.b_of]
def Cm.str (x : List UInt8) : Value := .string (Cm.b x)
/-- what Cut answers at a valid cutting -/
def Cm.cutR (c : Cm.C) (s : List UInt8) : List (List UInt8) × Int := if (Cm.cut c s).length ≤ 256 then (Cm.cut c s, 0) else ([], 4)
/-- what Cut answers -/
def Cm.cutV (a b c d : Int) (s : List UInt8) : List (List UInt8) × Int := if Cm.okB a b c d then Cm.cutR ⟨a.toNat, b.toNat, c.toNat, d.toNat⟩ s else ([], 1)
theorem Cm.ok_of {a b c d : Int} (h : Cm.okB a b c d = true) : Cm.C.ok ⟨a.toNat, b.toNat, c.toNat, d.toNat⟩ ∧ Value.agg #[.int .i64 a, .int .i64 b, .int .i64 c, .int .i64 d] = (Cm.C.mk a.toNat b.toNat c.toNat d.toNat).val := by
  unfold Cm.okB at h
  have h := of_decide_eq_true h
  refine ⟨⟨?_, ?_, ?_, ?_, ?_, ?_, ?_⟩, ?_⟩
  all_goals first | (simp only; omega) | skip
  unfold Cm.C.val Cm.C.cells
  simp only
  rw [show ((a.toNat : Nat) : Int) = a by omega, show ((b.toNat : Nat) : Int) = b by omega, show ((c.toNat : Nat) : Int) = c by omega, show ((d.toNat : Nat) : Int) = d by omega]

/-- a list of texts and an error, as an answer -/
def Cm.Ret (B : Nat) (w : World) (r : List (List UInt8) × Int) (e : Ending) (w' : World) : Prop :=
  ∃ v, e = .returned (.tuple #[v, .int .i64 r.2]) ∧ w'.ownsRow B 9 1 v r.1.length (r.1.map Cm.str) ∧ Below B w w'

theorem size_list (s : ByteArray) : s.data.toList.length = s.size := by simp

theorem CurAt.below {B b : Nat} {R : ByteArray} {L : List ByteArray} {w w' : World} (h : CurAt B b R L w) (hb : Below w.heap.size w w') (_ : B ≤ w.heap.size) : CurAt B b R L w' := by
  obtain ⟨h1, v, h2, h3⟩ := h
  exact ⟨h1, v, (hb.block b (lt_of_block h2)).trans h2, own_below h3 hb⟩
theorem own_strs {w : World} {B : Nat} {v : Value} {P : List (List UInt8)} (h : w.ownsRow B 9 1 v (P.map Cm.b).length ((P.map Cm.b).map Value.string)) : w.ownsRow B 9 1 v P.length (P.map Cm.str) := by
  rw [List.length_map, List.map_map] at h
  exact h
set_option maxRecDepth 100000 in
theorem cut_ok (s : ByteArray) (c : Cm.C) (w : World) (hc : c.ok) (hs : s.size ≤ 16384) :
    Calls Try.prog 16 #[.string s, c.val] w (Cm.Ret w.heap.size w (Cm.cutR c s.data.toList)) := by
  obtain ⟨r, hr⟩ : ∃ r, Cm.cutR c s.data.toList = r := ⟨_, rfl⟩
  rw [hr]
  have HR := Lib.hid hr
  clear hr
  have hchk : Cm.chk c.L c.M c.W c.K = 0 := by
    unfold Cm.chk Cm.okB
    have h1 := hc.l4; have h2 := hc.lm; have h3 := hc.m256; have h4 := hc.w1; have h5 := hc.wl; have h6 := hc.k1; have h7 := hc.k1024
    rw [if_pos]; simp; omega
  have CK := Lib.hid (fun V => hchk ▸ check_any c.L c.M c.W c.K V)
  have HC := Lib.hid hc
  clear hchk hc
  unfold Cm.C.val Cm.C.cells
  obtain ⟨L, M, W, K⟩ := c
  simp only
  simp only at CK HR
  go_enter Try.func16, Try.ntmps16
  go_wp2_with fail
  refine (CK.out _).mono ?_
  rintro e w2 ⟨rfl, hB2⟩
  go_wp2_with fail
  obtain ⟨B, hB⟩ : ∃ B, w.heap.size = B := ⟨_, rfl⟩
  obtain ⟨b, hb⟩ : ∃ b, w2.heap.size = b := ⟨_, rfl⟩
  have hBb : B + 1 ≤ b := by have := hB2.size; simp at this; omega
  have hx : ∀ j v, (#[Value.int .i64 L, .int .i64 M, .int .i64 W, .int .i64 K] : Array Value)[j]? = some v → w2.cell? ⟨B, j, none⟩ = some v := fun j v h => by
    rw [hB2.cell (p := ⟨B, j, none⟩) (by show B < _; simp; omega), cell_new_at _ _ _ _ hB.symm, h]
  have hcur : CurAt (B + 1) b s [] (w2.alloc (.cells #[.string s, .slice none 0 0] 57)) := ⟨hBb, _, by rw [← hb]; exact heap_alloc_new _ _, World.ownsRow_nil _ _ _ _⟩
  have hBB : Below B w (w2.alloc (.cells #[.string s, .slice none 0 0] 57)) := ((((Below.refl B w).alloc (by omega) _).trans (hB2.mono (by simp; omega))).alloc (by omega) _)
  have hsz : b + 1 ≤ (w2.alloc (.cells #[.string s, .slice none 0 0] 57)).heap.size := by simp [hb]
  have hx3 : ∀ j v, (#[Value.int .i64 L, .int .i64 M, .int .i64 W, .int .i64 K] : Array Value)[j]? = some v → (w2.alloc (.cells #[.string s, .slice none 0 0] 57)).cell? ⟨B, j, none⟩ = some v := fun j v h => by
    rw [← hx j v h]; exact World.cell?_alloc_lt _ _ _ (by show B < _; omega)
  rw [hB, hb]
  generalize w2.alloc (.cells #[.string s, .slice none 0 0] 57) = w3 at hcur hBB hx3 hsz ⊢
  have HX := Lib.hid hx3
  have HCUR := Lib.hid hcur
  have HBB := Lib.hid hBB
  have HSZ := Lib.hid hsz
  have HS := Lib.hid hB
  clear hB2 hx hx3 hcur hBB hsz hB hb CK
  obtain ⟨l, hl⟩ : ∃ l, s.data.toList = l := ⟨_, rfl⟩
  have hls : l.length = s.size := by rw [← hl]; exact size_list s
  have HL := Lib.hid hl
  have HLS := Lib.hid hls
  clear hl hls
  go_loopg [] s.size (fun k wr => ∃ (R : ByteArray) (P : List (List UInt8)), R.size = k ∧ P.length ≤ 256 ∧ CurAt (B + 1) b R (P.map Cm.b) wr ∧ Below (B + 1) w3 wr ∧ P ++ Cm.cut ⟨L, M, W, K⟩ R.data.toList = Cm.cut ⟨L, M, W, K⟩ l ∧ R.size ≤ 16384)
  case atStart => exact ⟨s, [], rfl, by simp, HCUR.out, Below.refl _ _, by rw [HL.out]; rfl, hs⟩
  case round =>
    obtain ⟨R, P, rfl, hP, ⟨_, v, hb, hown⟩, hBr, hcut, hR⟩ := hrel
    have x0 := (hBr.cell (p := ⟨B, 0, none⟩) (by show B < _; omega)).trans (HX.out 0 _ rfl)
    have x1 := (hBr.cell (p := ⟨B, 1, none⟩) (by show B < _; omega)).trans (HX.out 1 _ rfl)
    have x2 := (hBr.cell (p := ⟨B, 2, none⟩) (by show B < _; omega)).trans (HX.out 2 _ rfl)
    have x3 := (hBr.cell (p := ⟨B, 3, none⟩) (by show B < _; omega)).trans (HX.out 3 _ rfl)
    have c0 : wr.cell? ⟨b, 0, none⟩ = some (.string R) := by simp [World.cell?, hb]
    have hsr : b + 1 ≤ wr.heap.size := Nat.le_trans HSZ.out hBr.size
    obtain ⟨n, hn⟩ : ∃ n, P.length = n := ⟨_, rfl⟩
    have hnL : (P.map Cm.b).length = n := by rw [List.length_map, hn]
    obtain ⟨A, cap, rfl⟩ := own_slice hown
    rw [hnL] at hb
    have c1 : wr.cell? ⟨b, 1, none⟩ = some (.slice A n cap) := by simp [World.cell?, hb]
    have hl := HLS.out
    by_cases h0 : R.size = 0
    · obtain rfl : R = ByteArray.empty := ByteArray.ext (Array.eq_empty_of_size_eq_zero h0)
      have hcut0 : P = Cm.cut ⟨L, M, W, K⟩ l := by rw [← hcut]; exact (List.append_nil _).symm
      have hF : (P, 0) = r := by rw [← HR.out, HL.out]; unfold Cm.cutR; rw [← hcut0, if_pos hP]
      subst hF
      have HO := Lib.hid hown
      have HBr := Lib.hid hBr
      have HN := Lib.hid hnL
      clear hcut hcut0 hown hBr hb h0 hl hn hnL
      go_wp2
      go_ret2
      refine ⟨.slice A n cap, rfl, ?_, ?_⟩
      · have h := own_mono (own_strs HO.out) (Nat.le_succ B)
        rw [HN.out] at h
        rw [HS.out]; exact h
      · rw [HS.out]; exact HBB.out.trans (HBr.out.mono (Nat.le_succ B))
    · have hne : R.toList.isEmpty = false := by
        rw [ByteArray.toList_eq, ← Bool.not_eq_true, List.isEmpty_iff]
        exact fun e => h0 (by rw [← size_list, e]; rfl)
      have hne2 : R.data.toList ≠ [] := fun e => h0 (by rw [← size_list, e]; rfl)
      have hcc := Cm.cut_cons HC.out hne2
      by_cases h256 : n = 256
      · have hF : ([], 4) = r := by
          rw [← HR.out, HL.out]; unfold Cm.cutR; rw [← hcut, hcc, if_neg (by simp; omega)]
        subst hF
        have g1 : ((n : Int) == 256) = true := beq_iff_eq.2 (by omega)
        have HBr := Lib.hid hBr
        clear hcut hown hBr hb hl hn hnL hne2 hcc
        go_wp2
        go_ret2
        refine ⟨.slice none 0 0, rfl, World.ownsRow_nil _ _ _ _, ?_⟩
        first | exact HBB.out.trans (HBr.out.mono (Nat.le_succ B)) | (rw [HS.out]; exact HBB.out.trans (HBr.out.mono (Nat.le_succ B)))
      · have g1 : ((n : Int) == 256) = false := beq_eq_false_iff_ne.2 (by omega)
        obtain ⟨q, hq⟩ : ∃ q, Cm.fl ⟨L, M, W, K⟩ R.data.toList = q := ⟨_, rfl⟩
        have hq1 := Cm.fl_len ⟨L, M, W, K⟩ R.data.toList
        have hq0 := Cm.fl_pos HC.out hne2
        rw [hq] at hq0 hq1 hcc
        rw [size_list] at hq1
        have F1 := Lib.hid (fun V => hq ▸ first_any R ⟨L, M, W, K⟩ V HC.out (by omega))
        unfold Cm.C.val Cm.C.cells at F1
        simp only at F1
        have HCU := Lib.hid (show CurAt (B + 1) b R (P.map Cm.b) wr from ⟨by omega, _, by rw [hnL]; exact hb, hown⟩)
        have hlm : (P.map Cm.b).length ≤ 100000 := by omega
        have HP2 := Lib.hid (show P.length + 1 ≤ 256 by omega)
        have HBr := Lib.hid hBr
        have HCut := Lib.hid hcut
        have HCC := Lib.hid hcc
        clear hcut hown hBr hb hl hn hnL hne2 hcc hq
        go_wp2_with fail
        refine (F1.out _).mono ?_
        rintro e w4 ⟨rfl, hB4⟩
        have HCU4 := Lib.hid (HCU.out.below hB4 (by omega))
        have HB4 := Lib.hid (HBr.out.trans (hB4.mono (by omega)))
        have hs4 := hB4.size
        clear hB4
        go_wp2_with fail
        refine (take_any (B + 1) b R (P.map Cm.b) q _ HCU4.out hq1 (by omega) hlm (by omega)).mono ?_
        rintro e w5 ⟨rfl, hC5, hB5⟩
        have HC5 := Lib.hid hC5
        have HB5 := Lib.hid (HB4.out.trans hB5)
        clear hC5 hB5
        go_wp2_with fail
        have e1 : R.extract 0 q = Cm.b (R.data.toList.take q) := Cm.b_eq (Cm.take_list R q)
        have e2 : (R.extract q R.size).size = R.size - q := by rw [ByteArray.size_extract]; omega
        go_roundg (R.size - q)
        case measure => omega
        case rel =>
          refine ⟨R.extract q R.size, P ++ [R.data.toList.take q], e2, by rw [List.length_append, List.length_singleton]; exact HP2.out, ?_, HB5.out, ?_, by omega⟩
          · rw [List.map_append, List.map_singleton, ← e1]; exact HC5.out
          · rw [Cm.drop_list, List.append_assoc, ← HCut.out, HCC.out]; rfl

set_option maxRecDepth 100000 in
theorem cut_bad (s : ByteArray) (a b c d : Int) (w : World) (hc : Cm.okB a b c d = false) :
    Calls Try.prog 16 #[.string s, .agg #[.int .i64 a, .int .i64 b, .int .i64 c, .int .i64 d]] w (Cm.Ret w.heap.size w ([], 1)) := by
  have hchk : Cm.chk a b c d = 1 := by unfold Cm.chk; rw [hc]; rfl
  have CK := Lib.hid (fun V => hchk ▸ check_any a b c d V)
  clear hchk hc
  go_enter Try.func16, Try.ntmps16
  go_wp2_with fail
  refine (CK.out _).mono ?_
  rintro e w2 ⟨rfl, hB2⟩
  go_wp2_with fail
  go_ret2
  exact ⟨.slice none 0 0, rfl, World.ownsRow_nil _ _ _ _, ((Below.refl _ _).alloc (Nat.le_refl _) _).trans (hB2.mono (by simp))⟩

/-- Cut -/
theorem cut_any (s : ByteArray) (a b c d : Int) (w : World) (hs : s.size ≤ 16384) :
    Calls Try.prog 16 #[.string s, .agg #[.int .i64 a, .int .i64 b, .int .i64 c, .int .i64 d]] w (Cm.Ret w.heap.size w (Cm.cutV a b c d s.data.toList)) := by
  unfold Cm.cutV
  cases hc : Cm.okB a b c d with
  | false => exact cut_bad s a b c d w hc
  | true =>
    obtain ⟨h1, h2⟩ := Cm.ok_of hc
    rw [h2]
    exact cut_ok s _ w h1 hs


end Go.Proofs.Ytnijengmdagmeaa
