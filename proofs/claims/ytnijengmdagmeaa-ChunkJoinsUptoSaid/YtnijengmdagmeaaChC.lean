/-
  Contracts of the cursor's take, of Cut and Ends.
-/
import Derived.Test.YtnijengmdagmeaaChB
import Derived.Test.YtnijengmdagmeaaClone
import Derived.Test.YtnijengmdagmeaaKit2
import Derived.Deep.RegionLaw
import Derived.Deep.AppendLies
import Derived.Lib.Builder
namespace Go.Proofs.Ytnijengmdagmeaa
open Go.RowKit
set_option maxHeartbeats 1000000

/-- the cursor: what is left, the chunks -/
def CurAt (B b : Nat) (R : ByteArray) (L : List ByteArray) (w : World) : Prop :=
  B ≤ b ∧ ∃ v, w.heap[b]? = some (.cells #[.string R, v] 57 (0, 0)) ∧ w.ownsRow B 9 1 v L.length (L.map Value.string)

set_option maxRecDepth 100000 in
theorem take_any (B b : Nat) (R : ByteArray) (L : List ByteArray) (k : Nat) (w : World) (h : CurAt B b R L w) (hk : k ≤ R.size) (hR : R.size ≤ 100000) (hL : L.length ≤ 100000) (hBw : B ≤ w.heap.size) :
    Calls Try.prog 30 #[.pointer (some ⟨b, 0, none⟩), .int .i64 (k : Nat)] w fun e w' => e = .returned (.tuple #[]) ∧ CurAt B b (R.extract k R.size) (L ++ [R.extract 0 k]) w' ∧ Below B w w' := by
  obtain ⟨hBb, v, hb, hown⟩ := h
  obtain ⟨i0, hi, hz0, hz1, hz2⟩ := info_parts info_str
  have hbl := lt_of_block hb
  have hne := Lib.ownBlock_ne hown hb (by decide)
  obtain ⟨X, hX⟩ : ∃ X, R.extract 0 k = X := ⟨_, rfl⟩
  have hXs : X.size ≤ 100000 := by rw [← hX, ByteArray.size_extract]; omega
  obtain ⟨Y, hY⟩ : ∃ Y, R.extract k R.size = Y := ⟨_, rfl⟩
  obtain ⟨xs, hxs⟩ : ∃ xs, L.map Value.string = xs := ⟨_, rfl⟩
  obtain ⟨n, hn⟩ : ∃ n, L.length = n := ⟨_, rfl⟩
  have hxs2 : (L ++ [X]).map Value.string = xs ++ [.string X] := by rw [List.map_append, hxs]; rfl
  have hn2 : (L ++ [X]).length = n + 1 := by rw [List.length_append, hn]; rfl
  unfold CurAt
  rw [hX, hY, hxs2, hn2]
  rw [hxs, hn] at hown
  rw [hn] at hL
  have k1 : (0 : Int) ≤ (k : Int) := by omega
  have k2 : (k : Int) ≤ (R.size : Int) := by omega
  have c0 : w.cell? ⟨b, 0, none⟩ = some (.string R) := by simp [World.cell?, hb]
  have c1 : w.cell? ⟨b, 1, none⟩ = some v := by simp [World.cell?, hb]
  have HB := Lib.hid hb
  have HO := Lib.hid hown
  have HN := Lib.hid hne
  have CL := Lib.hid (fun V => clone_any X V (by omega))
  clear hb hown hne hxs hn hxs2 hn2
  go_enter Try.func30, Try.ntmps30
  go_wp2
  go_region_law (first | (go_simp; go_at_call 36; refine (CL.out _).mono ?_; rintro e W2 ⟨rfl, hB2⟩; have c0' := (hB2.cell (p := ⟨b, 0, none⟩) hbl).trans c0; have c1' := (hB2.cell (p := ⟨b, 1, none⟩) hbl).trans c1; have hO2 := Lib.hid (own_below (HO.out.drew) hB2); have hbl2 : b < W2.heap.size := Nat.lt_of_lt_of_le hbl hB2.size; have hBw2 : B ≤ W2.heap.size := Nat.le_trans hBw hB2.size; have hB2 := Lib.hid hB2) | (refine step_append_lies _ rfl (.tmp 8) (.tmp 16) 34 rfl B 9 i0 (.string ByteArray.empty) 1 16 Try.underlying34 hi hz0 hz1 hz2 rfl (by decide) v n xs (by simp [Act.eval, Act.put]) (hO2.out.alloc _) ⟨W2.heap.size, 0, none⟩ 1 1 [.string X] (by simp [Act.eval, Act.put]) rfl (cell_one_new _ _ _) (by simp [Value.oneCell']) (by omega) (by unfold maxLen; omega) (by omega) (by simp <;> omega) _ rfl ?_; intro g cap w3 hown3 hgrow3 hat3 hlt3; have hb3 : w3.heap[b]? = some (.cells #[.string R, v] 57 (0, 0)) := (hgrow3.block b (by simp <;> omega) (fun e => HN.out e.symm)).trans ((Below.heap_alloc _ _ _ hbl2).trans ((hB2.out.block b hbl).trans HB.out)); have d0 : w3.cell? ⟨b, 0, none⟩ = some (.string R) := (by simp [World.cell?, hb3]); have d1 : w3.cell? ⟨b, 1, none⟩ = some v := (by simp [World.cell?, hb3]); have e0 : w3.frozen? ⟨b, 0, none⟩ = false := (by simp [World.frozen?, hb3]); have e1 : w3.frozen? ⟨b, 1, none⟩ = false := (by simp [World.frozen?, hb3]); have HB3 := Lib.hid hb3; have HO3 := Lib.hid hown3; have HG3 := Lib.hid hgrow3; have HA3 := Lib.hid hat3; clear hb3 hown3 hgrow3 hat3))
  all_goals go_wp2
  all_goals go_end0
  all_goals have hne3 := Lib.ownBlock_ne HO3.out HB3.out (by decide)
  all_goals exact ⟨rfl, ⟨hBb, _, two_set0 (two_set1 HB3.out), ownsRow_setCell_other (ownsRow_setCell_other HO3.out hne3 _) hne3 _⟩,
    (((((((Below.refl B w).drew).trans (hB2.out.mono hBw)).alloc hBw2 _).grown HG3.out (by simp <;> omega) (fun g hg => (HO.out.lt g hg).1)).setCell hBb _).setCell hBb _)⟩

end Go.Proofs.Ytnijengmdagmeaa
