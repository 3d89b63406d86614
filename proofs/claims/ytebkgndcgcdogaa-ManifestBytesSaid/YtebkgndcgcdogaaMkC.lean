/-
  Contract of the statements' package's Cutting.
-/
import Derived.Test.YtebkgndcgcdogaaMk
import Derived.Test.YtebkgndcgcdogaaChB
import Derived.Deep.RegionHeld3
import Derived.Deep.RegionLaw
namespace Go.Proofs.Ytebkgndcgcdogaa
open Go.RowKit
set_option maxHeartbeats 2000000

theorem DeckIn.drew {w0 w : World} {A : Option Addr} {n c g : Nat} (h : DeckIn w0 A n c g w) : DeckIn w0 A n c g w.drew := ⟨h.1.drew, h.2.1, h.2.2⟩
theorem DeckIn.lt {w0 w : World} {A : Option Addr} {n c g : Nat} (h : DeckIn w0 A n c g w) : g < w.heap.size := by
  obtain ⟨_, _, _, _, h⟩ := h; exact lt_of_block h
theorem DeckIn.alloc {w0 w : World} {A : Option Addr} {n c g : Nat} (h : DeckIn w0 A n c g w) (o : Obj) : DeckIn w0 A n c g (w.alloc o) := by
  have hl := h.lt
  obtain ⟨h1, h2, k, hk, h3⟩ := h
  exact ⟨h1.alloc h1.size _, h2, k, hk, (Below.heap_alloc _ _ _ hl).trans h3⟩
theorem DeckIn.setCell {w0 w : World} {A : Option Addr} {n c g : Nat} (h : DeckIn w0 A n c g w) {a : Addr} (ha : a.block ≠ g) (hb : w0.heap.size ≤ a.block) (v : Value) : DeckIn w0 A n c g (w.setCell a v) := by
  obtain ⟨h1, h2, k, hk, h3⟩ := h
  exact ⟨h1.setCell hb _, h2, k, hk, (Below.heap_setCell _ _ _ _ (fun e => ha e.symm)).trans h3⟩

/-- a cutting in a block of its own, as the walk wants it -/
def CutB (cb : Nat) (L a b d : Int) (w : World) : Prop := w.heap[cb]? = some (.cells #[.int .i64 L, .int .i64 a, .int .i64 b, .int .i64 d] 67 (0, 0))
def CutS (cb : Nat) (L a b d : Int) (w : World) : Prop :=
  w.cell? ⟨cb, 0, none⟩ = some (.int .i64 L) ∧ w.cell? ⟨cb, 1, none⟩ = some (.int .i64 a) ∧ w.cell? ⟨cb, 2, none⟩ = some (.int .i64 b) ∧ w.cell? ⟨cb, 3, none⟩ = some (.int .i64 d) ∧
    w.frozen? ⟨cb, 1, none⟩ = false ∧ w.frozen? ⟨cb, 2, none⟩ = false ∧ w.frozen? ⟨cb, 3, none⟩ = false
theorem cell0_set {w : World} {cb j : Nat} {v : Value} (h : j ≠ 0) : (w.setCell ⟨cb, j, none⟩ v).cell? ⟨cb, 0, none⟩ = w.cell? ⟨cb, 0, none⟩ :=
  World.cell?_setCell_other _ _ _ _ (by intro e; injection e with _ e2; omega)
theorem CutB.s {cb : Nat} {L a b d : Int} {w : World} (h : CutB cb L a b d w) : CutS cb L a b d w := by
  unfold CutB at h
  refine ⟨?_, ?_, ?_, ?_, ?_, ?_, ?_⟩ <;> simp [World.cell?, World.frozen?, h]
theorem CutB.same {cb g : Nat} {L a b d : Int} {w w' : World} (h : CutB cb L a b d w) (hs : SameBut g w w') (hne : cb ≠ g) : CutB cb L a b d w' := (hs.2 cb hne).trans h
theorem CutB.drew {cb : Nat} {L a b d : Int} {w : World} (h : CutB cb L a b d w) : CutB cb L a b d w.drew := h

set_option maxRecDepth 100000 in
/-- a valid cutting, whichever -/
theorem cutting_any (A : Option Addr) (n c : Nat) (z : List Int) (g : Nat) (w0 w : World) (hz : IntsIn .i64 w0 A n c z) (hn : n ≤ 17592186044416) (hd : DeckIn w0 A n c g w) :
    Calls Try.prog 39 #[.pointer (some ⟨g, 0, none⟩)] w fun e w' => ∃ k : Cm.C, e = .returned k.val ∧ k.ok ∧ DeckIn w0 A n c g w' := by
  have N1 := Lib.hid (fun W m h m0 m1 => next_any A n c z g w0 W m hz hn h m0 m1)
  clear hz
  go_enter Try.func39, Try.ntmps39
  go_wp2_with fail
  refine (N1.out _ _ (hd.alloc _) (by omega) (by omega)).mono ?_
  rintro e w1 ⟨x, rfl, hx, hd1, hs1⟩
  go_wp2_with fail
  obtain ⟨L, hL⟩ : ∃ L : Nat, L = 4 + x := ⟨_, rfl⟩
  have hL2 : (4 : Int) + (x : Int) = (L : Int) := by omega
  have hL3 : 4 ≤ L := by omega
  have hL4 : L ≤ 9 := by omega
  rw [hL2]
  have hg1 := hd1.lt
  obtain ⟨cb, hcb⟩ : ∃ cb, w1.heap.size = cb := ⟨_, rfl⟩
  have hcg : cb ≠ g := by omega
  have hD0 := hd1.alloc (.cells #[Value.int .i64 (L : Nat), .int .i64 0, .int .i64 0, .int .i64 0] 67)
  have hB0 : CutB cb L 0 0 0 (w1.alloc (.cells #[Value.int .i64 (L : Nat), .int .i64 0, .int .i64 0, .int .i64 0] 67)) := by rw [← hcb]; exact heap_alloc_new _ _
  have hwc : w.heap.size < cb := by have := hs1.1; simp at this; omega
  have hrb : w.heap.size ≠ g := by have := hd.lt; omega
  have hw0 : w0.heap.size ≤ w.heap.size := hd.1.size
  have hr0 : (w1.alloc (.cells #[Value.int .i64 (L : Nat), .int .i64 0, .int .i64 0, .int .i64 0] 67)).heap[w.heap.size]? = some (.cells #[.int .i64 0, .int .i64 0, .int .i64 0, .int .i64 0] 67 (0, 0)) := by
    rw [Below.heap_alloc _ _ _ (by omega), hs1.2 _ hrb]; exact heap_alloc_new _ _
  have hrs : (w1.alloc (.cells #[Value.int .i64 (L : Nat), .int .i64 0, .int .i64 0, .int .i64 0] 67)).heap.size = cb + 1 := by simp [hcb]
  rw [hcb]
  generalize w1.alloc (.cells #[Value.int .i64 (L : Nat), .int .i64 0, .int .i64 0, .int .i64 0] 67) = wa at hD0 hB0 hr0 hrs ⊢
  have HD := Lib.hid hd
  clear hd hd1 hs1 hcb hL hL2 hg1
  have z0 : wa.drew.cell? ⟨cb, 0, none⟩ = some (.int .i64 L) := (CutB.s (CutB.drew hB0)).1
  have hD1 := hD0.drew
  have m20 : (1 : Int) ≤ 20 := by decide
  have n20 : (20 : Int) ≤ 4611686018427387903 := by decide
  have m9 : (1 : Int) ≤ 9 := by decide
  have n9 : (9 : Int) ≤ 4611686018427387903 := by decide
  have mL : (1 : Int) ≤ (L : Int) := by omega
  have nL : (L : Int) ≤ 4611686018427387903 := by omega
  go_region_held3 (fun W => W.cell? ⟨cb, 0, none⟩ = some (.int .i64 L)) (first | assumption | with_reducible exact (cell0_set (by decide)).trans (by assumption) | with_reducible exact (cell0_set (by decide)).trans ((cell0_set (by decide)).trans (by assumption)) | with_reducible exact (cell0_set (by decide)).trans ((cell0_set (by decide)).trans ((cell0_set (by decide)).trans (by assumption)))) ((first | (go_at_call 33; (with_reducible refine (N1.out _ 20 hD1 m20 n20).mono ?_); rintro e wn1 ⟨x1, rfl, hx1, hd1, hs1⟩; have hb1 := CutB.same (CutB.drew hB0) hs1 hcg; have q0 := (CutB.s hb1).1) | (go_at_call 33; (with_reducible refine (N1.out _ (L : Int) hd1 mL nL).mono ?_); rintro e wn2 ⟨x2, rfl, hx2, hd2, hs2⟩; have hb2 := CutB.same hb1 hs2 hcg; have r0 := (CutB.s hb2).1) | (go_at_call 33; (with_reducible refine (N1.out _ 9 hd2 m9 n9).mono ?_); rintro e wn3 ⟨x3, rfl, hx3, hd3, hs3⟩; have hb3 := CutB.same hb2 hs3 hcg; obtain ⟨s0, s1, s2, s3, p1, p2, p3⟩ := CutB.s hb3)))
  have y1 : IntKind.i64.wrap ((L : Int) + (x1 : Int)) = ((L + x1 : Nat) : Int) := by rw [IntKind.wrap_i64]; omega
  have y2 : IntKind.i64.wrap (1 + (x2 : Int)) = ((1 + x2 : Nat) : Int) := by rw [IntKind.wrap_i64]; omega
  have y3 : IntKind.i64.wrap (1 + (x3 : Int)) = ((1 + x3 : Nat) : Int) := by rw [IntKind.wrap_i64]; omega
  rw [y1, y2, y3]
  have hok : Cm.C.ok ⟨L, L + x1, 1 + x2, 1 + x3⟩ := ⟨hL3, by show L ≤ L + x1; omega, by show L + x1 ≤ 256; omega, by show 1 ≤ 1 + x2; omega, by show 1 + x2 ≤ L; omega, by show 1 ≤ 1 + x3; omega, by show 1 + x3 ≤ 1024; omega⟩
  generalize L + x1 = M at hok ⊢
  generalize 1 + x2 = W at hok ⊢
  generalize 1 + x3 = K at hok ⊢
  have hbz : CutB cb L M W K (((wn3.setCell ⟨cb, 1, none⟩ (.int .i64 (M : Nat))).setCell ⟨cb, 2, none⟩ (.int .i64 (W : Nat))).setCell ⟨cb, 3, none⟩ (.int .i64 (K : Nat))) := by
    have h : wn3.heap[cb]? = _ := hb3
    unfold CutB
    simp [World.setCell, Array.getElem?_modify, h]
  have hdz := ((hd3.setCell (a := ⟨cb, 1, none⟩) hcg (by show w0.heap.size ≤ cb; omega) (.int .i64 (M : Nat))).setCell (a := ⟨cb, 2, none⟩) hcg (by show w0.heap.size ≤ cb; omega) (.int .i64 (W : Nat))).setCell (a := ⟨cb, 3, none⟩) hcg (by show w0.heap.size ≤ cb; omega) (.int .i64 (K : Nat))
  have hrz : (((wn3.setCell ⟨cb, 1, none⟩ (.int .i64 (M : Nat))).setCell ⟨cb, 2, none⟩ (.int .i64 (W : Nat))).setCell ⟨cb, 3, none⟩ (.int .i64 (K : Nat))).heap[w.heap.size]? = some (.cells #[.int .i64 0, .int .i64 0, .int .i64 0, .int .i64 0] 67 (0, 0)) := by
    rw [Below.heap_setCell _ _ _ _ (by show w.heap.size ≠ cb; omega), Below.heap_setCell _ _ _ _ (by show w.heap.size ≠ cb; omega), Below.heap_setCell _ _ _ _ (by show w.heap.size ≠ cb; omega), hs3.2 _ hrb, hs2.2 _ hrb, hs1.2 _ hrb]
    exact hr0
  generalize ((wn3.setCell ⟨cb, 1, none⟩ (.int .i64 (M : Nat))).setCell ⟨cb, 2, none⟩ (.int .i64 (W : Nat))).setCell ⟨cb, 3, none⟩ (.int .i64 (K : Nat)) = wz at *
  obtain ⟨s0, s1, s2, s3, p1, p2, p3⟩ := CutB.s hbz
  obtain ⟨rb, hrbe⟩ : ∃ rb, w.heap.size = rb := ⟨_, rfl⟩
  rw [hrbe] at hrz hrb ⊢
  have t0 : wz.cell? ⟨rb, 0, none⟩ = some (.int .i64 0) := by simp [World.cell?, hrz]
  have t1 : wz.cell? ⟨rb, 1, none⟩ = some (.int .i64 0) := by simp [World.cell?, hrz]
  have t2 : wz.cell? ⟨rb, 2, none⟩ = some (.int .i64 0) := by simp [World.cell?, hrz]
  have t3 : wz.cell? ⟨rb, 3, none⟩ = some (.int .i64 0) := by simp [World.cell?, hrz]
  have v0 : wz.frozen? ⟨rb, 0, none⟩ = false := by simp [World.frozen?, hrz]
  have v1 : wz.frozen? ⟨rb, 1, none⟩ = false := by simp [World.frozen?, hrz]
  have v2 : wz.frozen? ⟨rb, 2, none⟩ = false := by simp [World.frozen?, hrz]
  have v3 : wz.frozen? ⟨rb, 3, none⟩ = false := by simp [World.frozen?, hrz]
  go_wp2
  have hwz : w0.heap.size ≤ rb := by omega
  exact bodyPost_ret (v := Cm.C.val ⟨L, M, W, K⟩) (by simp [results, Try.results39, go_sem, Cm.C.val, Cm.C.cells, t0, t1, t2, t3]) rfl ⟨⟨L, M, W, K⟩, rfl, hok, (((hdz.setCell (a := ⟨rb, 0, none⟩) hrb hwz _).setCell (a := ⟨rb, 1, none⟩) hrb hwz _).setCell (a := ⟨rb, 2, none⟩) hrb hwz _).setCell (a := ⟨rb, 3, none⟩) hrb hwz _⟩

end Go.Proofs.Ytebkgndcgcdogaa
