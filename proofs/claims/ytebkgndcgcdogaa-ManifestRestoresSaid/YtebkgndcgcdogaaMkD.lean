/-
  The statements' package's Cutting once more (it keeps what was there), Chunks, Version, Bytes.
-/
import Derived.Test.YtebkgndcgcdogaaMkC
import Derived.Test.YtebkgndcgcdogaaChH
import Derived.Test.YtebkgndcgcdogaaVf
namespace Go.Proofs.Ytebkgndcgcdogaa
open Go.RowKit
set_option maxHeartbeats 2000000

set_option maxRecDepth 100000 in
/-- a valid cutting, whichever -/
theorem cutting_kept (A : Option Addr) (n c : Nat) (z : List Int) (g : Nat) (w0 w : World) (hz : IntsIn .i64 w0 A n c z) (hn : n ≤ 17592186044416) (hd : DeckIn w0 A n c g w) :
    Calls Try.prog 39 #[.pointer (some ⟨g, 0, none⟩)] w fun e w' => ∃ k : Cm.C, e = .returned k.val ∧ k.ok ∧ DeckIn w0 A n c g w' ∧ KeptBut g w w' := by
  have N1 := Lib.hid (fun W m h m0 m1 => next_any A n c z g w0 W m hz hn h m0 m1)
  clear hz
  go_enter Try.func39, Try.ntmps39
  go_wp2_with fail
  refine (N1.out _ _ (hd.alloc _) (by omega) (by omega)).mono ?_
  rintro e w1 ⟨x, rfl, hx, hd1, hs1⟩
  go_wp2_with fail
  obtain ⟨L, hL⟩ : ∃ L : Nat, L = 4 + x := ⟨_, rfl⟩
  have hL2 : (4 : Int) + (x : Int) = (L : Int) := by omega
  have hL3 : 4 ≤ L := by omega
  have hL4 : L ≤ 9 := by omega
  rw [hL2]
  have hg1 := hd1.lt
  obtain ⟨cb, hcb⟩ : ∃ cb, w1.heap.size = cb := ⟨_, rfl⟩
  have hcg : cb ≠ g := by omega
  have hD0 := hd1.alloc (.cells #[Value.int .i64 (L : Nat), .int .i64 0, .int .i64 0, .int .i64 0] 67)
  have hB0 : CutB cb L 0 0 0 (w1.alloc (.cells #[Value.int .i64 (L : Nat), .int .i64 0, .int .i64 0, .int .i64 0] 67)) := by rw [← hcb]; exact heap_alloc_new _ _
  have hwc : w.heap.size < cb := by have := hs1.1; simp at this; omega
  have hrb : w.heap.size ≠ g := by have := hd.lt; omega
  have hw0 : w0.heap.size ≤ w.heap.size := hd.1.size
  have hr0 : (w1.alloc (.cells #[Value.int .i64 (L : Nat), .int .i64 0, .int .i64 0, .int .i64 0] 67)).heap[w.heap.size]? = some (.cells #[.int .i64 0, .int .i64 0, .int .i64 0, .int .i64 0] 67 (0, 0)) := by
    rw [Below.heap_alloc _ _ _ (by omega), hs1.2 _ hrb]; exact heap_alloc_new _ _
  have hrs : (w1.alloc (.cells #[Value.int .i64 (L : Nat), .int .i64 0, .int .i64 0, .int .i64 0] 67)).heap.size = cb + 1 := by simp [hcb]
  rw [hcb]
  have hk0 : ∀ b, b < w.heap.size → b ≠ g → (w1.alloc (.cells #[Value.int .i64 (L : Nat), .int .i64 0, .int .i64 0, .int .i64 0] 67)).heap[b]? = w.heap[b]? := fun b hb hg => by
    rw [Below.heap_alloc _ _ _ (by omega), hs1.2 _ hg]; exact Below.heap_alloc _ _ _ hb
  generalize w1.alloc (.cells #[Value.int .i64 (L : Nat), .int .i64 0, .int .i64 0, .int .i64 0] 67) = wa at hD0 hB0 hr0 hrs hk0 ⊢
  have HK0 := Lib.hid hk0
  clear hk0
  have HD := Lib.hid hd
  clear hd hd1 hs1 hcb hL hL2 hg1
  have z0 : wa.drew.cell? ⟨cb, 0, none⟩ = some (.int .i64 L) := (CutB.s (CutB.drew hB0)).1
  have hD1 := hD0.drew
  have m20 : (1 : Int) ≤ 20 := by decide
  have n20 : (20 : Int) ≤ 4611686018427387903 := by decide
  have m9 : (1 : Int) ≤ 9 := by decide
  have n9 : (9 : Int) ≤ 4611686018427387903 := by decide
  have mL : (1 : Int) ≤ (L : Int) := by omega
  have nL : (L : Int) ≤ 4611686018427387903 := by omega
  go_region_held3 (fun W => W.cell? ⟨cb, 0, none⟩ = some (.int .i64 L)) (first | assumption | with_reducible exact (cell0_set (by decide)).trans (by assumption) | with_reducible exact (cell0_set (by decide)).trans ((cell0_set (by decide)).trans (by assumption)) | with_reducible exact (cell0_set (by decide)).trans ((cell0_set (by decide)).trans ((cell0_set (by decide)).trans (by assumption)))) ((first | (go_at_call 33; (with_reducible refine (N1.out _ 20 hD1 m20 n20).mono ?_); rintro e wn1 ⟨x1, rfl, hx1, hd1, hs1⟩; have hb1 := CutB.same (CutB.drew hB0) hs1 hcg; have q0 := (CutB.s hb1).1) | (go_at_call 33; (with_reducible refine (N1.out _ (L : Int) hd1 mL nL).mono ?_); rintro e wn2 ⟨x2, rfl, hx2, hd2, hs2⟩; have hb2 := CutB.same hb1 hs2 hcg; have r0 := (CutB.s hb2).1) | (go_at_call 33; (with_reducible refine (N1.out _ 9 hd2 m9 n9).mono ?_); rintro e wn3 ⟨x3, rfl, hx3, hd3, hs3⟩; have hb3 := CutB.same hb2 hs3 hcg; obtain ⟨s0, s1, s2, s3, p1, p2, p3⟩ := CutB.s hb3)))
  have y1 : IntKind.i64.wrap ((L : Int) + (x1 : Int)) = ((L + x1 : Nat) : Int) := by rw [IntKind.wrap_i64]; omega
  have y2 : IntKind.i64.wrap (1 + (x2 : Int)) = ((1 + x2 : Nat) : Int) := by rw [IntKind.wrap_i64]; omega
  have y3 : IntKind.i64.wrap (1 + (x3 : Int)) = ((1 + x3 : Nat) : Int) := by rw [IntKind.wrap_i64]; omega
  rw [y1, y2, y3]
  have hok : Cm.C.ok ⟨L, L + x1, 1 + x2, 1 + x3⟩ := ⟨hL3, by show L ≤ L + x1; omega, by show L + x1 ≤ 256; omega, by show 1 ≤ 1 + x2; omega, by show 1 + x2 ≤ L; omega, by show 1 ≤ 1 + x3; omega, by show 1 + x3 ≤ 1024; omega⟩
  generalize L + x1 = M at hok ⊢
  generalize 1 + x2 = W at hok ⊢
  generalize 1 + x3 = K at hok ⊢
  have hbz : CutB cb L M W K (((wn3.setCell ⟨cb, 1, none⟩ (.int .i64 (M : Nat))).setCell ⟨cb, 2, none⟩ (.int .i64 (W : Nat))).setCell ⟨cb, 3, none⟩ (.int .i64 (K : Nat))) := by
    have h : wn3.heap[cb]? = _ := hb3
    unfold CutB
    simp [World.setCell, Array.getElem?_modify, h]
  have hdz := ((hd3.setCell (a := ⟨cb, 1, none⟩) hcg (by show w0.heap.size ≤ cb; omega) (.int .i64 (M : Nat))).setCell (a := ⟨cb, 2, none⟩) hcg (by show w0.heap.size ≤ cb; omega) (.int .i64 (W : Nat))).setCell (a := ⟨cb, 3, none⟩) hcg (by show w0.heap.size ≤ cb; omega) (.int .i64 (K : Nat))
  have hrz : (((wn3.setCell ⟨cb, 1, none⟩ (.int .i64 (M : Nat))).setCell ⟨cb, 2, none⟩ (.int .i64 (W : Nat))).setCell ⟨cb, 3, none⟩ (.int .i64 (K : Nat))).heap[w.heap.size]? = some (.cells #[.int .i64 0, .int .i64 0, .int .i64 0, .int .i64 0] 67 (0, 0)) := by
    rw [Below.heap_setCell _ _ _ _ (by show w.heap.size ≠ cb; omega), Below.heap_setCell _ _ _ _ (by show w.heap.size ≠ cb; omega), Below.heap_setCell _ _ _ _ (by show w.heap.size ≠ cb; omega), hs3.2 _ hrb, hs2.2 _ hrb, hs1.2 _ hrb]
    exact hr0
  have hkz : ∀ b, b < w.heap.size → b ≠ g → (((wn3.setCell ⟨cb, 1, none⟩ (.int .i64 (M : Nat))).setCell ⟨cb, 2, none⟩ (.int .i64 (W : Nat))).setCell ⟨cb, 3, none⟩ (.int .i64 (K : Nat))).heap[b]? = w.heap[b]? := fun b hb hg => by
    rw [Below.heap_setCell _ _ _ _ (by show b ≠ cb; omega), Below.heap_setCell _ _ _ _ (by show b ≠ cb; omega), Below.heap_setCell _ _ _ _ (by show b ≠ cb; omega), hs3.2 _ hg, hs2.2 _ hg, hs1.2 _ hg]
    exact HK0.out b hb hg
  have hkn : w.heap.size ≤ (((wn3.setCell ⟨cb, 1, none⟩ (.int .i64 (M : Nat))).setCell ⟨cb, 2, none⟩ (.int .i64 (W : Nat))).setCell ⟨cb, 3, none⟩ (.int .i64 (K : Nat))).heap.size := by
    have := lt_of_block hrz; omega
  have HKZ := Lib.hid hkz
  clear hkz
  generalize ((wn3.setCell ⟨cb, 1, none⟩ (.int .i64 (M : Nat))).setCell ⟨cb, 2, none⟩ (.int .i64 (W : Nat))).setCell ⟨cb, 3, none⟩ (.int .i64 (K : Nat)) = wz at *
  obtain ⟨s0, s1, s2, s3, p1, p2, p3⟩ := CutB.s hbz
  obtain ⟨rb, hrbe⟩ : ∃ rb, w.heap.size = rb := ⟨_, rfl⟩
  rw [hrbe] at hrz hrb ⊢
  have t0 : wz.cell? ⟨rb, 0, none⟩ = some (.int .i64 0) := by simp [World.cell?, hrz]
  have t1 : wz.cell? ⟨rb, 1, none⟩ = some (.int .i64 0) := by simp [World.cell?, hrz]
  have t2 : wz.cell? ⟨rb, 2, none⟩ = some (.int .i64 0) := by simp [World.cell?, hrz]
  have t3 : wz.cell? ⟨rb, 3, none⟩ = some (.int .i64 0) := by simp [World.cell?, hrz]
  have v0 : wz.frozen? ⟨rb, 0, none⟩ = false := by simp [World.frozen?, hrz]
  have v1 : wz.frozen? ⟨rb, 1, none⟩ = false := by simp [World.frozen?, hrz]
  have v2 : wz.frozen? ⟨rb, 2, none⟩ = false := by simp [World.frozen?, hrz]
  have v3 : wz.frozen? ⟨rb, 3, none⟩ = false := by simp [World.frozen?, hrz]
  go_wp2
  have hwz : w0.heap.size ≤ rb := by omega
  exact bodyPost_ret (v := Cm.C.val ⟨L, M, W, K⟩) (by simp [results, Try.results39, go_sem, Cm.C.val, Cm.C.cells, t0, t1, t2, t3]) rfl ⟨⟨L, M, W, K⟩, rfl, hok, (((hdz.setCell (a := ⟨rb, 0, none⟩) hrb hwz _).setCell (a := ⟨rb, 1, none⟩) hrb hwz _).setCell (a := ⟨rb, 2, none⟩) hrb hwz _).setCell (a := ⟨rb, 3, none⟩) hrb hwz _, ⟨by rw [hrbe]; simpa [World.setCell] using (show rb ≤ wz.heap.size by omega), fun b hb hg => by
    rw [Below.heap_setCell _ _ _ _ (by show b ≠ rb; omega), Below.heap_setCell _ _ _ _ (by show b ≠ rb; omega), Below.heap_setCell _ _ _ _ (by show b ≠ rb; omega), Below.heap_setCell _ _ _ _ (by show b ≠ rb; omega)]
    exact HKZ.out b (by omega) hg⟩⟩

/-- chunks, as Chunks makes them -/
def Vm.few (l : List (List UInt8)) : Prop := l.flatten.length ≤ 60 ∧ ∀ x ∈ l, 1 ≤ x.length ∧ x.length ≤ 256
theorem Vm.few_len {l : List (List UInt8)} (h : Vm.few l) : l.length ≤ 60 := by
  have : ∀ l : List (List UInt8), (∀ x ∈ l, 1 ≤ x.length) → l.length ≤ l.flatten.length := by
    intro l
    induction l with
    | nil => intro _; simp
    | cons x l ih =>
      intro h
      have h1 := h x (List.mem_cons_self ..)
      have h2 := ih (fun y hy => h y (List.mem_cons_of_mem _ hy))
      rw [List.length_cons, List.flatten_cons, List.length_append]; omega
  have := this l (fun x hx => (h.2 x hx).1)
  have := h.1
  omega
theorem Vm.few_cut {k : Cm.C} (hk : k.ok) (T : List UInt8) (hT : T.length ≤ 60) : Vm.few (Cm.cutV k.L k.M k.W k.K T).1 := by
  rw [Cm.cutV_ok hk]
  unfold Cm.cutR
  have hl := Cm.cut_len hk T
  rw [if_pos (by omega)]
  refine ⟨by rw [Cm.cut_flat hk]; exact hT, fun x hx => ?_⟩
  have := Cm.cut_small hk T x hx
  have := hk.m256
  omega

theorem NamesIn.kept {w w' w0 : World} {A A0 : Option Addr} {n c n0 c0 g : Nat} {l : List Vm.Nm} (h : NamesIn w A n c l) (hd : DeckIn w0 A0 n0 c0 g w) (hk : KeptBut g w w') : NamesIn w' A n c l := by
  obtain ⟨h1, h2, h3⟩ := h
  refine ⟨h1, h2, fun hn => ?_⟩
  obtain ⟨b, o, hA, hb, hc⟩ := h3 hn
  obtain ⟨_, _, k, _, hg⟩ := hd
  have hne : b ≠ g := fun e => by
    subst e
    obtain ⟨c1, c2⟩ := hc 0 (by omega)
    rw [Nat.zero_mul, Nat.add_zero] at c1 c2
    match o with
    | 0 => simp [World.cell?, hg] at c1
    | 1 => simp [World.cell?, hg] at c2
    | o + 2 => simp [World.cell?, hg] at c1
  exact ⟨b, o, hA, Nat.lt_of_lt_of_le hb hk.1, fun i hi => ⟨(hk.cell (p := ⟨b, o + i * 2, none⟩) hb hne).trans (hc i hi).1, (hk.cell (p := ⟨b, o + i * 2 + 1, none⟩) hb hne).trans (hc i hi).2⟩⟩
theorem strsIn_kept {w w' w0 : World} {A A0 : Option Addr} {n c n0 c0 g : Nat} {l : List (List UInt8)} (h : CellsIn w A n c (l.map Cm.str)) (hd : DeckIn w0 A0 n0 c0 g w) (hk : KeptBut g w w') : CellsIn w' A n c (l.map Cm.str) := by
  obtain ⟨h1, h2, h3⟩ := h
  refine ⟨h1, h2, fun hn => ?_⟩
  obtain ⟨b, o, hA, hb, hc⟩ := h3 hn
  obtain ⟨_, _, k, _, hg⟩ := hd
  have hne : b ≠ g := fun e => by
    subst e
    have c1 := hc 0 (by omega)
    rw [List.getElem_map] at c1
    match o with
    | 0 => simp [World.cell?, hg, Cm.str] at c1
    | 1 => simp [World.cell?, hg, Cm.str] at c1
    | o + 2 => simp [World.cell?, hg, Cm.str] at c1
  exact ⟨b, o, hA, Nat.lt_of_lt_of_le hb hk.1, fun i hi => (hk.cell (p := ⟨b, o + i, none⟩) hb hne).trans (hc i hi)⟩
theorem DeckIn.kept {w0 w w' : World} {A : Option Addr} {n c g : Nat} (h : DeckIn w0 A n c g w) (hb : Below w.heap.size w w') : DeckIn w0 A n c g w' ∧ KeptBut g w w' := by
  have hl := h.lt
  obtain ⟨h1, h2, k, hk, h3⟩ := h
  exact ⟨⟨h1.trans (hb.mono h1.size), h2, k, hk, (hb.block g hl).trans h3⟩, hb.size, fun b hb' _ => hb.block b hb'⟩
theorem SameBut.kept {g : Nat} {w w' : World} (h : SameBut g w w') : KeptBut g w w' := ⟨by rw [h.1]; exact Nat.le_refl _, fun b _ hg => h.2 b hg⟩
theorem KeptBut.alloc {g : Nat} {w w' : World} (h : KeptBut g w w') (o : Obj) : KeptBut g w (w'.alloc o) := ⟨by have := h.1; simp; omega, fun b hb hg => (Below.heap_alloc _ _ _ (Nat.lt_of_lt_of_le hb h.1)).trans (h.2 b hb hg)⟩

theorem own_none {w : World} {B : Nat} {e : TypeId} {size : Nat} {A : Option Addr} {n c k : Nat} {xs : List Value} (h : w.ownsRow B e size (.slice A n c) k xs) : A = none → n = 0 ∧ c = 0 := by
  rintro rfl
  rcases h.2 with ⟨hv, _⟩ | ⟨g, cap, cur, hv, _⟩
  · injection hv with _ h2 h3; exact ⟨h2, h3⟩
  · injection hv with h1; cases h1

set_option maxRecDepth 100000 in
theorem mkChunks_any (A : Option Addr) (n c : Nat) (z : List Int) (g : Nat) (w0 w : World) (hz : IntsIn .i64 w0 A n c z) (hn : n ≤ 17592186044416) (hd : DeckIn w0 A n c g w) :
    Calls Try.prog 13 #[.pointer (some ⟨g, 0, none⟩)] w fun e w' => ∃ (A' : Option Addr) (n' c' : Nat) (l : List (List UInt8)), e = .returned (.slice A' n' c') ∧ CellsIn w' A' n' c' (l.map Cm.str) ∧ (A' = none → n' = 0 ∧ c' = 0) ∧ Vm.few l ∧ DeckIn w0 A n c g w' ∧ KeptBut g w w' := by
  have T1 := Lib.hid (fun V hd => mkText_any A n c z g w0 V 60 hz hn hd (by decide) (by decide))
  have K1 := Lib.hid (fun V hd => cutting_kept A n c z g w0 V hz hn hd)
  have HD := Lib.hid hd
  clear hz hd
  go_enter Try.func13, Try.ntmps13
  go_wp2_with fail
  refine (T1.out _ HD.out).mono ?_
  rintro e w1 ⟨T, rfl, hT, hd1, hk1⟩
  have HD1 := Lib.hid hd1
  have HK1 := Lib.hid hk1
  clear hd1 hk1
  go_wp2_with fail
  refine (K1.out _ HD1.out).mono ?_
  rintro e w2 ⟨k, rfl, hk, hd2, hk2⟩
  have HD2 := Lib.hid hd2
  have HK2 := Lib.hid (HK1.out.trans hk2)
  have hT2 : T.data.toList.length ≤ 60 := by simpa using hT
  have HFW := Lib.hid (Vm.few_cut hk T.data.toList hT2)
  obtain ⟨L, M, W, K⟩ := k
  have hTs : T.size ≤ 16384 := by have : T.size ≤ 60 := hT; omega
  have C1 := Lib.hid (fun V => rcut_any T L M W K V hTs)
  obtain ⟨l, er, hr⟩ : ∃ l er, Cm.cutV L M W K T.data.toList = (l, er) := ⟨_, _, rfl⟩
  simp only at HFW
  rw [hr] at C1 HFW
  clear hd2 hk2 hr hk hT hT2 hTs
  unfold Cm.C.val Cm.C.cells
  simp only
  go_wp2_with fail
  refine (C1.out _).mono ?_
  rintro e w3 ⟨v, rfl, hown, hb3⟩
  obtain ⟨A', c', rfl, hci⟩ := own_cells hown
  obtain ⟨hd3, hk3⟩ := HD2.out.kept hb3
  have HNO := Lib.hid (own_none hown)
  have HCI := Lib.hid hci
  have HD3 := Lib.hid hd3
  have HK3 := Lib.hid (HK2.out.trans hk3)
  clear hci hown hb3 hd3 hk3
  go_wp2_with fail
  go_ret
  exact ⟨A', _, c', l, rfl, HCI.out, HNO.out, HFW.out, HD3.out, HK3.out⟩

end Go.Proofs.Ytebkgndcgcdogaa
