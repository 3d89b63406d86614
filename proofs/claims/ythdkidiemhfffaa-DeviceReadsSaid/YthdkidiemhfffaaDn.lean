/-
  The statements' package's Device: a device, some blocks of which were written, torn, or have failed.
-/
import Derived.Test.YthdkidiemhfffaaDl
namespace Go.Proofs.Ythdkidiemhfffaa
open Go.RowKit
set_option maxHeartbeats 4000000

/-- what is known of the device made -/
structure Dv.Mk (least : Nat) (d : Dv.D) : Prop where
  ok : Dv.Ok d
  dn : d.down = false
  fu : d.fuse = 0
  lo : least ≤ d.blocks.length
  hi : d.blocks.length ≤ least + 11
theorem Dv.Mk.new {least x y : Nat} (h1 : 1 ≤ least) (h2 : least ≤ 500) (hx : x ≤ 16) (hy : y ≤ 11) : Dv.Mk least ⟨16 + (x : Int), List.replicate ((least : Int) + (y : Int)).toNat ByteArray.empty, [], [], 0, false⟩ :=
  ⟨Dv.Ok.new (by omega) (by omega) (by omega) (by omega), rfl, rfl, by simp; omega, by simp; omega⟩
theorem Dv.Mk.spoil {least : Nat} {d : Dv.D} (h : Dv.Mk least d) {m : Nat} (hm : m < d.blocks.length) : Dv.Mk least (Dv.spoil d (m : Int)) :=
  ⟨h.ok.spoil (by omega) (by omega), h.dn, h.fu, by simpa [Dv.spoil] using h.lo, by simpa [Dv.spoil] using h.hi⟩
theorem Dv.Mk.put {least : Nat} {d : Dv.D} (h : Dv.Mk least d) {m : Nat} {s : ByteArray} (hm : m < d.blocks.length) (hs : (s.size : Int) ≤ d.size) (hb : (m : Int) ∉ d.bad) : Dv.Mk least (Dv.put d (m : Int) s) :=
  ⟨h.ok.put (by omega) (by omega) hs hb, rfl, by simp [Dv.put, h.fu], by simpa [Dv.put] using h.lo, by simpa [Dv.put] using h.hi⟩
/-- with a fuse of 1 -/
def Dv.lit1 (d : Dv.D) : Dv.D := ⟨d.size, d.blocks, d.torn, d.bad, 1, d.down⟩
/-- torn, and started again -/
def Dv.torn1 (d : Dv.D) (m : Int) : Dv.D := ⟨d.size, d.blocks.set m.toNat ByteArray.empty, Dv.ins d.torn m, d.bad, 0, false⟩
theorem Dv.Mk.lit {least : Nat} {d : Dv.D} (h : Dv.Mk least d) : Dv.Ok (Dv.lit1 d) := h.ok.with' (by decide) (by decide) _
theorem Dv.Mk.arm {least : Nat} {d : Dv.D} (h : Dv.Mk least d) : Dv.arm d 1 = (Dv.lit1 d, 0) := Dv.arm_ok (Dv.chk_ok h.ok) (by decide)
theorem Dv.Mk.tear {least : Nat} {d : Dv.D} (h : Dv.Mk least d) {m : Nat} (hm : m < d.blocks.length) : Dv.Mk least (Dv.torn1 d (m : Int)) :=
  ⟨(h.ok.tear (n := (m : Int)) (by omega) (by omega)).with' (by decide) (by decide) false, rfl, rfl, by simpa [Dv.torn1] using h.lo, by simpa [Dv.torn1] using h.hi⟩
theorem Dv.Mk.wr1 {least : Nat} {d : Dv.D} (h : Dv.Mk least d) {m : Nat} (hm : m < d.blocks.length) :
    Dv.write (Dv.lit1 d) (m : Int) ⟨#[]⟩ = if (m : Int) ∈ d.bad then (Dv.none', 12) else (Dv.tear (Dv.lit1 d) (m : Int), 11) := by
  have hc := Dv.chk_ok h.lit
  have s0 := h.ok.s0
  have hr : ¬ ((m : Int) < 0 ∨ ((Dv.lit1 d).blocks.length : Int) ≤ (m : Int)) := by show ¬ ((m : Int) < 0 ∨ (d.blocks.length : Int) ≤ (m : Int)); omega
  have hs : ¬ (Dv.lit1 d).size < (((⟨#[]⟩ : ByteArray).size : Nat) : Int) := by show ¬ d.size < ((0 : Nat) : Int); omega
  by_cases hb : (m : Int) ∈ d.bad
  · rw [if_pos hb]; exact Dv.write_bad hc h.dn hr hs hb
  · rw [if_neg hb]; exact Dv.write_tear hc h.dn hr hs hb rfl
theorem Dv.Mk.st1 {least : Nat} {d : Dv.D} (h : Dv.Mk least d) {m : Nat} (hm : m < d.blocks.length) : Dv.start (Dv.tear (Dv.lit1 d) (m : Int)) = (Dv.torn1 d (m : Int), 0) := by
  rw [Dv.start_ok (Dv.chk_ok (h.lit.tear (n := (m : Int)) (by omega) (by show (m : Int) < (d.blocks.length : Int); omega)))]
  rfl
theorem Dv.Mk.wr0 {least : Nat} {d : Dv.D} (h : Dv.Mk least d) {m : Nat} {s : ByteArray} (hm : m < d.blocks.length) (hs : s.size ≤ 12) :
    Dv.write d (m : Int) s = if (m : Int) ∈ d.bad then (Dv.none', 12) else (Dv.put d (m : Int) s, 0) := by
  have hc := Dv.chk_ok h.ok
  have s0 := h.ok.s0
  have hr : ¬ ((m : Int) < 0 ∨ (d.blocks.length : Int) ≤ (m : Int)) := by omega
  by_cases hb : (m : Int) ∈ d.bad
  · rw [if_pos hb]; exact Dv.write_bad hc h.dn hr (by omega) hb
  · rw [if_neg hb]; exact Dv.write_put hc h.dn hr (by omega) hb (by rw [h.fu]; decide)
theorem Dv.Mk.fl {least : Nat} {d : Dv.D} (h : Dv.Mk least d) {m : Nat} (hm : m < d.blocks.length) : Dv.fail d (m : Int) = (Dv.spoil d (m : Int), 0) := Dv.fail_ok (Dv.chk_ok h.ok) (by omega)

theorem Dv.St.done {w0 w : World} {A : Option Addr} {n c g B p : Nat} {wr : World} {d : Dv.D} {x0 x1 x2 x3 x4 x5 : Value} (h : Dv.St w0 w A n c g B p wr d x0 x1 x2 x3 x4 x5) :
    DevN (st6 wr B x0 x1 x2 x3 x4 x5) B (.agg #[x0, x1, x2, x3, x4, x5]) d ∧ DeckIn w0 A n c g (st6 wr B x0 x1 x2 x3 x4 x5) ∧ KeptBut g w (st6 wr B x0 x1 x2 x3 x4 x5) := by
  have hg := h.gB
  have hw0 : w0.heap.size ≤ B := by have := h.deck.2.1; omega
  have hs : ∀ (W : World) (k : Nat) (v : Value), DeckIn w0 A n c g W → DeckIn w0 A n c g (W.setCell ⟨B, k, none⟩ v) := fun W k v hW => Dv.deck_set hW (a := ⟨B, k, none⟩) (by show B ≠ g; omega) hw0 v
  have hk : ∀ (W : World) (k : Nat) (v : Value), KeptBut g w W → KeptBut g w (W.setCell ⟨B, k, none⟩ v) := fun W k v hW => ⟨by have := hW.1; simpa [World.setCell] using this, fun b hb hbg => (Below.heap_setCell _ _ _ _ (by show b ≠ B; have := h.wB; omega)).trans (hW.2 b hb hbg)⟩
  exact ⟨(h.dev.st6 h.zero (by decide) (by decide) _ _ _ _ _ _).mono (by omega), hs _ _ _ (hs _ _ _ (hs _ _ _ (hs _ _ _ (hs _ _ _ (hs _ _ _ h.deck))))), hk _ _ _ (hk _ _ _ (hk _ _ _ (hk _ _ _ (hk _ _ _ (hk _ _ _ h.kept)))))⟩

theorem Dv.St.far {w0 w : World} {A : Option Addr} {n c g B p : Nat} {wr : World} {d : Dv.D} {x0 x1 x2 x3 x4 x5 : Value} (h : Dv.St w0 w A n c g B p wr d x0 x1 x2 x3 x4 x5) {r : Nat} {z0 z1 z2 z3 z4 z5 : Value} (hx : Box6 wr r 25 z0 z1 z2 z3 z4 z5) (hp : p < r) (y0 y1 y2 y3 y4 y5 : Value) : Dv.St w0 w A n c g B p (st6 wr r y0 y1 y2 y3 y4 y5) d x0 x1 x2 x3 x4 x5 := by
  have hg := h.gB
  have hBp := h.Bp
  have hwB := h.wB
  have hw0 : w0.heap.size ≤ r := by have := h.deck.2.1; omega
  have hs : ∀ (W : World) (k : Nat) (v : Value), DeckIn w0 A n c g W → DeckIn w0 A n c g (W.setCell ⟨r, k, none⟩ v) := fun W k v hW => Dv.deck_set hW (a := ⟨r, k, none⟩) (by show r ≠ g; omega) hw0 v
  have hk : ∀ (W : World) (k : Nat) (v : Value), KeptBut g w W → KeptBut g w (W.setCell ⟨r, k, none⟩ v) := fun W k v hW => ⟨by have := hW.1; simpa [World.setCell] using this, fun b hb hbg => (Below.heap_setCell _ _ _ _ (by show b ≠ r; omega)).trans (hW.2 b hb hbg)⟩
  exact ⟨h.box.far (by omega) _ _ _ _ _ _, h.dev.st6 hx (by decide) (by decide) _ _ _ _ _ _, h.zero.far (by omega) _ _ _ _ _ _, hs _ _ _ (hs _ _ _ (hs _ _ _ (hs _ _ _ (hs _ _ _ (hs _ _ _ h.deck))))), hk _ _ _ (hk _ _ _ (hk _ _ _ (hk _ _ _ (hk _ _ _ (hk _ _ _ h.kept))))), hg, h.wB, hBp⟩

set_option maxRecDepth 100000 in
set_option maxHeartbeats 40000000 in
theorem mkDevice_any (A : Option Addr) (n c : Nat) (z : List Int) (g : Nat) (w0 w : World) (least : Nat) (l1 : 1 ≤ least) (l2 : least ≤ 500) (hz : IntsIn .i64 w0 A n c z) (hn : n ≤ 17592186044416) (hd : DeckIn w0 A n c g w) :
    Calls Try.prog 10 #[.pointer (some ⟨g, 0, none⟩), .int .i64 (least : Nat)] w fun e w' => ∃ v d, e = .returned v ∧ DevN w' w.heap.size v d ∧ Dv.Mk least d ∧ DeckIn w0 A n c g w' ∧ KeptBut g w w' := by
  have N1 := Lib.hid (fun W m h m0 m1 => next_any A n c z g w0 W m hz hn h m0 m1)
  have T1 := Lib.hid (fun V h => mkText_any A n c z g w0 V 12 hz hn h (by decide) (by decide))
  have hlt := Dv.deck_lt hd
  obtain ⟨B, hB⟩ : ∃ B, w.heap.size = B := ⟨_, rfl⟩
  obtain ⟨w1, hw1⟩ : ∃ V, w.alloc (.cells #[.int .i64 0, .slice none 0 0, .slice none 0 0, .slice none 0 0, .int .i64 0, .bool false] 25) = V := ⟨_, rfl⟩
  have hb1 : Below w.heap.size w w1 := by rw [← hw1]; exact (Below.refl _ _).alloc (Nat.le_refl _) _
  have hs1 : w1.heap.size = B + 1 := by rw [← hw1]; simp [hB]
  have Z1 := Lib.hid (show Box6 w1 B 25 (.int .i64 0) (.slice none 0 0) (.slice none 0 0) (.slice none 0 0) (.int .i64 0) (.bool false) from by rw [← hw1]; exact Box6.new _ _ _ _ _ _ _ _ _ hB)
  have HD1 := Lib.hid (Dv.deck_below hd hb1)
  have HK1 := Lib.hid (show KeptBut g w w1 from ⟨hb1.size, fun b hb _ => hb1.block b hb⟩)
  have HW1 := Lib.hid hw1
  have HBE := Lib.hid hB
  clear hz hd hb1 hw1
  rw [hB] at hlt
  go_enter Try.func10, Try.ntmps10
  go_wp2_with fail
  rw [HW1.out]
  clear hB
  refine (N1.out _ 17 HD1.out (by decide) (by decide)).mono ?_
  rintro e w2 ⟨x, rfl, hx, hd2, hs2⟩
  go_wp2_with fail
  refine (N1.out _ 12 hd2 (by decide) (by decide)).mono ?_
  rintro e w3 ⟨y, rfl, hy, hd3, hs3⟩
  have HNW := Lib.hid (show ∀ V, Calls Try.prog 29 #[.int .i64 (16 + (x : Int)), .int .i64 ((least : Int) + (y : Int))] V fun e w' => ∃ v, e = .returned (.tuple #[v, .int .i64 0]) ∧ DevN w' V.heap.size v ⟨16 + (x : Int), List.replicate ((least : Int) + (y : Int)).toNat ByteArray.empty, [], [], 0, false⟩ ∧ Below V.heap.size V w' from fun V => by
    have h := rnewD_any (16 + (x : Int)) ((least : Int) + (y : Int)) V
    rw [Dv.new_yes (by omega)] at h
    exact h)
  go_wp2_with fail
  refine (HNW.out _).mono ?_
  rintro e w4 ⟨v, rfl, hN, hb4⟩
  have HM0 := Lib.hid (Dv.Mk.new (least := least) (x := x) (y := y) l1 l2 (by omega) (by omega))
  obtain ⟨d0, hd0⟩ : ∃ d, (⟨16 + (x : Int), List.replicate ((least : Int) + (y : Int)).toNat ByteArray.empty, [], [], 0, false⟩ : Dv.D) = d := ⟨_, rfl⟩
  rw [hd0] at hN HM0
  obtain ⟨A4, c4, A41, n41, c41, A42, n42, c42, hv⟩ := hN.form (sz := 16 + (x : Int)) (fu := 0) (dn := false) (by rw [← hd0]) (by rw [← hd0]) (by rw [← hd0])
  subst hv
  obtain ⟨sz0, hsz0⟩ : ∃ s, 16 + (x : Int) = s := ⟨_, rfl⟩
  obtain ⟨n4, hn4⟩ : ∃ k, d0.blocks.length = k := ⟨_, rfl⟩
  have HSZ0 := Lib.hid (show d0.size = sz0 from by rw [← hd0, ← hsz0])
  have HN4 := Lib.hid hn4
  rw [hsz0, hn4] at hN ⊢
  have hs3' : w3.heap.size = B + 1 := by rw [hs3.1, hs2.1, hs1]
  have hw4 := hb4.size
  have hBg : B ≠ g := by omega
  obtain ⟨p, hp⟩ : ∃ p, w4.heap.size = p := ⟨_, rfl⟩
  obtain ⟨w5, hw5⟩ : ∃ V, w4.alloc (.cells #[.int .i64 sz0, .slice A4 n4 c4, .slice A41 n41 c41, .slice A42 n42 c42, .int .i64 0, .bool false] 25) = V := ⟨_, rfl⟩
  have hb5 : Below w4.heap.size w4 w5 := by rw [← hw5]; exact (Below.refl _ _).alloc (Nat.le_refl _) _
  have hkk : KeptBut g w1 w4 := (show KeptBut g w1 w2 from ⟨by rw [hs2.1]; exact Nat.le_refl _, fun b _ hg => hs2.2 b hg⟩).trans ((show KeptBut g w2 w3 from ⟨by rw [hs3.1]; exact Nat.le_refl _, fun b _ hg => hs3.2 b hg⟩).trans ⟨hb4.size, fun b hb _ => hb4.block b hb⟩)
  have hz4 : Box6 w4 B 25 (.int .i64 0) (.slice none 0 0) (.slice none 0 0) (.slice none 0 0) (.int .i64 0) (.bool false) := ⟨(hkk.2 B (by omega) hBg).trans Z1.out.h⟩
  have S5 := Lib.hid (show Dv.St w0 w A n c g B p w5 d0 (.int .i64 sz0) (.slice A4 n4 c4) (.slice A41 n41 c41) (.slice A42 n42 c42) (.int .i64 0) (.bool false) from
    ⟨by rw [← hw5]; exact Box6.new _ _ _ _ _ _ _ _ _ hp, (hN.below hb5).mono (by omega), hz4.below hb5 hz4.lt, Dv.deck_below (Dv.deck_below hd3 hb4) hb5, (HK1.out.trans hkk).trans ⟨hb5.size, fun b hb _ => hb5.block b hb⟩, hlt, HBE.out, by omega⟩)
  have HW5 := Lib.hid hw5
  clear hw5 hb5 hkk hz4 hN hd3 hs3 hd2 hs2 hd0 hsz0 hn4 hb4
  go_wp2_with fail
  rw [HW5.out]
  clear hp
  refine (N1.out _ 6 S5.out.deck (by decide) (by decide)).mono ?_
  rintro e w6 ⟨j0, rfl, hj0, hd6, hs6⟩
  have S6 := Lib.hid (S5.out.next hd6 ⟨by rw [hs6.1]; exact Nat.le_refl _, fun b _ hg => hs6.2 b hg⟩)
  clear hd6 hs6
  go_wp2_with fail
  go_loopw [7] (fun i wr => ∃ (j : Nat) (d : Dv.D) (sz : Int) (A' : Option Addr) (n' c' : Nat) (A1 : Option Addr) (n1 c1 : Nat) (A2 : Option Addr) (n2 c2 : Nat), j ≤ 5 ∧ i = .int .i64 j ∧ Dv.St w0 w A n c g B p wr d (.int .i64 sz) (.slice A' n' c') (.slice A1 n1 c1) (.slice A2 n2 c2) (.int .i64 0) (.bool false) ∧ d.size = sz ∧ d.blocks.length = n' ∧ Dv.Mk least d) (fun i _ => (intOf i).toNat)
  case atStart => exact ⟨j0, d0, sz0, A4, n4, c4, A41, n41, c41, A42, n42, c42, by omega, rfl, S6.out, HSZ0.out, HN4.out, HM0.out⟩
  case round =>
    obtain ⟨j, d, sz, A', n', c', A1, n1, c1, A2, n2, c2, hj, rfl, hS, hsz, hnl, hM⟩ := hrel
    have S := Lib.hid hS
    have HM := Lib.hid hM
    have HSZ := Lib.hid hsz
    have HNL := Lib.hid hnl
    have hn0 : 1 ≤ n' := by rw [← hnl]; have := hM.lo; omega
    have hn9 : n' ≤ 512 := by rw [← hnl]; exact hM.ok.n1
    obtain ⟨p0, p1, p2, p3, p4, p5, f0, f1, f2, f3, f4, f5⟩ := hS.box.s
    clear hS hM hsz hnl
    by_cases h0 : 0 < j
    · have d0' : decide ((0 : Int) < (j : Int)) = true := by simp; omega
      have ew : IntKind.i64.wrap ((j : Int) - 1) = (j : Int) - 1 := by rw [IntKind.wrap_i64]; omega
      go_wp2_with fail
      refine (N1.out _ (n' : Int) S.out.deck (by omega) (by omega)).mono ?_
      rintro e w7 ⟨m, rfl, hm, hd7, hs7⟩
      have S7 := Lib.hid (S.out.next hd7 ⟨by rw [hs7.1]; exact Nat.le_refl _, fun b _ hg => hs7.2 b hg⟩)
      have hml : m < d.blocks.length := by rw [HNL.out]; omega
      have HML := Lib.hid hml
      clear hd7 hs7 hml p0 p1 p2 p3 p4 p5 f0 f1 f2 f3 f4 f5
      go_wp2_with fail
      refine (N1.out _ 6 S7.out.deck (by decide) (by decide)).mono ?_
      rintro e w8 ⟨cc, rfl, hcc, hd8, hs8⟩
      have S8 := Lib.hid (S7.out.next hd8 ⟨by rw [hs8.1]; exact Nat.le_refl _, fun b _ hg => hs8.2 b hg⟩)
      clear hd8 hs8
      obtain ⟨p0, p1, p2, p3, p4, p5, f0, f1, f2, f3, f4, f5⟩ := S8.out.box.s
      have HV8 := Lib.hid (show DevV w8 (.agg #[.int .i64 sz, .slice A' n' c', .slice A1 n1 c1, .slice A2 n2 c2, .int .i64 0, .bool false]) d from S8.out.dev.dev)
      by_cases q0 : cc = 0
      · subst q0
        have HA := Lib.hid (show ∀ W, DevV W (.agg #[.int .i64 sz, .slice A' n' c', .slice A1 n1 c1, .slice A2 n2 c2, .int .i64 0, .bool false]) d → Calls Try.prog 11 #[(.agg #[.int .i64 sz, .slice A' n' c', .slice A1 n1 c1, .slice A2 n2 c2, .int .i64 0, .bool false]), .int .i64 1] W fun e w' => ∃ v', e = .returned (.tuple #[v', .int .i64 0]) ∧ DevN w' W.heap.size v' (Dv.lit1 d) ∧ Below W.heap.size W w' from fun W h => by
          have h2 := rarmD_any _ d 1 W h
          rw [HM.out.arm] at h2
          exact h2)
        go_wp2_with fail
        refine (HA.out _ HV8.out).mono ?_
        rintro e w9 ⟨v9, rfl, hN9, hb9⟩
        obtain ⟨A9, c9, A91, n91, c91, A92, n92, c92, hv⟩ := hN9.form (sz := sz) (fu := 1) (dn := false) HSZ.out rfl HM.out.dn
        subst hv
        obtain ⟨n9, hn9'⟩ : ∃ k, (Dv.lit1 d).blocks.length = k := ⟨_, rfl⟩
        rw [hn9'] at hN9 ⊢
        have hs9 := hb9.size
        have hBw := S8.out.zero.lt
        obtain ⟨r9, hr9⟩ : ∃ k, w9.heap.size = k := ⟨_, rfl⟩
        obtain ⟨w10, hw10⟩ : ∃ V, w9.alloc (.cells #[.int .i64 sz, .slice A9 n9 c9, .slice A91 n91 c91, .slice A92 n92 c92, .int .i64 1, .bool false] 25) = V := ⟨_, rfl⟩
        have hb10 : Below w9.heap.size w9 w10 := by rw [← hw10]; exact (Below.refl _ _).alloc (Nat.le_refl _) _
        have hx10 : Box6 w10 r9 25 (.int .i64 sz) (.slice A9 n9 c9) (.slice A91 n91 c91) (.slice A92 n92 c92) (.int .i64 1) (.bool false) := by rw [← hw10]; exact Box6.new _ _ _ _ _ _ _ _ _ hr9
        have S10 := Lib.hid ((S8.out.below hb9).below hb10)
        have HV10 := Lib.hid (show DevV w10 (.agg #[.int .i64 sz, .slice A9 n9 c9, .slice A91 n91 c91, .slice A92 n92 c92, .int .i64 1, .bool false]) (Dv.lit1 d) from (hN9.below hb10).dev)
        have HW10 := Lib.hid hw10
        clear p0 p1 p2 p3 p4 p5 f0 f1 f2 f3 f4 f5 hb9 hN9 hb10 hw10 hn9'
        by_cases hb : (m : Int) ∈ d.bad
        · have HWR := Lib.hid (show ∀ W, DevV W (.agg #[.int .i64 sz, .slice A9 n9 c9, .slice A91 n91 c91, .slice A92 n92 c92, .int .i64 1, .bool false]) (Dv.lit1 d) → Calls Try.prog 12 #[(.agg #[.int .i64 sz, .slice A9 n9 c9, .slice A91 n91 c91, .slice A92 n92 c92, .int .i64 1, .bool false]), .int .i64 (m : Int), .string ⟨#[]⟩] W fun e w' => ∃ v', e = .returned (.tuple #[v', .int .i64 12]) ∧ DevN w' W.heap.size v' Dv.none' ∧ Below W.heap.size W w' from fun W h => by
            have h2 := rwriteD_any _ (Dv.lit1 d) (m : Int) ⟨#[]⟩ W h
            rw [HM.out.wr1 HML.out, if_pos hb] at h2
            exact h2)
          clear hb
          go_wp2_with fail
          rw [HW10.out]
          clear hr9
          refine (HWR.out _ HV10.out).mono ?_
          rintro e w11 ⟨v11, rfl, hN11, hb11⟩
          obtain ⟨B1, k1, B2, m2, k2, B3, m3, k3, hv⟩ := hN11.form (sz := 0) (fu := 0) (dn := false) rfl rfl rfl
          subst hv
          have S11 := Lib.hid (S10.out.below hb11)
          clear hb11 hN11
          go_wp2_with fail
          go_roundw
          case rel => exact ⟨j - 1, d, sz, A', n', c', A1, n1, c1, A2, n2, c2, by omega, by rw [Int.ofNat_sub h0]; rfl, S11.out.alloc _, HSZ.out, HNL.out, HM.out⟩
          case measure => simp [intOf]; omega
        · have HWR := Lib.hid (show ∀ W, DevV W (.agg #[.int .i64 sz, .slice A9 n9 c9, .slice A91 n91 c91, .slice A92 n92 c92, .int .i64 1, .bool false]) (Dv.lit1 d) → Calls Try.prog 12 #[(.agg #[.int .i64 sz, .slice A9 n9 c9, .slice A91 n91 c91, .slice A92 n92 c92, .int .i64 1, .bool false]), .int .i64 (m : Int), .string ⟨#[]⟩] W fun e w' => ∃ v', e = .returned (.tuple #[v', .int .i64 11]) ∧ DevN w' W.heap.size v' (Dv.tear (Dv.lit1 d) (m : Int)) ∧ Below W.heap.size W w' from fun W h => by
            have h2 := rwriteD_any _ (Dv.lit1 d) (m : Int) ⟨#[]⟩ W h
            rw [HM.out.wr1 HML.out, if_neg hb] at h2
            exact h2)
          clear hb
          go_wp2_with fail
          rw [HW10.out]
          clear hr9
          refine (HWR.out _ HV10.out).mono ?_
          rintro e w11 ⟨v11, rfl, hN11, hb11⟩
          obtain ⟨B1, k1, B2, m2, k2, B3, m3, k3, hv⟩ := hN11.form (sz := sz) (fu := 0) (dn := true) HSZ.out rfl rfl
          subst hv
          obtain ⟨m1, hm1⟩ : ∃ k, (Dv.tear (Dv.lit1 d) (m : Int)).blocks.length = k := ⟨_, rfl⟩
          rw [hm1] at hN11 ⊢
          have hs11 := hb11.size
          have hBw10 := S10.out.zero.lt
          obtain ⟨r11, hr11⟩ : ∃ k, w11.heap.size = k := ⟨_, rfl⟩
          obtain ⟨w12, hw12⟩ : ∃ V, w11.alloc (.cells #[.int .i64 sz, .slice B1 m1 k1, .slice B2 m2 k2, .slice B3 m3 k3, .int .i64 0, .bool true] 25) = V := ⟨_, rfl⟩
          have hb12 : Below w11.heap.size w11 w12 := by rw [← hw12]; exact (Below.refl _ _).alloc (Nat.le_refl _) _
          have S12 := Lib.hid ((S10.out.below hb11).below hb12)
          have HV12 := Lib.hid (show DevV w12 (.agg #[.int .i64 sz, .slice B1 m1 k1, .slice B2 m2 k2, .slice B3 m3 k3, .int .i64 0, .bool true]) (Dv.tear (Dv.lit1 d) (m : Int)) from (hN11.below hb12).dev)
          have HW12 := Lib.hid hw12
          have HST := Lib.hid (show ∀ W, DevV W (.agg #[.int .i64 sz, .slice B1 m1 k1, .slice B2 m2 k2, .slice B3 m3 k3, .int .i64 0, .bool true]) (Dv.tear (Dv.lit1 d) (m : Int)) → Calls Try.prog 16 #[(.agg #[.int .i64 sz, .slice B1 m1 k1, .slice B2 m2 k2, .slice B3 m3 k3, .int .i64 0, .bool true])] W fun e w' => ∃ v', e = .returned (.tuple #[v', .int .i64 0]) ∧ DevN w' W.heap.size v' (Dv.torn1 d (m : Int)) ∧ Below W.heap.size W w' from fun W h => by
            have h2 := rstartD_any _ _ W h
            rw [HM.out.st1 HML.out] at h2
            exact h2)
          clear hb11 hN11 hb12 hw12 hm1
          go_wp2_with fail
          rw [HW12.out]
          clear hr11
          refine (HST.out _ HV12.out).mono ?_
          rintro e w13 ⟨v13, rfl, hN13, hb13⟩
          obtain ⟨D1, l1', D2, o2, l2', D3, o3, l3', hv⟩ := hN13.form (sz := sz) (fu := 0) (dn := false) HSZ.out rfl rfl
          subst hv
          obtain ⟨o1, ho1⟩ : ∃ k, (Dv.torn1 d (m : Int)).blocks.length = k := ⟨_, rfl⟩
          rw [ho1] at hN13 ⊢
          have HO1 := Lib.hid ho1
          have hBw12 := S12.out.zero.lt
          have S13 := Lib.hid (S12.out.below hb13)
          have SZ := Lib.hid ((S12.out.below hb13).store (hN13.mono (by omega)))
          clear hb13 hN13 ho1
          obtain ⟨p0, p1, p2, p3, p4, p5, f0, f1, f2, f3, f4, f5⟩ := S13.out.box.s
          go_wp2_with fail
          go_roundw
          case rel => exact ⟨j - 1, Dv.torn1 d (m : Int), sz, D1, o1, l1', D2, o2, l2', D3, o3, l3', by omega, by rw [Int.ofNat_sub h0]; rfl, SZ.out, HSZ.out, HO1.out, HM.out.tear HML.out⟩
          case measure => simp [intOf]; omega
      by_cases q1 : cc = 1
      · subst q1
        have HFL := Lib.hid (show ∀ W, DevV W (.agg #[.int .i64 sz, .slice A' n' c', .slice A1 n1 c1, .slice A2 n2 c2, .int .i64 0, .bool false]) d → Calls Try.prog 25 #[.agg #[.int .i64 sz, .slice A' n' c', .slice A1 n1 c1, .slice A2 n2 c2, .int .i64 0, .bool false], .int .i64 (m : Int)] W fun e w' => ∃ v', e = .returned (.tuple #[v', .int .i64 0]) ∧ DevN w' W.heap.size v' (Dv.spoil d (m : Int)) ∧ Below W.heap.size W w' from fun W h => by
          have h2 := rfailD_any _ d (m : Int) W h
          rw [HM.out.fl HML.out] at h2
          exact h2)
        go_wp2_with fail
        refine (HFL.out _ HV8.out).mono ?_
        rintro e w9 ⟨v9, rfl, hN9, hb9⟩
        obtain ⟨A9, c9, A91, n91, c91, A92, n92, c92, hv⟩ := hN9.form (sz := sz) (fu := 0) (dn := false) HSZ.out HM.out.fu HM.out.dn
        subst hv
        obtain ⟨n9, hn9'⟩ : ∃ k, (Dv.spoil d (m : Int)).blocks.length = k := ⟨_, rfl⟩
        rw [hn9'] at hN9 ⊢
        have HN9 := Lib.hid hn9'
        have hs9 := hb9.size
        have hBw := S8.out.zero.lt
        have S9 := Lib.hid (S8.out.below hb9)
        have SZ := Lib.hid ((S8.out.below hb9).store (hN9.mono (by omega)))
        clear p0 p1 p2 p3 p4 p5 f0 f1 f2 f3 f4 f5 hb9 hN9 hn9'
        obtain ⟨p0, p1, p2, p3, p4, p5, f0, f1, f2, f3, f4, f5⟩ := S9.out.box.s
        go_wp2_with fail
        go_roundw
        case rel => exact ⟨j - 1, Dv.spoil d (m : Int), sz, A9, n9, c9, A91, n91, c91, A92, n92, c92, by omega, by rw [Int.ofNat_sub h0]; rfl, SZ.out, HSZ.out, HN9.out, HM.out.spoil HML.out⟩
        case measure => simp [intOf]; omega
      have e0 : ((cc : Int) == 0) = false := beq_eq_false_iff_ne.2 (by omega)
      have e1 : ((cc : Int) == 1) = false := beq_eq_false_iff_ne.2 (by omega)
      have hp8 := S8.out.box.lt
      by_cases hb : (m : Int) ∈ d.bad
      · have HWR := Lib.hid (show ∀ (T : ByteArray) W, T.size ≤ 12 → DevV W (.agg #[.int .i64 sz, .slice A' n' c', .slice A1 n1 c1, .slice A2 n2 c2, .int .i64 0, .bool false]) d → Calls Try.prog 12 #[(.agg #[.int .i64 sz, .slice A' n' c', .slice A1 n1 c1, .slice A2 n2 c2, .int .i64 0, .bool false]), .int .i64 (m : Int), .string T] W fun e w' => ∃ v', e = .returned (.tuple #[v', .int .i64 12]) ∧ DevN w' W.heap.size v' (Dv.none') ∧ Below W.heap.size W w' from fun T W hT h => by
            have h2 := rwriteD_any _ d (m : Int) T W h
            rw [HM.out.wr0 HML.out hT, if_pos hb] at h2
            exact h2)
        clear hb
        go_wp2_with fail
        go_region_with (first | (go_at_call 31; (with_reducible refine (T1.out _ S8.out.drew.deck).mono ?_); rintro e w9 ⟨T, rfl, hT', hd9, hk9⟩; have hT : T.size ≤ 12 := hT'; have S9 := Lib.hid (S8.out.drew.next hd9 hk9); have HT := Lib.hid hT; obtain ⟨t0, t1, t2, t3, t4, t5, v0, v1, v2, v3, v4, v5⟩ := S9.out.box.s; have hp9 := S9.out.box.lt; have HV9 := Lib.hid (show DevV w9 (.agg #[.int .i64 sz, .slice A' n' c', .slice A1 n1 c1, .slice A2 n2 c2, .int .i64 0, .bool false]) d from S9.out.dev.dev); clear hT hT' hd9 hk9) | (go_at_call 31; (with_reducible refine (T1.out _ (S8.out.alloc _).drew.deck).mono ?_); rintro e w9 ⟨T, rfl, hT', hd9, hk9⟩; have hT : T.size ≤ 12 := hT'; have S9 := Lib.hid ((S8.out.alloc (.cells #[.int .i64 0, .slice none 0 0, .slice none 0 0, .slice none 0 0, .int .i64 0, .bool false] 25)).drew.next hd9 hk9); have hr9 : p < w8.heap.size := hp8; have X9 := Lib.hid (show Box6 w9 w8.heap.size 25 (.int .i64 0) (.slice none 0 0) (.slice none 0 0) (.slice none 0 0) (.int .i64 0) (.bool false) from ⟨(hk9.2 w8.heap.size (by simp) (by have h1 := S8.out.gB; have h2 := S8.out.Bp; omega)).trans (Box6.new w8 w8.heap.size 25 (.int .i64 0) (.slice none 0 0) (.slice none 0 0) (.slice none 0 0) (.int .i64 0) (.bool false) rfl).drew.h⟩); have HT := Lib.hid hT; obtain ⟨t0, t1, t2, t3, t4, t5, v0, v1, v2, v3, v4, v5⟩ := S9.out.box.s; have hp9 := S9.out.box.lt; have HV9 := Lib.hid (show DevV w9 (.agg #[.int .i64 sz, .slice A' n' c', .slice A1 n1 c1, .slice A2 n2 c2, .int .i64 0, .bool false]) d from S9.out.dev.dev); clear hT hT' hd9 hk9) | (go_at_call 12; (with_reducible refine (HWR.out T _ HT.out HV9.out).mono ?_); rintro e w11 ⟨v11, rfl, hN11, hb11⟩; obtain ⟨B1, k1, B2, m2, k2, B3, m3, k3, hv⟩ := hN11.form (sz := 0) (fu := 0) (dn := false) rfl rfl rfl; subst hv; have hBw := S9.out.zero.lt; have S11 := Lib.hid (S9.out.below hb11); have X11 := Lib.hid (X9.out.below hb11 X9.out.lt); obtain ⟨y0, y1, y2, y3, y4, y5, u0, u1, u2, u3, u4, u5⟩ := X11.out.s; have hr11 := X11.out.lt; obtain ⟨x0, x1, x2, x3, x4, x5, z0, z1, z2, z3, z4, z5⟩ := S11.out.box.s; have HN11 := Lib.hid hN11; have hs11 := hb11.size; have hp11 := S11.out.box.lt; clear hb11 hN11) | (go_at_call 12; (with_reducible refine (HWR.out T _ HT.out HV9.out).mono ?_); rintro e w11 ⟨v11, rfl, hN11, hb11⟩; obtain ⟨B1, k1, B2, m2, k2, B3, m3, k3, hv⟩ := hN11.form (sz := 0) (fu := 0) (dn := false) rfl rfl rfl; subst hv; have hBw := S9.out.zero.lt; have S11 := Lib.hid (S9.out.below hb11); obtain ⟨x0, x1, x2, x3, x4, x5, z0, z1, z2, z3, z4, z5⟩ := S11.out.box.s; have HN11 := Lib.hid hN11; have hs11 := hb11.size; have hp11 := S11.out.box.lt; clear hb11 hN11) | (go_at_call 12; (with_reducible refine (HWR.out T _ HT.out (HV9.out.below ((Below.refl _ _).alloc (Nat.le_refl _) _))).mono ?_); rintro e w11 ⟨v11, rfl, hN11, hb11⟩; obtain ⟨B1, k1, B2, m2, k2, B3, m3, k3, hv⟩ := hN11.form (sz := 0) (fu := 0) (dn := false) rfl rfl rfl; subst hv; have hBw := S9.out.zero.lt; have S11 := Lib.hid ((S9.out.alloc (.cells #[.int .i64 0, .slice none 0 0, .slice none 0 0, .slice none 0 0, .int .i64 0, .bool false] 25)).below hb11); have X11 := Lib.hid ((Box6.new w9 w9.heap.size 25 (.int .i64 0) (.slice none 0 0) (.slice none 0 0) (.slice none 0 0) (.int .i64 0) (.bool false) rfl).below hb11 (by simp)); have hr9 : p < w9.heap.size := hp9; obtain ⟨y0, y1, y2, y3, y4, y5, u0, u1, u2, u3, u4, u5⟩ := X11.out.s; have hr11 := X11.out.lt; obtain ⟨x0, x1, x2, x3, x4, x5, z0, z1, z2, z3, z4, z5⟩ := S11.out.box.s; have HN11 := Lib.hid hN11; have hs11 := hb11.size; have hp11 := S11.out.box.lt; clear hb11 hN11) | fail)
        all_goals go_wp2_with fail
        all_goals (
          go_roundw
          · first
              | exact ⟨j - 1, d, sz, A', n', c', A1, n1, c1, A2, n2, c2, by omega, by rw [Int.ofNat_sub h0]; rfl, S11.out.far X11.out hr9 _ _ _ _ _ _, HSZ.out, HNL.out, HM.out⟩
              | exact ⟨j - 1, d, sz, A', n', c', A1, n1, c1, A2, n2, c2, by omega, by rw [Int.ofNat_sub h0]; rfl, S11.out.alloc _, HSZ.out, HNL.out, HM.out⟩
              | fail
          · simp [intOf]; omega)
      · have HWR := Lib.hid (show ∀ (T : ByteArray) W, T.size ≤ 12 → DevV W (.agg #[.int .i64 sz, .slice A' n' c', .slice A1 n1 c1, .slice A2 n2 c2, .int .i64 0, .bool false]) d → Calls Try.prog 12 #[(.agg #[.int .i64 sz, .slice A' n' c', .slice A1 n1 c1, .slice A2 n2 c2, .int .i64 0, .bool false]), .int .i64 (m : Int), .string T] W fun e w' => ∃ v', e = .returned (.tuple #[v', .int .i64 0]) ∧ DevN w' W.heap.size v' (Dv.put d (m : Int) T) ∧ Below W.heap.size W w' from fun T W hT h => by
            have h2 := rwriteD_any _ d (m : Int) T W h
            rw [HM.out.wr0 HML.out hT, if_neg hb] at h2
            exact h2)
        have HBAD := Lib.hid hb
        clear hb
        go_wp2_with fail
        go_region_with (first | (go_at_call 31; (with_reducible refine (T1.out _ S8.out.drew.deck).mono ?_); rintro e w9 ⟨T, rfl, hT', hd9, hk9⟩; have hT : T.size ≤ 12 := hT'; have S9 := Lib.hid (S8.out.drew.next hd9 hk9); have HT := Lib.hid hT; obtain ⟨t0, t1, t2, t3, t4, t5, v0, v1, v2, v3, v4, v5⟩ := S9.out.box.s; have hp9 := S9.out.box.lt; have HV9 := Lib.hid (show DevV w9 (.agg #[.int .i64 sz, .slice A' n' c', .slice A1 n1 c1, .slice A2 n2 c2, .int .i64 0, .bool false]) d from S9.out.dev.dev); clear hT hT' hd9 hk9) | (go_at_call 31; (with_reducible refine (T1.out _ (S8.out.alloc _).drew.deck).mono ?_); rintro e w9 ⟨T, rfl, hT', hd9, hk9⟩; have hT : T.size ≤ 12 := hT'; have S9 := Lib.hid ((S8.out.alloc (.cells #[.int .i64 0, .slice none 0 0, .slice none 0 0, .slice none 0 0, .int .i64 0, .bool false] 25)).drew.next hd9 hk9); have hr9 : p < w8.heap.size := hp8; have X9 := Lib.hid (show Box6 w9 w8.heap.size 25 (.int .i64 0) (.slice none 0 0) (.slice none 0 0) (.slice none 0 0) (.int .i64 0) (.bool false) from ⟨(hk9.2 w8.heap.size (by simp) (by have h1 := S8.out.gB; have h2 := S8.out.Bp; omega)).trans (Box6.new w8 w8.heap.size 25 (.int .i64 0) (.slice none 0 0) (.slice none 0 0) (.slice none 0 0) (.int .i64 0) (.bool false) rfl).drew.h⟩); have HT := Lib.hid hT; obtain ⟨t0, t1, t2, t3, t4, t5, v0, v1, v2, v3, v4, v5⟩ := S9.out.box.s; have hp9 := S9.out.box.lt; have HV9 := Lib.hid (show DevV w9 (.agg #[.int .i64 sz, .slice A' n' c', .slice A1 n1 c1, .slice A2 n2 c2, .int .i64 0, .bool false]) d from S9.out.dev.dev); clear hT hT' hd9 hk9) | (go_at_call 12; (with_reducible refine (HWR.out T _ HT.out HV9.out).mono ?_); rintro e w11 ⟨v11, rfl, hN11, hb11⟩; obtain ⟨B1, k1, B2, m2, k2, B3, m3, k3, hv⟩ := hN11.form (sz := sz) (fu := 0) (dn := false) HSZ.out (by simp [Dv.put, HM.out.fu]) rfl; subst hv; have hBw := S9.out.zero.lt; have S11 := Lib.hid (S9.out.below hb11); have X11 := Lib.hid (X9.out.below hb11 X9.out.lt); obtain ⟨y0, y1, y2, y3, y4, y5, u0, u1, u2, u3, u4, u5⟩ := X11.out.s; have hr11 := X11.out.lt; obtain ⟨x0, x1, x2, x3, x4, x5, z0, z1, z2, z3, z4, z5⟩ := S11.out.box.s; obtain ⟨m1, hm1⟩ : ∃ k, (Dv.put d (m : Int) T).blocks.length = k := ⟨_, rfl⟩; rw [hm1] at hN11 ⊢; have HM1 := Lib.hid hm1; clear hm1; have HN11 := Lib.hid hN11; have hs11 := hb11.size; have hp11 := S11.out.box.lt; clear hb11 hN11) | (go_at_call 12; (with_reducible refine (HWR.out T _ HT.out HV9.out).mono ?_); rintro e w11 ⟨v11, rfl, hN11, hb11⟩; obtain ⟨B1, k1, B2, m2, k2, B3, m3, k3, hv⟩ := hN11.form (sz := sz) (fu := 0) (dn := false) HSZ.out (by simp [Dv.put, HM.out.fu]) rfl; subst hv; have hBw := S9.out.zero.lt; have S11 := Lib.hid (S9.out.below hb11); obtain ⟨x0, x1, x2, x3, x4, x5, z0, z1, z2, z3, z4, z5⟩ := S11.out.box.s; obtain ⟨m1, hm1⟩ : ∃ k, (Dv.put d (m : Int) T).blocks.length = k := ⟨_, rfl⟩; rw [hm1] at hN11 ⊢; have HM1 := Lib.hid hm1; clear hm1; have HN11 := Lib.hid hN11; have hs11 := hb11.size; have hp11 := S11.out.box.lt; clear hb11 hN11) | (go_at_call 12; (with_reducible refine (HWR.out T _ HT.out (HV9.out.below ((Below.refl _ _).alloc (Nat.le_refl _) _))).mono ?_); rintro e w11 ⟨v11, rfl, hN11, hb11⟩; obtain ⟨B1, k1, B2, m2, k2, B3, m3, k3, hv⟩ := hN11.form (sz := sz) (fu := 0) (dn := false) HSZ.out (by simp [Dv.put, HM.out.fu]) rfl; subst hv; have hBw := S9.out.zero.lt; have S11 := Lib.hid ((S9.out.alloc (.cells #[.int .i64 0, .slice none 0 0, .slice none 0 0, .slice none 0 0, .int .i64 0, .bool false] 25)).below hb11); have X11 := Lib.hid ((Box6.new w9 w9.heap.size 25 (.int .i64 0) (.slice none 0 0) (.slice none 0 0) (.slice none 0 0) (.int .i64 0) (.bool false) rfl).below hb11 (by simp)); have hr9 : p < w9.heap.size := hp9; obtain ⟨y0, y1, y2, y3, y4, y5, u0, u1, u2, u3, u4, u5⟩ := X11.out.s; have hr11 := X11.out.lt; obtain ⟨x0, x1, x2, x3, x4, x5, z0, z1, z2, z3, z4, z5⟩ := S11.out.box.s; obtain ⟨m1, hm1⟩ : ∃ k, (Dv.put d (m : Int) T).blocks.length = k := ⟨_, rfl⟩; rw [hm1] at hN11 ⊢; have HM1 := Lib.hid hm1; clear hm1; have HN11 := Lib.hid hN11; have hs11 := hb11.size; have hp11 := S11.out.box.lt; clear hb11 hN11) | fail)
        all_goals go_wp2_with fail
        all_goals (
          have HMP := Lib.hid (HM.out.put HML.out (by have := HT.out; have := HM.out.ok.s0; omega) HBAD.out : Dv.Mk least (Dv.put d (m : Int) T))
          first
            | (have SZ := Lib.hid ((S11.out.far X11.out hr9 (.int .i64 sz) (.slice B1 m1 k1) (.slice B2 m2 k2) (.slice B3 m3 k3) (.int .i64 0) (.bool false)).store ((HN11.out.st6 X11.out (by decide) (by decide) (.int .i64 sz) (.slice B1 m1 k1) (.slice B2 m2 k2) (.slice B3 m3 k3) (.int .i64 0) (.bool false)).mono (by first | omega | (simp; omega)))))
            | (have SZ := Lib.hid ((S11.out.store (HN11.out.mono (by omega))).alloc (.cells #[.int .i64 sz, .slice B1 m1 k1, .slice B2 m2 k2, .slice B3 m3 k3, .int .i64 0, .bool false] 25)))
            | fail
          go_roundw
          · exact ⟨j - 1, Dv.put d (m : Int) T, sz, B1, m1, k1, B2, m2, k2, B3, m3, k3, by omega, by rw [Int.ofNat_sub h0]; rfl, (by with_reducible exact SZ.out), HSZ.out, HM1.out, HMP.out⟩
          · simp [intOf]; omega)
    · obtain rfl : j = 0 := by omega
      have d0' : decide ((0 : Int) < ((0 : Nat) : Int)) = false := by simp
      obtain ⟨r0, r1, r2, r3, r4, r5, e0, e1, e2, e3, e4, e5⟩ := S.out.zero.s
      go_wp2_with fail
      obtain ⟨h1, h2, h3⟩ := S.out.done
      obtain ⟨s0, s1, s2, s3, s4, s5, _, _, _, _, _, _⟩ := (S.out.zero.st (.int .i64 sz) (.slice A' n' c') (.slice A1 n1 c1) (.slice A2 n2 c2) (.int .i64 0) (.bool false)).s
      exact bodyPost_ret (v := .agg #[.int .i64 sz, .slice A' n' c', .slice A1 n1 c1, .slice A2 n2 c2, .int .i64 0, .bool false]) (by simp [results, Try.results10, go_sem, s0, s1, s2, s3, s4, s5]) rfl ⟨_, d, rfl, by rw [HBE.out]; exact h1, HM.out, h2, h3⟩

end Go.Proofs.Ythdkidiemhfffaa
