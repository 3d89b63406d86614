/-
  The statements' package's Device: what a round keeps.
-/
import Derived.Test.YthdkidiemhfffaaMk
import Derived.Test.YthdkidiemhfffaaDk
import Derived.Deep.RegionWith
namespace Go.Proofs.Ythdkidiemhfffaa
open Go.RowKit
set_option maxHeartbeats 2000000

theorem Dv.deck_lt {w0 w : World} {A : Option Addr} {n c g : Nat} (h : DeckIn w0 A n c g w) : g < w.heap.size := by
  obtain ⟨_, _, _, _, h⟩ := h; exact lt_of_block h
theorem Dv.deck_below {w0 w w' : World} {A : Option Addr} {n c g : Nat} (h : DeckIn w0 A n c g w) (hb : Below w.heap.size w w') : DeckIn w0 A n c g w' := by
  have hl := Dv.deck_lt h
  obtain ⟨h1, h2, k, hk, h3⟩ := h
  exact ⟨h1.trans (hb.mono h1.size), h2, k, hk, (hb.block g hl).trans h3⟩
theorem Dv.deck_set {w0 w : World} {A : Option Addr} {n c g : Nat} (h : DeckIn w0 A n c g w) {a : Addr} (ha : a.block ≠ g) (hb : w0.heap.size ≤ a.block) (v : Value) : DeckIn w0 A n c g (w.setCell a v) := by
  obtain ⟨h1, h2, k, hk, h3⟩ := h
  exact ⟨h1.setCell hb _, h2, k, hk, (Below.heap_setCell _ _ _ _ (fun e => ha e.symm)).trans h3⟩
theorem Dv.own_kept {g : Nat} {w w' : World} (hk : KeptBut g w w') {B : Nat} {e : TypeId} {v : Value} {n : Nat} {xs : List Value} (h : w.ownsRow B e 1 v n xs) (hg : g < B) : w'.ownsRow B e 1 v n xs := by
  refine ⟨h.1, h.2.imp id ?_⟩
  rintro ⟨b, cap, cur, hv, hB, hb, r⟩
  exact ⟨b, cap, cur, hv, hB, (hk.2 b (lt_of_block hb) (by omega)).trans hb, r⟩
theorem DevN.kept {g : Nat} {w w' : World} {B : Nat} {v : Value} {d : Dv.D} (h : DevN w B v d) (hk : KeptBut g w w') (hg : g < B) : DevN w' B v d := by
  obtain ⟨⟨v0, v1, v2, e, o0, o1, o2⟩, h0, h1, h2, hs⟩ := h
  exact ⟨⟨v0, v1, v2, e, Dv.own_kept hk o0 hg, Dv.own_kept hk o1 hg, Dv.own_kept hk o2 hg⟩, h0, h1, h2, hs⟩
theorem DevN.st6 {w : World} {B : Nat} {v : Value} {d : Dv.D} (h : DevN w B v d) {b : Nat} {T : TypeId} {x0 x1 x2 x3 x4 x5 : Value} (hx : Box6 w b T x0 x1 x2 x3 x4 x5) (h1' : T ≠ 9) (h2' : T ≠ 3) (y0 y1 y2 y3 y4 y5 : Value) : DevN (Go.Proofs.Ythdkidiemhfffaa.st6 w b y0 y1 y2 y3 y4 y5) B v d := by
  obtain ⟨⟨v0, v1, v2, e, o0, o1, o2⟩, h0, h1, h2, hs⟩ := h
  have far : ∀ {e : TypeId} {u : Value} {k : Nat} {xs : List Value} {W : World} {z0 z1 z2 z3 z4 z5 : Value}, W.ownsRow B e 1 u k xs → Box6 W b T z0 z1 z2 z3 z4 z5 → T ≠ e → u.ownBlock ≠ some b := fun ho hb hT => Lib.ownBlock_ne ho hb.h hT
  have all : ∀ {e : TypeId} {u : Value} {k : Nat} {xs : List Value}, w.ownsRow B e 1 u k xs → T ≠ e → (Go.Proofs.Ythdkidiemhfffaa.st6 w b y0 y1 y2 y3 y4 y5).ownsRow B e 1 u k xs := fun {e u k xs} ho hT => by
    have hne := far ho hx hT
    exact ownsRow_setCell_other (ownsRow_setCell_other (ownsRow_setCell_other (ownsRow_setCell_other (ownsRow_setCell_other (ownsRow_setCell_other ho (a := ⟨b, 0, none⟩) hne y0) (a := ⟨b, 1, none⟩) hne y1) (a := ⟨b, 2, none⟩) hne y2) (a := ⟨b, 3, none⟩) hne y3) (a := ⟨b, 4, none⟩) hne y4) (a := ⟨b, 5, none⟩) hne y5
  exact ⟨⟨v0, v1, v2, e, all o0 h1', all o1 h2', all o2 h2'⟩, h0, h1, h2, hs⟩
/-- what such a value looks like -/
theorem DevN.form {w : World} {B : Nat} {v : Value} {d : Dv.D} (h : DevN w B v d) {sz fu : Int} {dn : Bool} (hs : d.size = sz) (hf : d.fuse = fu) (hd : d.down = dn) :
    ∃ A c A1 n1 c1 A2 n2 c2, v = .agg #[.int .i64 sz, .slice A d.blocks.length c, .slice A1 n1 c1, .slice A2 n2 c2, .int .i64 fu, .bool dn] := by
  obtain ⟨⟨v0, v1, v2, e, o0, o1, o2⟩, _⟩ := h
  obtain ⟨A, c, rfl⟩ := own_slice o0
  obtain ⟨A1, c1, rfl⟩ := own_slice o1
  obtain ⟨A2, c2, rfl⟩ := own_slice o2
  exact ⟨A, c, A1, _, c1, A2, _, c2, by rw [e, ← hs, ← hf, ← hd]⟩

/-- what a round keeps: the variable in block p, the answer's block B, the deck in block g -/
structure Dv.St (w0 w : World) (A : Option Addr) (n c g B p : Nat) (wr : World) (d : Dv.D) (x0 x1 x2 x3 x4 x5 : Value) : Prop where
  box : Box6 wr p 25 x0 x1 x2 x3 x4 x5
  dev : DevN wr (B + 1) (.agg #[x0, x1, x2, x3, x4, x5]) d
  zero : Box6 wr B 25 (.int .i64 0) (.slice none 0 0) (.slice none 0 0) (.slice none 0 0) (.int .i64 0) (.bool false)
  deck : DeckIn w0 A n c g wr
  kept : KeptBut g w wr
  gB : g < B
  wB : w.heap.size = B
  Bp : B < p
theorem Dv.St.below {w0 w : World} {A : Option Addr} {n c g B p : Nat} {wr wr' : World} {d : Dv.D} {x0 x1 x2 x3 x4 x5 : Value} (h : Dv.St w0 w A n c g B p wr d x0 x1 x2 x3 x4 x5) (hb : Below wr.heap.size wr wr') : Dv.St w0 w A n c g B p wr' d x0 x1 x2 x3 x4 x5 :=
  ⟨h.box.below hb h.box.lt, h.dev.below hb, h.zero.below hb h.zero.lt, Dv.deck_below h.deck hb, h.kept.trans ⟨hb.size, fun b hb' _ => hb.block b hb'⟩, h.gB, h.wB, h.Bp⟩
theorem Dv.St.alloc {w0 w : World} {A : Option Addr} {n c g B p : Nat} {wr : World} {d : Dv.D} {x0 x1 x2 x3 x4 x5 : Value} (h : Dv.St w0 w A n c g B p wr d x0 x1 x2 x3 x4 x5) (o : Obj) : Dv.St w0 w A n c g B p (wr.alloc o) d x0 x1 x2 x3 x4 x5 :=
  h.below ((Below.refl _ _).alloc (Nat.le_refl _) _)
theorem Dv.St.drew {w0 w : World} {A : Option Addr} {n c g B p : Nat} {wr : World} {d : Dv.D} {x0 x1 x2 x3 x4 x5 : Value} (h : Dv.St w0 w A n c g B p wr d x0 x1 x2 x3 x4 x5) : Dv.St w0 w A n c g B p wr.drew d x0 x1 x2 x3 x4 x5 :=
  h.below (Below.refl _ _).drew
theorem Dv.St.next {w0 w : World} {A : Option Addr} {n c g B p : Nat} {wr wr' : World} {d : Dv.D} {x0 x1 x2 x3 x4 x5 : Value} (h : Dv.St w0 w A n c g B p wr d x0 x1 x2 x3 x4 x5) (hd : DeckIn w0 A n c g wr') (hk : KeptBut g wr wr') : Dv.St w0 w A n c g B p wr' d x0 x1 x2 x3 x4 x5 := by
  have hg := h.gB
  have hBp := h.Bp
  exact ⟨⟨(hk.2 p h.box.lt (by omega)).trans h.box.h⟩, h.dev.kept hk (by omega), ⟨(hk.2 B h.zero.lt (by omega)).trans h.zero.h⟩, hd, h.kept.trans hk, hg, h.wB, hBp⟩
theorem Dv.St.store {w0 w : World} {A : Option Addr} {n c g B p : Nat} {wr : World} {d d' : Dv.D} {x0 x1 x2 x3 x4 x5 y0 y1 y2 y3 y4 y5 : Value} (h : Dv.St w0 w A n c g B p wr d x0 x1 x2 x3 x4 x5) (hd : DevN wr (B + 1) (.agg #[y0, y1, y2, y3, y4, y5]) d') : Dv.St w0 w A n c g B p (st6 wr p y0 y1 y2 y3 y4 y5) d' y0 y1 y2 y3 y4 y5 := by
  have hg := h.gB
  have hBp := h.Bp
  have hw0 : w0.heap.size ≤ p := by have := h.deck.2.1; omega
  have hs : ∀ (W : World) (k : Nat) (v : Value), DeckIn w0 A n c g W → DeckIn w0 A n c g (W.setCell ⟨p, k, none⟩ v) := fun W k v hW => Dv.deck_set hW (a := ⟨p, k, none⟩) (by show p ≠ g; omega) hw0 v
  have hk : ∀ (W : World) (k : Nat) (v : Value), KeptBut g w W → KeptBut g w (W.setCell ⟨p, k, none⟩ v) := fun W k v hW => ⟨by have := hW.1; simpa [World.setCell] using this, fun b hb hbg => (Below.heap_setCell _ _ _ _ (by show b ≠ p; have := h.wB; omega)).trans (hW.2 b hb hbg)⟩
  exact ⟨h.box.st _ _ _ _ _ _, hd.st6 h.box (by decide) (by decide) _ _ _ _ _ _, h.zero.far (by omega) _ _ _ _ _ _, hs _ _ _ (hs _ _ _ (hs _ _ _ (hs _ _ _ (hs _ _ _ (hs _ _ _ h.deck))))), hk _ _ _ (hk _ _ _ (hk _ _ _ (hk _ _ _ (hk _ _ _ (hk _ _ _ h.kept))))), hg, h.wB, hBp⟩

end Go.Proofs.Ythdkidiemhfffaa
