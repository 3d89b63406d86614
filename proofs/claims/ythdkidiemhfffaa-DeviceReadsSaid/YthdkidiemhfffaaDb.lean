/-
  Devices as values: how they read, how they are owned; a struct of six cells in a block. Contracts of the reference: numbers, has, ints.
-/
import Derived.Test.YthdkidiemhfffaaDa
import Derived.Test.YthdkidiemhfffaaKit2
import Derived.Test.YthdkidiemhfffaaClone
namespace Go.Proofs.Ythdkidiemhfffaa
open Go.RowKit
set_option maxHeartbeats 1000000

/-- the slice (A, n, c) reads as the values vs, and is small enough -/
def SlIn (w : World) (A : Option Addr) (n c : Nat) (vs : List Value) : Prop := CellsIn w A n c vs ∧ (A = none → c = 0) ∧ n ≤ 17592186044416
theorem SlIn.below {w w' : World} {A : Option Addr} {n c : Nat} {vs : List Value} (h : SlIn w A n c vs) (hb : Below w.heap.size w w') : SlIn w' A n c vs := ⟨h.1.below hb, h.2⟩
theorem SlIn.nil (w : World) : SlIn w none 0 0 [] := ⟨CellsIn.nil w, fun _ => rfl, by omega⟩
theorem SlIn.own {w : World} {B : Nat} {e : TypeId} {A : Option Addr} {n c : Nat} {vs : List Value} (h : w.ownsRow B e 1 (.slice A n c) n vs) (hn : n ≤ 17592186044416) : SlIn w A n c vs := by
  refine ⟨CellsIn.own h, fun hA => ?_, hn⟩
  subst hA
  rcases h.2 with ⟨hv, _⟩ | ⟨g, cap, cur, hv, _⟩
  · injection hv
  · injection hv with h1; cases h1

abbrev Dv.ints (l : List Int) : List Value := l.map (Value.int .i64)
abbrev Dv.strs (l : List ByteArray) : List Value := l.map Value.string
abbrev Dv.val (d : Dv.D) (v0 v1 v2 : Value) : Value := .agg #[.int .i64 d.size, v0, v1, v2, .int .i64 d.fuse, .bool d.down]

/-- the parts of a device as they lie in memory -/
structure DevP (w : World) (A : Option Addr) (n c : Nat) (A1 : Option Addr) (n1 c1 : Nat) (A2 : Option Addr) (n2 c2 : Nat) (d : Dv.D) : Prop where
  b : SlIn w A n c (Dv.strs d.blocks)
  t : SlIn w A1 n1 c1 (Dv.ints d.torn)
  f : SlIn w A2 n2 c2 (Dv.ints d.bad)
  s : ∀ s ∈ d.blocks, s.size ≤ 140737488355328
/-- the value v reads as the device d -/
def DevV (w : World) (v : Value) (d : Dv.D) : Prop := ∃ A n c A1 n1 c1 A2 n2 c2, v = Dv.val d (.slice A n c) (.slice A1 n1 c1) (.slice A2 n2 c2) ∧ DevP w A n c A1 n1 c1 A2 n2 c2 d
theorem DevP.below {w w' : World} {A : Option Addr} {n c : Nat} {A1 : Option Addr} {n1 c1 : Nat} {A2 : Option Addr} {n2 c2 : Nat} {d : Dv.D} (h : DevP w A n c A1 n1 c1 A2 n2 c2 d) (hb : Below w.heap.size w w') : DevP w' A n c A1 n1 c1 A2 n2 c2 d :=
  ⟨h.b.below hb, h.t.below hb, h.f.below hb, h.s⟩
theorem DevV.below {w w' : World} {v : Value} {d : Dv.D} (h : DevV w v d) (hb : Below w.heap.size w w') : DevV w' v d := by
  obtain ⟨A, n, c, A1, n1, c1, A2, n2, c2, e, h⟩ := h
  exact ⟨A, n, c, A1, n1, c1, A2, n2, c2, e, h.below hb⟩
theorem DevP.lens {w : World} {A : Option Addr} {n c : Nat} {A1 : Option Addr} {n1 c1 : Nat} {A2 : Option Addr} {n2 c2 : Nat} {d : Dv.D} (h : DevP w A n c A1 n1 c1 A2 n2 c2 d) : d.blocks.length = n ∧ d.torn.length = n1 ∧ d.bad.length = n2 :=
  ⟨by rw [← h.b.1.1, List.length_map], by rw [← h.t.1.1, List.length_map], by rw [← h.f.1.1, List.length_map]⟩
theorem DevV.none' (w : World) : DevV w (Dv.val Dv.none' (.slice none 0 0) (.slice none 0 0) (.slice none 0 0)) Dv.none' :=
  ⟨none, 0, 0, none, 0, 0, none, 0, 0, rfl, ⟨SlIn.nil w, SlIn.nil w, SlIn.nil w, fun s hs => absurd hs (by simp [Dv.none'])⟩⟩

/-- a device whose rows are new from block B on, the row of what is bad apart from that of what is torn -/
def DevO (w : World) (B : Nat) (v : Value) (d : Dv.D) : Prop := ∃ v0 v1 v2, v = Dv.val d v0 v1 v2 ∧ w.ownsRow B 9 1 v0 d.blocks.length (Dv.strs d.blocks) ∧ w.ownsRow B 3 1 v1 d.torn.length (Dv.ints d.torn) ∧
  w.ownsRow B 3 1 v2 d.bad.length (Dv.ints d.bad) ∧ (∀ g, v1.ownBlock = some g → v2.ownBlock ≠ some g)
theorem DevO.dev {w : World} {B : Nat} {v : Value} {d : Dv.D} (h : DevO w B v d) (h0 : d.blocks.length ≤ 17592186044416) (h1 : d.torn.length ≤ 17592186044416) (h2 : d.bad.length ≤ 17592186044416) (hs : ∀ s ∈ d.blocks, s.size ≤ 140737488355328) : DevV w v d := by
  obtain ⟨v0, v1, v2, rfl, o0, o1, o2, _⟩ := h
  obtain ⟨A, c, rfl⟩ := own_slice o0
  obtain ⟨A1, c1, rfl⟩ := own_slice o1
  obtain ⟨A2, c2, rfl⟩ := own_slice o2
  exact ⟨A, _, c, A1, _, c1, A2, _, c2, rfl, ⟨SlIn.own o0 h0, SlIn.own o1 h1, SlIn.own o2 h2, hs⟩⟩
theorem Dv.Ok.fits {d : Dv.D} (h : Dv.Ok d) : ∀ s ∈ d.blocks, s.size ≤ 140737488355328 := fun s hs => by
  obtain ⟨i, hi, rfl⟩ := List.mem_iff_getElem.1 hs
  have := h.le i hi
  have := h.s1
  omega
theorem DevO.ok {w : World} {B : Nat} {v : Value} {d : Dv.D} (h : DevO w B v d) (hd : Dv.Ok d) : DevV w v d := by
  have h1 := hd.n1
  have h2 := hd.t.len
  have h3 := hd.b.len
  exact h.dev (by omega) (by omega) (by omega) hd.fits

/-- a device whose rows are new from block B on -/
structure DevN (w : World) (B : Nat) (v : Value) (d : Dv.D) : Prop where
  rows : ∃ v0 v1 v2, v = Dv.val d v0 v1 v2 ∧ w.ownsRow B 9 1 v0 d.blocks.length (Dv.strs d.blocks) ∧ w.ownsRow B 3 1 v1 d.torn.length (Dv.ints d.torn) ∧ w.ownsRow B 3 1 v2 d.bad.length (Dv.ints d.bad)
  n0 : d.blocks.length ≤ 4096
  n1 : d.torn.length ≤ 4096
  n2 : d.bad.length ≤ 4096
  fits : ∀ s ∈ d.blocks, s.size ≤ 140737488355328
theorem DevN.dev {w : World} {B : Nat} {v : Value} {d : Dv.D} (h : DevN w B v d) : DevV w v d := by
  obtain ⟨⟨v0, v1, v2, rfl, o0, o1, o2⟩, h0, h1, h2, hs⟩ := h
  obtain ⟨A, c, rfl⟩ := own_slice o0
  obtain ⟨A1, c1, rfl⟩ := own_slice o1
  obtain ⟨A2, c2, rfl⟩ := own_slice o2
  exact ⟨A, _, c, A1, _, c1, A2, _, c2, rfl, ⟨SlIn.own o0 (by omega), SlIn.own o1 (by omega), SlIn.own o2 (by omega), hs⟩⟩
theorem DevN.below {w w' : World} {B : Nat} {v : Value} {d : Dv.D} (h : DevN w B v d) (hb : Below w.heap.size w w') : DevN w' B v d := by
  obtain ⟨⟨v0, v1, v2, e, o0, o1, o2⟩, h0, h1, h2, hs⟩ := h
  exact ⟨⟨v0, v1, v2, e, own_below o0 hb, own_below o1 hb, own_below o2 hb⟩, h0, h1, h2, hs⟩
theorem DevN.mono {w : World} {B B' : Nat} {v : Value} {d : Dv.D} (h : DevN w B v d) (hB : B' ≤ B) : DevN w B' v d := by
  obtain ⟨⟨v0, v1, v2, e, o0, o1, o2⟩, h0, h1, h2, hs⟩ := h
  exact ⟨⟨v0, v1, v2, e, own_mono o0 hB, own_mono o1 hB, own_mono o2 hB⟩, h0, h1, h2, hs⟩
theorem DevN.none' (w : World) (B : Nat) : DevN w B (Dv.val Dv.none' (.slice none 0 0) (.slice none 0 0) (.slice none 0 0)) Dv.none' :=
  ⟨⟨_, _, _, rfl, World.ownsRow_nil _ _ _ _, World.ownsRow_nil _ _ _ _, World.ownsRow_nil _ _ _ _⟩, by simp [Dv.none'], by simp [Dv.none'], by simp [Dv.none'], fun s hs => absurd hs (by simp [Dv.none'])⟩
theorem DevN.of {w : World} {B B' : Nat} {d : Dv.D} {A : Option Addr} {n c : Nat} {A1 : Option Addr} {n1 c1 : Nat} {A2 : Option Addr} {n2 c2 : Nat} (h0 : w.ownsRow B 9 1 (.slice A n c) n (Dv.strs d.blocks)) (h1 : w.ownsRow B 3 1 (.slice A1 n1 c1) n1 (Dv.ints d.torn)) (h2 : w.ownsRow B 3 1 (.slice A2 n2 c2) n2 (Dv.ints d.bad)) (b0 : n ≤ 4096) (b1 : n1 ≤ 4096) (b2 : n2 ≤ 4096) (hs : ∀ s ∈ d.blocks, s.size ≤ 140737488355328) (hB : B' ≤ B) :
    DevN w B' (Dv.val d (.slice A n c) (.slice A1 n1 c1) (.slice A2 n2 c2)) d := by
  have e0 : d.blocks.length = n := by have := h0.1; simpa using this
  have e1 : d.torn.length = n1 := by have := h1.1; simpa using this
  have e2 : d.bad.length = n2 := by have := h2.1; simpa using this
  exact ⟨⟨_, _, _, rfl, by rw [e0]; exact own_mono h0 hB, by rw [e1]; exact own_mono h1 hB, by rw [e2]; exact own_mono h2 hB⟩, by omega, by omega, by omega, hs⟩

/-- a struct of six cells in a block of its own -/
structure Box6 (w : World) (b : Nat) (T : TypeId) (x0 x1 x2 x3 x4 x5 : Value) : Prop where
  h : w.heap[b]? = some (.cells #[x0, x1, x2, x3, x4, x5] T (0, 0))
/-- its cells, as a walk wants them -/
def Box6S (w : World) (b : Nat) (x0 x1 x2 x3 x4 x5 : Value) : Prop :=
  w.cell? ⟨b, 0, none⟩ = some x0 ∧ w.cell? ⟨b, 1, none⟩ = some x1 ∧ w.cell? ⟨b, 2, none⟩ = some x2 ∧ w.cell? ⟨b, 3, none⟩ = some x3 ∧ w.cell? ⟨b, 4, none⟩ = some x4 ∧ w.cell? ⟨b, 5, none⟩ = some x5 ∧
  w.frozen? ⟨b, 0, none⟩ = false ∧ w.frozen? ⟨b, 1, none⟩ = false ∧ w.frozen? ⟨b, 2, none⟩ = false ∧ w.frozen? ⟨b, 3, none⟩ = false ∧ w.frozen? ⟨b, 4, none⟩ = false ∧ w.frozen? ⟨b, 5, none⟩ = false
theorem Box6.s {w : World} {b : Nat} {T : TypeId} {x0 x1 x2 x3 x4 x5 : Value} (h : Box6 w b T x0 x1 x2 x3 x4 x5) : Box6S w b x0 x1 x2 x3 x4 x5 := by
  have h := h.h
  refine ⟨?_, ?_, ?_, ?_, ?_, ?_, ?_, ?_, ?_, ?_, ?_, ?_⟩ <;> simp [World.cell?, World.frozen?, h]
theorem Box6.lt {w : World} {b : Nat} {T : TypeId} {x0 x1 x2 x3 x4 x5 : Value} (h : Box6 w b T x0 x1 x2 x3 x4 x5) : b < w.heap.size := lt_of_block h.h
theorem Box6.below {w w' : World} {b B : Nat} {T : TypeId} {x0 x1 x2 x3 x4 x5 : Value} (h : Box6 w b T x0 x1 x2 x3 x4 x5) (hb : Below B w w') (hl : b < B) : Box6 w' b T x0 x1 x2 x3 x4 x5 := ⟨(hb.block b hl).trans h.h⟩
theorem Box6.drew {w : World} {b : Nat} {T : TypeId} {x0 x1 x2 x3 x4 x5 : Value} (h : Box6 w b T x0 x1 x2 x3 x4 x5) : Box6 w.drew b T x0 x1 x2 x3 x4 x5 := ⟨h.h⟩
theorem Box6.new (w : World) (b : Nat) (T : TypeId) (x0 x1 x2 x3 x4 x5 : Value) (hb : w.heap.size = b) : Box6 (w.alloc (.cells #[x0, x1, x2, x3, x4, x5] T)) b T x0 x1 x2 x3 x4 x5 := ⟨by rw [← hb]; exact heap_alloc_new _ _⟩
theorem Box6.alloc {w : World} {b : Nat} {T : TypeId} {x0 x1 x2 x3 x4 x5 : Value} (h : Box6 w b T x0 x1 x2 x3 x4 x5) (o : Obj) : Box6 (w.alloc o) b T x0 x1 x2 x3 x4 x5 := ⟨(Below.heap_alloc _ _ _ h.lt).trans h.h⟩
theorem Box6.grown {w w' : World} {row : Option Nat} {b : Nat} {T : TypeId} {x0 x1 x2 x3 x4 x5 : Value} (h : Box6 w b T x0 x1 x2 x3 x4 x5) (hg : w.grownBy w' row) (hr : row ≠ some b) : Box6 w' b T x0 x1 x2 x3 x4 x5 := ⟨(hg.block b h.lt (fun e => hr e.symm)).trans h.h⟩
theorem Box6.other {w : World} {b : Nat} {T : TypeId} {x0 x1 x2 x3 x4 x5 : Value} (h : Box6 w b T x0 x1 x2 x3 x4 x5) {a : Addr} (ha : b ≠ a.block) (v : Value) : Box6 (w.setCell a v) b T x0 x1 x2 x3 x4 x5 := ⟨(Below.heap_setCell _ _ _ _ ha).trans h.h⟩
theorem Box6.set0 {w : World} {b : Nat} {T : TypeId} {x0 x1 x2 x3 x4 x5 : Value} (h : Box6 w b T x0 x1 x2 x3 x4 x5) (v : Value) : Box6 (w.setCell ⟨b, 0, none⟩ v) b T v x1 x2 x3 x4 x5 := ⟨by have h := h.h; simp [World.setCell, Array.getElem?_modify, h]⟩
theorem Box6.set1 {w : World} {b : Nat} {T : TypeId} {x0 x1 x2 x3 x4 x5 : Value} (h : Box6 w b T x0 x1 x2 x3 x4 x5) (v : Value) : Box6 (w.setCell ⟨b, 1, none⟩ v) b T x0 v x2 x3 x4 x5 := ⟨by have h := h.h; simp [World.setCell, Array.getElem?_modify, h]⟩
theorem Box6.set2 {w : World} {b : Nat} {T : TypeId} {x0 x1 x2 x3 x4 x5 : Value} (h : Box6 w b T x0 x1 x2 x3 x4 x5) (v : Value) : Box6 (w.setCell ⟨b, 2, none⟩ v) b T x0 x1 v x3 x4 x5 := ⟨by have h := h.h; simp [World.setCell, Array.getElem?_modify, h]⟩
theorem Box6.set3 {w : World} {b : Nat} {T : TypeId} {x0 x1 x2 x3 x4 x5 : Value} (h : Box6 w b T x0 x1 x2 x3 x4 x5) (v : Value) : Box6 (w.setCell ⟨b, 3, none⟩ v) b T x0 x1 x2 v x4 x5 := ⟨by have h := h.h; simp [World.setCell, Array.getElem?_modify, h]⟩
theorem Box6.set4 {w : World} {b : Nat} {T : TypeId} {x0 x1 x2 x3 x4 x5 : Value} (h : Box6 w b T x0 x1 x2 x3 x4 x5) (v : Value) : Box6 (w.setCell ⟨b, 4, none⟩ v) b T x0 x1 x2 x3 v x5 := ⟨by have h := h.h; simp [World.setCell, Array.getElem?_modify, h]⟩
theorem Box6.set5 {w : World} {b : Nat} {T : TypeId} {x0 x1 x2 x3 x4 x5 : Value} (h : Box6 w b T x0 x1 x2 x3 x4 x5) (v : Value) : Box6 (w.setCell ⟨b, 5, none⟩ v) b T x0 x1 x2 x3 x4 v := ⟨by have h := h.h; simp [World.setCell, Array.getElem?_modify, h]⟩

/-- six cells are stored -/
abbrev st6 (w : World) (b : Nat) (y0 y1 y2 y3 y4 y5 : Value) : World :=
  (((((w.setCell ⟨b, 0, none⟩ y0).setCell ⟨b, 1, none⟩ y1).setCell ⟨b, 2, none⟩ y2).setCell ⟨b, 3, none⟩ y3).setCell ⟨b, 4, none⟩ y4).setCell ⟨b, 5, none⟩ y5
theorem Box6.st {w : World} {b : Nat} {T : TypeId} {x0 x1 x2 x3 x4 x5 : Value} (h : Box6 w b T x0 x1 x2 x3 x4 x5) (y0 y1 y2 y3 y4 y5 : Value) : Box6 (st6 w b y0 y1 y2 y3 y4 y5) b T y0 y1 y2 y3 y4 y5 :=
  (((((h.set0 y0).set1 y1).set2 y2).set3 y3).set4 y4).set5 y5
theorem Box6.far {w : World} {b : Nat} {T : TypeId} {x0 x1 x2 x3 x4 x5 : Value} (h : Box6 w b T x0 x1 x2 x3 x4 x5) {k : Nat} (hk : b ≠ k) (y0 y1 y2 y3 y4 y5 : Value) : Box6 (st6 w k y0 y1 y2 y3 y4 y5) b T x0 x1 x2 x3 x4 x5 :=
  (((((h.other hk y0).other hk y1).other hk y2).other hk y3).other hk y4).other hk y5
theorem own_cell {w : World} {B : Nat} {e : TypeId} {v : Value} {n : Nat} {xs : List Value} (h : w.ownsRow B e 1 v n xs) {a : Addr} (ha : a.block < B) (u : Value) : (w.setCell a u).ownsRow B e 1 v n xs :=
  ownsRow_setCell_other h (fun k => by have := (h.lt _ k).1; omega) u
theorem own_st6 {w : World} {B : Nat} {e : TypeId} {v : Value} {n : Nat} {xs : List Value} (h : w.ownsRow B e 1 v n xs) {k : Nat} (ha : k < B) (y0 y1 y2 y3 y4 y5 : Value) : (st6 w k y0 y1 y2 y3 y4 y5).ownsRow B e 1 v n xs :=
  own_cell (own_cell (own_cell (own_cell (own_cell (own_cell h (a := ⟨k, 0, none⟩) ha y0) (a := ⟨k, 1, none⟩) ha y1) (a := ⟨k, 2, none⟩) ha y2) (a := ⟨k, 3, none⟩) ha y3) (a := ⟨k, 4, none⟩) ha y4) (a := ⟨k, 5, none⟩) ha y5
theorem below_st6 {B : Nat} {w w' : World} (h : Below B w w') {k : Nat} (hk : B ≤ k) (y0 y1 y2 y3 y4 y5 : Value) : Below B w (st6 w' k y0 y1 y2 y3 y4 y5) :=
  (((((h.setCell (p := ⟨k, 0, none⟩) hk y0).setCell (p := ⟨k, 1, none⟩) hk y1).setCell (p := ⟨k, 2, none⟩) hk y2).setCell (p := ⟨k, 3, none⟩) hk y3).setCell (p := ⟨k, 4, none⟩) hk y4).setCell (p := ⟨k, 5, none⟩) hk y5

theorem info_int' : (Try.prog.info? 3).map (fun i => (i.zero, i.size, i.bytes)) = some (some (.int .i64 0), 1, 8) := by kernel_rfl

set_option maxRecDepth 100000 in
theorem rnumbers_any (A : Option Addr) (n c : Nat) (l : List Int) (m : Nat) (w : World) (hl : SlIn w A n c (Dv.ints l)) :
    Calls Try.prog 40 #[.slice A n c, .int .i64 (m : Nat)] w fun e w' => e = .returned (.bool (Dv.numsB l m)) ∧ Below w.heap.size w w' := by
  have hn := hl.2.2
  have hll : l.length = n := by rw [← hl.1.1, List.length_map]
  obtain ⟨r, hr⟩ : ∃ r, Dv.numsB l m = r := ⟨_, rfl⟩
  rw [hr]
  have HRR := Lib.hid hr
  have H := Lib.hid hl.1
  have HLL := Lib.hid hll
  clear hl hll hr
  go_enter Try.func40, Try.ntmps40
  go_wp2
  go_loopw [9] (fun i wr => ∃ k : Nat, k ≤ n ∧ i = .int .i64 k ∧ (∀ j (hj : j < l.length), j < k → 0 ≤ l[j] ∧ l[j] < (m : Int)) ∧ (∀ j (hj : j + 1 < l.length), j + 1 < k → l[j] < l[j + 1]) ∧ ∃ q, wr = w.drewN q) (fun i _ => n - (intOf i).toNat)
  case atStart => exact ⟨0, by omega, rfl, fun j _ h => absurd h (by omega), fun j _ h => absurd h (by omega), 0, rfl⟩
  case round =>
    obtain ⟨k, hk, rfl, hr, ha, q, rfl⟩ := hrel
    have HR := Lib.hid hr
    have HA := Lib.hid ha
    clear hr ha
    by_cases hlt : k < n
    · obtain ⟨b, o, rfl, hbl, hz, g1⟩ := H.out.at hlt
      have hkl : k < l.length := by rw [HLL.out]; exact hlt
      rw [List.getElem_map] at g1
      obtain ⟨x, hx⟩ : ∃ x, l[k] = x := ⟨_, rfl⟩
      rw [hx] at g1
      have i0 : (0 : Int) ≤ (k : Int) := by omega
      have i1 : (k : Int) < (n : Int) := by omega
      have HX := Lib.hid (show ∃ h : k < l.length, l[k] = x from ⟨hkl, hx⟩)
      clear hx hz hkl
      have hBq : Below w.heap.size w (w.drewN (q + 1)) := ⟨rfl, rfl, rfl, Nat.le_refl _, fun _ _ => rfl⟩
      by_cases hx0 : x < 0
      · have d0 : decide (x < 0) = true := by simpa using hx0
        have hrf : false = r := (by rw [← HRR.out, eq_comm, Dv.numsB_false]; intro h; have := (h.rng _ (List.getElem_mem HX.out.1)).1; rw [HX.out.2] at this; omega)
        subst hrf
        go_wp2_with fail
        go_ret
        exact ⟨rfl, ⟨rfl, rfl, rfl, Nat.le_refl _, fun _ _ => rfl⟩⟩
      have d0 : decide (x < 0) = false := by simpa using hx0
      by_cases hxm : (m : Int) ≤ x
      · have d1 : decide ((m : Int) ≤ x) = true := by simpa using hxm
        have hrf : false = r := (by rw [← HRR.out, eq_comm, Dv.numsB_false]; intro h; have := (h.rng _ (List.getElem_mem HX.out.1)).2; rw [HX.out.2] at this; omega)
        subst hrf
        go_wp2_with fail
        go_ret
        exact ⟨rfl, ⟨rfl, rfl, rfl, Nat.le_refl _, fun _ _ => rfl⟩⟩
      have d1 : decide ((m : Int) ≤ x) = false := by simpa using hxm
      have HR2 := Lib.hid (show ∀ j (hj : j < l.length), j < k + 1 → 0 ≤ l[j] ∧ l[j] < (m : Int) from fun j hj h => by
        by_cases e : j = k
        · subst e; rw [HX.out.2]; omega
        · exact HR.out j hj (by omega))
      by_cases h0 : 0 < k
      · obtain ⟨b', o', hA, _, hz', g2⟩ := H.out.at (i := k - 1) (by omega)
        injection hA with hA
        injection hA with hA1 hA2
        subst hA1 hA2
        have hkp : k - 1 < l.length := by have := HX.out.1; omega
        rw [List.getElem_map] at g2
        obtain ⟨y, hy⟩ : ∃ y, l[k - 1] = y := ⟨_, rfl⟩
        rw [hy] at g2
        have d2 : decide ((0 : Int) < (k : Int)) = true := by simpa using h0
        have k1 : (0 : Int) ≤ (k : Int) - 1 := by omega
        have k2 : (k : Int) - 1 < (n : Int) := by omega
        have HY := Lib.hid hy
        clear hy hz'
        by_cases hxy : x ≤ y
        · have d3 : decide (x ≤ y) = true := by simpa using hxy
          have hrf : false = r := (by rw [← HRR.out, eq_comm, Dv.numsB_false]; intro h; have h3 := List.pairwise_iff_getElem.1 h.asc (k - 1) k hkp HX.out.1 (by omega); rw [HX.out.2, HY.out] at h3; omega)
          subst hrf
          go_wp2_with fail
          go_ret
          exact ⟨rfl, ⟨rfl, rfl, rfl, Nat.le_refl _, fun _ _ => rfl⟩⟩
        · have d3 : decide (x ≤ y) = false := by simpa using hxy
          have HA2 := Lib.hid (show ∀ j (hj : j + 1 < l.length), j + 1 < k + 1 → l[j] < l[j + 1] from fun j hj h => by
            by_cases e : j + 1 = k
            · have e1 : l[j] = y := by rw [← HY.out]; congr 1; omega
              have e2 : l[j + 1] = x := by rw [← HX.out.2]; congr 1
              rw [e1, e2]; omega
            · exact HA.out j hj (by omega))
          go_wp2_with fail
          go_roundw
          case rel => exact ⟨k + 1, by omega, by go_num, HR2.out, HA2.out, _, rfl⟩
          case measure => simp [intOf]; omega
      · have d2 : decide ((0 : Int) < (k : Int)) = false := by simpa using h0
        have HA2 := Lib.hid (show ∀ j (hj : j + 1 < l.length), j + 1 < k + 1 → l[j] < l[j + 1] from fun j hj h => by omega)
        go_wp2_with fail
        go_roundw
        case rel => exact ⟨k + 1, by omega, by go_num, HR2.out, HA2.out, _, rfl⟩
        case measure => simp [intOf]; omega
    · obtain rfl : k = n := by omega
      have hrt : true = r := (by
        rw [← HRR.out, eq_comm, Dv.numsB_true]
        exact ⟨fun x hx => by
        obtain ⟨j, hj, rfl⟩ := List.mem_iff_getElem.1 hx
        exact HR.out j hj (by rw [← HLL.out]; exact hj), by
          rw [List.pairwise_iff_getElem]
          intro i j hi hj hij
          have key : ∀ d (h : i + 1 + d < l.length), l[i] < l[i + 1 + d] := by
            intro d
            induction d with
            | zero => intro h; exact HA.out i h (by rw [← HLL.out]; omega)
            | succ d ih => intro h; exact Int.lt_trans (ih (by omega)) (HA.out (i + 1 + d) h (by rw [← HLL.out]; omega))
          have h := key (j - i - 1) (by omega)
          simpa only [show i + 1 + (j - i - 1) = j by omega] using h⟩)
      subst hrt
      go_wp2
      go_ret
      exact ⟨rfl, ⟨rfl, rfl, rfl, Nat.le_refl _, fun _ _ => rfl⟩⟩

set_option maxRecDepth 100000 in
theorem rhasD_any (A : Option Addr) (n c : Nat) (l : List Int) (m : Int) (w : World) (hl : SlIn w A n c (Dv.ints l)) :
    Calls Try.prog 32 #[.slice A n c, .int .i64 m] w fun e w' => e = .returned (.bool (decide (m ∈ l))) ∧ Below w.heap.size w w' := by
  have hn := hl.2.2
  have hll : l.length = n := by rw [← hl.1.1, List.length_map]
  obtain ⟨r, hr⟩ : ∃ r, decide (m ∈ l) = r := ⟨_, rfl⟩
  rw [hr]
  have H := Lib.hid hl.1
  have HLL := Lib.hid hll
  have HR := Lib.hid hr
  clear hl hll hr
  go_enter Try.func32, Try.ntmps32
  go_wp2
  go_loopw [9] (fun i wr => ∃ k : Nat, k ≤ n ∧ i = .int .i64 k ∧ (∀ j (hj : j < l.length), j < k → l[j] ≠ m) ∧ ∃ q, wr = w.drewN q) (fun i _ => n - (intOf i).toNat)
  case atStart => exact ⟨0, by omega, rfl, fun j _ h => absurd h (by omega), 0, rfl⟩
  case round =>
    obtain ⟨k, hk, rfl, ha, q, rfl⟩ := hrel
    have HA := Lib.hid ha
    clear ha
    by_cases hlt : k < n
    · obtain ⟨b, o, rfl, hbl, hz, g1⟩ := H.out.at hlt
      have hkl : k < l.length := by rw [HLL.out]; exact hlt
      rw [List.getElem_map] at g1
      obtain ⟨x, hx⟩ : ∃ x, l[k] = x := ⟨_, rfl⟩
      rw [hx] at g1
      have i0 : (0 : Int) ≤ (k : Int) := by omega
      have i1 : (k : Int) < (n : Int) := by omega
      have HX := Lib.hid (show ∃ h : k < l.length, l[k] = x from ⟨hkl, hx⟩)
      clear hx hz hkl
      by_cases he : x = m
      · have d0 : (x == m) = true := by simpa using he
        have hrt : true = r := by
          rw [← HR.out, eq_comm, decide_eq_true_iff, ← he, ← HX.out.2]; exact List.getElem_mem HX.out.1
        subst hrt
        clear he
        go_wp2_with fail
        go_ret
        exact ⟨rfl, ⟨rfl, rfl, rfl, Nat.le_refl _, fun _ _ => rfl⟩⟩
      · have d0 : (x == m) = false := by simpa using he
        have HA2 := Lib.hid (show ∀ j (hj : j < l.length), j < k + 1 → l[j] ≠ m from fun j hj h => by
          by_cases e : j = k
          · subst e; rw [HX.out.2]; exact he
          · exact HA.out j hj (by omega))
        clear he
        go_wp2_with fail
        go_roundw
        case rel => exact ⟨k + 1, by omega, by go_num, HA2.out, _, rfl⟩
        case measure => simp [intOf]; omega
    · obtain rfl : k = n := by omega
      have hrf : false = r := by
        rw [← HR.out, eq_comm, decide_eq_false_iff_not]
        intro hm
        obtain ⟨j, hj, e⟩ := List.mem_iff_getElem.1 hm
        exact HA.out j hj (by rw [← HLL.out]; exact hj) e
      subst hrf
      go_wp2
      go_ret
      exact ⟨rfl, ⟨rfl, rfl, rfl, Nat.le_refl _, fun _ _ => rfl⟩⟩

end Go.Proofs.Ythdkidiemhfffaa
