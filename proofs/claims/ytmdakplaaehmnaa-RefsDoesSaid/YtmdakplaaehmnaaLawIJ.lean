/-
  What RefsDoes' set-up keeps while digests and texts grow.
-/
import Derived.Test.YtmdakplaaehmnaaIy
namespace Go.Proofs.Ytmdakplaaehmnaa
open Go.RowKit

structure DoesJ (w0 E V : World) (A : Option Addr) (n c g X Bn : Nat) (A6 : Option Addr) (nx c6 : Nat) (lb : List Im.Rw) (vd : Value) (nd : Nat) (ds : List Int) (vt : Value) (nt : Nat) (ts : List ByteArray) : Prop where
  gX : g < X + 1
  deck : DeckIn w0 A n c g V
  size : X + 1 ≤ V.heap.size
  ke : E.heap.size = X + 1 ∧ KeptBut g E V
  bvar : V.heap[Bn]? = some (.cells #[.slice A6 nx c6] 25 (0, 0))
  rows : RowsOwn V (X + 1) (.slice A6 nx c6) lb
  ints : V.ownsRow (X + 1) 3 1 vd nd (ds.map (Value.int .i64))
  strs : V.ownsRow (X + 1) 9 1 vt nt (ts.map Value.string)

section
variable {w0 E V w1 : World} {A : Option Addr} {n c g X Bn : Nat} {A6 : Option Addr} {nx c6 : Nat} {lb : List Im.Rw} {vd vd' : Value} {nd nd' : Nat} {ds ds' : List Int} {vt vt' : Value} {nt nt' : Nat} {ts ts' : List ByteArray}
theorem DoesJ.alloc (h : DoesJ w0 E V A n c g X Bn A6 nx c6 lb vd nd ds vt nt ts) (o : Obj) : DoesJ w0 E (V.alloc o) A n c g X Bn A6 nx c6 lb vd nd ds vt nt ts :=
  { gX := h.gX, deck := h.deck.alloc o, size := by have := h.size; simp; omega, ke := ⟨h.ke.1, h.ke.2.alloc o⟩, bvar := var_alloc h.bvar o, rows := h.rows.alloc o, ints := World.ownsRow.alloc h.ints o, strs := World.ownsRow.alloc h.strs o }
theorem DoesJ.drew (h : DoesJ w0 E V A n c g X Bn A6 nx c6 lb vd nd ds vt nt ts) : DoesJ w0 E V.drew A n c g X Bn A6 nx c6 lb vd nd ds vt nt ts := { h with deck := h.deck.drew }
theorem KeptBut.belowX {g X : Nat} {E V w1 : World} (h : KeptBut g E V) (he : E.heap.size = X + 1) (hb : Below (X + 1) V w1) : KeptBut g E w1 :=
  ⟨Nat.le_trans h.1 hb.size, fun b hb' hg => (hb.block b (by omega)).trans (h.2 b hb' hg)⟩
theorem grown_below' {B : Nat} {w w' : World} {row : Option Nat} (hg : w.grownBy w' row) (hB : B ≤ w.heap.size) (hr : ∀ k, row = some k → B ≤ k) : Below B w w' := (Below.refl B w).grown hg hB hr
theorem DoesJ.growInts (h : DoesJ w0 E V A n c g X Bn A6 nx c6 lb vd nd ds vt nt ts) (ho : w1.ownsRow (X + 1) 3 1 vd' nd' (ds'.map (Value.int .i64))) (hg : V.grownBy w1 vd.ownBlock) : DoesJ w0 E w1 A n c g X Bn A6 nx c6 lb vd' nd' ds' vt nt ts := by
  have hb := grown_below' hg h.size (fun k hk => (World.ownsRow.lt h.ints k hk).1)
  exact { gX := h.gX, deck := h.deck.keep (hb.mono (by have := h.gX; omega)), size := Nat.le_trans h.size hb.size, ke := ⟨h.ke.1, h.ke.2.belowX h.ke.1 hb⟩, bvar := grown_block hg h.bvar (own_notvar h.ints h.bvar (by decide)), rows := World.ownsRow.kept h.rows hg (own_apart h.rows h.ints (by decide)), ints := ho, strs := World.ownsRow.kept h.strs hg (own_apart h.strs h.ints (by decide)) }
theorem DoesJ.growStrs (h : DoesJ w0 E V A n c g X Bn A6 nx c6 lb vd nd ds vt nt ts) (ho : w1.ownsRow (X + 1) 9 1 vt' nt' (ts'.map Value.string)) (hg : V.grownBy w1 vt.ownBlock) : DoesJ w0 E w1 A n c g X Bn A6 nx c6 lb vd nd ds vt' nt' ts' := by
  have hb := grown_below' hg h.size (fun k hk => (World.ownsRow.lt h.strs k hk).1)
  exact { gX := h.gX, deck := h.deck.keep (hb.mono (by have := h.gX; omega)), size := Nat.le_trans h.size hb.size, ke := ⟨h.ke.1, h.ke.2.belowX h.ke.1 hb⟩, bvar := grown_block hg h.bvar (own_notvar h.strs h.bvar (by decide)), rows := World.ownsRow.kept h.rows hg (own_apart h.rows h.strs (by decide)), ints := World.ownsRow.kept h.ints hg (own_apart h.ints h.strs (by decide)), strs := ho }
/-- one count is written -/
theorem DoesJ.set {gb i : Nat} {a k : Int} {t : List UInt8} (h : DoesJ w0 E V A n c g X Bn (some ⟨gb, 0, none⟩) nx c6 lb vd nd ds vt nt ts) (hn : lb.length = nx) (hi : i < lb.length) (hx : lb[i] = (a, k, t)) (ct : Int) (hw : w0.heap.size ≤ g) :
    DoesJ w0 E (V.setCell ⟨gb, i * 3 + 1, none⟩ (.int .i64 ct)) A n c g X Bn (some ⟨gb, 0, none⟩) nx c6 (lb.set i (a, ct, t)) vd nd ds vt nt ts := by
  have hgb := World.ownsRow.lt h.rows gb rfl
  have hgX := h.gX
  have h1 := own_apart h.ints h.rows (by decide)
  have h2 := own_apart h.strs h.rows (by decide)
  have h3 := own_notvar h.rows h.bvar (by decide)
  have hr := RowsOwn.setc h.rows hn hi ct
  rw [hx] at hr
  exact { gX := hgX, deck := h.deck.setCell (a := ⟨gb, i * 3 + 1, none⟩) (by show gb ≠ g; omega) (by show w0.heap.size ≤ gb; omega) _, size := by simpa [World.setCell] using h.size,
          ke := ⟨h.ke.1, ⟨by simpa [World.setCell] using h.ke.2.1, fun b hb hg => (Below.heap_setCell _ _ _ _ (by show b ≠ gb; have := h.ke.1; omega)).trans (h.ke.2.2 b hb hg)⟩⟩,
          bvar := var_far h.bvar (fun e => h3 (by rw [e]; rfl)) _, rows := hr,
          ints := ownsRow_setCell_other h.ints (fun e => by rcases h1 with h1 | h1; rw [h1] at e; cases e; exact h1 e) _,
          strs := ownsRow_setCell_other h.strs (fun e => by rcases h2 with h2 | h2; rw [h2] at e; cases e; exact h2 e) _ }
theorem own_notvar2 {w : World} {B x : Nat} {e T : TypeId} {size : Nat} {v : Value} {n : Nat} {xs : List Value} {cs : Array Value} (h : w.ownsRow B e size v n xs) (hx : w.heap[x]? = some (.cells cs T (0, 0))) (hne : e ≠ T) : v.ownBlock ≠ some x := own_notvar h hx hne
theorem lit_one {V : World} {b : Nat} {u : Value} {t : TypeId} (h : V.heap[b]? = some (.cells #[u] t (0, 0))) : ∀ j v, [u][j]? = some v → V.cell? ((⟨b, 0, none⟩ : Addr).add j) = some v := by
  intro j v hj
  rw [Addr.add_lit, Nat.zero_add]
  simp only [World.cell?, h]
  simpa using hj
/-- what the region reads -/
theorem DoesJ.reads {gb i : Nat} {a k : Int} {t : List UInt8} (h : DoesJ w0 E V A n c g X Bn (some ⟨gb, 0, none⟩) nx c6 lb vd nd ds vt nt ts) (hn : lb.length = nx) (hi : i < lb.length) (hx : lb[i] = (a, k, t)) {TT : ByteArray} (hT : Cm.b t = TT) :
    V.cell? ⟨Bn, 0, none⟩ = some (.slice (some ⟨gb, 0, none⟩) nx c6) ∧ V.cell? ⟨gb, i * 3, none⟩ = some (.int .i64 a) ∧ V.cell? ⟨gb, i * 3 + 2, none⟩ = some (.string TT) := by
  subst hT
  obtain ⟨⟨y0, y1, y2⟩, _⟩ := RowsOwn.rd h.rows hn hi
  rw [hx] at y0 y1 y2
  exact ⟨(cell_frozen_one h.bvar).1, y0, y2⟩
end

end Go.Proofs.Ytmdakplaaehmnaa
