/-
  DeviceReads: mathematics, what a round keeps.
-/
import Derived.Test.YthdkidiemhfffaaLawDa
import Derived.Test.YthdkidiemhfffaaDn
namespace Go.Proofs.Ythdkidiemhfffaa
open Go.RowKit
set_option maxHeartbeats 4000000

/-- what is known of the device, of what was written last, and of the states -/
structure Rd.M (d : Dv.D) (last : List ByteArray) (st : List Int) (n : Nat) : Prop where
  ok : Dv.Ok d
  dn : d.down = false
  fu : d.fuse = 0
  sz : d.size = 16
  bl : d.blocks.length = n
  ll : last.length = n
  sl : st.length = n
  at' : ∀ j (h : j < n), ((j : Int) ∈ d.bad ∧ st[j] = 12) ∨ ((j : Int) ∉ d.bad ∧ (j : Int) ∈ d.torn ∧ st[j] = 13) ∨ ((j : Int) ∉ d.bad ∧ (j : Int) ∉ d.torn ∧ st[j] = 0 ∧ d.blocks[j] = last[j])
theorem Rd.M.rg {d : Dv.D} {last : List ByteArray} {st : List Int} {n : Nat} (h : Rd.M d last st n) {j : Nat} (hj : j < n) : ¬ ((j : Int) < 0 ∨ (d.blocks.length : Int) ≤ (j : Int)) := by rw [h.bl]; omega
theorem Rd.M.new (n : Nat) (h : 1 ≤ n) (h2 : n ≤ 512) : Rd.M ⟨16, List.replicate (n : Int).toNat ByteArray.empty, [], [], 0, false⟩ (List.replicate n ByteArray.empty) (List.replicate n 0) n :=
  ⟨Dv.Ok.new (size := 16) (blocks := (n : Int)) (by decide) (by decide) (by omega) (by omega), rfl, rfl, rfl, by simp, by simp, by simp, fun j hj => .inr (.inr ⟨by simp, by simp, by simp, by simp⟩)⟩
theorem Rd.M.read {d : Dv.D} {last : List ByteArray} {st : List Int} {n : Nat} (h : Rd.M d last st n) {j : Nat} (hj : j < n) : (Dv.read d (j : Int)).2 = st[j]'(by rw [h.sl]; exact hj) ∧ (st[j]'(by rw [h.sl]; exact hj) = 0 → (Dv.read d (j : Int)).1 = last[j]'(by rw [h.ll]; exact hj)) := by
  have hc := Dv.chk_ok h.ok
  rcases h.at' j hj with ⟨h1, h2⟩ | ⟨h1, h2, h3⟩ | ⟨h1, h2, h3, h4⟩
  · rw [Dv.read_bad hc h.dn (h.rg hj) h1, h2]; exact ⟨rfl, fun h => by cases h⟩
  · rw [Dv.read_torn hc h.dn (h.rg hj) h1 h2, h3]; exact ⟨rfl, fun h => by cases h⟩
  · have hb : j < d.blocks.length := by rw [h.bl]; exact hj
    rw [Dv.read_ok hc h.dn (h.rg hj) h1 h2, h3]
    refine ⟨rfl, fun _ => ?_⟩
    rw [← h4]
    simp [List.getD, hb]
theorem Rd.M.fail {d : Dv.D} {last : List ByteArray} {st : List Int} {n : Nat} (h : Rd.M d last st n) {i : Nat} (hi : i < n) : Dv.fail d (i : Int) = (Dv.spoil d (i : Int), 0) := Dv.fail_ok (Dv.chk_ok h.ok) (h.rg hi)
theorem Rd.M.spoil {d : Dv.D} {last : List ByteArray} {st : List Int} {n : Nat} (h : Rd.M d last st n) {i : Nat} (hi : i < n) : Rd.M (Dv.spoil d (i : Int)) last (st.set i 12) n := by
  have hb : d.blocks.length = n := h.bl
  refine ⟨h.ok.spoil (by omega) (by omega), h.dn, h.fu, h.sz, by simpa [Dv.spoil] using hb, h.ll, by simpa using h.sl, fun j hj => ?_⟩
  simp only [Dv.spoil, Dv.mem_ins, Dv.mem_del, List.getElem_set, Int.toNat_natCast]
  by_cases e : i = j
  · subst e; exact .inl ⟨.inr rfl, if_pos rfl⟩
  · have e2 : (j : Int) ≠ (i : Int) := by omega
    simp only [e, e2, if_false, or_false, ne_eq, not_false_eq_true, and_true]
    exact h.at' j hj
theorem Rd.M.arm1 {d : Dv.D} {last : List ByteArray} {st : List Int} {n : Nat} (h : Rd.M d last st n) : Dv.arm d 1 = (Dv.lit1 d, 0) := Dv.arm_ok (Dv.chk_ok h.ok) (by decide)
theorem Rd.M.lit {d : Dv.D} {last : List ByteArray} {st : List Int} {n : Nat} (h : Rd.M d last st n) : Dv.Ok (Dv.lit1 d) := h.ok.with' (by decide) (by decide) _
theorem Rd.M.arm0 {d : Dv.D} {last : List ByteArray} {st : List Int} {n : Nat} (h : Rd.M d last st n) : Dv.arm (Dv.lit1 d) 0 = (d, 0) := by
  rw [Dv.arm_ok (Dv.chk_ok h.lit) (by decide)]
  have := h.fu
  cases d
  simp only at this
  subst this
  rfl
theorem Rd.M.wbad {d : Dv.D} {last : List ByteArray} {st : List Int} {n : Nat} (h : Rd.M d last st n) {i : Nat} (hi : i < n) {s : ByteArray} (hs : s.size ≤ 16) (hb : (i : Int) ∈ d.bad) : Dv.write d (i : Int) s = (Dv.none', 12) :=
  Dv.write_bad (Dv.chk_ok h.ok) h.dn (h.rg hi) (by rw [h.sz]; omega) hb
theorem Rd.M.wbad1 {d : Dv.D} {last : List ByteArray} {st : List Int} {n : Nat} (h : Rd.M d last st n) {i : Nat} (hi : i < n) {s : ByteArray} (hs : s.size ≤ 16) (hb : (i : Int) ∈ d.bad) : Dv.write (Dv.lit1 d) (i : Int) s = (Dv.none', 12) :=
  Dv.write_bad (Dv.chk_ok h.lit) h.dn (h.rg hi) (by show ¬ d.size < _; rw [h.sz]; omega) hb
theorem Rd.M.wtear {d : Dv.D} {last : List ByteArray} {st : List Int} {n : Nat} (h : Rd.M d last st n) {i : Nat} (hi : i < n) {s : ByteArray} (hs : s.size ≤ 16) (hb : (i : Int) ∉ d.bad) : Dv.write (Dv.lit1 d) (i : Int) s = (Dv.tear (Dv.lit1 d) (i : Int), 11) :=
  Dv.write_tear (Dv.chk_ok h.lit) h.dn (h.rg hi) (by show ¬ d.size < _; rw [h.sz]; omega) hb rfl
theorem Rd.M.start {d : Dv.D} {last : List ByteArray} {st : List Int} {n : Nat} (h : Rd.M d last st n) {i : Nat} (hi : i < n) : Dv.start (Dv.tear (Dv.lit1 d) (i : Int)) = (Dv.torn1 d (i : Int), 0) := by
  rw [Dv.start_ok (Dv.chk_ok (h.lit.tear (n := (i : Int)) (by omega) (by show (i : Int) < (d.blocks.length : Int); rw [h.bl]; omega)))]
  rfl
theorem Rd.M.torn {d : Dv.D} {last : List ByteArray} {st : List Int} {n : Nat} (h : Rd.M d last st n) {i : Nat} (hi : i < n) (hb : (i : Int) ∉ d.bad) : Rd.M (Dv.torn1 d (i : Int)) last (st.set i 13) n := by
  have hbl : d.blocks.length = n := h.bl
  refine ⟨(h.ok.tear (n := (i : Int)) (by omega) (by omega)).with' (by decide) (by decide) false, rfl, rfl, h.sz, by simpa [Dv.torn1] using hbl, h.ll, by simpa using h.sl, fun j hj => ?_⟩
  simp only [Dv.torn1, Dv.mem_ins, List.getElem_set, Int.toNat_natCast]
  by_cases e : i = j
  · subst e; exact .inr (.inl ⟨hb, .inr rfl, if_pos rfl⟩)
  · have e2 : (j : Int) ≠ (i : Int) := by omega
    simp only [e, e2, if_false, or_false]
    exact h.at' j hj
theorem Rd.M.wput {d : Dv.D} {last : List ByteArray} {st : List Int} {n : Nat} (h : Rd.M d last st n) {i : Nat} (hi : i < n) {s : ByteArray} (hs : s.size ≤ 16) (hb : (i : Int) ∉ d.bad) : Dv.write d (i : Int) s = (Dv.put d (i : Int) s, 0) :=
  Dv.write_put (Dv.chk_ok h.ok) h.dn (h.rg hi) (by rw [h.sz]; omega) hb (by rw [h.fu]; decide)
theorem Rd.M.put {d : Dv.D} {last : List ByteArray} {st : List Int} {n : Nat} (h : Rd.M d last st n) {i : Nat} (hi : i < n) {s : ByteArray} (hs : s.size ≤ 16) (hb : (i : Int) ∉ d.bad) : Rd.M (Dv.put d (i : Int) s) (last.set i s) (st.set i 0) n := by
  have hbl : d.blocks.length = n := h.bl
  refine ⟨h.ok.put (by omega) (by omega) (by rw [h.sz]; omega) hb, rfl, by simp [Dv.put, h.fu], h.sz, by simpa [Dv.put] using hbl, by simpa using h.ll, by simpa using h.sl, fun j hj => ?_⟩
  simp only [Dv.put, Dv.mem_del, List.getElem_set, Int.toNat_natCast]
  by_cases e : i = j
  · subst e; exact .inr (.inr ⟨hb, by simp, if_pos rfl, by simp⟩)
  · have e2 : (j : Int) ≠ (i : Int) := by omega
    simp only [e, e2, if_false, ne_eq, not_false_eq_true, and_true]
    exact h.at' j hj
theorem Rd.M.st12 {d : Dv.D} {last : List ByteArray} {st : List Int} {n : Nat} (h : Rd.M d last st n) {i : Nat} (hi : i < n) {u : Int} (hu : ∃ h : i < st.length, st[i] = u) : (u = 12 ↔ (i : Int) ∈ d.bad) := by
  obtain ⟨h0, rfl⟩ := hu
  rcases h.at' i hi with ⟨h1, h2⟩ | ⟨h1, h2, h3⟩ | ⟨h1, h2, h3, h4⟩
  · exact ⟨fun _ => h1, fun _ => h2⟩
  · rw [h3]; exact ⟨fun h => (by cases h), fun h => absurd h h1⟩
  · rw [h3]; exact ⟨fun h => (by cases h), fun h => absurd h h1⟩
theorem Rd.M.text {d : Dv.D} {last : List ByteArray} {st : List Int} {n : Nat} (_ : Rd.M d last st n) (hl : ∀ s ∈ last, s.size ≤ 16) {i : Nat} {s : ByteArray} (hs : s.size ≤ 16) : ∀ x ∈ last.set i s, x.size ≤ 16 := fun x hx => by
  rcases List.mem_or_eq_of_mem_set hx with h | rfl
  · exact hl x h
  · exact hs

/-- 'make([]api.Errno, n)' -/
theorem Rd.run_makeE (n : Nat) (hn : n ≤ 512) (W : World) : (Instr.makeSlice 47 (.int .i64 (n : Int)) (.int .i64 (n : Int))).run Try.prog W = .ok (.slice (some ⟨W.heap.size, 0, none⟩) n n) (W.alloc (.cells (List.replicate n (Value.int .i64 0)).toArray 32)) := by
  obtain ⟨j0, hj, hy0, hy1, hy2⟩ := info_parts (show (Try.prog.info? 32).map (fun i => (i.zero, i.size, i.bytes)) = some (some (.int .i64 0), 1, 8) from by kernel_rfl)
  have h := Go.run_make (P := Try.prog) W 47 32 j0 (.int .i64 0) Try.underlying47 hj hy0 .i64 .i64 (n : Int) (n : Int) (by omega) (by omega) (by rw [hy2]; omega) (by omega)
  have e1 : madeCells (Value.int .i64 0).cells (((n : Nat) : Int).toNat * j0.size) = (List.replicate n (Value.int .i64 0)).toArray := by
    rw [hy1]
    apply Array.toList_inj.1
    have e2 : (Value.int .i64 0).cells = #[Value.int .i64 0] := rfl
    rw [e2, toList_madeCells_one]
    simp
  rw [e1] at h
  simpa using h
theorem own_made {w : World} {B : Nat} {e : TypeId} (z : Value) (n : Nat) (hn : n ≤ 512) (hB : B ≤ w.heap.size) : (w.alloc (.cells (List.replicate n z).toArray e)).ownsRow B e 1 (.slice (some ⟨w.heap.size, 0, none⟩) n n) n (List.replicate n z) :=
  ⟨by simp, .inr ⟨w.heap.size, n, _, rfl, hB, heap_alloc_new _ _, Nat.le_refl _, by unfold maxLen; omega, by simp, by simp⟩⟩

/-- what a round of DeviceReads keeps -/
structure Rd.St (w0 : World) (A : Option Addr) (n c g p gl gs nn : Nat) (wr : World) (d : Dv.D) (last : List ByteArray) (st : List Int) (x0 x1 x2 x3 x4 x5 : Value) : Prop where
  deck : DeckIn w0 A n c g wr
  box : Box6 wr p 25 x0 x1 x2 x3 x4 x5
  dev : DevN wr (g + 1) (.agg #[x0, x1, x2, x3, x4, x5]) d
  la : wr.ownsRow (g + 1) 9 1 (.slice (some ⟨gl, 0, none⟩) nn nn) nn (Dv.strs last)
  st : wr.ownsRow (g + 1) 32 1 (.slice (some ⟨gs, 0, none⟩) nn nn) nn (Dv.ints st)
  av : ∀ v0 v1 v2, Value.agg #[x0, x1, x2, x3, x4, x5] = Dv.val d v0 v1 v2 → v0.ownBlock ≠ some gl
  gp : g < p
theorem Rd.St.below {w0 : World} {A : Option Addr} {n c g p gl gs nn : Nat} {wr wr' : World} {d : Dv.D} {last : List ByteArray} {st : List Int} {x0 x1 x2 x3 x4 x5 : Value} (h : Rd.St w0 A n c g p gl gs nn wr d last st x0 x1 x2 x3 x4 x5) (hb : Below wr.heap.size wr wr') : Rd.St w0 A n c g p gl gs nn wr' d last st x0 x1 x2 x3 x4 x5 :=
  ⟨Dv.deck_below h.deck hb, h.box.below hb h.box.lt, h.dev.below hb, own_below h.la hb, own_below h.st hb, h.av, h.gp⟩
theorem Rd.St.next {w0 : World} {A : Option Addr} {n c g p gl gs nn : Nat} {wr wr' : World} {d : Dv.D} {last : List ByteArray} {st : List Int} {x0 x1 x2 x3 x4 x5 : Value} (h : Rd.St w0 A n c g p gl gs nn wr d last st x0 x1 x2 x3 x4 x5) (hd : DeckIn w0 A n c g wr') (hk : KeptBut g wr wr') : Rd.St w0 A n c g p gl gs nn wr' d last st x0 x1 x2 x3 x4 x5 := by
  have hg := h.gp
  exact ⟨hd, ⟨(hk.2 p h.box.lt (by omega)).trans h.box.h⟩, h.dev.kept hk (by omega), Dv.own_kept hk h.la (by omega), Dv.own_kept hk h.st (by omega), h.av, hg⟩
theorem Rd.own_st {w : World} {B : Nat} {e : TypeId} {v : Value} {n : Nat} {xs : List Value} (ho : w.ownsRow B e 1 v n xs) {b : Nat} {x0 x1 x2 x3 x4 x5 : Value} (hx : Box6 w b 25 x0 x1 x2 x3 x4 x5) (hT : 25 ≠ e) (y0 y1 y2 y3 y4 y5 : Value) : (st6 w b y0 y1 y2 y3 y4 y5).ownsRow B e 1 v n xs := by
  have hne := Lib.ownBlock_ne ho hx.h hT
  exact ownsRow_setCell_other (ownsRow_setCell_other (ownsRow_setCell_other (ownsRow_setCell_other (ownsRow_setCell_other (ownsRow_setCell_other ho (a := ⟨b, 0, none⟩) hne y0) (a := ⟨b, 1, none⟩) hne y1) (a := ⟨b, 2, none⟩) hne y2) (a := ⟨b, 3, none⟩) hne y3) (a := ⟨b, 4, none⟩) hne y4) (a := ⟨b, 5, none⟩) hne y5
theorem Rd.deck_st {w0 wr : World} {A : Option Addr} {n c g p : Nat} (hd : DeckIn w0 A n c g wr) (hp : g < p) (y0 y1 y2 y3 y4 y5 : Value) : DeckIn w0 A n c g (st6 wr p y0 y1 y2 y3 y4 y5) := by
  have hw0 : w0.heap.size ≤ p := by have := hd.2.1; omega
  have hs : ∀ (W : World) (k : Nat) (v : Value), DeckIn w0 A n c g W → DeckIn w0 A n c g (W.setCell ⟨p, k, none⟩ v) := fun W k v hW => Dv.deck_set hW (a := ⟨p, k, none⟩) (by show p ≠ g; omega) hw0 v
  exact hs _ _ _ (hs _ _ _ (hs _ _ _ (hs _ _ _ (hs _ _ _ (hs _ _ _ hd)))))
/-- a new device is stored; its rows are new from block C on -/
theorem Rd.St.store {w0 : World} {A : Option Addr} {n c g p gl gs nn C : Nat} {wr : World} {d d' : Dv.D} {last : List ByteArray} {st : List Int} {x0 x1 x2 x3 x4 x5 y0 y1 y2 y3 y4 y5 : Value} (h : Rd.St w0 A n c g p gl gs nn wr d last st x0 x1 x2 x3 x4 x5) (hd : DevN wr C (.agg #[y0, y1, y2, y3, y4, y5]) d') (hC : gl < C) : Rd.St w0 A n c g p gl gs nn (st6 wr p y0 y1 y2 y3 y4 y5) d' last st y0 y1 y2 y3 y4 y5 := by
  have hg := h.gp
  have hl : g + 1 ≤ gl := (h.la.lt gl rfl).1
  refine ⟨Rd.deck_st h.deck hg _ _ _ _ _ _, h.box.st _ _ _ _ _ _, (hd.mono (by omega)).st6 h.box (by decide) (by decide) _ _ _ _ _ _, Rd.own_st h.la h.box (by decide) _ _ _ _ _ _, Rd.own_st h.st h.box (by decide) _ _ _ _ _ _, fun v0 v1 v2 e hv => ?_, hg⟩
  obtain ⟨⟨u0, u1, u2, eu, o0, _, _⟩, _⟩ := hd
  rw [eu] at e
  unfold Dv.val at e
  injection e with e
  have e := (congrArg Array.toList e)
  simp only [List.cons.injEq, and_true, true_and] at e
  obtain ⟨rfl, -, -⟩ := e
  have := (o0.lt gl hv).1
  omega
/-- the same device is stored again, in other rows -/
theorem Rd.St.lt {w0 : World} {A : Option Addr} {n c g p gl gs nn : Nat} {wr : World} {d : Dv.D} {last : List ByteArray} {st : List Int} {x0 x1 x2 x3 x4 x5 : Value} (h : Rd.St w0 A n c g p gl gs nn wr d last st x0 x1 x2 x3 x4 x5) : gl < wr.heap.size ∧ gs < wr.heap.size := ⟨(h.la.lt gl rfl).2, (h.st.lt gs rfl).2⟩
theorem Rd.St.putl {w0 : World} {A : Option Addr} {n c g p gl gs nn : Nat} {wr : World} {d : Dv.D} {last : List ByteArray} {st : List Int} {x0 x1 x2 x3 x4 x5 : Value} (h : Rd.St w0 A n c g p gl gs nn wr d last st x0 x1 x2 x3 x4 x5) (i : Nat) (s : ByteArray) : Rd.St w0 A n c g p gl gs nn (wr.setCell ⟨gl, i, none⟩ (.string s)) d (last.set i s) st x0 x1 x2 x3 x4 x5 := by
  have hl : g + 1 ≤ gl := (h.la.lt gl rfl).1
  have hw0 : w0.heap.size ≤ gl := by have := h.deck.2.1; omega
  have hpl : p ≠ gl := fun e => (Lib.ownBlock_ne h.la h.box.h (by decide)) (by rw [e]; rfl)
  rcases h.la.2 with ⟨h', _⟩ | ⟨g2, cap, cur, hv, _, hg2, _⟩
  · cases h'
  injection hv with h1
  injection h1 with h1
  injection h1 with h1
  subst h1
  obtain ⟨⟨v0, v1, v2, e, o0, o1, o2⟩, k0, k1, k2, hs⟩ := h.dev
  exact ⟨Dv.deck_set h.deck (a := ⟨gl, i, none⟩) (by show gl ≠ g; omega) hw0 _, h.box.other (a := ⟨gl, i, none⟩) hpl _,
    ⟨⟨v0, v1, v2, e, ownsRow_setCell_other o0 (a := ⟨gl, i, none⟩) (h.av v0 v1 v2 e) _, ownsRow_setCell_other o1 (a := ⟨gl, i, none⟩) (Lib.ownBlock_ne o1 hg2 (by decide)) _, ownsRow_setCell_other o2 (a := ⟨gl, i, none⟩) (Lib.ownBlock_ne o2 hg2 (by decide)) _⟩, k0, k1, k2, hs⟩,
    own_put h.la i s, ownsRow_setCell_other h.st (a := ⟨gl, i, none⟩) (Lib.ownBlock_ne h.st hg2 (by decide)) _, h.av, h.gp⟩
theorem Rd.St.puts {w0 : World} {A : Option Addr} {n c g p gl gs nn : Nat} {wr : World} {d : Dv.D} {last : List ByteArray} {st : List Int} {x0 x1 x2 x3 x4 x5 : Value} (h : Rd.St w0 A n c g p gl gs nn wr d last st x0 x1 x2 x3 x4 x5) (i : Nat) (u : Int) : Rd.St w0 A n c g p gl gs nn (wr.setCell ⟨gs, i, none⟩ (.int .i64 u)) d last (st.set i u) x0 x1 x2 x3 x4 x5 := by
  have hl : g + 1 ≤ gs := (h.st.lt gs rfl).1
  have hw0 : w0.heap.size ≤ gs := by have := h.deck.2.1; omega
  have hpl : p ≠ gs := fun e => (Lib.ownBlock_ne h.st h.box.h (by decide)) (by rw [e]; rfl)
  rcases h.st.2 with ⟨h', _⟩ | ⟨g2, cap, cur, hv, _, hg2, _⟩
  · cases h'
  injection hv with h1
  injection h1 with h1
  injection h1 with h1
  subst h1
  obtain ⟨⟨v0, v1, v2, e, o0, o1, o2⟩, k0, k1, k2, hs⟩ := h.dev
  have hst := (World.ownsRow.stored h.st i (.int .i64 u)).1
  rw [show (Dv.ints st).set i (.int .i64 u) = Dv.ints (st.set i u) from by simp [Dv.ints, List.map_set]] at hst
  exact ⟨Dv.deck_set h.deck (a := ⟨gs, i, none⟩) (by show gs ≠ g; omega) hw0 _, h.box.other (a := ⟨gs, i, none⟩) hpl _,
    ⟨⟨v0, v1, v2, e, ownsRow_setCell_other o0 (a := ⟨gs, i, none⟩) (Lib.ownBlock_ne o0 hg2 (by decide)) _, ownsRow_setCell_other o1 (a := ⟨gs, i, none⟩) (Lib.ownBlock_ne o1 hg2 (by decide)) _, ownsRow_setCell_other o2 (a := ⟨gs, i, none⟩) (Lib.ownBlock_ne o2 hg2 (by decide)) _⟩, k0, k1, k2, hs⟩,
    ownsRow_setCell_other h.la (a := ⟨gs, i, none⟩) (Lib.ownBlock_ne h.la hg2 (by decide)) _, hst, h.av, h.gp⟩

end Go.Proofs.Ythdkidiemhfffaa
