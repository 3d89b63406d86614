/-
  Small laws of my own that every layer uses. No program is named here.
-/
import Derived.WalkKit
import Derived.Handy
import Derived.BigQuiet
import Derived.Deep.QuietTactic
import Derived.Lib.Hide
import Derived.Below
import Derived.Laws.IdiomStrings
import Derived.Laws.BytesArg
import Derived.Laws.NewBlocks
import Derived.Laws.AppendOwn
import Derived.Lib.ConvBytes
import Derived.ProofKit
import Derived.OpenShut
import Derived.SizedLaws
namespace Go.Proofs.Ythdkidiemhfffaa
open Go.RowKit

/-- A world that is as w below block B. -/
def Ext (B : Nat) (w : World) : Type := { w' : World // Below B w w' }
instance ext_nonempty (B : Nat) (w : World) : Nonempty (Ext B w) := ⟨⟨w, Below.refl B w⟩⟩

/-- A region that draws its order, whose operations read nothing and whose callees answer one value whatever new blocks there are: one walk in the text's order serves every order. -/
theorem wp_region_below {P : Program} {id : Nat} {Q : Exit → Act → World → Prop} {a : Act} {w : World} {l : List Oper} (B : Nat) (hm : P.follows .mixedOrders = true) (hB : Region.lexB .any l.toArray = true)
    (h : wpQuiet P l.toArray (fun w' => ∃ x : Ext B w, w' = x.1) (fun a' => ∀ w', Below B w w' → Q .normal a' w') l a) : (Code.region id l.toArray true).wp P Q a w :=
  wp_region_quiet (C := fun w' => ∃ x : Ext B w, w' = x.1) hm hB ⟨⟨_, (Below.refl B w).drew⟩, rfl⟩ (by
    refine cast ?_ h
    congr 1
    funext a'
    exact propext ⟨fun h w' ⟨x, e⟩ => by subst e; exact h _ x.2, fun h w' hb => h w' ⟨⟨w', hb⟩, rfl⟩⟩)

/-- a call in such a region: of a callee that makes new blocks alone, of one that leaves the world alone -/
theorem Calls.ext_of {P : Program} {f : FuncId} {args : Array Value} {B : Nat} {w : World} {v : Value} (x : Ext B w) (hB : B ≤ w.heap.size)
    (h : Calls P f args x.1 fun e w' => e = .returned v ∧ Below x.1.heap.size x.1 w') : Calls P f args x.1 fun e w'' => e = .returned v ∧ ∃ y : Ext B w, w'' = y.1 :=
  h.mono fun _ _ ⟨he, hb⟩ => ⟨he, ⟨_, x.2.trans (hb.mono (Nat.le_trans hB x.2.size))⟩, rfl⟩
theorem Calls.ext_same {P : Program} {f : FuncId} {args : Array Value} {B : Nat} {w : World} {v : Value} (x : Ext B w)
    (h : Calls P f args x.1 fun e w' => e = .returned v ∧ x.1 = w') : Calls P f args x.1 fun e w'' => e = .returned v ∧ ∃ y : Ext B w, w'' = y.1 :=
  h.mono fun _ _ ⟨he, hb⟩ => ⟨he, x, hb.symm⟩

/-- strings are compared by their bytes -/
theorem toList_inj {a b : ByteArray} (h : a.toList = b.toList) : a = b := by
  rw [ByteArray.toList_eq, ByteArray.toList_eq] at h
  exact ByteArray.ext (Array.toList_inj.1 h)
theorem str_ne {a b : ByteArray} (h : a ≠ b) : (a.toList == b.toList) = false := by
  rw [beq_eq_false_iff_ne]; exact fun e => h (toList_inj e)
theorem str_same {a b : ByteArray} (h : a = b) : (a.toList == b.toList) = true := by
  subst h; exact beq_self_eq_true _
theorem bytes_ext {a b : ByteArray} (h : a.data.toList = b.data.toList) : a = b := ByteArray.ext (Array.toList_inj.1 h)

/-! what the frame hands to a walk -/
theorem bd_i64 {x : Int} (h : (Lit.int .i64 x).wf = true) : -9223372036854775808 ≤ x ∧ x ≤ 9223372036854775807 := by
  simpa [Lit.wf, IntKind.min, IntKind.max, IntKind.signed, IntKind.bits] using h
theorem bd_u64 {x : Int} (h : (Lit.int .u64 x).wf = true) : 0 ≤ x ∧ x ≤ 18446744073709551615 := by
  simpa [Lit.wf, IntKind.min, IntKind.max, IntKind.signed, IntKind.bits] using h
theorem bd_u8 {x : Int} (h : (Lit.int .u8 x).wf = true) : 0 ≤ x ∧ x ≤ 255 := by
  simpa [Lit.wf, IntKind.min, IntKind.max, IntKind.signed, IntKind.bits] using h
theorem bd_u16 {x : Int} (h : (Lit.int .u16 x).wf = true) : 0 ≤ x ∧ x ≤ 65535 := by
  simpa [Lit.wf, IntKind.min, IntKind.max, IntKind.signed, IntKind.bits] using h
theorem bd_u32 {x : Int} (h : (Lit.int .u32 x).wf = true) : 0 ≤ x ∧ x ≤ 4294967295 := by
  simpa [Lit.wf, IntKind.min, IntKind.max, IntKind.signed, IntKind.bits] using h

/-! bytes and strings -/
/-- '[]byte(s)': a new row of the string's bytes, of which nothing else is known -/
theorem bytes_of_string {P : Program} (W : World) (src dst e : TypeId) (s : ByteArray) (hs : P.underlying src = some .string) (hd : P.underlying dst = some (.slice e)) (he : P.underlying e = some (.int .u8)) :
    ∃ (C : Nat) (W' : World), (convert src dst (.string s)).run P W = .ok (.slice (some ⟨W.heap.size, 0, none⟩) s.size C) W' ∧ s.size ≤ C ∧ Below W.heap.size W W' ∧ W'.heap.size = W.heap.size + 1 ∧
      (∀ i (h : i < s.size), W'.cell? ⟨W.heap.size, i, none⟩ = some (.int .u8 (s[i].toNat : Int))) ∧ (∀ i, i < s.size → W'.frozen? ⟨W.heap.size, i, none⟩ = false) := by
  refine ⟨_, _, Lib.run_convert_string_bytes W src dst e s hs hd he, grownCap_ge _ _ _ _, ?_, Lib.bytesWorld_size W e s, ?_, ?_⟩
  · exact ⟨rfl, rfl, rfl, by rw [Lib.bytesWorld_size]; omega, fun k hk => Lib.bytesWorld_at_old W e s k hk⟩
  · intro i h
    rw [Lib.bytesWorld_cell W e s i h]
    have hl : i < s.data.toList.length := by simpa using h
    have e1 : s.data.toList.getD i 0 = s[i] := by
      rw [List.getD, List.getElem?_eq_getElem hl]; rfl
    rw [e1]
  · intro i h
    have hn := Lib.bytesWorld_at_new W e s
    have hsz : s.size ≤ (Lib.bytesCells W e s).size := by simp [Lib.bytesCells]
    unfold World.frozen?
    rw [hn]
    simp
    omega

/-- 'string(b)' of cells that hold a string's bytes -/
theorem string_of_bytes {P : Program} (W : World) (src dst e : TypeId) (a : Addr) (C : Nat) (s : ByteArray) (hs : P.underlying src = some (.slice e)) (he : P.underlying e = some (.int .u8)) (hd : P.underlying dst = some .string)
    (hc : ∀ i (h : i < s.size), W.cell? (a.add i) = some (.int .u8 (s[i].toNat : Int))) : (convert src dst (.slice (some a) s.size C)).run P W = .ok (.string s) W := by
  have h := run_convert_bytes_back (P := P) W src dst e a C s.data.toList hs he hd (fun j hj => hc j (by simpa using hj))
  have e1 : s.data.toList.length = s.size := by simp
  rw [e1] at h
  rw [h]

/-- one byte is stored -/
theorem bytes_set {W : World} {g : Nat} {s : ByteArray} (hc : ∀ i (h : i < s.size), W.cell? ⟨g, i, none⟩ = some (.int .u8 (s[i].toNat : Int))) (j : Nat) (hj : j < s.size) (x : Int) (h0 : 0 ≤ x) (h1 : x ≤ 255) :
    ∃ t : ByteArray, t.size = s.size ∧ t.data.toList = s.data.toList.set j (UInt8.ofNat x.toNat) ∧ ∀ i (h : i < t.size), (W.setCell ⟨g, j, none⟩ (.int .u8 x)).cell? ⟨g, i, none⟩ = some (.int .u8 (t[i].toNat : Int)) := by
  obtain ⟨x, rfl⟩ := Int.eq_ofNat_of_zero_le h0
  have hsz : (⟨(s.data.toList.set j (UInt8.ofNat x)).toArray⟩ : ByteArray).size = s.size := by
    show (s.data.toList.set j (UInt8.ofNat x)).toArray.size = _
    simp
  refine ⟨⟨(s.data.toList.set j (UInt8.ofNat x)).toArray⟩, hsz, by simp, ?_⟩
  intro i h
  have hi : i < s.size := by rw [← hsz]; exact h
  have e1 : (⟨(s.data.toList.set j (UInt8.ofNat x)).toArray⟩ : ByteArray)[i] = (s.data.toList.set j (UInt8.ofNat x))[i]'(by simpa using hi) := rfl
  rw [e1]
  by_cases hij : i = j
  · subst hij
    rw [List.getElem_set_self, World.cell?_setCell_same' _ _ _ (by rw [hc i hj]; rfl)]
    have : (UInt8.ofNat x).toNat = x := by simp [UInt8.toNat_ofNat']; omega
    rw [this]
  · rw [List.getElem_set_ne (Ne.symm hij), World.cell?_setCell_other _ _ _ _ (by intro e; injection e with _ e2; exact hij e2.symm), hc i hi]
    rfl

/-- 'string([]byte{..})' -/
theorem string_of_new {P : Program} (W : World) (src dst e : TypeId) (g : Nat) (hg : g = W.heap.size) (xs : List Int) (hs : P.underlying src = some (.slice e)) (he : P.underlying e = some (.int .u8)) (hd : P.underlying dst = some .string) :
    ∃ t : ByteArray, t.size = xs.length ∧ t.data.toList = xs.map (fun x => UInt8.ofNat x.toNat) ∧
      (convert src dst (.slice (some ⟨g, 0, none⟩) xs.length xs.length)).run P (W.alloc (.cells (xs.map (Value.int .u8)).toArray e)) = .ok (.string t) (W.alloc (.cells (xs.map (Value.int .u8)).toArray e)) := by
  subst hg
  have h := run_convert_bytes_arg (P := P) (W.alloc (.cells (xs.map (Value.int .u8)).toArray e)) src e hs he W.heap.size 0 xs.length xs.length xs rfl (fun i hi => by
    rw [Nat.zero_add]
    have hn := heap_alloc_new W (.cells (xs.map (Value.int .u8)).toArray e)
    unfold World.cell?
    rw [hn]
    simp [hi]) dst hd
  refine ⟨strOfNums xs, ?_, ?_, h⟩
  · unfold strOfNums; show Array.size _ = _; simp
  · unfold strOfNums; simp

/-- cells that hold a string's bytes -/
def BytesAt (W : World) (g : Nat) (t : ByteArray) : Prop := ∀ i (h : i < t.size), W.cell? ⟨g, i, none⟩ = some (.int .u8 (t[i].toNat : Int))
theorem BytesAt.drew {W : World} {g : Nat} {t : ByteArray} (h : BytesAt W g t) : BytesAt W.drew g t := fun i hi => by
  rw [← h i hi]; rfl
theorem BytesAt.alloc {W : World} {g : Nat} {t : ByteArray} (h : BytesAt W g t) (hg : g < W.heap.size) (o : Obj) : BytesAt (W.alloc o) g t := fun i hi => by
  rw [← h i hi]; exact World.cell?_alloc_lt _ o _ hg
theorem BytesAt.below {W W' : World} {g B : Nat} {t : ByteArray} (h : BytesAt W g t) (hg : g < B) (hb : Below B W W') : BytesAt W' g t := fun i hi => by
  rw [← h i hi]; exact hb.cell (p := ⟨g, i, none⟩) hg
theorem BytesAt.conv {P : Program} {W : World} {g : Nat} {t : ByteArray} (h : BytesAt W g t) (src dst e : TypeId) (n C : Nat) (hn : n = t.size) (hs : P.underlying src = some (.slice e)) (he : P.underlying e = some (.int .u8)) (hd : P.underlying dst = some .string) :
    (convert src dst (.slice (some ⟨g, 0, none⟩) n C)).run P W = .ok (.string t) W := by
  subst hn
  exact string_of_bytes W src dst e ⟨g, 0, none⟩ C t hs he hd (fun i hi => by
    have e1 : (⟨g, 0, none⟩ : Addr).add i = ⟨g, i, none⟩ := by unfold Addr.add; split <;> simp_all
    rw [e1]; exact h i hi)

/-- the cells of a new block -/
theorem cell_new_at (W : World) (cs : Array Value) (e : TypeId) (g : Nat) (hg : g = W.heap.size) (k : Nat) : (W.alloc (.cells cs e)).cell? ⟨g, k, none⟩ = cs[k]? := by
  subst hg
  have hn := heap_alloc_new W (.cells cs e)
  unfold World.cell?
  rw [hn]
  rfl
theorem cell_drew (W : World) (a : Addr) : W.drew.cell? a = W.cell? a := rfl

/-! a slice of numbers that came in -/
/-- the slice (A, n, c) reads as the numbers z -/
def IntsIn (k : IntKind) (w : World) (A : Option Addr) (n c : Nat) (z : List Int) : Prop :=
  z.length = n ∧ n ≤ c ∧ (∀ x ∈ z, (Lit.int k x).wf = true) ∧ (A = none → c = 0) ∧
    (0 < n → ∃ b o, A = some ⟨b, o, none⟩ ∧ b < w.heap.size ∧ ∀ i (h : i < z.length), w.cell? ⟨b, o + i, none⟩ = some (.int k z[i]))
theorem IntsIn.below {k : IntKind} {w w' : World} {A : Option Addr} {n c : Nat} {z : List Int} (h : IntsIn k w A n c z) (hb : Below w.heap.size w w') : IntsIn k w' A n c z := by
  obtain ⟨h1, h2, h3, h4, h5⟩ := h
  refine ⟨h1, h2, h3, h4, fun hn => ?_⟩
  obtain ⟨b, o, hA, hlt, hc⟩ := h5 hn
  exact ⟨b, o, hA, Nat.lt_of_lt_of_le hlt hb.size, fun i hi => (hb.cell (p := ⟨b, o + i, none⟩) hlt).trans (hc i hi)⟩
/-- element i -/
theorem IntsIn.at {k : IntKind} {w : World} {A : Option Addr} {n c : Nat} {z : List Int} (h : IntsIn k w A n c z) {i : Nat} (hi : i < n) :
    ∃ b o, A = some ⟨b, o, none⟩ ∧ b < w.heap.size ∧ ∃ hz : i < z.length, w.cell? ⟨b, o + i, none⟩ = some (.int k z[i]) := by
  obtain ⟨h1, h2, h3, h4, h5⟩ := h
  obtain ⟨b, o, hA, hlt, hc⟩ := h5 (by omega)
  exact ⟨b, o, hA, hlt, by omega, hc i (by omega)⟩

section
open Go.ChangeShapes Go.WideShapes Go.ChangeAt
/-- what the datum of such a slice is -/
def IntsDatum {H : Type} (c : Nat) (d : DataW H) : Prop := (d = .nil ∧ c = 0) ∨ ∃ e s, d = .slice e s ∧ e.length + s.length = c
theorem intsIn_of {H : Type} {enc : TypeId × Value → H} {P : Program} {W : World} {base : Nat} {held : Bool} {t e : TypeId} {k : IntKind} {A : Option Addr} {n c : Nat} {d : DataW H} {p : List MemPlace}
    (ht : P.underlying t = some (.slice e)) (he : P.underlying e = some (.int k)) (hc : P.cellsOf e = 1) (h : DataW.Trod enc P W base (fun _ => true) held t (.slice A n c) d p) :
    ∃ z, IntsIn k W A n c z ∧ IntsDatum c d := by
  obtain ⟨fuel, hf⟩ := h
  rcases open_ints ht he hc hf with ⟨hcs, hx⟩ | ⟨x, l, cc, zs, hcs, _, hl, hm, hz, hx, hcell, hwz⟩
  · simp [Value.cells] at hcs
    obtain ⟨rfl, rfl, rfl⟩ := hcs
    have hd : d = .nil := by cases hx; rfl
    exact ⟨[], ⟨rfl, Nat.le_refl _, (fun x hx => nomatch hx), fun _ => rfl, fun h => absurd h (by omega)⟩, .inl ⟨hd, rfl⟩⟩
  · simp [Value.cells] at hcs
    obtain ⟨rfl, rfl, rfl⟩ := hcs
    have hz : zs.length = c := by simpa using hz
    refine ⟨zs.take n, ⟨by simp; omega, hl, (fun x hx => hwz x (List.mem_of_mem_take hx)), (fun h => nomatch h), fun hn => ?_⟩, .inr ?_⟩
    · obtain ⟨b, o, rfl, hcb⟩ := ints_at hcell (by omega)
      refine ⟨b, o, rfl, World.block_lt_of_cell? W _ (hcb 0 (by omega)), fun i hi => ?_⟩
      have hi' : i < n := by simp at hi; omega
      rw [hcb i (by omega), List.getElem_take, List.getD_eq_getElem?_getD, List.getElem?_eq_getElem (by omega)]
      rfl
    · have hd : d = .slice (lits k (zs.take n)) (lits k (zs.drop n)) := by cases hx; rfl
      exact ⟨_, _, hd, by simp [lits]; omega⟩
theorem ints_sized {H : Type} {P : Program} {ts : List TypeId} {ds : List (DataW H)} (h : (DataW.weightsEach P ts ds).all (· ≤ reachBytes) = true) {j : Nat} {t e : TypeId} {c : Nat} {d : DataW H} (ht : ts[j]? = some t) (hd : ds[j]? = some d)
    (hu : P.underlying t = some (.slice e)) (hi : IntsDatum c d) : c * P.bytesOf e ≤ 140737488351232 := by
  rcases hi with ⟨_, rfl⟩ | ⟨el, sp, rfl, hl⟩
  · simp
  · have := sized_slice h ht hd hu
    rw [hl] at this
    simpa [reachBytes] using this
end

/-- a part of a struct: its weight counts -/
theorem sized_agg {H : Type} {P : Program} {ts : List TypeId} {ds : List (DataW H)} (h : (DataW.weightsEach P ts ds).all (· ≤ reachBytes) = true) {j : Nat} {t : TypeId} {parts : List (DataW H)} {fs : Array Field} {i : Nat} {ft : TypeId} {d : DataW H} {n : Nat}
    (ht : ts[j]? = some t) (hd : ds[j]? = some (.agg parts)) (hu : P.underlying t = some (.struct fs)) (hf : (fs.toList.map (·.type))[i]? = some ft) (hp : parts[i]? = some d) (hn : n ∈ d.weights P ft) : n ≤ reachBytes := by
  have h2 : n ∈ (DataW.agg parts).weights P t := by
    simp only [DataW.weights, hu]
    exact DataW.weights_mem_each hf hp n hn
  have := List.all_eq_true.1 h _ (DataW.weights_mem_each ht hd n h2)
  simpa using this

/-- the cells of a new block of numbers, of strings -/
theorem new_ints (W : World) (k : IntKind) (e : TypeId) (xs : List Int) (g : Nat) (hg : g = W.heap.size) : ∀ i (h : i < xs.length), (W.alloc (.cells (xs.map (Value.int k)).toArray e)).cell? ⟨g, i, none⟩ = some (.int k xs[i]) := fun i h => by
  rw [cell_new_at _ _ _ _ hg]
  simp only [List.getElem?_toArray, List.getElem?_map, List.getElem?_eq_getElem h]
  rfl
theorem new_strs (W : World) (e : TypeId) (xs : List ByteArray) (g : Nat) (hg : g = W.heap.size) : ∀ i (h : i < xs.length), (W.alloc (.cells (xs.map Value.string).toArray e)).cell? ⟨g, i, none⟩ = some (.string xs[i]) := fun i h => by
  rw [cell_new_at _ _ _ _ hg]
  simp only [List.getElem?_toArray, List.getElem?_map, List.getElem?_eq_getElem h]
  rfl

theorem Calls.quiet_same {P : Program} {f : FuncId} {args : Array Value} {w : World} {n : Nat} {v : Value}
    (h : Calls P f args (w.drewN n) fun e w' => e = .returned v ∧ w.drewN n = w') : Calls P f args (w.drewN n) fun e w'' => e = .returned v ∧ ∃ m, w'' = w.drewN m :=
  h.mono fun _ _ ⟨he, hm⟩ => ⟨he, n, hm.symm⟩
theorem Sm.ret_b {a b : Bool} (h : a = b) : Ending.returned (.bool a) = .returned (.bool b) := by rw [h]

end Go.Proofs.Ythdkidiemhfffaa
