/-
  Contracts of device: what the library's search and comparison answer; permitted, isFuse, isBlock, has, numbers, fit.
-/
import Derived.Test.YthdkidiemhfffaaDk
import Derived.Test.YthdkidiemhfffaaShelf10
import Derived.Shelf.Slices.SearchI
import Derived.Shelf.Slices.Empties
import Derived.Shelf.SlicesG.Equal
import Derived.Laws.CopyRow
import Derived.Laws.OwnMore
namespace Go.Proofs.Ythdkidiemhfffaa
open Go.RowKit Go.Shelf
set_option maxHeartbeats 2000000

/-- where a number stands, or would stand, in an ascending list -/
def Dv.pos (l : List Int) (m : Int) : Nat := l.countP (· < m)
theorem Dv.pos_le (l : List Int) (m : Int) : Dv.pos l m ≤ l.length := List.countP_le_length
theorem SlIn.ints_at {w : World} {A : Option Addr} {n c : Nat} {l : List Int} (h : SlIn w A n c (Dv.ints l)) (hn : 0 < n) :
    ∃ g o, A = some ⟨g, o, none⟩ ∧ g < w.heap.size ∧ ∀ j, j < l.length → w.cell? ⟨g, o + j, none⟩ = some (.int .i64 (l.getD j 0)) := by
  obtain ⟨g, o, hA, hg, hc⟩ := h.1.2.2 hn
  refine ⟨g, o, hA, hg, fun j hj => ?_⟩
  have h1 := hc j (by simpa using hj)
  rw [h1]
  simp [List.getD, hj]
theorem SlIn.strs_at {w : World} {A : Option Addr} {n c : Nat} {l : List ByteArray} (h : SlIn w A n c (Dv.strs l)) (hn : 0 < n) :
    ∃ g o, A = some ⟨g, o, none⟩ ∧ g < w.heap.size ∧ ∀ j, j < l.length → w.cell? ⟨g, o + j, none⟩ = some (.string (l.getD j ByteArray.empty)) := by
  obtain ⟨g, o, hA, hg, hc⟩ := h.1.2.2 hn
  refine ⟨g, o, hA, hg, fun j hj => ?_⟩
  have h1 := hc j (by simpa using hj)
  rw [h1]
  simp [List.getD, hj]
theorem below_q (w : World) (q : Nat) : Below w.heap.size w (w.drewN q) := ⟨rfl, rfl, rfl, Nat.le_refl _, fun _ _ => rfl⟩

theorem bsI_any (A : Option Addr) (n c : Nat) (l : List Int) (m : Int) (w : World) (hl : SlIn w A n c (Dv.ints l)) (ha : l.Pairwise (· < ·)) :
    Calls Try.prog 52 #[.slice A n c, .int .i64 m] w fun e w' => e = .returned (.tuple #[.int .i64 (Dv.pos l m : Nat), .bool (decide (m ∈ l))]) ∧ Below w.heap.size w w' := by
  have hll : l.length = n := by rw [← hl.1.1, List.length_map]
  have hn := hl.2.2
  by_cases h0 : n = 0
  · subst h0
    obtain rfl := List.eq_nil_of_length_eq_zero hll
    refine (Any.slices_BinarySearch_int_empty Try.bsInt A c m w).mono ?_
    rintro e w' ⟨rfl, rfl⟩
    exact ⟨by simp [Dv.pos], Below.refl _ _⟩
  · obtain ⟨g, o, rfl, hg, hc⟩ := hl.ints_at (by omega)
    have h := Any.slices_BinarySearch_int Try.bsInt g o n c l m w (by omega) (by omega) hc (by rw [List.take_of_length_le (by omega)]; exact ha.imp Int.le_of_lt)
    rw [List.take_of_length_le (by omega)] at h
    refine h.mono ?_
    rintro e w' ⟨rfl, q, rfl⟩
    exact ⟨by simp [Dv.pos], below_q _ _⟩

theorem eqI_any (A A' : Option Addr) (n n' c c' : Nat) (l l' : List Int) (w : World) (hl : SlIn w A n c (Dv.ints l)) (hl' : SlIn w A' n' c' (Dv.ints l')) :
    Calls Try.prog 43 #[.slice A n c, .slice A' n' c'] w fun e w' => e = .returned (.bool (decide (l = l'))) ∧ Below w.heap.size w w' := by
  have hll : l.length = n := by rw [← hl.1.1, List.length_map]
  have hll' : l'.length = n' := by rw [← hl'.1.1, List.length_map]
  have hn := hl.2.2
  have hn' := hl'.2.2
  by_cases h0 : n = 0
  · subst h0
    obtain rfl := List.eq_nil_of_length_eq_zero hll
    refine (AnyG.slices_Equal_int_empty Try.eqInt A A' c n' c' w (by omega)).mono ?_
    rintro e w' ⟨rfl, rfl⟩
    refine ⟨?_, Below.refl _ _⟩
    congr 2
    rw [decide_eq_decide, ← hll']
    cases l' <;> simp
  by_cases h1 : n = n'
  · subst h1
    obtain ⟨g, o, rfl, hg, hc⟩ := hl.ints_at (by omega)
    obtain ⟨g', o', rfl, hg', hc'⟩ := hl'.ints_at (by omega)
    have h := AnyG.slices_Equal_int Try.eqInt g o n c g' o' n c' l l' w (by omega) (by omega) (by omega) (by omega) hc hc'
    rw [List.take_of_length_le (by omega), List.take_of_length_le (by omega)] at h
    refine h.mono ?_
    rintro e w' ⟨rfl, q, rfl⟩
    refine ⟨?_, below_q _ _⟩
    congr 2
    rw [Bool.eq_iff_iff]; simp
  · have hd : decide (l = l') = false := by
      rw [decide_eq_false_iff_not]; intro e; subst e; omega
    rw [hd]
    have i0 : ((n : Int) == (n' : Int)) = false := beq_eq_false_iff_ne.2 (by omega)
    have i1 : ((n : Int) != (n' : Int)) = true := bne_iff_ne.2 (by omega)
    clear hl hl' hll hll' hd
    go_enter Try.func43, Try.ntmps43
    go_wp2
    go_ret
    exact ⟨rfl, Below.refl _ _⟩

theorem eqS_any (A A' : Option Addr) (n n' c c' : Nat) (l l' : List ByteArray) (w : World) (hl : SlIn w A n c (Dv.strs l)) (hl' : SlIn w A' n' c' (Dv.strs l')) :
    Calls Try.prog 42 #[.slice A n c, .slice A' n' c'] w fun e w' => e = .returned (.bool (decide (l = l'))) ∧ Below w.heap.size w w' := by
  have hll : l.length = n := by rw [← hl.1.1, List.length_map]
  have hll' : l'.length = n' := by rw [← hl'.1.1, List.length_map]
  have hn := hl.2.2
  have hn' := hl'.2.2
  by_cases h0 : n = 0
  · subst h0
    obtain rfl := List.eq_nil_of_length_eq_zero hll
    refine (AnyG.slices_Equal_string_empty Try.eqStr A A' c n' c' w (by omega)).mono ?_
    rintro e w' ⟨rfl, rfl⟩
    refine ⟨?_, Below.refl _ _⟩
    congr 2
    rw [decide_eq_decide, ← hll']
    cases l' <;> simp
  by_cases h1 : n = n'
  · subst h1
    obtain ⟨g, o, rfl, hg, hc⟩ := hl.strs_at (by omega)
    obtain ⟨g', o', rfl, hg', hc'⟩ := hl'.strs_at (by omega)
    have h := AnyG.slices_Equal_string Try.eqStr g o n c g' o' n c' l l' w (by omega) (by omega) (by omega) (by omega) hc hc'
    rw [List.take_of_length_le (by omega), List.take_of_length_le (by omega)] at h
    refine h.mono ?_
    rintro e w' ⟨rfl, q, rfl⟩
    exact ⟨rfl, below_q _ _⟩
  · have hd : decide (l = l') = false := by
      rw [decide_eq_false_iff_not]; intro e; subst e; omega
    rw [hd]
    have i0 : ((n : Int) == (n' : Int)) = false := beq_eq_false_iff_ne.2 (by omega)
    have i1 : ((n : Int) != (n' : Int)) = true := bne_iff_ne.2 (by omega)
    clear hl hl' hll hll' hd
    go_enter Try.func42, Try.ntmps42
    go_wp2
    go_ret
    exact ⟨rfl, Below.refl _ _⟩

theorem hasD_any (A : Option Addr) (n c : Nat) (l : List Int) (m : Int) (w : World) (hl : SlIn w A n c (Dv.ints l)) (ha : l.Pairwise (· < ·)) :
    Calls Try.prog 45 #[.slice A n c, .int .i64 m] w fun e w' => e = .returned (.bool (decide (m ∈ l))) ∧ Below w.heap.size w w' := by
  have HB := Lib.hid (bsI_any A n c l m w hl ha)
  clear hl ha
  obtain ⟨r, hr⟩ : ∃ r, decide (m ∈ l) = r := ⟨_, rfl⟩
  rw [hr] at HB ⊢
  clear hr
  go_enter Try.func45, Try.ntmps45
  go_wp2_with fail
  refine HB.out.mono ?_
  rintro e w' ⟨rfl, hb⟩
  go_wp2_with fail
  go_ret
  exact ⟨rfl, hb⟩

/-- permitted sizes and numbers of blocks -/
def Dv.permB (s b : Int) : Bool := decide (16 ≤ s ∧ s ≤ 64 ∧ 1 ≤ b ∧ b ≤ 512)
theorem permD_any (s b : Int) (w : World) :
    Calls Try.prog 36 #[.int .i64 s, .int .i64 b] w fun e w' => e = .returned (.bool (Dv.permB s b)) ∧ w = w' := by
  obtain ⟨r, hr⟩ : ∃ r, Dv.permB s b = r := ⟨_, rfl⟩
  have HR := Lib.hid hr
  rw [hr]
  clear hr
  go_enter Try.func36, Try.ntmps36
  by_cases k1 : 16 ≤ s
  · have d1 : decide (16 ≤ s) = true := by simpa using k1
    by_cases k2 : s ≤ 64
    · have d2 : decide (s ≤ 64) = true := by simpa using k2
      by_cases k3 : 1 ≤ b
      · have d3 : decide (1 ≤ b) = true := by simpa using k3
        by_cases k4 : b ≤ 512
        · have d4 : decide (b ≤ 512) = true := by simpa using k4
          obtain rfl : r = true := by rw [← HR.out]; simp [Dv.permB, k1, k2, k3, k4]
          go_wp2
          go_ret
          exact ⟨rfl, rfl⟩
        · have d4 : decide (b ≤ 512) = false := by simpa using k4
          obtain rfl : r = false := by rw [← HR.out]; simp [Dv.permB]; omega
          go_wp2
          go_ret
          exact ⟨rfl, rfl⟩
      · have d3 : decide (1 ≤ b) = false := by simpa using k3
        obtain rfl : r = false := by rw [← HR.out]; simp [Dv.permB]; omega
        go_wp2
        go_ret
        exact ⟨rfl, rfl⟩
    · have d2 : decide (s ≤ 64) = false := by simpa using k2
      obtain rfl : r = false := by rw [← HR.out]; simp [Dv.permB]; omega
      go_wp2
      go_ret
      exact ⟨rfl, rfl⟩
  · have d1 : decide (16 ≤ s) = false := by simpa using k1
    obtain rfl : r = false := by rw [← HR.out]; simp [Dv.permB]; omega
    go_wp2
    go_ret
    exact ⟨rfl, rfl⟩

def Dv.fuseB (f : Int) : Bool := decide (0 ≤ f ∧ f ≤ 1048576)
theorem fuseD_any (f : Int) (w : World) :
    Calls Try.prog 39 #[.int .i64 f] w fun e w' => e = .returned (.bool (Dv.fuseB f)) ∧ w = w' := by
  obtain ⟨r, hr⟩ : ∃ r, Dv.fuseB f = r := ⟨_, rfl⟩
  have HR := Lib.hid hr
  rw [hr]
  clear hr
  go_enter Try.func39, Try.ntmps39
  by_cases k1 : 0 ≤ f
  · have d1 : decide (0 ≤ f) = true := by simpa using k1
    by_cases k2 : f ≤ 1048576
    · have d2 : decide (f ≤ 1048576) = true := by simpa using k2
      obtain rfl : r = true := by rw [← HR.out]; simp [Dv.fuseB, k1, k2]
      go_wp2
      go_ret
      exact ⟨rfl, rfl⟩
    · have d2 : decide (f ≤ 1048576) = false := by simpa using k2
      obtain rfl : r = false := by rw [← HR.out]; simp [Dv.fuseB]; omega
      go_wp2
      go_ret
      exact ⟨rfl, rfl⟩
  · have d1 : decide (0 ≤ f) = false := by simpa using k1
    obtain rfl : r = false := by rw [← HR.out]; simp [Dv.fuseB]; omega
    go_wp2
    go_ret
    exact ⟨rfl, rfl⟩

def Dv.blkB (n : Nat) (m : Int) : Bool := decide (0 ≤ m ∧ m < (n : Int))
set_option maxRecDepth 100000 in
theorem blkD_any (v : Value) (d : Dv.D) (m : Int) (w : World) (hd : DevV w v d) :
    Calls Try.prog 47 #[v, .int .i64 m] w fun e w' => e = .returned (.bool (Dv.blkB d.blocks.length m)) ∧ Below w.heap.size w w' := by
  obtain ⟨A, n, c, A1, n1, c1, A2, n2, c2, rfl, hp⟩ := hd
  obtain ⟨l0, l1, l2⟩ := hp.lens
  have hn := hp.b.2.2
  rw [l0]
  obtain ⟨sz, hsz⟩ : ∃ x, d.size = x := ⟨_, rfl⟩
  obtain ⟨fu, hfu⟩ : ∃ x, d.fuse = x := ⟨_, rfl⟩
  obtain ⟨dn, hdn⟩ : ∃ x, d.down = x := ⟨_, rfl⟩
  unfold Dv.val
  rw [hsz, hfu, hdn]
  obtain ⟨r, hr⟩ : ∃ r, Dv.blkB n m = r := ⟨_, rfl⟩
  have HR := Lib.hid hr
  rw [hr]
  clear hr hp l0 l1 l2 hsz hfu hdn
  go_enter Try.func47, Try.ntmps47
  by_cases k1 : 0 ≤ m
  · have d1 : decide (0 ≤ m) = true := by simpa using k1
    by_cases k2 : m < (n : Int)
    · have d2 : decide (m < (n : Int)) = true := by simpa using k2
      obtain rfl : r = true := by rw [← HR.out]; simp [Dv.blkB, k1, k2]
      go_wp2
      go_ret
      exact ⟨rfl, (Below.refl _ _).alloc (Nat.le_refl _) _⟩
    · have d2 : decide (m < (n : Int)) = false := by simpa using k2
      obtain rfl : r = false := by rw [← HR.out]; simp [Dv.blkB]; omega
      go_wp2
      go_ret
      exact ⟨rfl, (Below.refl _ _).alloc (Nat.le_refl _) _⟩
  · have d1 : decide (0 ≤ m) = false := by simpa using k1
    obtain rfl : r = false := by rw [← HR.out]; simp [Dv.blkB]; omega
    go_wp2
    go_ret
    exact ⟨rfl, (Below.refl _ _).alloc (Nat.le_refl _) _⟩

/-- 'make([]int, n)' -/
theorem Dv.run_makeI (n : Nat) (hn : n ≤ 17592186044416) (W : World) : (Instr.makeSlice 22 (.int .i64 (n : Int)) (.int .i64 (n : Int))).run Try.prog W = .ok (.slice (some ⟨W.heap.size, 0, none⟩) n n) (W.alloc (.cells (List.replicate n (Value.int .i64 0)).toArray 3)) := by
  obtain ⟨j0, hj, hy0, hy1, hy2⟩ := info_parts info_int'
  have h := Go.run_make (P := Try.prog) W 22 3 j0 (.int .i64 0) Try.underlying22 hj hy0 .i64 .i64 (n : Int) (n : Int) (by omega) (by omega) (by rw [hy2]; omega) (by omega)
  have e1 : madeCells (Value.int .i64 0).cells (((n : Nat) : Int).toNat * j0.size) = (List.replicate n (Value.int .i64 0)).toArray := by
    rw [hy1]
    apply Array.toList_inj.1
    have e2 : (Value.int .i64 0).cells = #[Value.int .i64 0] := rfl
    rw [e2, toList_madeCells_one]
    simp
  rw [e1] at h
  simpa using h

set_option maxRecDepth 100000 in
theorem numsD_any (A : Option Addr) (n c : Nat) (l : List Int) (w : World) (hl : SlIn w A n c (Dv.ints l)) :
    Calls Try.prog 51 #[.slice A n c] w fun e w' => e = .returned (.slice (some ⟨w.heap.size, 0, none⟩) n n) ∧ w'.ownsRow w.heap.size 3 1 (.slice (some ⟨w.heap.size, 0, none⟩) n n) n (Dv.ints l) ∧ w'.heap.size = w.heap.size + 1 ∧ Below w.heap.size w w' := by
  have hll : l.length = n := by rw [← hl.1.1, List.length_map]
  have hn := hl.2.2
  obtain ⟨j0, hj, hy0, hy1, hy2⟩ := info_parts info_int'
  have hsz1 : (Try.prog.info? 3).map (·.size) = some 1 := by rw [hj]; simp [hy1]
  obtain ⟨Z, hZ⟩ : ∃ Z, (List.replicate n (Value.int .i64 0)).toArray = Z := ⟨_, rfl⟩
  have hmk := Lib.hid (show ∀ W : World, (Instr.makeSlice 22 (.int .i64 (n : Int)) (.int .i64 (n : Int))).run Try.prog W = .ok (.slice (some ⟨W.heap.size, 0, none⟩) n n) (W.alloc (.cells Z 3)) from fun W => by rw [← hZ]; exact Dv.run_makeI n hn W)
  have hb1 : Below w.heap.size w (w.alloc (.cells Z 3)) := (Below.refl _ _).alloc (Nat.le_refl _) _
  have hsrc := (hl.below hb1).src
  have hZs : Z.size = n := by rw [← hZ]; simp
  obtain ⟨w2, hw2⟩ : ∃ V, (w.alloc (.cells Z 3)).setRow w.heap.size (Dv.ints l).toArray = V := ⟨_, rfl⟩
  have hcp : (Builtin.copy_ #[22, 22] 3 #[.slice (some ⟨w.heap.size, 0, none⟩) n n, .slice A n c]).run Try.prog (w.alloc (.cells Z 3)) = .ok (goInt n) w2 := by
    cases A with
    | none =>
      obtain ⟨rfl, rfl⟩ := hsrc.1 rfl
      obtain rfl := List.eq_nil_of_length_eq_zero hll
      have h := run_copy_nil Try.prog (w.alloc (.cells Z 3)) 22 22 3 3 ⟨w.heap.size, 0, none⟩ 0 0 Try.underlying22 (by rw [hsz1]; rfl)
      rw [h, ← hw2]
      have hz : Z = (Dv.ints []).toArray := by rw [← hZ]; rfl
      rw [setRow_self _ _ _ 3 (0, 0) (by rw [← hz]; exact heap_alloc_new _ _)]
      rfl
    | some a =>
      have h := run_copy_row Try.prog (w.alloc (.cells Z 3)) 22 22 3 3 w.heap.size 0 n n a n c Z 3 (Dv.ints l) Try.underlying22 hsz1 (heap_alloc_new _ _) (by simp [hll]) (hsrc.2.2 a rfl) (by simp [hll, hZs]) (Dv.ints_one l)
      rw [h, ← hw2]
      have e1 : (Z.toList.take 0 ++ Dv.ints l ++ Z.toList.drop (0 + (Dv.ints l).length)) = Dv.ints l := by
        rw [List.take_zero, List.nil_append, List.drop_of_length_le (by simp [hll, hZs]), List.append_nil]
      rw [e1]
      simp [hll]
  have ho : w2.ownsRow w.heap.size 3 1 (.slice (some ⟨w.heap.size, 0, none⟩) n n) n (Dv.ints l) := by
    rw [← hw2]
    exact ⟨by simp [hll], .inr ⟨w.heap.size, n, _, rfl, Nat.le_refl _, setRow_heap _ _ _ _ 3 (0, 0) (heap_alloc_new _ _), Nat.le_refl _, by unfold maxLen; omega, by simp [hll], List.take_of_length_le (by simp [hll])⟩⟩
  have hb2 : Below w.heap.size w w2 := by
    rw [← hw2]; exact hb1.trans ⟨rfl, rfl, rfl, by simp, fun k hk => setRow_other _ _ _ _ (by omega)⟩
  have hs2 : w2.heap.size = w.heap.size + 1 := by rw [← hw2]; simp
  have HF := Lib.hid (And.intro ho (And.intro hs2 hb2))
  have HC := Lib.hid hcp
  clear hl hsrc hcp ho hb2 hs2 hb1 hZ hw2 hll hZs
  go_enter Try.func51, Try.ntmps51
  go_wp2_with fail
  rw [hmk.out]
  go_wp2_with fail
  rw [HC.out]
  go_wp2_with fail
  go_ret
  exact ⟨rfl, HF.out.1, HF.out.2.1, HF.out.2.2⟩

/-- no block is longer than size -/
def Dv.fitB (l : List ByteArray) (s : Int) : Bool := l.all fun x => decide ((x.size : Int) ≤ s)
set_option maxRecDepth 100000 in
theorem fitD_any (A : Option Addr) (n c : Nat) (l : List ByteArray) (s : Int) (w : World) (hl : SlIn w A n c (Dv.strs l)) (hs : ∀ x ∈ l, x.size ≤ 140737488355328) :
    Calls Try.prog 37 #[.slice A n c, .int .i64 s] w fun e w' => e = .returned (.bool (Dv.fitB l s)) ∧ w = w' := by
  have hn := hl.2.2
  have hll : l.length = n := by rw [← hl.1.1, List.length_map]
  obtain ⟨r, hr⟩ : ∃ r, Dv.fitB l s = r := ⟨_, rfl⟩
  rw [hr]
  have H := Lib.hid hl.1
  have HLL := Lib.hid hll
  have HR := Lib.hid hr
  have HS := Lib.hid hs
  clear hl hll hr hs
  go_enter Try.func37, Try.ntmps37
  go_wp2
  go_loop [9] (fun i => ∃ k : Nat, k ≤ n ∧ i = .int .i64 k ∧ (∀ j (hj : j < l.length), j < k → (l[j].size : Int) ≤ s)) (fun i => n - (intOf i).toNat)
  case atStart => exact ⟨0, by omega, rfl, fun j _ h => absurd h (by omega)⟩
  case round =>
    obtain ⟨k, hk, rfl, ha⟩ := hrel
    have HA := Lib.hid ha
    clear ha
    by_cases hlt : k < n
    · obtain ⟨b, o, rfl, hbl, hz, g1⟩ := H.out.at hlt
      have hkl : k < l.length := by rw [HLL.out]; exact hlt
      rw [List.getElem_map] at g1
      obtain ⟨x, hx⟩ : ∃ x, l[k] = x := ⟨_, rfl⟩
      rw [hx] at g1
      have i0 : (0 : Int) ≤ (k : Int) := by omega
      have i1 : (k : Int) < (n : Int) := by omega
      have hxs := HS.out x (by rw [← hx]; exact List.getElem_mem hkl)
      have HX := Lib.hid (show ∃ h : k < l.length, l[k] = x from ⟨hkl, hx⟩)
      clear hx hz hkl
      by_cases he : s < (x.size : Int)
      · have d0 : decide (s < (x.size : Int)) = true := by simpa using he
        have hrf : r = false := by
          rw [← HR.out, Bool.eq_false_iff]; intro h
          have := List.all_eq_true.1 h x (by rw [← HX.out.2]; exact List.getElem_mem HX.out.1)
          simp at this; omega
        subst hrf
        go_wp2_with fail
        go_ret
        exact ⟨rfl, rfl⟩
      · have d0 : decide (s < (x.size : Int)) = false := by simpa using he
        have HA2 := Lib.hid (show ∀ j (hj : j < l.length), j < k + 1 → (l[j].size : Int) ≤ s from fun j hj h => by
          by_cases e : j = k
          · subst e; rw [HX.out.2]; omega
          · exact HA.out j hj (by omega))
        go_wp2_with fail
        go_round
        case rel => exact ⟨k + 1, by omega, by go_num, HA2.out⟩
        case measure => simp [intOf]; omega
    · obtain rfl : k = n := by omega
      have hrt : r = true := by
        rw [← HR.out, Dv.fitB, List.all_eq_true]
        intro x hx
        obtain ⟨j, hj, rfl⟩ := List.mem_iff_getElem.1 hx
        simpa using HA.out j hj (by rw [← HLL.out]; exact hj)
      subst hrt
      go_wp2
      go_ret
      exact ⟨rfl, rfl⟩

end Go.Proofs.Ythdkidiemhfffaa
