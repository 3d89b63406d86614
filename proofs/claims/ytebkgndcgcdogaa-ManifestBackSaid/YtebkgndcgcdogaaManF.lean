/-
  slices.Chunk at numbers, in pairs: what its iterator hands out.
  A region that draws its order inside a round of a range over a function: 'v.Names = append(v.Names, Name{pair[0], pair[1]})', in whatever order.
  Contract of manifest: Decode.
-/
import Derived.Test.YtebkgndcgcdogaaWireC
import Derived.RangeFuncNested
import Derived.RangeFuncBound
import Derived.RangeFuncCalls
import Derived.RangeFuncBox
import Derived.RangeFuncLeaves
import Derived.Shelf.Abstract
import Derived.OwnWalkIn
import Derived.TacticsInMore
import Derived.LoopNIn
import Derived.LoopIn
import Derived.Test.YtebkgndcgcdogaaVc
import Derived.OrdersIn
import Derived.Great.Frames
import Derived.Test.YtebkgndcgcdogaaManA
import Derived.Deep.RegionLaw
import Derived.Deep.AppendLies
namespace Go.Proofs.Ytebkgndcgcdogaa
open Go.RowKit Go.Shelf
attribute [local go_sem] Oper.semAt_some
set_option maxHeartbeats 1000000

/-- the iterator is made -/
theorem chunk_in (F : Fence) (n : Nat) (h5 : F.fn 56) (hro : F.round = none) (A : Option Addr) (k c : Nat) (w : World) :
    CallsIn F n Try.prog 56 #[.slice A k c, .int .i64 2] w fun e w' => e = .returned (.func (.func 74) #[] #[.pointer (some ⟨w.heap.size, 0, none⟩), .pointer (some ⟨w.heap.size + 1, 0, none⟩)]) ∧ w' = (w.alloc (.cells #[.slice A k c] 22)).alloc (.cells #[.int .i64 2] 3) := by
  refine callsIn_of_wp Try.func56 rfl h5 ?_ hro
  simp only [Try.ntmps56, List.size_toArray, List.length_cons, List.length_nil, Nat.reduceAdd, Nat.reduceSub, Array.replicate_succ, Array.replicate_zero, List.push_toArray, List.append_toArray, List.nil_append, List.cons_append]
  gi_wp2
  go_ret
  exact ⟨rfl, rfl⟩

set_option maxRecDepth 100000 in
/-- the iterator -/
theorem chunk1_in (F : Fence) (n : Nat) (h6 : F.fn 74) (hro : F.round = none) (hn : 1 ≤ n) (l b1 b2 g o K c : Nat) (A : Option Addr) (hA : 0 < K → A = some ⟨g, o, none⟩) (hK : K ≤ 1000000) (hc : K * 2 ≤ c) (Kp : World → World → Prop)
    (hKp : ∀ W W', Kp W W' → W'.cell? ⟨b1, 0, none⟩ = W.cell? ⟨b1, 0, none⟩ ∧ W'.cell? ⟨b2, 0, none⟩ = W.cell? ⟨b2, 0, none⟩) (J Jx : List (Fin K) → World → Prop) (hD : ∀ pre W, J pre W → J pre W.drew)
    (hY : ∀ pre (x : Fin K) W, J pre W → pre.length < K → YieldAt F (n - 1) Try.prog l #[.slice (some ⟨g, o + x.val * 2, none⟩) 2 2] W fun e W' =>
      (e = .returned (.bool true) ∧ J (pre ++ [x]) W' ∧ Kp W W') ∨ (e = .returned (.bool false) ∧ Jx (pre ++ [x]) W'))
    (W : World) (hc1 : W.cell? ⟨b1, 0, none⟩ = some (.slice A (K * 2) c)) (hc2 : W.cell? ⟨b2, 0, none⟩ = some (.int .i64 2)) (h0 : J [] W) :
    CallsIn F n Try.prog 74 #[.func (.yield l) #[] #[], .pointer (some ⟨b1, 0, none⟩), .pointer (some ⟨b2, 0, none⟩)] W fun e W' => (∃ v, e = .returned v) ∧
      ((∃ ys, ys = List.finRange K ∧ J ys W') ∨ (∃ pre, pre <+: List.finRange K ∧ Jx pre W')) := by
  have hlen : (List.finRange K).length = K := List.length_finRange
  have htk : ∀ k (hk : k < K), (List.finRange K).take (k + 1) = (List.finRange K).take k ++ [⟨k, hk⟩] := fun k hk => by
    rw [List.take_succ_eq_append_getElem (by rw [hlen]; exact hk), List.getElem_finRange]
    rfl
  have HTK := Lib.hid htk
  have HLEN := Lib.hid hlen
  clear htk hlen
  refine callsIn_of_wp Try.func74 rfl h6 ?_ hro
  simp only [Try.ntmps74, List.size_toArray, List.length_cons, List.length_nil, Nat.reduceAdd, Nat.reduceSub, Array.replicate_succ, Array.replicate_zero, List.push_toArray, List.append_toArray, List.nil_append, List.cons_append]
  gi_wp2
  gi_loopw [4] (fun u wr => ∃ k : Nat, k ≤ K ∧ u = .int .i64 ((k * 2 : Nat) : Int) ∧ J ((List.finRange K).take k) wr ∧ wr.cell? ⟨b1, 0, none⟩ = some (.slice A (K * 2) c) ∧ wr.cell? ⟨b2, 0, none⟩ = some (.int .i64 2)) (fun u wr => K * 2 - (intOf u).toNat)
  case atStart => exact ⟨0, Nat.zero_le _, rfl, h0, hc1, hc2⟩
  case round =>
    obtain ⟨k, hk, rfl, hJ, q1, q2⟩ := hrel
    by_cases hlt : k < K
    · obtain rfl := hA (by omega)
      have d8 : decide (((k * 2 : Nat) : Int) < ((K * 2 : Nat) : Int)) = true := by simp; omega
      obtain ⟨fn, tmps, assign, body, hy, hR⟩ := hY _ ⟨k, hlt⟩ wr.drew (hD _ _ hJ) (by rw [List.length_take, HLEN.out]; omega)
      dsimp only at hy
      have j1 : (0 : Int) ≤ ((k * 2 : Nat) : Int) := by omega
      have j2 : ((k * 2 : Nat) : Int) ≤ ((K * 2 : Nat) : Int) := by omega
      have j3 : ((K * 2 : Nat) : Int) ≤ (c : Int) := by omega
      have hmin : (if ((K * 2 - k * 2 : Nat) : Int) < 2 then ((K * 2 - k * 2 : Nat) : Int) else 2) = 2 := if_neg (by omega)
      have j4 : (k : Int) * 2 + 2 ≤ (K : Int) * 2 := by omega
      have j5 : (k : Int) * 2 + 2 ≤ (c : Int) := by omega
      have j6 : k * 2 + 2 - k * 2 = 2 := by omega
      have s1 : wr.drew.cell? ⟨b1, 0, none⟩ = some (.slice (some ⟨g, o, none⟩) (K * 2) c) := q1
      have s2 : wr.drew.cell? ⟨b2, 0, none⟩ = some (.int .i64 2) := q2
      gi_wp2
      gi_region
      all_goals gi_wp2
      all_goals
        refine hR.mono ?_
        rintro e W3 (⟨rfl, hJ3, hk3⟩ | ⟨rfl, hJx3⟩)
        · have r1 := (hKp _ _ hk3).1.trans s1
          have r2 := (hKp _ _ hk3).2.trans s2
          have HR1 := Lib.hid r1
          have HR2 := Lib.hid r2
          have HJ3 := Lib.hid (show J ((List.finRange K).take (k + 1)) W3 by rw [HTK.out k hlt]; exact hJ3)
          clear hJ3 hk3 hR hJ
          gi_wp2
          go_roundw
          case rel => exact ⟨k + 1, by omega, by rw [show ((k : Int) * 2 + 2) = (((k + 1) * 2 : Nat) : Int) by omega], HJ3.out, HR1.out, HR2.out⟩
          case measure => simp [intOf]; omega
        · have HP := Lib.hid (show (List.finRange K).take k ++ [⟨k, hlt⟩] <+: List.finRange K by rw [← HTK.out k hlt]; exact List.take_prefix _ _)
          gi_wp2
          refine bodyPost_ret (results_none rfl _ _ _) rfl ?_
          exact ⟨⟨_, rfl⟩, .inr ⟨_, HP.out, hJx3⟩⟩
    · obtain rfl : k = K := by omega
      have HE := Lib.hid (show (List.finRange k).take k = List.finRange k from List.take_of_length_le (by rw [HLEN.out]; exact Nat.le_refl _))
      gi_wp2
      go_end0
      exact ⟨⟨_, rfl⟩, .inl ⟨_, rfl, by rw [← HE.out]; exact hJ⟩⟩

theorem chunk_stops (F : Fence) (n : Nat) (h6 : F.fn 74) (hro : F.round = none) (hn : 1 ≤ n) (b1 b2 g o K c : Nat) (A : Option Addr) (hA : 0 < K → A = some ⟨g, o, none⟩) (hK : K ≤ 1000000) (hc : K * 2 ≤ c) (Kp : World → World → Prop)
    (hKp : ∀ W W', Kp W W' → W'.cell? ⟨b1, 0, none⟩ = W.cell? ⟨b1, 0, none⟩ ∧ W'.cell? ⟨b2, 0, none⟩ = W.cell? ⟨b2, 0, none⟩) (w : World) (hb1 : b1 < w.heap.size) (hb2 : b2 < w.heap.size)
    (hc1 : w.cell? ⟨b1, 0, none⟩ = some (.slice A (K * 2) c)) (hc2 : w.cell? ⟨b2, 0, none⟩ = some (.int .i64 2)) :
    SeqStopsK F n Try.prog 74 #[.pointer (some ⟨b1, 0, none⟩), .pointer (some ⟨b2, 0, none⟩)] (fun x : Fin K => #[Value.slice (some ⟨g, o + x.val * 2, none⟩) 2 2]) Kp (fun ys => ys = List.finRange K) (fun pre => pre <+: List.finRange K) K w := fun l J Jx W hW hJ _ hY h0 =>
  chunk1_in F n h6 hro hn l b1 b2 g o K c A hA hK hc Kp hKp J Jx (fun pre W' h => hJ pre W' W'.drew none h ⟨rfl, rfl, rfl, Nat.le_refl _, fun _ _ _ => rfl⟩ (fun _ e => by cases e)) hY W
    ((hW.cell (p := ⟨b1, 0, none⟩) hb1).trans hc1) ((hW.cell (p := ⟨b2, 0, none⟩) hb2).trans hc2) h0

end Go.Proofs.Ytebkgndcgcdogaa

namespace Go.Proofs.Ytebkgndcgcdogaa
open Go.RowKit
set_option maxHeartbeats 2000000

theorem opIn {F : Fence} {n : Nat} {P : Program} {ops : Array Oper} {Q : Exit → Act → World → Prop} {i : Nat} {K : Act → World → Prop} {a : Act} {w w' : World} {o : Oper} {v : Value} (hF : ∀ f, F.fn f) (hi : ops[i]? = some o) (hg : o.guard = none) (hnd : ∀ c, o.op ≠ .defer c)
    (hrun : (execOp a.eval o).run P w = .ok (.value v) w') (hK : K (a.put o.dst v) w') : wpOpIn F n P ops Q i K a w := by
  unfold wpOpIn
  rw [hi]
  simp only
  rw [if_pos (by simp [Region.wanted, hg])]
  unfold Oper.wpIn
  refine ⟨fun f _ => hF f, ?_⟩
  rw [Oper.semAt_plain F _ _ hnd, hrun]
  exact hK
theorem opIn_skip {F : Fence} {n : Nat} {P : Program} {ops : Array Oper} {Q : Exit → Act → World → Prop} {i : Nat} {K : Act → World → Prop} {a : Act} {w w' : World} {o : Oper} (hF : ∀ f, F.fn f) (hi : ops[i]? = some o) (hg : o.guard = none) (hnd : ∀ c, o.op ≠ .defer c)
    (hrun : (execOp a.eval o).run P w = .ok .skip w') (hd : o.dst = none) (hK : K a w') : wpOpIn F n P ops Q i K a w := by
  unfold wpOpIn
  rw [hi]
  simp only
  rw [if_pos (by simp [Region.wanted, hg])]
  unfold Oper.wpIn
  refine ⟨fun f _ => hF f, ?_⟩
  rw [Oper.semAt_plain F _ _ hnd, hrun]
  show K (a.put o.dst undef) w'
  rw [hd]
  exact hK

/-- the twelve values that it yields -/
def Reg.vals (bv g p nb : Nat) (ya yb : Int) (v v' : Value) : List Value :=
  [.pointer (some ⟨bv, 1, none⟩), v, .slice (some ⟨g, p, none⟩) 2 2, .pointer (some ⟨g, p, none⟩), .int .i64 ya, .slice (some ⟨g, p, none⟩) 2 2, .pointer (some ⟨g, p + 1, none⟩), .int .i64 yb, .agg #[.int .i64 ya, .int .i64 yb], .slice (some ⟨nb, 0, none⟩) 1 1, v', .pointer (some ⟨bv, 1, none⟩)]
/-- what each operation is: where its value goes, what it does, its type, its guard -/
def Reg.shape : List (Option Nat × Op × TypeId) :=
  [(some 50, .fieldAddr 25 (.tmp 8) 1, 0), (some 51, .load 23 (.tmp 50), 23), (some 52, .move (.tmp 9), 22), (some 53, .indexAddr 22 (.tmp 52) (.const (.int .i64 0)), 0), (some 54, .load 3 (.tmp 53), 3),
   (some 55, .move (.tmp 9), 22), (some 56, .indexAddr 22 (.tmp 55) (.const (.int .i64 1)), 0), (some 57, .load 3 (.tmp 56), 3), (some 58, .build 59 #[(0, .tmp 54), (1, .tmp 57)], 59), (some 59, .buildSlice 23 1 #[(0, .tmp 58)], 23),
   (some 60, .call { callee := .builtin .append, args := #[.tmp 51, .tmp 59], argTypes := #[23, 23] }, 23), (some 61, .fieldAddr 25 (.tmp 8) 1, 0), (none, .store 23 (.tmp 61) (.tmp 60), 0)]
/-- what each operation waits for -/
def Reg.waits : List (List Nat) := [[], [0], [], [2], [3], [], [5], [6], [4, 7], [8], [1, 9], [], [10, 11]]
def Reg.waitsOk (ops : Array Oper) : Bool :=
  (List.range 13).all fun i => (Reg.waits.getD i []).all fun d => (ops[i]?).any fun o => o.after.any fun e => Region.binds .any e && e.on == d
def Reg.back (ops : Array Oper) : Bool := (List.range 13).all fun i => (ops[i]?).all fun o => o.after.all fun e => decide (e.on < i)

/-- what stands between two operations -/
structure Reg (bv g p nb : Nat) (ya yb : Int) (v v' : Value) (W0 W1 w6 w7 : World) (L : Nat → Bool) (a : Act) (w : World) : Prop where
  size : a.tmps.size = 69
  s8 : a.tmps[8]? = some (.pointer (some ⟨bv, 0, none⟩))
  s9 : a.tmps[9]? = some (.slice (some ⟨g, p, none⟩) 2 2)
  val : ∀ j, j < 12 → L j = true → a.tmps[50 + j]? = (Reg.vals bv g p nb ya yb v v')[j]?
  dep : ∀ i, i < 13 → L i = true → ∀ d ∈ Reg.waits.getD i [], L d = true
  w0 : L 9 = false → w = W0
  w1 : L 9 = true → L 10 = false → w = W1
  w2 : L 10 = true → L 12 = false → w = w6
  w3 : L 12 = true → w = w7

/-- an operation that yields a value -/
theorem Reg.put {bv g p nb : Nat} {ya yb : Int} {v v' : Value} {W0 W1 w6 w7 : World} {listed : Array Bool} {a : Act} {w w' : World} {i : Nat} {x : Value} (h : Reg bv g p nb ya yb v v' W0 W1 w6 w7 (fun j => listed.getD j false) a w) (hs : listed.size = 13) (hi : i < 12) (hl : listed.getD i true = false)
    (hd : ∀ d ∈ Reg.waits.getD i [], listed.getD d false = true) (hx : (Reg.vals bv g p nb ya yb v v')[i]? = some x) (hw : (i ≠ 9 ∧ i ≠ 10 ∧ w' = w) ∨ (i = 9 ∧ w' = W1) ∨ (i = 10 ∧ w' = w6)) :
    Reg bv g p nb ya yb v v' W0 W1 w6 w7 (fun j => (listed.setIfInBounds i true).getD j false) (a.put (some (50 + i)) x) w' := by
  have hL : ∀ j, (listed.setIfInBounds i true).getD j false = (if j = i then true else listed.getD j false) := fun j => by
    simp only [Array.getD_eq_getD_getElem?, Array.getElem?_setIfInBounds]
    by_cases e : i = j
    · subst e; simp [show i < listed.size by omega]
    · simp [e, show ¬ j = i from fun h => e h.symm]
  have hl' : listed.getD i false = false := by
    simp only [Array.getD_eq_getD_getElem?] at hl ⊢
    cases hq : listed[i]? with
    | none => rw [hq] at hl; cases hl
    | some b => rw [hq] at hl; simpa using hl
  have hne : ∀ k, k ≠ 50 + i → (a.put (some (50 + i)) x).tmps[k]? = a.tmps[k]? := fun k hk => by
    simp only [Act.put, Array.getElem?_setIfInBounds]
    rw [if_neg (fun e => hk e.symm)]
  refine ⟨by simp [Act.put, h.size], (hne 8 (by omega)).trans h.s8, (hne 9 (by omega)).trans h.s9, fun j hj hlj => ?_, fun k hk hlk d hd' => ?_, fun h9 => ?_, fun h9 h10 => ?_, fun h10 h12 => ?_, fun h12 => ?_⟩
  · rw [hL] at hlj
    by_cases e : j = i
    · subst e
      rw [hx]
      simp only [Act.put, Array.getElem?_setIfInBounds]
      simp [h.size]
      omega
    · rw [if_neg e] at hlj
      rw [hne _ (by omega)]
      exact h.val j hj hlj
  · rw [hL] at hlk ⊢
    by_cases e : d = i
    · rw [if_pos e]
    · rw [if_neg e]
      by_cases ek : k = i
      · subst ek; exact hd d hd'
      · rw [if_neg ek] at hlk
        exact h.dep k hk hlk d hd'
  · rw [hL] at h9
    by_cases e : 9 = i
    · rw [if_pos e] at h9; cases h9
    · rw [if_neg e] at h9
      have h10 : listed.getD 10 false = false := by
        cases hq : listed.getD 10 false with
        | false => rfl
        | true => have := h.dep 10 (by omega) hq 9 (by simp [Reg.waits]); rw [h9] at this; cases this
      rcases hw with ⟨_, _, rfl⟩ | ⟨e2, _⟩ | ⟨e2, _⟩
      · exact h.w0 h9
      · omega
      · subst e2; have := hd 9 (by simp [Reg.waits]); rw [h9] at this; cases this
  · rw [hL] at h9 h10
    by_cases e10 : 10 = i
    · rw [if_pos e10] at h10; cases h10
    · rw [if_neg e10] at h10
      rcases hw with ⟨e9, _, rfl⟩ | ⟨_, rfl⟩ | ⟨e2, _⟩
      · rw [if_neg (fun e => e9 e.symm)] at h9; exact h.w1 h9 h10
      · rfl
      · omega
  · rw [hL] at h10 h12
    rw [if_neg (by omega)] at h12
    rcases hw with ⟨_, e10, rfl⟩ | ⟨e9, _⟩ | ⟨_, rfl⟩
    · rw [if_neg (fun e => e10 e.symm)] at h10; exact h.w2 h10 h12
    · subst e9
      rw [if_neg (by omega)] at h10
      have := h.dep 10 (by omega) h10 9 (by simp [Reg.waits])
      rw [hl'] at this; cases this
    · rfl
  · rw [hL, if_neg (by omega)] at h12
    have h10 := h.dep 12 (by omega) h12 10 (by simp [Reg.waits])
    rcases hw with ⟨_, _, rfl⟩ | ⟨e9, _⟩ | ⟨e10, _⟩
    · exact h.w3 h12
    · subst e9
      have := h.dep 10 (by omega) h10 9 (by simp [Reg.waits])
      rw [hl'] at this; cases this
    · subst e10
      rw [hl'] at h10; cases h10

/-- the store -/
theorem Reg.last {bv g p nb : Nat} {ya yb : Int} {v v' : Value} {W0 W1 w6 w7 : World} {listed : Array Bool} {a : Act} {w : World} (h : Reg bv g p nb ya yb v v' W0 W1 w6 w7 (fun j => listed.getD j false) a w) (hs : listed.size = 13)
    (hd : ∀ d ∈ Reg.waits.getD 12 [], listed.getD d false = true) : Reg bv g p nb ya yb v v' W0 W1 w6 w7 (fun j => (listed.setIfInBounds 12 true).getD j false) a w7 := by
  have hL : ∀ j, (listed.setIfInBounds 12 true).getD j false = (if j = 12 then true else listed.getD j false) := fun j => by
    simp only [Array.getD_eq_getD_getElem?, Array.getElem?_setIfInBounds]
    by_cases e : 12 = j
    · subst e; simp [show 12 < listed.size by omega]
    · simp [e, show ¬ j = 12 from fun h => e h.symm]
  have h10 := hd 10 (by simp [Reg.waits])
  have h9 := h.dep 10 (by omega) h10 9 (by simp [Reg.waits])
  refine ⟨h.size, h.s8, h.s9, fun j hj hlj => ?_, fun k hk hlk d hd' => ?_, fun q => ?_, fun _ q => ?_, fun _ q => ?_, fun _ => rfl⟩
  · rw [hL, if_neg (by omega)] at hlj; exact h.val j hj hlj
  · rw [hL] at hlk ⊢
    by_cases e : d = 12
    · rw [if_pos e]
    · rw [if_neg e]
      by_cases ek : k = 12
      · subst ek; exact hd d hd'
      · rw [if_neg ek] at hlk; exact h.dep k hk hlk d hd'
  · rw [hL, if_neg (by omega)] at q
    have h9' : listed.getD 9 false = true := h9
    rw [h9'] at q; cases q
  · rw [hL, if_neg (by omega), h10] at q; cases q
  · rw [hL, if_pos rfl] at q; cases q

theorem Reg.ready {ops : Array Oper} {listed : Array Bool} (hz : ops.size = 13) (hw : Reg.waitsOk ops = true) {i : Nat} (hi : i ∈ Region.ready .any ops listed) : i < 13 ∧ listed.getD i true = false ∧ ∀ d ∈ Reg.waits.getD i [], listed.getD d false = true := by
  unfold Region.ready at hi
  rw [List.mem_filter, List.mem_range, hz] at hi
  obtain ⟨h1, h2⟩ := hi
  rw [Bool.and_eq_true] at h2
  obtain ⟨h2, h3⟩ := h2
  refine ⟨h1, by simpa using h2, fun d hd => ?_⟩
  unfold Reg.waitsOk at hw
  have h4 := List.all_eq_true.1 (List.all_eq_true.1 hw i (List.mem_range.2 h1)) d hd
  cases ho : ops[i]? with
  | none => rw [ho] at h4; simp at h4
  | some o =>
    rw [ho] at h3 h4
    simp only [Option.map_some, Option.getD_some, Option.any_some] at h3 h4
    rw [Array.any_eq_true'] at h4
    obtain ⟨e, he, h5⟩ := h4
    rw [Array.all_eq_true'] at h3
    have h6 := h3 e he
    rw [Bool.and_eq_true, beq_iff_eq] at h5
    rw [h5.1] at h6
    rw [← h5.2]
    simpa using h6

theorem Reg.done {ops : Array Oper} {listed : Array Bool} (hs : listed.size = 13) (hz : ops.size = 13) (hb : Reg.back ops = true) (hr : Region.ready .any ops listed = []) : ∀ m i, i < m → i < 13 → listed.getD i false = true := by
  intro m
  induction m with
  | zero => intro i h; omega
  | succ m ih =>
    intro i hi h13
    cases hl : listed.getD i false with
    | true => rfl
    | false =>
      exfalso
      by_cases hq : listed.getD i true = true
      · have h : i < listed.size := by omega
        simp only [Array.getD_eq_getD_getElem?, Array.getElem?_eq_getElem h, Option.getD_some] at hl hq
        rw [hl] at hq; cases hq
      · have hm : i ∈ Region.ready .any ops listed := by
          unfold Region.ready
          rw [List.mem_filter, List.mem_range, hz]
          refine ⟨h13, ?_⟩
          rw [Bool.and_eq_true]
          refine ⟨by simpa using hq, ?_⟩
          have h4 := List.all_eq_true.1 hb i (List.mem_range.2 h13)
          have hio : i < ops.size := by omega
          rw [Array.getElem?_eq_getElem hio] at h4 ⊢
          simp only [Option.map_some, Option.getD_some, Option.all_some] at h4 ⊢
          rw [Array.all_eq_true'] at h4 ⊢
          intro e he
          have h5 := h4 e he
          simp only [decide_eq_true_eq] at h5
          rw [ih e.on (by omega) (by omega)]
          simp
        rw [hr] at hm
        cases hm

theorem Reg.get {ops : Array Oper} (hsh : ops.toList.map (fun o => (o.dst, o.op, o.type)) = Reg.shape) (hgd : ops.all (fun o => o.guard.isNone) = true) {i : Nat} {x : Option Nat × Op × TypeId} (hx : Reg.shape[i]? = some x) :
    ∃ o, ops[i]? = some o ∧ o.dst = x.1 ∧ o.op = x.2.1 ∧ o.type = x.2.2 ∧ o.guard = none := by
  rw [← hsh, List.getElem?_map] at hx
  obtain ⟨o, ho, rfl⟩ := Option.map_eq_some_iff.1 hx
  rw [Array.getElem?_toList] at ho
  refine ⟨o, ho, rfl, rfl, rfl, ?_⟩
  rw [Array.all_eq_true'] at hgd
  have := hgd o (Array.mem_of_getElem? ho)
  simpa using this
theorem Reg.filter_le (f h : Nat → Bool) (hh : ∀ j, h j = true → f j = true) : ∀ l : List Nat, (l.filter h).length ≤ (l.filter f).length
  | [] => Nat.le_refl _
  | x :: l => by
    have ih := Reg.filter_le f h hh l
    by_cases hx : h x = true
    · rw [List.filter_cons_of_pos hx, List.filter_cons_of_pos (hh x hx)]; simpa using ih
    · rw [List.filter_cons_of_neg hx]
      by_cases fx : f x = true
      · rw [List.filter_cons_of_pos fx, List.length_cons]; omega
      · rw [List.filter_cons_of_neg fx]; exact ih
theorem Reg.filter_lt (f h : Nat → Bool) (hh : ∀ j, h j = true → f j = true) {i : Nat} (hf : f i = true) (hi : h i = false) : ∀ l : List Nat, i ∈ l → (l.filter h).length < (l.filter f).length
  | x :: l, hm => by
    by_cases e : i = x
    · subst e
      have := Reg.filter_le f h hh l
      rw [List.filter_cons_of_neg (by rw [hi]; simp), List.filter_cons_of_pos hf, List.length_cons]; omega
    · have hm' : i ∈ l := by rcases List.mem_cons.1 hm with h | h; exact absurd h e; exact h
      have ih := Reg.filter_lt f h hh hf hi l hm'
      by_cases hx : h x = true
      · rw [List.filter_cons_of_pos hx, List.filter_cons_of_pos (hh x hx)]; simpa using ih
      · rw [List.filter_cons_of_neg hx]
        by_cases fx : f x = true
        · rw [List.filter_cons_of_pos fx, List.length_cons]; omega
        · rw [List.filter_cons_of_neg fx]; exact ih
/-- how many are to come -/
def Reg.left (listed : Array Bool) : Nat := ((List.range 13).filter fun j => !listed.getD j false).length
theorem Reg.left_set {listed : Array Bool} {i : Nat} (hs : listed.size = 13) (hi : i < 13) (hl : listed.getD i true = false) : Reg.left (listed.setIfInBounds i true) < Reg.left listed := by
  refine Reg.filter_lt _ _ (fun j hj => ?_) (i := i) ?_ ?_ _ (List.mem_range.2 hi)
  · simp only [Array.getD_eq_getD_getElem?, Array.getElem?_setIfInBounds] at hj ⊢
    by_cases e : i = j
    · subst e; rw [if_pos rfl, if_pos (by omega)] at hj; simp at hj
    · rw [if_neg e] at hj; exact hj
  · have h : i < listed.size := by omega
    simp only [Array.getD_eq_getD_getElem?, Array.getElem?_eq_getElem h, Option.getD_some] at hl ⊢
    rw [hl]; rfl
  · simp only [Array.getD_eq_getD_getElem?, Array.getElem?_setIfInBounds]
    rw [if_pos trivial, if_pos (by omega)]; rfl
theorem Reg.left_zero {listed : Array Bool} (h : Reg.left listed ≤ 0) : ∀ j, j < 13 → listed.getD j false = true := fun j hj => by
  unfold Reg.left at h
  have h0 : (List.range 13).filter (fun j => !listed.getD j false) = [] := List.eq_nil_of_length_eq_zero (by omega)
  cases hq : listed.getD j false with
  | true => rfl
  | false =>
    have : j ∈ (List.range 13).filter (fun j => !listed.getD j false) := List.mem_filter.2 ⟨List.mem_range.2 hj, by rw [hq]; rfl⟩
    rw [h0] at this; cases this

set_option maxRecDepth 100000 in
theorem Reg.all {F : Fence} {n : Nat} {ops : Array Oper} {Q : Exit → Act → World → Prop} {bv g p nb : Nat} {ya yb : Int} {v v' : Value} {W0 W1 w6 w7 : World} (hF : ∀ f, F.fn f) (hz : ops.size = 13) (hsh : ops.toList.map (fun o => (o.dst, o.op, o.type)) = Reg.shape) (hgd : ops.all (fun o => o.guard.isNone) = true) (hw : Reg.waitsOk ops = true) (hb : Reg.back ops = true)
    (c1 : W0.cell? ⟨bv, 1, none⟩ = some v) (c2 : W0.cell? ⟨g, p, none⟩ = some (.int .i64 ya)) (c3 : W0.cell? ⟨g, p + 1, none⟩ = some (.int .i64 yb)) (c4 : W1.cell? ⟨bv, 1, none⟩ = some v) (hnb : nb = W0.heap.size) (hW1 : W1 = W0.alloc (.cells #[.int .i64 ya, .int .i64 yb] 59))
    (hrun : (Builtin.append_ #[23, 23] 23 #[v, .slice (some ⟨nb, 0, none⟩) 1 1]).run Try.prog W1 = .ok v' w6) (c5 : w6.cell? ⟨bv, 1, none⟩ = some v) (c6 : w6.frozen? ⟨bv, 1, none⟩ = false) {A4 : Option Addr} {n4 k4 : Nat} (hv' : v' = .slice A4 n4 k4) (hw7 : w7 = w6.setCell ⟨bv, 1, none⟩ v')
    (hQ : ∀ a, Q .normal a w7) : ∀ (fuel : Nat) (listed : Array Bool) (a : Act) (w : World), listed.size = 13 → Reg bv g p nb ya yb v v' W0 W1 w6 w7 (fun j => listed.getD j false) a w → Reg.left listed ≤ fuel → wpAnyIn F n Try.prog .any ops Q fuel listed a w := by
  intro fuel
  induction fuel with
  | zero =>
    intro listed a w hs hR hl
    have hall := Reg.left_zero hl
    refine ⟨?_, ?_⟩
    · apply List.eq_nil_iff_forall_not_mem.2
      intro i hi
      obtain ⟨h13, h2, _⟩ := Reg.ready hz hw hi
      have h1 := hall i h13
      have h : i < listed.size := by omega
      simp only [Array.getD_eq_getD_getElem?, Array.getElem?_eq_getElem h, Option.getD_some] at h1 h2
      rw [h1] at h2; cases h2
    · rw [hR.w3 (hall 12 (by omega))]; exact hQ a
  | succ fuel ih =>
    intro listed a w hs hR hl
    refine ⟨fun hr => ?_, fun i hi => ?_⟩
    · rw [hR.w3 (Reg.done hs hz hb hr 13 12 (by omega) (by omega))]; exact hQ a
    · obtain ⟨h13, h2, h3⟩ := Reg.ready hz hw hi
      have hlt := Reg.left_set hs h13 h2
      have hs' : (listed.setIfInBounds i true).size = 13 := by simpa using hs
      have next : ∀ a' w', Reg bv g p nb ya yb v v' W0 W1 w6 w7 (fun j => (listed.setIfInBounds i true).getD j false) a' w' → wpAnyIn F n Try.prog .any ops Q fuel (listed.setIfInBounds i true) a' w' := fun a' w' h => ih _ a' w' hs' h (by omega)
      have E8 := hR.s8
      have E9 := hR.s9
      have V := hR.val
      have hnot : ∀ j, i ∈ Reg.waits.getD j [] → j < 13 → listed.getD j false = false := fun j hj h13' => by
        cases hq : listed.getD j false with
        | false => rfl
        | true =>
          have h1 := hR.dep j h13' hq i hj
          have h : i < listed.size := by omega
          simp only [Array.getD_eq_getD_getElem?, Array.getElem?_eq_getElem h, Option.getD_some] at h1 h2
          rw [h1] at h2; cases h2
      have hcase : i = 0 ∨ i = 1 ∨ i = 2 ∨ i = 3 ∨ i = 4 ∨ i = 5 ∨ i = 6 ∨ i = 7 ∨ i = 8 ∨ i = 9 ∨ i = 10 ∨ i = 11 ∨ i = 12 := by omega
      rcases hcase with rfl | rfl | rfl | rfl | rfl | rfl | rfl | rfl | rfl | rfl | rfl | rfl | rfl
      · obtain ⟨o, ho, hd, hop, ht, hg⟩ := Reg.get hsh hgd (i := 0) rfl
        refine opIn hF ho hg (fun c hc => by rw [hop] at hc; cases hc) (v := .pointer (some ⟨bv, 1, none⟩)) (w' := w) ?_ ?_
        · simp [execOp, hop, go_sem, E8]
        · rw [hd]; exact next _ _ (hR.put hs (by omega) h2 h3 rfl (.inl ⟨by decide, by decide, rfl⟩))
      · obtain ⟨o, ho, hd, hop, ht, hg⟩ := Reg.get hsh hgd (i := 1) rfl
        have t0 : a.tmps[50]? = some (.pointer (some ⟨bv, 1, none⟩)) := V 0 (by omega) (h3 0 (by simp [Reg.waits]))
        have hc : w.cell? ⟨bv, 1, none⟩ = some v := by
          have h10 := hnot 10 (by simp [Reg.waits]) (by omega)
          cases h9 : listed.getD 9 false with
          | false => rw [hR.w0 h9]; exact c1
          | true => rw [hR.w1 h9 h10]; exact c4
        refine opIn hF ho hg (fun c hc => by rw [hop] at hc; cases hc) (v := v) (w' := w) ?_ ?_
        · simp [execOp, hop, go_sem, t0, hc]
        · rw [hd]; exact next _ _ (hR.put hs (by omega) h2 h3 rfl (.inl ⟨by decide, by decide, rfl⟩))
      · obtain ⟨o, ho, hd, hop, ht, hg⟩ := Reg.get hsh hgd (i := 2) rfl
        refine opIn hF ho hg (fun c hc => by rw [hop] at hc; cases hc) (v := .slice (some ⟨g, p, none⟩) 2 2) (w' := w) ?_ ?_
        · simp [execOp, hop, go_sem, E9]
        · rw [hd]; exact next _ _ (hR.put hs (by omega) h2 h3 rfl (.inl ⟨by decide, by decide, rfl⟩))
      · obtain ⟨o, ho, hd, hop, ht, hg⟩ := Reg.get hsh hgd (i := 3) rfl
        have t2 : a.tmps[52]? = some (.slice (some ⟨g, p, none⟩) 2 2) := V 2 (by omega) (h3 2 (by simp [Reg.waits]))
        refine opIn hF ho hg (fun c hc => by rw [hop] at hc; cases hc) (v := .pointer (some ⟨g, p, none⟩)) (w' := w) ?_ ?_
        · simp [execOp, hop, go_sem, t2]
        · rw [hd]; exact next _ _ (hR.put hs (by omega) h2 h3 rfl (.inl ⟨by decide, by decide, rfl⟩))
      · obtain ⟨o, ho, hd, hop, ht, hg⟩ := Reg.get hsh hgd (i := 4) rfl
        have t3 : a.tmps[53]? = some (.pointer (some ⟨g, p, none⟩)) := V 3 (by omega) (h3 3 (by simp [Reg.waits]))
        have hwe : w = W0 := by
          have h8 := hnot 8 (by simp [Reg.waits]) (by omega)
          refine hR.w0 ?_
          cases h9 : listed.getD 9 false with
          | false => rfl
          | true => have := hR.dep 9 (by omega) h9 8 (by simp [Reg.waits]); rw [h8] at this; cases this
        have hc : w.cell? ⟨g, p, none⟩ = some (.int .i64 ya) := by rw [hwe]; exact c2
        refine opIn hF ho hg (fun c hc => by rw [hop] at hc; cases hc) (v := .int .i64 ya) (w' := w) ?_ ?_
        · simp [execOp, hop, go_sem, t3, hc]
        · rw [hd]; exact next _ _ (hR.put hs (by omega) h2 h3 rfl (.inl ⟨by decide, by decide, rfl⟩))
      · obtain ⟨o, ho, hd, hop, ht, hg⟩ := Reg.get hsh hgd (i := 5) rfl
        refine opIn hF ho hg (fun c hc => by rw [hop] at hc; cases hc) (v := .slice (some ⟨g, p, none⟩) 2 2) (w' := w) ?_ ?_
        · simp [execOp, hop, go_sem, E9]
        · rw [hd]; exact next _ _ (hR.put hs (by omega) h2 h3 rfl (.inl ⟨by decide, by decide, rfl⟩))
      · obtain ⟨o, ho, hd, hop, ht, hg⟩ := Reg.get hsh hgd (i := 6) rfl
        have t5 : a.tmps[55]? = some (.slice (some ⟨g, p, none⟩) 2 2) := V 5 (by omega) (h3 5 (by simp [Reg.waits]))
        refine opIn hF ho hg (fun c hc => by rw [hop] at hc; cases hc) (v := .pointer (some ⟨g, p + 1, none⟩)) (w' := w) ?_ ?_
        · simp [execOp, hop, go_sem, t5]
        · rw [hd]; exact next _ _ (hR.put hs (by omega) h2 h3 rfl (.inl ⟨by decide, by decide, rfl⟩))
      · obtain ⟨o, ho, hd, hop, ht, hg⟩ := Reg.get hsh hgd (i := 7) rfl
        have t6 : a.tmps[56]? = some (.pointer (some ⟨g, p + 1, none⟩)) := V 6 (by omega) (h3 6 (by simp [Reg.waits]))
        have hwe : w = W0 := by
          have h8 := hnot 8 (by simp [Reg.waits]) (by omega)
          refine hR.w0 ?_
          cases h9 : listed.getD 9 false with
          | false => rfl
          | true => have := hR.dep 9 (by omega) h9 8 (by simp [Reg.waits]); rw [h8] at this; cases this
        have hc : w.cell? ⟨g, p + 1, none⟩ = some (.int .i64 yb) := by rw [hwe]; exact c3
        refine opIn hF ho hg (fun c hc => by rw [hop] at hc; cases hc) (v := .int .i64 yb) (w' := w) ?_ ?_
        · simp [execOp, hop, go_sem, t6, hc]
        · rw [hd]; exact next _ _ (hR.put hs (by omega) h2 h3 rfl (.inl ⟨by decide, by decide, rfl⟩))
      · obtain ⟨o, ho, hd, hop, ht, hg⟩ := Reg.get hsh hgd (i := 8) rfl
        have t4 : a.tmps[54]? = some (.int .i64 ya) := V 4 (by omega) (h3 4 (by simp [Reg.waits]))
        have t7 : a.tmps[57]? = some (.int .i64 yb) := V 7 (by omega) (h3 7 (by simp [Reg.waits]))
        refine opIn hF ho hg (fun c hc => by rw [hop] at hc; cases hc) (v := .agg #[.int .i64 ya, .int .i64 yb]) (w' := w) ?_ ?_
        · simp [execOp, hop, go_sem, t4, t7]
        · rw [hd]; exact next _ _ (hR.put hs (by omega) h2 h3 rfl (.inl ⟨by decide, by decide, rfl⟩))
      · obtain ⟨o, ho, hd, hop, ht, hg⟩ := Reg.get hsh hgd (i := 9) rfl
        have t8 : a.tmps[58]? = some (.agg #[.int .i64 ya, .int .i64 yb]) := V 8 (by omega) (h3 8 (by simp [Reg.waits]))
        have hwe : w = W0 := by
          refine hR.w0 ?_
          have h : 9 < listed.size := by omega
          simp only [Array.getD_eq_getD_getElem?, Array.getElem?_eq_getElem h, Option.getD_some] at h2 ⊢
          exact h2
        refine opIn hF ho hg (fun c hc => by rw [hop] at hc; cases hc) (v := .slice (some ⟨nb, 0, none⟩) 1 1) (w' := W1) ?_ ?_
        · rw [hwe, hW1, hnb]; simp [execOp, hop, go_sem, t8]
        · rw [hd]; exact next _ _ (hR.put hs (by omega) h2 h3 rfl (.inr (.inl ⟨rfl, rfl⟩)))
      · obtain ⟨o, ho, hd, hop, ht, hg⟩ := Reg.get hsh hgd (i := 10) rfl
        have t1 : a.tmps[51]? = some (v) := V 1 (by omega) (h3 1 (by simp [Reg.waits]))
        have t9 : a.tmps[59]? = some (.slice (some ⟨nb, 0, none⟩) 1 1) := V 9 (by omega) (h3 9 (by simp [Reg.waits]))
        have hwe : w = W1 := by
          refine hR.w1 (h3 9 (by simp [Reg.waits])) ?_
          have h : 10 < listed.size := by omega
          simp only [Array.getD_eq_getD_getElem?, Array.getElem?_eq_getElem h, Option.getD_some] at h2 ⊢
          exact h2
        refine opIn hF ho hg (fun c hc => by rw [hop] at hc; cases hc) (v := v') (w' := w6) ?_ ?_
        · rw [hwe]; simp [execOp, hop, ht, resolve, invoke, builtin, Act.eval, t1, t9, hrun, Result.andThen]
        · rw [hd]; exact next _ _ (hR.put hs (by omega) h2 h3 rfl (.inr (.inr ⟨rfl, rfl⟩)))
      · obtain ⟨o, ho, hd, hop, ht, hg⟩ := Reg.get hsh hgd (i := 11) rfl
        refine opIn hF ho hg (fun c hc => by rw [hop] at hc; cases hc) (v := .pointer (some ⟨bv, 1, none⟩)) (w' := w) ?_ ?_
        · simp [execOp, hop, go_sem, E8]
        · rw [hd]; exact next _ _ (hR.put hs (by omega) h2 h3 rfl (.inl ⟨by decide, by decide, rfl⟩))
      · obtain ⟨o, ho, hd, hop, ht, hg⟩ := Reg.get hsh hgd (i := 12) rfl
        have t11 : a.tmps[61]? = some (.pointer (some ⟨bv, 1, none⟩)) := V 11 (by omega) (h3 11 (by simp [Reg.waits]))
        have t10 : a.tmps[60]? = some (v') := V 10 (by omega) (h3 10 (by simp [Reg.waits]))
        have hwe : w = w6 := by
          refine hR.w2 (h3 10 (by simp [Reg.waits])) ?_
          have h : 12 < listed.size := by omega
          simp only [Array.getD_eq_getD_getElem?, Array.getElem?_eq_getElem h, Option.getD_some] at h2 ⊢
          exact h2
        refine opIn_skip hF ho hg (fun c hc => by rw [hop] at hc; cases hc) (w' := w7) ?_ hd ?_
        · rw [hwe, hw7]; subst hv'; simp [execOp, hop, go_sem, t11, t10, c5, c6]
        · exact next _ _ (hR.last hs h3)

/-- the region -/
theorem Reg.run {F : Fence} {n id : Nat} {ops : Array Oper} {Q : Exit → Act → World → Prop} {a : Act} {W : World} {bv g p : Nat} {ya yb : Int} {v v' : Value} {W1 w6 : World} (hF : ∀ f, F.fn f) (hz : ops.size = 13) (hsh : ops.toList.map (fun o => (o.dst, o.op, o.type)) = Reg.shape) (hgd : ops.all (fun o => o.guard.isNone) = true) (hw : Reg.waitsOk ops = true) (hb : Reg.back ops = true)
    (s0 : a.tmps.size = 69) (s8 : a.tmps[8]? = some (.pointer (some ⟨bv, 0, none⟩))) (s9 : a.tmps[9]? = some (.slice (some ⟨g, p, none⟩) 2 2))
    (c1 : W.cell? ⟨bv, 1, none⟩ = some v) (c2 : W.cell? ⟨g, p, none⟩ = some (.int .i64 ya)) (c3 : W.cell? ⟨g, p + 1, none⟩ = some (.int .i64 yb)) (c4 : W1.cell? ⟨bv, 1, none⟩ = some v) (hW1 : W1 = W.drew.alloc (.cells #[.int .i64 ya, .int .i64 yb] 59))
    (hrun : (Builtin.append_ #[23, 23] 23 #[v, .slice (some ⟨W.heap.size, 0, none⟩) 1 1]).run Try.prog W1 = .ok v' w6) (c5 : w6.cell? ⟨bv, 1, none⟩ = some v) (c6 : w6.frozen? ⟨bv, 1, none⟩ = false) {A4 : Option Addr} {n4 k4 : Nat} (hv' : v' = .slice A4 n4 k4)
    (hQ : ∀ a, Q .normal a (w6.setCell ⟨bv, 1, none⟩ v')) : (Code.region id ops true).wpIn F n Try.prog Q a W := by
  refine wpIn_region_any (by kernel_rfl) ?_
  rw [hz]
  have hno : ∀ j, (Array.replicate 13 false).getD j false = false := fun j => by
    simp only [Array.getD_eq_getD_getElem?, Array.getElem?_replicate]
    split <;> rfl
  refine Reg.all (W0 := W.drew) (W1 := W1) (w6 := w6) (w7 := w6.setCell ⟨bv, 1, none⟩ v') (v := v) (v' := v') (nb := W.heap.size) (g := g) (p := p) (ya := ya) (yb := yb) (bv := bv) hF hz hsh hgd hw hb c1 c2 c3 c4 rfl hW1 hrun c5 c6 hv' rfl hQ 13 _ a W.drew (by simp) ?_ ?_
  · refine ⟨s0, s8, s9, fun j _ h => ?_, fun i _ h => ?_, fun _ => rfl, fun h => ?_, fun h => ?_, fun h => ?_⟩
    · rw [hno] at h; cases h
    · rw [hno] at h; cases h
    · rw [hno] at h; cases h
    · rw [hno] at h; cases h
    · rw [hno] at h; cases h
  · unfold Reg.left
    exact Nat.le_trans (List.length_filter_le _ _) (by simp)

end Go.Proofs.Ytebkgndcgcdogaa

namespace Go.Proofs.Ytebkgndcgcdogaa
open Go.RowKit Go.Shelf
attribute [local go_sem] Oper.semAt_some
set_option maxHeartbeats 2000000

theorem Wm.list_ok' (s : List UInt8) (k m : Int) : (∃ e, e ≠ 0 ∧ Wm.list s k m = ([], 0, e)) ∨ (∃ l q, Wm.list s k m = (l, q, 0) ∧ (l.length : Int) ≤ m) := by
  rcases Wm.lenR_cases s k m with ⟨e, he, h⟩ | ⟨x, q, h, _, h0, h1, _⟩
  · exact .inl ⟨e, he, by unfold Wm.list; rw [h]; simp [he]⟩
  · rcases Wm.listFrom_cases s x.toNat q [] with ⟨e, he, h2⟩ | ⟨l, q2, h2, hl⟩
    · exact .inl ⟨e, he, by unfold Wm.list; rw [h]; simpa using h2⟩
    · exact .inr ⟨l, q2, by unfold Wm.list; rw [h]; simpa using h2, by omega⟩
theorem Vm.dec_int' {s : List UInt8} {e : Int} (h : Wm.int s 0 = (0, 0, e)) (he : e ≠ 0) : Vm.dec s = (0, [], e) := by unfold Vm.dec; rw [h]; simp [he]
theorem Vm.dec_list' {s : List UInt8} {x q e : Int} (h : Wm.int s 0 = (x, q, 0)) (h2 : Wm.list s q 512 = ([], 0, e)) (he : e ≠ 0) : Vm.dec s = (0, [], e) := by unfold Vm.dec; rw [h]; simp only; rw [h2]; simp [he]
theorem Vm.dec_form' {s : List UInt8} {x q q2 : Int} {l : List Int} (h : Wm.int s 0 = (x, q, 0)) (h2 : Wm.list s q 512 = (l, q2, 0)) (hf : ¬ (q2 = s.length ∧ l.length % 2 = 0)) : Vm.dec s = (0, [], 2) := by unfold Vm.dec; rw [h]; simp only; rw [h2]; simp only [if_true]; rw [if_neg hf]
theorem Vm.dec_ok' {s : List UInt8} {x q q2 : Int} {l : List Int} (h : Wm.int s 0 = (x, q, 0)) (h2 : Wm.list s q 512 = (l, q2, 0)) (hf : q2 = s.length ∧ l.length % 2 = 0) :
    Vm.dec s = if Vm.chk x (Vm.pairs l) = 0 then (x, Vm.pairs l, 0) else (0, [], Vm.chk x (Vm.pairs l)) := by unfold Vm.dec; rw [h]; simp only; rw [h2]; simp only [if_true]; rw [if_pos hf]

theorem Wm.listFrom_le (s : List UInt8) : ∀ (n : Nat) (k : Int) (acc l : List Int) (q : Int), k ≤ s.length → Wm.listFrom s n k acc = (l, q, 0) → q ≤ s.length
  | 0, k, acc, l, q, hk, h => by
    rw [Wm.listFrom] at h
    injection h with _ h
    injection h with h _
    omega
  | n + 1, k, acc, l, q, hk, h => by
    rw [Wm.listFrom] at h
    rcases Wm.int_cases s k with ⟨e, he, h2⟩ | ⟨x, q', h2, _, _, hq, _⟩
    · rw [h2, if_pos he] at h
      injection h with _ h
      injection h with _ h
      exact absurd h he
    · rw [h2, if_neg (by simp)] at h
      exact Wm.listFrom_le s n q' _ l q hq h
theorem Wm.list_le {s : List UInt8} {k m q : Int} {l : List Int} (h : Wm.list s k m = (l, q, 0)) : q ≤ s.length := by
  unfold Wm.list at h
  rcases Wm.lenR_cases s k m with ⟨e, he, h2⟩ | ⟨x, q', h2, _, _, _, _, _, hq, _⟩
  · rw [h2, if_pos he] at h
    injection h with _ h
    injection h with _ h
    exact absurd h he
  · rw [h2, if_neg (by simp)] at h
    exact Wm.listFrom_le s _ q' _ l q hq h

set_option maxRecDepth 100000 in
theorem mdec_in (s : ByteArray) (w : World) (hs : s.size ≤ 17592186044000) :
    CallsIn Fence.wide 5 Try.prog 30 #[.string s] w (Vm.RetV w.heap.size w (Vm.dec s.data.toList)) := by
  have hlen : s.data.toList.length = s.size := by simp
  obtain ⟨i0, hi, hz0, hz1, hz2⟩ := info_parts info_name
  obtain ⟨B, hB⟩ : ∃ B, w.heap.size = B := ⟨_, rfl⟩
  obtain ⟨w1, hw1⟩ : ∃ V, w.alloc (.cells #[Value.int .i64 0, .slice none 0 0] 25) = V := ⟨_, rfl⟩
  have hR1 : VB B 0 (.slice none 0 0) w1 := by rw [← hw1, ← hB]; exact heap_alloc_new _ _
  have hB1 : Below B w w1 := by rw [← hw1]; exact (Below.refl _ _).alloc (by omega) _
  have hs1 : w1.heap.size = B + 1 := by rw [← hw1]; simp [hB]
  have HW1 := Lib.hid hw1
  have HR1 := Lib.hid hR1
  have HB1 := Lib.hid hB1
  have HBB := Lib.hid hB
  obtain ⟨t0, t1, t2, t3⟩ := And.intro hR1.c0 (And.intro hR1.c1 (And.intro hR1.f0 hR1.f1))
  have I1 := Lib.hid (fun V => int_any s 0 V (by unfold maxLen; omega))
  clear hw1 hR1 hB1
  rw [hB]
  rcases Wm.int_cases s.data.toList 0 with ⟨e, he, hi1⟩ | ⟨x, q, hi1, _, hq0, hq1, hx⟩
  · have HF := Lib.hid (Vm.dec_int' hi1 he)
    rw [hi1] at I1
    unfold Wm.val at I1
    have g0 : (e == 0) = false := beq_eq_false_iff_ne.2 he
    have g1 : (e != 0) = true := by simpa using he
    clear he hi1 hlen hB
    refine callsIn_of_wp_marks Try.func30 rfl trivial ?_ rfl
    simp only [Try.ntmps30, List.size_toArray, List.length_cons, List.length_nil, Nat.reduceAdd, Nat.reduceSub, Array.replicate_succ, Array.replicate_zero, List.push_toArray, List.append_toArray, List.nil_append, List.cons_append]
    gi_wp2
    refine ⟨trivial, ?_⟩
    rw [HW1.out]
    simp only [HBB.out]
    refine (callsIn_wide.2 (I1.out _)).mono ?_
    rintro e' w' ⟨rfl, rfl⟩
    gi_wp2
    exact ⟨.tuple #[.agg #[.int .i64 0, .slice none 0 0], .int .i64 e], by simp [results, Try.results30, go_sem, t0, t1], .slice none 0 0, by rw [HF.out], by rw [HF.out]; exact NamesOwn.nil _ _, ((HB1.out).setCell (p := ⟨B, 0, none⟩) (Nat.le_refl _) _).setCell (p := ⟨B, 1, none⟩) (Nat.le_refl _) _⟩
  have L1 := Lib.hid (fun V => list_any s q 512 V hs)
  rw [hi1] at I1
  unfold Wm.val at I1
  rcases Wm.list_ok' s.data.toList q 512 with ⟨e, he, hl1⟩ | ⟨l, q2, hl1, hl2⟩
  · have HF := Lib.hid (Vm.dec_list' hi1 hl1 he)
    rw [hl1] at L1
    have g0 : (e == 0) = false := beq_eq_false_iff_ne.2 he
    have g1 : (e != 0) = true := by simpa using he
    clear he hi1 hl1 hlen hB
    refine callsIn_of_wp_marks Try.func30 rfl trivial ?_ rfl
    simp only [Try.ntmps30, List.size_toArray, List.length_cons, List.length_nil, Nat.reduceAdd, Nat.reduceSub, Array.replicate_succ, Array.replicate_zero, List.push_toArray, List.append_toArray, List.nil_append, List.cons_append]
    gi_wp2
    refine ⟨trivial, ?_⟩
    rw [HW1.out]
    simp only [HBB.out]
    refine (callsIn_wide.2 (I1.out _)).mono ?_
    rintro e' w' ⟨rfl, rfl⟩
    gi_wp2
    refine ⟨trivial, ?_⟩
    refine (callsIn_wide.2 (L1.out _)).mono ?_
    rintro e' w3 ⟨u, rfl, hu, hb3⟩
    have hr := HR1.out.below hb3 (by omega)
    clear t0 t1 t2 t3
    obtain ⟨t0, t1, t2, t3⟩ := And.intro hr.c0 (And.intro hr.c1 (And.intro hr.f0 hr.f1))
    have HB3 := Lib.hid (HB1.out.trans (hb3.mono (by omega)))
    clear hb3 hr hu
    gi_wp2
    exact ⟨.tuple #[.agg #[.int .i64 0, .slice none 0 0], .int .i64 e], by simp [results, Try.results30, go_sem, t0, t1], .slice none 0 0, by rw [HF.out], by rw [HF.out]; exact NamesOwn.nil _ _, (HB3.out.setCell (p := ⟨B, 0, none⟩) (Nat.le_refl _) _).setCell (p := ⟨B, 1, none⟩) (Nat.le_refl _) _⟩
  have hle := Wm.list_le hl1
  rw [hl1] at L1
  unfold Wm.LRet at L1
  simp only at L1
  obtain ⟨N, hN⟩ : ∃ N, l.length = N := ⟨_, rfl⟩
  rw [hN] at L1 hl2
  have hN2 : N ≤ 512 := by omega
  have cN : ((N : Int) % 2 : Int) = ((N % 2 : Nat) : Int) := by omega
  by_cases hf : q2 = (s.size : Int) ∧ N % 2 = 0
  · have HF := Lib.hid (Vm.dec_ok' hi1 hl1 ⟨by rw [hf.1, hlen], by rw [hN]; exact hf.2⟩)
    obtain ⟨K, hK⟩ : ∃ K, N = K * 2 := ⟨N / 2, by omega⟩
    subst hK
    have c1 : decide (q2 < (s.size : Int)) = false := by simp; omega
    have b3 : (((K * 2 : Nat) : Int) % 2 == 1) = false := by rw [cN, hf.2]; rfl
    obtain ⟨Q, hQ⟩ : ∃ Q, Vm.pairs l = Q := ⟨_, rfl⟩
    have hQl : Q.length = K := by rw [← hQ, Vm.pairs_length, hN]; omega
    have hQg : ∀ k (hk : k < Q.length), ∃ (h0 : 2 * k < l.length) (h1 : 2 * k + 1 < l.length), Q[k] = (l[2 * k], l[2 * k + 1]) := by
      subst hQ; exact fun k hk => Vm.pairs_get l k hk
    rw [hQ] at HF
    have HQG := Lib.hid hQg
    have HQL := Lib.hid hQl
    have HN := Lib.hid hN
    clear hi1 hl1 hlen cN hQ hQg hQl hN hf hB hle
    refine callsIn_of_wp_marks Try.func30 rfl trivial ?_ rfl
    simp only [Try.ntmps30, List.size_toArray, List.length_cons, List.length_nil, Nat.reduceAdd, Nat.reduceSub, Array.replicate_succ, Array.replicate_zero, List.push_toArray, List.append_toArray, List.nil_append, List.cons_append]
    gi_wp2
    refine ⟨trivial, ?_⟩
    rw [HW1.out]
    simp only [HBB.out]
    refine (callsIn_wide.2 (I1.out _)).mono ?_
    rintro e' w' ⟨rfl, rfl⟩
    gi_wp2
    refine ⟨trivial, ?_⟩
    refine (callsIn_wide.2 (L1.out _)).mono ?_
    rintro e' w3 ⟨u, rfl, hu, hb3⟩
    obtain ⟨A, c, rfl, hci⟩ := own_cells hu
    have hr := HR1.out.below hb3 (by omega)
    have hs3 := hb3.size
    have HR3 := Lib.hid hr
    have HCI := Lib.hid hci
    have HB3 := Lib.hid (HB1.out.trans (hb3.mono (by omega)))
    clear hb3 hr hu hci t0 t1 t2 t3
    obtain ⟨bv, hbv⟩ : ∃ bv, w3.heap.size = bv := ⟨_, rfl⟩
    gi_wp2
    refine ⟨trivial, ?_⟩
    refine (chunk_in Fence.wide 4 trivial rfl A (K * 2) c _).mono ?_
    rintro e' w' ⟨rfl, rfl⟩
    gi_wp2
    obtain ⟨w5, hw5⟩ : ∃ V, ((w3.alloc (.cells #[.int .i64 x, .slice none 0 0] 25)).alloc (.cells #[.slice A (K * 2) c] 22)).alloc (.cells #[.int .i64 2] 3) = V := ⟨_, rfl⟩
    have hv5 : VB bv x (.slice none 0 0) w5 := by
      rw [← hw5, ← hbv]
      exact (Below.heap_alloc _ _ _ (by simp <;> omega)).trans ((Below.heap_alloc _ _ _ (by simp)).trans (heap_alloc_new _ _))
    have e1 : w5.cell? ⟨bv + 1, 0, none⟩ = some (.slice A (K * 2) c) := by
      rw [← hw5]
      exact (World.cell?_alloc_lt _ _ _ (by show bv + 1 < _; rw [World.size_alloc, World.size_alloc, hbv]; omega)).trans (cell_new_at _ _ _ _ (by simp [hbv]) 0)
    have e2 : w5.cell? ⟨bv + 1 + 1, 0, none⟩ = some (.int .i64 2) := by
      rw [← hw5]
      exact cell_new_at _ _ _ _ (by simp [hbv]) 0
    have hs5 : w5.heap.size = bv + 3 := by rw [← hw5]; simp [hbv]
    have hb5 : Below bv w3 w5 := by rw [← hw5]; exact (((Below.refl _ _).alloc (by omega) _).alloc (by simp; omega) _).alloc (by simp; omega) _
    rw [hw5]
    have HV5 := Lib.hid hv5
    have HB5 := Lib.hid hb5
    clear hw5 hv5 hb5
    obtain ⟨g, o, hA⟩ : ∃ g o, 0 < K → A = some ⟨g, o, none⟩ := by
      by_cases h0 : 0 < K
      · obtain ⟨g, o, h, _⟩ := HCI.out.at (i := 0) (by omega)
        exact ⟨g, o, fun _ => h⟩
      · exact ⟨0, 0, fun h => absurd h h0⟩
    have hKc : K * 2 ≤ c := HCI.out.2.1
    have hf : ∀ i : Fin K, i.val < Q.length := fun i => by rw [HQL.out]; exact i.isLt
    refine wpIn_rangeFunc_ownG rfl (by decide) (gf := 74) (lb := #[.pointer (some ⟨bv + 1, 0, none⟩), .pointer (some ⟨bv + 1 + 1, 0, none⟩)]) rfl trivial (enters_of Try.func74 (by kernel_rfl) rfl)
      (chunk_stops Fence.wide 4 trivial rfl (by decide) (bv + 1) (bv + 1 + 1) g o K c A hA (by omega) hKc (fun W W' => W.heap.size ≤ W'.heap.size ∧ ∀ k, k < bv + 3 → k ≠ bv → W'.heap[k]? = W.heap[k]?)
        (fun W W' h => ⟨by simp only [World.cell?, h.2 (bv + 1) (by omega) (by omega)], by simp only [World.cell?, h.2 (bv + 1 + 1) (by omega) (by omega)]⟩) w5 (by omega) (by omega) e1 e2)
      (fun h h' => ⟨Nat.le_trans h.1 h'.1, fun k h1 h2 => (h'.2 k h1 h2).trans (h.2 k h1 h2)⟩)
      (fun W l o o' hl hw _ _ => ⟨(grownBy_putObj' W l o').size, fun k h1 _ => World.putObj_heap_other (by omega)⟩)
      (Below.refl _ _) (fun _ => rfl)
      (fun pre W => (∃ v, VB bv x v W ∧ NamesOwn W (bv + 3) v (pre.map fun i => Q[i.val]'(hf i))) ∧ Below bv w5 W ∧ w5.heap.size ≤ W.heap.size)
      (fun _ _ _ => False)
      ?own
      (fun _ _ _ _ _ hs _ _ => hs)
      ⟨⟨_, HV5.out, NamesOwn.nil _ _⟩, Below.refl _ _, Nat.le_refl _⟩
      (fun i => { tmps := #[.string s, undef, .pointer (some ⟨B, 0, none⟩), .int .i64 0, .int .i64 x, .int .i64 q2, .int .i64 0, .slice A (K * 2) c, .pointer (some ⟨bv, 0, none⟩), .slice (some ⟨g, o + i.val * 2, none⟩) 2 2, undef, .tuple #[.int .i64 x, .int .i64 q, .int .i64 0], .string s, .tuple #[.int .i64 x, .int .i64 q, .int .i64 0], .int .i64 x, .int .i64 q, .int .i64 0, .int .i64 0, .bool false, undef, undef, .tuple #[.slice A (K * 2) c, .int .i64 q2, .int .i64 0], .string s, .int .i64 q, .tuple #[.slice A (K * 2) c, .int .i64 q2, .int .i64 0], .slice A (K * 2) c, .int .i64 q2, .int .i64 0, .bool false, .int .i64 0, .bool false, undef, undef, .bool false, .int .i64 q2, .string s, .int .i64 (s.size : Int), .bool false, .bool false, .slice A (K * 2) c, .int .i64 ((K : Int) * 2), .int .i64 0, .bool false, .bool false, undef, .int .i64 x, .agg #[.int .i64 x, .slice none 0 0], .slice A (K * 2) c, .func (.func 74) #[] #[.pointer (some ⟨bv + 1, 0, none⟩), .pointer (some ⟨bv + 1 + 1, 0, none⟩)], .slice (some ⟨g, o + i.val * 2, none⟩) 2 2, undef, undef, undef, undef, undef, undef, undef, undef, undef, undef, undef, undef, undef, undef, undef, undef, undef, undef, undef], defers := [] }) ?assign ?body ?done ?stop
    case own =>
      rintro pre X Y row ⟨⟨v, hv, hr⟩, hB, hsz⟩ hg hrow
      refine ⟨⟨v, (hg.block bv hv.lt (fun e => ?_)).trans hv, hr.kept hg ?_⟩, hB.grown hg (Nat.le_trans (by omega) hsz) (fun k hk => by have := (hrow k hk).1; omega), Nat.le_trans hsz hg.size⟩
      · have := (hrow bv e.symm).1
        omega
      · rcases hr.2 with ⟨rfl, _⟩ | ⟨g', cap, cur, rfl, _, hgb, _⟩
        · exact .inl rfl
        · refine .inr fun e' => ?_
          obtain ⟨_, o', ho, hc⟩ := hrow g' (by simpa [Value.ownBlock] using e'.symm)
          rw [hgb] at ho; cases ho; cases hc
    case assign =>
      intro l i W Kc hKq
      gi_wp2
      exact hKq
    case body =>
      rintro lp pre i W ⟨⟨v, hv, hrow⟩, hB, hsz⟩ hlt
      obtain rfl := hA (by have := i.isLt; omega)
      have hi2 : i.val < K := i.isLt
      obtain ⟨h0, h1, hqk⟩ := HQG.out i.val (hf i)
      obtain ⟨g2, o2, hA2, hg2, hz2', y0⟩ := HCI.out.at (i := 2 * i.val) (by omega)
      injection hA2 with hA2
      injection hA2 with hA2 hA3
      subst hA2 hA3
      obtain ⟨g3, o3, hA2, hg3, hz3', y1⟩ := HCI.out.at (i := 2 * i.val + 1) (by omega)
      injection hA2 with hA2
      injection hA2 with hA2 hA3
      subst hA2 hA3
      rw [List.getElem_map] at y0 y1
      rw [hbv] at hg2
      have hBw : Below bv w3 W := HB5.out.trans hB
      have z0 : W.cell? ⟨g, o + i.val * 2, none⟩ = some (.int .i64 l[2 * i.val]) := by
        rw [show o + i.val * 2 = o + 2 * i.val by omega]
        exact (hBw.cell (p := ⟨g, o + 2 * i.val, none⟩) hg2).trans y0
      have z1 : W.cell? ⟨g, o + i.val * 2 + 1, none⟩ = some (.int .i64 l[2 * i.val + 1]) := by
        rw [show o + i.val * 2 + 1 = o + (2 * i.val + 1) by omega]
        exact (hBw.cell (p := ⟨g, o + (2 * i.val + 1), none⟩) hg2).trans y1
      obtain ⟨ya, hya⟩ : ∃ y, l[2 * i.val] = y := ⟨_, rfl⟩
      obtain ⟨yb, hyb⟩ : ∃ y, l[2 * i.val + 1] = y := ⟨_, rfl⟩
      rw [hya] at z0 hqk
      rw [hyb] at z1 hqk
      obtain ⟨P, hP⟩ : ∃ P, (pre.map fun i => Q[i.val]'(hf i)) = P := ⟨_, rfl⟩
      have hP2 : ((pre ++ [i]).map fun i => Q[i.val]'(hf i)) = P ++ [(ya, yb)] := by rw [List.map_append, hP]; simp only [List.map_cons, List.map_nil]; rw [hqk]
      rw [hP] at hrow
      have hPl : P.length < 1000000 := by rw [← hP, List.length_map]; omega
      have hbl : bv < W.heap.size := hv.lt
      have hown : (W.drew.alloc (.cells #[.int .i64 ya, .int .i64 yb] 59)).ownsRow (bv + 3) 59 2 v P.length (Vm.cells P) := World.ownsRow.alloc (show NamesOwn W.drew (bv + 3) v P from hrow) _
      obtain ⟨v', w6, hrun, hown6, hgrow6, _⟩ := run_append_own_wide (P := Try.prog) (W.drew.alloc (.cells #[.int .i64 ya, .int .i64 yb] 59)) (bv + 3) 23 23 59 i0 (.agg #[.int .i64 0, .int .i64 0]) 2 16 Try.underlying23 hi hz0 hz1 hz2 rfl (by decide) v P.length (Vm.cells P) hown ⟨W.heap.size, 0, none⟩ 1 1 [.int .i64 ya, .int .i64 yb] rfl (cell_two_new _ _ _ _) (by simp [Value.oneCell']) (by unfold maxLen; omega) (by omega) (by simp; omega)
      obtain ⟨g', cap', rfl⟩ := ownsRow_succ hown6
      have hrl : ∀ b', v.ownBlock = some b' → bv + 3 ≤ b' ∧ b' < W.heap.size := fun b' hb' => World.ownsRow.lt hrow _ hb'
      have hv1 : VB bv x v (W.drew.alloc (.cells #[.int .i64 ya, .int .i64 yb] 59)) := (Below.heap_alloc W.drew _ _ hbl).trans hv
      have hv6 : VB bv x v w6 := (hgrow6.block bv (by simp; omega) (fun e => by have := (hrl _ e.symm).1; omega)).trans hv1
      have hv7 : VB bv x (.slice (some ⟨g', 0, none⟩) (P.length + 1) cap') (w6.setCell ⟨bv, 1, none⟩ (.slice (some ⟨g', 0, none⟩) (P.length + 1) cap')) := two_set1 hv6
      have hr7 : NamesOwn (w6.setCell ⟨bv, 1, none⟩ (.slice (some ⟨g', 0, none⟩) (P.length + 1) cap')) (bv + 3) (.slice (some ⟨g', 0, none⟩) (P.length + 1) cap') (P ++ [(ya, yb)]) := by
        refine NamesOwn.setCell ?_ (by show bv < bv + 3; omega) _
        unfold NamesOwn
        rw [Vm.cells_snoc, List.length_append, List.length_singleton]
        exact hown6
      have hko : KeepsOthers W (w6.setCell ⟨bv, 1, none⟩ (.slice (some ⟨g', 0, none⟩) (P.length + 1) cap')) := by
        refine (((KeepsOthers.drew W).trans (KeepsOthers.alloc _ _)).trans (KeepsOthers.of_grownBy hgrow6 (fun j oj hj ho => ?_))).trans (KeepsOthers.setCell _ _ _)
        rcases hown.2 with ⟨e, _⟩ | ⟨g4, cap4, cur4, e, _, hgb, _⟩
        · rw [e] at hj; cases hj
        · rw [e] at hj
          have hj : some g4 = some j := hj
          injection hj with hj
          subst hj
          rw [hgb] at ho; cases ho; rfl
      have hsz6 : W.heap.size + 1 ≤ w6.heap.size := by have := hgrow6.size; simpa using this
      have hkp : ∀ k, k < bv + 3 → k ≠ bv → (w6.setCell ⟨bv, 1, none⟩ (.slice (some ⟨g', 0, none⟩) (P.length + 1) cap')).heap[k]? = W.heap[k]? := fun k h1 h2 => by
        rw [Below.heap_setCell _ _ _ k (fun e => h2 e)]
        exact (hgrow6.block k (by simp; omega) (fun e => by have := (hrl _ e.symm).1; omega)).trans (Below.heap_alloc W.drew _ _ (by show k < W.heap.size; omega))
      have hB7 : Below bv w5 (w6.setCell ⟨bv, 1, none⟩ (.slice (some ⟨g', 0, none⟩) (P.length + 1) cap')) := ((hB.drew.alloc (by show bv ≤ W.heap.size; omega) _).grown hgrow6 (by simp; omega) (fun b hb => by have := (hrl b hb).1; omega)).setCell (p := ⟨bv, 1, none⟩) (Nat.le_refl _) _
      gi_wp2
      refine Reg.run (g := g) (p := o + i.val * 2) (bv := bv) (v := v) (fun _ => trivial) rfl rfl (by kernel_rfl) (by kernel_rfl) (by kernel_rfl) rfl rfl rfl hv.c1 z0 z1 hv1.c1 rfl hrun hv6.c1 hv6.f1 rfl (fun a' => ?_)
      show KeepsFrom _ _ _ ∧ _ ∧ _
      exact ⟨hko.from _, ⟨by simp only [World.setCell, Array.size_modify]; omega, hkp⟩, ⟨_, hv7, by rw [hP2]; exact hr7⟩, hB7, by simp only [World.setCell, Array.size_modify]; omega⟩
    case done =>
      rintro D ys W hD rfl ⟨⟨v, hv, hrow⟩, hB, hsz⟩ hK
      have hQe : ((List.finRange K).map fun i => Q[i.val]'(hf i)) = Q := List.ext_getElem (by rw [List.length_map, List.length_finRange, HQL.out]) (fun k h1 h2 => by simp)
      rw [hQe] at hrow
      obtain ⟨A2, c2, rfl, hni⟩ := own_names hrow
      rw [HQL.out] at hni hv hrow
      have C1 := Lib.hid (fun V h => mchk_any x A2 K c2 Q V h (by omega))
      have hDB : D ≠ B := by omega
      have hDB2 : B ≤ D := by omega
      have q0 := hv.c0
      have q1 := hv.c1
      have HV := Lib.hid hv
      have HROW := Lib.hid hrow
      have HNI := Lib.hid hni
      have HK := Lib.hid hK
      have HBS := Lib.hid (show B ≤ W.heap.size by omega)
      have HBW := Lib.hid (show Below B w W from HB3.out.trans ((HB5.out.trans hB).mono (by omega)))
      have HRB := Lib.hid (show VB B 0 (.slice none 0 0) W from HR3.out.below (HB5.out.trans hB) (by omega))
      clear hv hrow hni hK hB hQe
      by_cases h1 : Vm.chk x Q = 0
      · rw [h1] at C1
        rw [if_pos h1] at HF
        clear h1
        · skip
          gi_wp2
          refine ⟨trivial, ?_⟩
          refine (callsIn_wide.2 (C1.out _ HNI.out)).mono ?_
          rintro e' w6 ⟨rfl, hb6⟩
          have hv6 := HV.out.below hb6 HV.out.lt
          have hr6 := HRB.out.below hb6 HRB.out.lt
          have hK6 : w6.heap[D]? = some (.deferred (some [])) := (hb6.block D (Array.getElem?_eq_some_iff.1 HK.out).1).trans HK.out
          have ho6 := HROW.out.below hb6
          have hB6 : Below B w w6 := HBW.out.trans (hb6.mono HBS.out)
          have hs6 : B ≤ w6.heap.size := Nat.le_trans HBS.out hb6.size
          have HK6 := Lib.hid hK6
          have HR6 := Lib.hid hr6
          have HO6 := Lib.hid ho6
          have HB6 := Lib.hid hB6
          obtain ⟨t0, t1, t2, t3⟩ := And.intro hr6.c0 (And.intro hr6.c1 (And.intro hr6.f0 hr6.f1))
          have q0' := hv6.c0
          have q1' := hv6.c1
          clear hb6 hv6 hr6 hK6 ho6 hB6
          gi_wp2
          have hK7 : ((w6.setCell ⟨B, 0, none⟩ (.int .i64 x)).setCell ⟨B, 1, none⟩ (.slice A2 K c2)).heap[D]? = some (.deferred (some [])) := (Below.heap_setCell _ _ _ D (fun e => hDB e)).trans ((Below.heap_setCell _ _ _ D (fun e => hDB e)).trans HK6.out)
          have hr8 : (((w6.setCell ⟨B, 0, none⟩ (.int .i64 x)).setCell ⟨B, 1, none⟩ (.slice A2 K c2)).putObj D (.deferred none)).heap[B]? = some (.cells #[.int .i64 x, .slice A2 K c2] 25 (0, 0)) := (World.putObj_heap_other (fun e => hDB (by omega))).trans (two_set1 (two_set0 HR6.out))
          have y0 : (((w6.setCell ⟨B, 0, none⟩ (.int .i64 x)).setCell ⟨B, 1, none⟩ (.slice A2 K c2)).putObj D (.deferred none)).cell? ⟨B, 0, none⟩ = some (.int .i64 x) := by simp [World.cell?, hr8]
          have y1 : (((w6.setCell ⟨B, 0, none⟩ (.int .i64 x)).setCell ⟨B, 1, none⟩ (.slice A2 K c2)).putObj D (.deferred none)).cell? ⟨B, 1, none⟩ = some (.slice A2 K c2) := by simp [World.cell?, hr8]
          refine ⟨by simp, .inl ⟨_, _, rfl, run_takeDeferred hK7, ?_⟩⟩
          exact ⟨.tuple #[.agg #[.int .i64 x, .slice A2 K c2], .int .i64 0], by simp [results, Try.results30, go_sem, y0, y1], .slice A2 K c2, by rw [HF.out], by
            rw [HF.out]
            exact NamesOwn.mono (ownsRow_putObj (NamesOwn.setCell (a := ⟨B, 1, none⟩) (NamesOwn.setCell (a := ⟨B, 0, none⟩) HO6.out (show B < bv + 3 by omega) _) (show B < bv + 3 by omega) _) _ hK7 rfl) (by omega), ((HB6.out.setCell (p := ⟨B, 0, none⟩) (Nat.le_refl _) _).setCell (p := ⟨B, 1, none⟩) (Nat.le_refl _) _).grown (grownBy_putObj' _ D _) (by simp only [World.setCell, Array.size_modify]; exact hs6) (fun k hk => by cases hk; omega)⟩
      · have g0 : (Vm.chk x Q == 0) = false := beq_eq_false_iff_ne.2 h1
        have g1 : (Vm.chk x Q != 0) = true := by simpa using h1
        rw [if_neg h1] at HF
        obtain ⟨y, hy⟩ : ∃ y, Vm.chk x Q = y := ⟨_, rfl⟩
        rw [hy] at C1 HF g0 g1
        clear h1 hy
        · skip
          gi_wp2
          refine ⟨trivial, ?_⟩
          refine (callsIn_wide.2 (C1.out _ HNI.out)).mono ?_
          rintro e' w6 ⟨rfl, hb6⟩
          have hv6 := HV.out.below hb6 HV.out.lt
          have hr6 := HRB.out.below hb6 HRB.out.lt
          have hK6 : w6.heap[D]? = some (.deferred (some [])) := (hb6.block D (Array.getElem?_eq_some_iff.1 HK.out).1).trans HK.out
          have ho6 := HROW.out.below hb6
          have hB6 : Below B w w6 := HBW.out.trans (hb6.mono HBS.out)
          have hs6 : B ≤ w6.heap.size := Nat.le_trans HBS.out hb6.size
          have HK6 := Lib.hid hK6
          have HR6 := Lib.hid hr6
          have HO6 := Lib.hid ho6
          have HB6 := Lib.hid hB6
          obtain ⟨t0, t1, t2, t3⟩ := And.intro hr6.c0 (And.intro hr6.c1 (And.intro hr6.f0 hr6.f1))
          have q0' := hv6.c0
          have q1' := hv6.c1
          clear hb6 hv6 hr6 hK6 ho6 hB6
          gi_wp2
          have hK7 : ((w6.setCell ⟨B, 0, none⟩ (.int .i64 0)).setCell ⟨B, 1, none⟩ (.slice none 0 0)).heap[D]? = some (.deferred (some [])) := (Below.heap_setCell _ _ _ D (fun e => hDB e)).trans ((Below.heap_setCell _ _ _ D (fun e => hDB e)).trans HK6.out)
          have hr8 : (((w6.setCell ⟨B, 0, none⟩ (.int .i64 0)).setCell ⟨B, 1, none⟩ (.slice none 0 0)).putObj D (.deferred none)).heap[B]? = some (.cells #[.int .i64 0, .slice none 0 0] 25 (0, 0)) := (World.putObj_heap_other (fun e => hDB (by omega))).trans (two_set1 (two_set0 HR6.out))
          have y0 : (((w6.setCell ⟨B, 0, none⟩ (.int .i64 0)).setCell ⟨B, 1, none⟩ (.slice none 0 0)).putObj D (.deferred none)).cell? ⟨B, 0, none⟩ = some (.int .i64 0) := by simp [World.cell?, hr8]
          have y1 : (((w6.setCell ⟨B, 0, none⟩ (.int .i64 0)).setCell ⟨B, 1, none⟩ (.slice none 0 0)).putObj D (.deferred none)).cell? ⟨B, 1, none⟩ = some (.slice none 0 0) := by simp [World.cell?, hr8]
          refine ⟨by simp, .inl ⟨_, _, rfl, run_takeDeferred hK7, ?_⟩⟩
          exact ⟨.tuple #[.agg #[.int .i64 0, .slice none 0 0], .int .i64 y], by simp [results, Try.results30, go_sem, y0, y1], .slice none 0 0, by rw [HF.out], by
            rw [HF.out]
            exact NamesOwn.nil _ _, ((HB6.out.setCell (p := ⟨B, 0, none⟩) (Nat.le_refl _) _).setCell (p := ⟨B, 1, none⟩) (Nat.le_refl _) _).grown (grownBy_putObj' _ D _) (by simp only [World.setCell, Array.size_modify]; exact hs6) (fun k hk => by cases hk; omega)⟩
    case stop =>
      rintro D c pre W _ _ h _
      exact h.elim
  · have HF := Lib.hid (Vm.dec_form' hi1 hl1 (fun h => hf ⟨by rw [h.1, hlen], by rw [← hN]; exact h.2⟩))
    by_cases hq : q2 < (s.size : Int)
    · have c1 : decide (q2 < (s.size : Int)) = true := by simpa using hq
      clear hi1 hl1 hlen cN hN hf hB hle hq
      refine callsIn_of_wp_marks Try.func30 rfl trivial ?_ rfl
      simp only [Try.ntmps30, List.size_toArray, List.length_cons, List.length_nil, Nat.reduceAdd, Nat.reduceSub, Array.replicate_succ, Array.replicate_zero, List.push_toArray, List.append_toArray, List.nil_append, List.cons_append]
      gi_wp2
      refine ⟨trivial, ?_⟩
      rw [HW1.out]
      simp only [HBB.out]
      refine (callsIn_wide.2 (I1.out _)).mono ?_
      rintro e' w' ⟨rfl, rfl⟩
      gi_wp2
      refine ⟨trivial, ?_⟩
      refine (callsIn_wide.2 (L1.out _)).mono ?_
      rintro e' w3 ⟨u, rfl, hu, hb3⟩
      have hr := HR1.out.below hb3 (by omega)
      clear t0 t1 t2 t3
      obtain ⟨t0, t1, t2, t3⟩ := And.intro hr.c0 (And.intro hr.c1 (And.intro hr.f0 hr.f1))
      have HB3 := Lib.hid (HB1.out.trans (hb3.mono (by omega)))
      clear hb3 hr hu
      gi_wp2
      exact ⟨.tuple #[.agg #[.int .i64 0, .slice none 0 0], .int .i64 2], by simp [results, Try.results30, go_sem, t0, t1], .slice none 0 0, by rw [HF.out], by rw [HF.out]; exact NamesOwn.nil _ _, (HB3.out.setCell (p := ⟨B, 0, none⟩) (Nat.le_refl _) _).setCell (p := ⟨B, 1, none⟩) (Nat.le_refl _) _⟩
    · have c1 : decide (q2 < (s.size : Int)) = false := by simpa using hq
      have b3 : ((N : Int) % 2 == 1) = true := by
        have : N % 2 = 1 := by
          have : s.data.toList.length = s.size := hlen
          omega
        rw [cN, this]; rfl
      clear hi1 hl1 hlen cN hf hB hle hq
      refine callsIn_of_wp_marks Try.func30 rfl trivial ?_ rfl
      simp only [Try.ntmps30, List.size_toArray, List.length_cons, List.length_nil, Nat.reduceAdd, Nat.reduceSub, Array.replicate_succ, Array.replicate_zero, List.push_toArray, List.append_toArray, List.nil_append, List.cons_append]
      gi_wp2
      refine ⟨trivial, ?_⟩
      rw [HW1.out]
      simp only [HBB.out]
      refine (callsIn_wide.2 (I1.out _)).mono ?_
      rintro e' w' ⟨rfl, rfl⟩
      gi_wp2
      refine ⟨trivial, ?_⟩
      refine (callsIn_wide.2 (L1.out _)).mono ?_
      rintro e' w3 ⟨u, rfl, hu, hb3⟩
      obtain ⟨A, c, rfl, hci⟩ := own_cells hu
      have hr := HR1.out.below hb3 (by omega)
      clear t0 t1 t2 t3
      obtain ⟨t0, t1, t2, t3⟩ := And.intro hr.c0 (And.intro hr.c1 (And.intro hr.f0 hr.f1))
      have HB3 := Lib.hid (HB1.out.trans (hb3.mono (by omega)))
      clear hb3 hr hu hci
      gi_wp2
      exact ⟨.tuple #[.agg #[.int .i64 0, .slice none 0 0], .int .i64 2], by simp [results, Try.results30, go_sem, t0, t1], .slice none 0 0, by rw [HF.out], by rw [HF.out]; exact NamesOwn.nil _ _, (HB3.out.setCell (p := ⟨B, 0, none⟩) (Nat.le_refl _) _).setCell (p := ⟨B, 1, none⟩) (Nat.le_refl _) _⟩

theorem mdec_any (s : ByteArray) (w : World) (hs : s.size ≤ 17592186044000) :
    Calls Try.prog 30 #[.string s] w (Vm.RetV w.heap.size w (Vm.dec s.data.toList)) :=
  callsIn_wide.1 (mdec_in s w hs)

end Go.Proofs.Ytebkgndcgcdogaa
