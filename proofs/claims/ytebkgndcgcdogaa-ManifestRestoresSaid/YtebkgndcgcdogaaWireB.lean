/-
  Contracts of wire's fold, groups, appendInt, PutInt: the groups are handed out by an iterator.
-/
import Derived.Test.YtebkgndcgcdogaaRefB
import Derived.Test.YtebkgndcgcdogaaClone
import Derived.RangeFuncNested
import Derived.RangeFuncBound
import Derived.RangeFuncCalls
import Derived.RangeFuncBox
import Derived.RangeFuncLeaves
import Derived.Shelf.Abstract
import Derived.OwnWalkIn
import Derived.TacticsInMore
import Derived.LoopNIn
import Derived.LoopIn
import Derived.Maps.AppendAt
import Derived.Deep.DeepAppendWide
namespace Go.Proofs.Ytebkgndcgcdogaa
open Go.RowKit Go.Shelf
attribute [local go_sem] Oper.semAt_some
set_option maxHeartbeats 1000000

/-- append onto a row of one's own, inside a fence, up to what growslice itself permits -/
theorem wpListIn_append_own_wide {F : Fence} {n : Nat} {P : Program} (w : World) {ops : Array Oper} {rest : List Oper} {o : Oper} {a : Act} {Q : Exit → Act → World → Prop}
    (hg : o.guard = none) (s x : Operand) (t : TypeId) (hop : o.op = Op.call { callee := Callee.builtin Builtin.append, args := #[s, x], argTypes := #[t, t] })
    (base : Nat) (e : TypeId) (i : TypeInfo) (z : Value) (size bytes : Nat) (h1 : P.underlying t = some (.slice e)) (h2 : P.info? e = some i) (h3 : i.zero = some z) (h4 : i.size = size) (h5 : i.bytes = bytes) (h6 : z.cells.size = size) (h7 : 0 < size)
    (v : Value) (k : Nat) (xs : List Value) (hs : a.eval s = v) (hown : w.ownsRow base e size v k xs) (ad : Addr) (m c : Nat) (news : List Value) (hx : a.eval x = .slice (some ad) m c) (hn : news.length = m * size)
    (hc : ∀ j u, news[j]? = some u → w.cell? (ad.add j) = some u) (h1c : ∀ u ∈ news, u.oneCell' = true) (b1 : k + m ≤ maxLen) (b2 : ((k + m) + (k + m) / 4 + 192) * bytes ≤ 281474976710656) (b3 : base ≤ w.heap.size)
    (hK : ∀ v' w', w'.ownsRow base e size v' (k + m) (xs ++ news) → w.grownBy w' v.ownBlock → (v' = .slice none 0 0 ↔ v = .slice none 0 0 ∧ m = 0) → wpListIn F n P ops Q rest (a.put o.dst v') w') :
    wpListIn F n P ops Q (o :: rest) a w := by
  obtain ⟨v', w', hrun, r1, r2, r3⟩ := run_append_own_wide (P := P) w base t o.type e i z size bytes h1 h2 h3 h4 h5 h6 h7 v k xs hown ad m c news hn hc h1c b1 b2 b3
  refine wpListIn_plain hg fun K hK' => ?_
  unfold Oper.wpIn
  constructor
  · simp [Oper.about, hop, resolve, Target.leads, Sem.run_pure]
  · rw [Oper.semAt_plain F _ _ (fun c hc' => by rw [hop] at hc'; cases hc')]
    simp only [execOp, hop, resolve, invoke, builtin, hs, hx, hrun, Result.andThen_ok, Sem.run_bind, Sem.run_pure, List.map_toArray, List.map_cons, List.map_nil]
    exact hK' _ _ (hK v' w' r1 r2 r3)

theorem fold_in (F : Fence) (k : Nat) (hf : F.fn 99) (hro : F.round = none) (n : Int) (w : World) (h0 : -9223372036854775808 ≤ n) (h1 : n ≤ 9223372036854775807) :
    CallsIn F k Try.prog 99 #[.int .i64 n] w fun e w' => e = .returned (.int .u64 (Wm.zz n)) ∧ w = w' := by
  have hz1 : n < 0 → bits .xor .u64 IntKind.u64.max (IntKind.u64.wrap (IntKind.u64.wrap n * 2)) = Wm.zz n := fun hn => by
    rw [Wm.xor_max _ (by rw [IntKind.wrap_u64]; omega) (by rw [IntKind.wrap_u64]; omega)]
    unfold Wm.zz; rw [if_neg (by omega), IntKind.wrap_u64, IntKind.wrap_u64]; omega
  have hz2 : ¬ n < 0 → n * 2 = Wm.zz n := fun hn => by
    unfold Wm.zz; rw [if_pos (by omega)]; omega
  refine callsIn_of_wp Try.func99 rfl hf ?_ hro
  simp only [Try.ntmps99, List.size_toArray, List.length_cons, List.length_nil, Nat.reduceAdd, Nat.reduceSub, Array.replicate_succ, Array.replicate_zero, List.push_toArray, List.append_toArray, List.nil_append, List.cons_append]
  by_cases hn : n < 0
  · have HZ := Lib.hid (hz1 hn); clear hz1 hz2
    gi_wp2
    go_ret
    exact ⟨Wm.ret_int HZ.out, rfl⟩
  · have HZ := Lib.hid (hz2 hn); clear hz1 hz2
    gi_wp2
    go_ret
    exact ⟨Wm.ret_int HZ.out, rfl⟩

set_option maxRecDepth 100000 in
/-- the iterator -/
theorem groups1_in (F : Fence) (n : Nat) (h6 : F.fn 98) (h7 : F.fn 99) (hro : F.round = none) (hn : 1 ≤ n) (l Bn n₀ : Nat) (N : Int) (hN0 : -9223372036854775808 ≤ N) (hN1 : N ≤ 9223372036854775807) (J Jx : List UInt8 → World → Prop)
    (hY : ∀ pre (x : UInt8) W, J pre W → pre.length < (Wm.encI N).length → YieldAt F (n - 1) Try.prog l #[.int .u8 (x.toNat : Int)] W fun e W' =>
      (e = .returned (.bool true) ∧ J (pre ++ [x]) W' ∧ Below n₀ W W') ∨ (e = .returned (.bool false) ∧ Jx (pre ++ [x]) W'))
    (W : World) (hBn : W.cell? ⟨Bn, 0, none⟩ = some (.int .i64 N)) (h0 : J [] W) :
    CallsIn F n Try.prog 98 #[.func (.yield l) #[] #[], .pointer (some ⟨Bn, 0, none⟩)] W fun e W' => (∃ v, e = .returned v) ∧
      ((∃ ys, ys = Wm.encI N ∧ J ys W') ∨ (∃ pre, pre <+: Wm.encI N ∧ Jx pre W')) := by
  have HZ := Lib.hid (Wm.zz_lt N hN0 hN1)
  refine callsIn_of_wp Try.func98 rfl h6 ?_ hro
  simp only [Try.ntmps98, List.size_toArray, List.length_cons, List.length_nil, Nat.reduceAdd, Nat.reduceSub, Array.replicate_succ, Array.replicate_zero, List.push_toArray, List.append_toArray, List.nil_append, List.cons_append]
  gi_wp2_with (gi_at_call 99; refine (fold_in F (n - 1) h7 hro _ _ hN0 hN1).mono ?_; rintro e w' ⟨rfl, rfl⟩)
  gi_loopw [3] (fun u wr => ∃ (pre : List UInt8) (U f : Nat), u = .int .u64 U ∧ Wm.encI N = pre ++ Wm.enc f U ∧ J pre wr ∧ U < 2 ^ (7 * f + 1)) (fun u wr => (intOf u).toNat)
  case atStart => exact ⟨[], Wm.zz N, 9, rfl, rfl, h0, HZ.out⟩
  case round =>
    obtain ⟨pre, U, f, rfl, hE, hJs, hU⟩ := hrel
    have hlt64 : U < 2 ^ (7 * f + 1) := hU
    by_cases hlt : 128 ≤ U
    · have ho := Wm.or128 U
      obtain ⟨f, rfl⟩ : ∃ g, f = g + 1 := by
        cases f with
        | zero => simp at hU; omega
        | succ g => exact ⟨g, rfl⟩
      rw [Wm.enc, if_neg (by omega)] at hE
      obtain ⟨x, hx⟩ : ∃ x, U % 128 + 128 = x := ⟨_, rfl⟩
      rw [hx] at ho hE
      have hU2 : U / 128 < 2 ^ (7 * f + 1) := by
        have e : 2 ^ (7 * (f + 1) + 1) = 2 ^ (7 * f + 1) * 128 := by rw [show 7 * (f + 1) + 1 = 7 * f + 1 + 7 by omega, Nat.pow_add]
        rw [e] at hU
        exact Nat.div_lt_of_lt_mul (by omega)
      obtain ⟨fn, tmps, assign, body, hy, hR⟩ := hY pre (UInt8.ofNat x) wr hJs (by rw [hE]; simp)
      rw [Wm.ofNat_toNat (show x < 256 by omega)] at hy
      have HE2 := Lib.hid hE
      have HU := Lib.hid hU2
      clear hx hE hU hU2 hlt64
      gi_wp2
      refine hR.mono ?_
      rintro e W3 (⟨rfl, hJ3, hk3⟩ | ⟨rfl, hJx3⟩)
      · gi_wp2
        go_roundw
        case rel => exact ⟨pre ++ [UInt8.ofNat x], U / 128, f, by go_num, by rw [HE2.out]; simp, hJ3, HU.out⟩
        case measure => simp [intOf]; omega
      · gi_wp2
        refine bodyPost_ret (results_none rfl _ _ _) rfl ?_
        exact ⟨⟨_, rfl⟩, .inr ⟨pre ++ [UInt8.ofNat x], ⟨Wm.enc f (U / 128), by rw [HE2.out]; simp⟩, hJx3⟩⟩
    · have hE2 : Wm.encI N = pre ++ [UInt8.ofNat U] := by
        rw [hE]
        cases f with
        | zero => rfl
        | succ g => rw [Wm.enc, if_pos (by omega)]
      obtain ⟨fn, tmps, assign, body, hy, hR⟩ := hY pre (UInt8.ofNat U) wr hJs (by rw [hE2]; simp)
      rw [Wm.ofNat_toNat (show U < 256 by omega)] at hy
      have HE2 := Lib.hid hE2
      clear hE hU hE2 hlt64
      gi_wp2
      refine hR.mono ?_
      rintro e W3 (⟨rfl, hJ3, hk3⟩ | ⟨rfl, hJx3⟩)
      · gi_wp2
        go_end0
        exact ⟨⟨_, rfl⟩, .inl ⟨_, HE2.out.symm, hJ3⟩⟩
      · gi_wp2
        go_end0
        exact ⟨⟨_, rfl⟩, .inr ⟨_, ⟨[], by rw [HE2.out]; simp⟩, hJx3⟩⟩

/-- groups -/
theorem groups_in (F : Fence) (n : Nat) (h5 : F.fn 86) (hro : F.round = none) (N : Int) (w : World) :
    CallsIn F n Try.prog 86 #[.int .i64 N] w fun e w' => e = .returned (.func (.func 98) #[] #[.pointer (some ⟨w.heap.size, 0, none⟩)]) ∧ w' = w.alloc (.cells #[.int .i64 N] 3) := by
  refine callsIn_of_wp Try.func86 rfl h5 ?_ hro
  simp only [Try.ntmps86, List.size_toArray, List.length_cons, List.length_nil, Nat.reduceAdd, Nat.reduceSub, Array.replicate_succ, Array.replicate_zero, List.push_toArray, List.append_toArray, List.nil_append, List.cons_append]
  gi_wp2
  go_ret
  exact ⟨rfl, rfl⟩

theorem groups_stops (F : Fence) (n : Nat) (h6 : F.fn 98) (h7 : F.fn 99) (hro : F.round = none) (hn : 1 ≤ n) (Bn n₀ : Nat) (N : Int) (hN0 : -9223372036854775808 ≤ N) (hN1 : N ≤ 9223372036854775807) (w : World) (hBn : Bn < w.heap.size)
    (hc : w.cell? ⟨Bn, 0, none⟩ = some (.int .i64 N)) :
    SeqStopsK F n Try.prog 98 #[.pointer (some ⟨Bn, 0, none⟩)] (fun x : UInt8 => #[Value.int .u8 (x.toNat : Int)]) (Below n₀) (fun ys => ys = Wm.encI N) (fun pre => pre <+: Wm.encI N) (Wm.encI N).length w := fun l J Jx W hW _ _ hY h0 =>
  groups1_in F n h6 h7 hro hn l Bn n₀ N hN0 hN1 J Jx hY W ((hW.cell (p := ⟨Bn, 0, none⟩) hBn).trans hc) h0

set_option maxRecDepth 100000 in
set_option maxHeartbeats 2000000 in
/-- appendInt onto a row of one's own (or nil) -/
theorem appendInt_in (F : Fence) (n : Nat) (h3 : F.fn 75) (h4 : F.fn 86) (h5 : F.fn 98) (h7 : F.fn 99) (hro : F.round = none) (hn : 4 ≤ n) (n₀ : Nat) (v0 : Value) (xs : List UInt8) (N : Int)
    (hN0 : -9223372036854775808 ≤ N) (hN1 : N ≤ 9223372036854775807) (hxs : xs.length ≤ 225179981368300) (w : World) (hn₀ : n₀ ≤ w.heap.size) (hrow0 : w.ownsRow n₀ 5 1 v0 xs.length (xs.map Wm.u8)) :
    CallsIn F n Try.prog 75 #[v0, .int .i64 N] w fun e W' => ∃ v, e = .returned v ∧ W'.ownsRow n₀ 5 1 v (xs ++ Wm.encI N).length ((xs ++ Wm.encI N).map Wm.u8) ∧ Below n₀ w W' := by
  have h1 : 1 ≤ n := by omega
  have HE := Wm.encI_length N
  obtain ⟨i0, hi, hz0, hz1, hz2⟩ := info_parts info_u8
  obtain ⟨A, c, rfl⟩ : ∃ A c, v0 = .slice A xs.length c := by
    rcases hrow0.2 with ⟨rfl, hz⟩ | ⟨g, cap, cur, rfl, _⟩
    · exact ⟨none, 0, by rw [hz]⟩
    · exact ⟨_, _, rfl⟩
  refine callsIn_of_wp_marks Try.func75 rfl h3 ?_ hro
  simp only [Try.ntmps75, List.size_toArray, List.length_cons, List.length_nil, Nat.reduceAdd, Nat.reduceSub, Array.replicate_succ, Array.replicate_zero, List.push_toArray, List.append_toArray, List.nil_append, List.cons_append]
  gi_wp2_with (gi_at_call 86; refine (groups_in F (n - 1) h4 hro _ _).mono ?_; rintro e w' ⟨rfl, rfl⟩)
  have bO := Boxed.new w 51 (.slice A xs.length c)
  have bN := Boxed.new (w.alloc (.cells #[.slice A xs.length c] 51)) 3 (.int .i64 N)
  rw [World.size_alloc] at bN
  have hB0 : Below n₀ w ((w.alloc (.cells #[.slice A xs.length c] 51)).alloc (.cells #[.int .i64 N] 3)) := ((Below.refl _ w).alloc hn₀ _).alloc (by simp; omega) _
  refine wpIn_rangeFunc_ownG hro h1 (gf := 98) (lb := #[.pointer (some ⟨w.heap.size + 1, 0, none⟩)]) rfl h5 (enters_of Try.func98 (by kernel_rfl) rfl)
    (groups_stops F (n - 1) h5 h7 hro (by omega) (w.heap.size + 1) n₀ N hN0 hN1 _ (by simp) bN.cell) belowK_t (belowK_b (by simp; omega)) (Below.refl _ _) (fun _ => rfl)
    (fun pre W => (∃ v, Boxed W w.heap.size 51 v ∧ W.ownsRow n₀ 5 1 v (xs ++ pre).length ((xs ++ pre).map Wm.u8) ∧ True) ∧ Below n₀ w W)
    (fun _ _ _ => False)
    (OwnFrom.and (Own.from (holdsRow_own n₀ w.heap.size 51 5 1 (fun pre => (xs ++ pre).length) (fun pre => (xs ++ pre).map Wm.u8) (fun _ _ => True)) _) (ownFrom_below hn₀ (by simp; omega)))
    (fun _ _ _ _ _ hs _ _ => hs)
    ⟨⟨_, bO.alloc _, by simpa using (hrow0.alloc _).alloc _, trivial⟩, hB0⟩
    (fun x => { tmps := #[.slice A xs.length c, .int .i64 N, .pointer (some ⟨w.heap.size, 0, none⟩), undef, .slice none 0 0, Wm.u8 x, .int .i64 N, .func (.func 98) #[] #[.pointer (some ⟨w.heap.size + 1, 0, none⟩)], Wm.u8 x, undef, undef, undef, undef, undef], defers := [] }) ?assign ?body ?done ?stop
  case assign =>
    intro l x W K hK
    gi_wp2
    exact hK
  case body =>
    rintro l pre x W ⟨⟨v, hv, hrow, _⟩, hB⟩ hlt
    have hc := hv.cell
    obtain ⟨K, hK⟩ : ∃ K, (xs ++ pre).length = K := ⟨_, rfl⟩
    rw [hK] at hrow
    have hKb : K ≤ 225179981368310 := by rw [← hK, List.length_append]; omega
    have hys : (xs ++ (pre ++ [x])).length = K + 1 := by rw [← List.append_assoc, List.length_append, hK]; rfl
    have hym : (xs ++ (pre ++ [x])).map Wm.u8 = (xs ++ pre).map Wm.u8 ++ [Wm.u8 x] := by rw [← List.append_assoc, List.map_append]; rfl
    have HY := Lib.hid hys
    have HM := Lib.hid hym
    clear hK hys hym
    gi_wp2_with (gi_at_builtin; refine wpListIn_append_own_wide _ rfl _ _ 51 rfl n₀ 5 i0 (.int .u8 0) 1 1 Try.underlying51 hi hz0 hz1 hz2 rfl (by decide) _ _ _ rfl (hrow.alloc _) ⟨W.heap.size, 0, none⟩ 1 1 [Wm.u8 x] rfl rfl (cell_one_new _ _ _) (by simp [Value.oneCell']) (by unfold maxLen; omega) (by omega) (by have := hB.size; simp; omega) ?_; intro v' w1 hown' hgrow _; obtain ⟨g', cap', rfl⟩ := ownsRow_succ hown'; obtain ⟨hv1, hv2, hr2, hk2, hb2⟩ := hv.appended (by decide) hrow (Nat.le_trans hn₀ hB.size) hn₀ hown' hgrow; have hc1 := hv1.cell; have hf1 := hv1.frozen)
    exact ⟨hk2.from _, hb2, ⟨_, hv2, by rw [HY.out, HM.out]; exact hr2, trivial⟩, hB.trans hb2⟩
  case done =>
    rintro D ys W hD rfl ⟨⟨v, hv, hrow, _⟩, hB⟩ hK
    have hc := hv.cell
    gi_wp2
    refine ⟨by simp, .inl ⟨_, _, rfl, run_takeDeferred hK, ?_⟩⟩
    exact ⟨_, results_tmp rfl _ _ _, v, rfl, ownsRow_putObj hrow _ hK rfl, hB.trans (belowK_b (w := w) hn₀ W D _ _ (by simp at hD; omega) hK rfl rfl)⟩
  case stop =>
    rintro D c pre W _ _ h _
    exact h.elim

theorem appendInt_any (n₀ : Nat) (v0 : Value) (xs : List UInt8) (k : Nat) (N : Int) (hk : k = xs.length)
    (hN0 : -9223372036854775808 ≤ N) (hN1 : N ≤ 9223372036854775807) (hxs : xs.length ≤ 225179981368300) (w : World) (hn₀ : n₀ ≤ w.heap.size) (hrow0 : w.ownsRow n₀ 5 1 v0 k (xs.map Wm.u8)) :
    Calls Try.prog 75 #[v0, .int .i64 N] w fun e W' => ∃ v, e = .returned v ∧ W'.ownsRow n₀ 5 1 v (xs ++ Wm.encI N).length ((xs ++ Wm.encI N).map Wm.u8) ∧ Below n₀ w W' := by
  subst hk
  exact callsIn_wide.1 (appendInt_in Fence.wide 4 trivial trivial trivial trivial rfl (Nat.le_refl _) n₀ v0 xs N hN0 hN1 hxs w hn₀ hrow0)

theorem Wm.str_app (s : ByteArray) (l : List UInt8) : Value.string (s ++ ⟨l.toArray⟩) = Wm.str (s.data.toList ++ l) := by
  rfl

/-- PutInt of wire -/
theorem put_any (s : ByteArray) (n : Int) (w : World) (hs : s.size ≤ 9223372036854775000) (h0 : -9223372036854775808 ≤ n) (h1 : n ≤ 9223372036854775807) :
    Calls Try.prog 60 #[.string s, .int .i64 n] w fun e w' => e = .returned (Wm.str (s.data.toList ++ Wm.encI n)) ∧ Below w.heap.size w w' := by
  have HE := Wm.encI_length n
  go_enter Try.func60, Try.ntmps60
  go_wp2_with fail
  refine (appendInt_any w.heap.size _ [] 0 n rfl h0 h1 (by simp) _ (Nat.le_refl _) (World.ownsRow_nil _ _ _ _)).mono ?_
  rintro e w' ⟨v, rfl, hrow, hB⟩
  simp only [List.nil_append] at hrow
  have hc := Wm.conv_own hrow
  clear hrow
  go_wp2_with fail
  go_ret
  exact ⟨by rw [← Wm.str_app]; rfl, hB⟩

end Go.Proofs.Ytebkgndcgcdogaa
