/-
  ChunkCuts: for every input the call answers true and leaves its arguments as they were. Conditions: none.
-/
import Derived.Test.YtenkloceonojeaaRows
import Derived.Test.YtenkloceonojeaaLawCC
import Derived.Test.YtenkloceonojeaaKit
import Derived.WalkKit
import Derived.ProofKit
import Derived.OpenShut
import Derived.ShutString
import Derived.ChangeOld
import Derived.Below
import Derived.SizedLaws
import Derived.Lib.SmallJoins
namespace Go.Proofs.Ytenkloceonojeaa.chunkCuts
open Go.ChangeShapes Go.WideShapes Go.ChangeAt Go.RowKit
open Go.ChangeMaps (open_string shut_string)
set_option linter.unusedVariables false

theorem own : ownKnob Try.prog.godebug = none := by kernel_rfl
theorem laidOut : laidOutB Try.prog = true := by kernel_rfl

set_option maxRecDepth 100000 in
theorem lifted (os : Os) (started : os.Started) (H : Type) (enc : TypeId × Value → H) :
    ReturnsInHanded {} Try.checked os 3 .any (Rows.chunkCutsSpec.pre6 enc Try.prog Try.f3 Rows.chunkCutsRow.domain false) (Rows.chunkCutsSpec.post enc Try.prog Try.f3 false true false false) := by
  refine returnsInHanded_of_change_sized (C := Try.checked) own started (by kernel_rfl) Try.func3
    (ChangeSpec.witness6 (enc := enc) (C := Try.checked) false ⟨#[], #[.slice none 0 0, .string ByteArray.empty, .string ByteArray.empty, .agg #[.int .i64 0, .int .i64 0, .int .i64 0, .int .i64 0], .int .i64 0], []⟩ 8 (by kernel_rfl) (by kernel_rfl) (by kernel_rfl) (by kernel_rfl)) ?_
  intro W base args ds gs before hval0 hW hcnd hsz0 _
  have hval : ∀ (j : Nat) t v, Try.f3.params[j]? = some t → args[j]? = some v → Value.okWide Try.prog W .any base t v := hval0
  have hsz : (DataW.weightsEach Try.prog (Try.f3.params.toList ++ Rows.chunkCutsSpec.plain.varTypes Try.prog) (ds ++ gs)).all (· ≤ reachBytes) = true := hsz0
  have hW' := hW
  obtain ⟨p, q, hA0, hV, rfl, hfz, hnd⟩ := hW
  have hA : DataW.TrodAll enc Try.prog W 0 (fun _ => true) true Try.f3.params.toList args.toList ds p := hA0
  rw [Try.params3] at hA hval hsz
  obtain ⟨v0, vs0, d0, ds0, p0, q0, hargs, rfl, rfl, h0, r0⟩ := trodAll_cons hA
  obtain ⟨v1, vs1, d1, ds1, p1, q1, rfl, rfl, rfl, h1, r1⟩ := trodAll_cons r0
  obtain ⟨v2, vs2, d2, ds2, p2, q2, rfl, rfl, rfl, h2, r2⟩ := trodAll_cons r1
  obtain ⟨v3, vs3, d3, ds3, p3, q3, rfl, rfl, rfl, h3, r3⟩ := trodAll_cons r2
  obtain ⟨v4, vs4, d4, ds4, p4, q4, rfl, rfl, rfl, h4, r4⟩ := trodAll_cons r3
  obtain ⟨rfl, rfl, rfl⟩ := trodAll_nil r4
  obtain rfl : args = #[v0, v1, v2, v3, v4] := by cases args; simp_all
  obtain ⟨rfl, rfl⟩ := trodVars_none hV
  obtain ⟨A0, n0, c0, rfl⟩ := okWide_slice Try.underlying22 (hval 0 22 v0 rfl rfl)
  have k0 := h0
  have lt0 : ∀ x ∈ p0, x.block < W.heap.size := by obtain ⟨m, hm⟩ := k0; exact DataW.trod_lt m _ _ _ hm
  obtain ⟨z0, w0, dd0⟩ : ∃ zs, Go.Proofs.Ytenkloceonojeaa.IntsIn .i64 W A0 n0 c0 zs ∧ Go.Proofs.Ytenkloceonojeaa.IntsDatum c0 d0 := Go.Proofs.Ytenkloceonojeaa.intsIn_of Try.underlying22 Try.underlying3 (by kernel_rfl) h0
  have sz0 : c0 * Try.prog.bytesOf 3 ≤ 140737488351232 := Go.Proofs.Ytenkloceonojeaa.ints_sized hsz (j := 0) (t := 22) (e := 3) rfl rfl Try.underlying22 dd0
  obtain ⟨a1, rfl, rfl, rfl, w1⟩ := open_string Try.underlying9 (hval 1 9 v1 rfl rfl) h1
  have sz1 : a1.size ≤ 140737488351232 := by have := sized_string hsz (j := 1) (t := 9) rfl rfl; simpa [reachBytes] using this
  obtain ⟨a2, rfl, rfl, rfl, w2⟩ := open_string Try.underlying9 (hval 2 9 v2 rfl rfl) h2
  have sz2 : a2.size ≤ 140737488351232 := by have := sized_string hsz (j := 2) (t := 9) rfl rfl; simpa [reachBytes] using this
  have k3 := h3
  have lt3 : ∀ x ∈ p3, x.block < W.heap.size := by obtain ⟨m, hm⟩ := k3; exact DataW.trod_lt m _ _ _ hm
  obtain ⟨u3_0, u3_1, u3_2, u3_3, y3_0, y3_1, y3_2, y3_3, nn3, hv3, hd3, hp3, g3_0, g3_1, g3_2, g3_3⟩ := Go.Joins.open_agg4 Try.underlying24 (by kernel_rfl) (by kernel_rfl) (hval 3 24 v3 rfl rfl) h3
  obtain ⟨b3_0, hcb3_0, hxb3_0, wb3_0⟩ := DataW.trod_int Try.underlying3 g3_0
  have bdb3_0 := Go.Proofs.Ytenkloceonojeaa.bd_i64 wb3_0
  obtain rfl : u3_0 = _ := List.cons.inj hcb3_0 |>.1
  obtain ⟨b3_1, hcb3_1, hxb3_1, wb3_1⟩ := DataW.trod_int Try.underlying3 g3_1
  have bdb3_1 := Go.Proofs.Ytenkloceonojeaa.bd_i64 wb3_1
  obtain rfl : u3_1 = _ := List.cons.inj hcb3_1 |>.1
  obtain ⟨b3_2, hcb3_2, hxb3_2, wb3_2⟩ := DataW.trod_int Try.underlying3 g3_2
  have bdb3_2 := Go.Proofs.Ytenkloceonojeaa.bd_i64 wb3_2
  obtain rfl : u3_2 = _ := List.cons.inj hcb3_2 |>.1
  obtain ⟨b3_3, hcb3_3, hxb3_3, wb3_3⟩ := DataW.trod_int Try.underlying3 g3_3
  have bdb3_3 := Go.Proofs.Ytenkloceonojeaa.bd_i64 wb3_3
  obtain rfl : u3_3 = _ := List.cons.inj hcb3_3 |>.1
  subst hv3
  obtain ⟨a4, rfl, rfl, rfl, w4⟩ := open_int Try.underlying3 (hval 4 3 v4 rfl rfl) h4
  have bd4 := Go.Proofs.Ytenkloceonojeaa.bd_i64 w4
  clear hA0 hval0
  refine (Go.Proofs.Ytenkloceonojeaa.chunkCuts_walk A0 n0 c0 z0 a1 a2 b3_0 b3_1 b3_2 b3_3 a4 W w0 sz0 sz1 sz2 bdb3_0.1 bdb3_0.2 bdb3_1.1 bdb3_1.2 bdb3_2.1 bdb3_2.2 bdb3_3.1 bdb3_3.2 bd4.1 bd4.2).mono fun e W' ⟨he, bel⟩ => ?_
  subst he
  exact ⟨_, rfl, _, _, _, [], _, [], hW', trodAll_mk1 (shut_bool Try.underlying4 _), (trodAll_cons_mk (Below.trod laidOut (by kernel_rfl) (of_decide_eq_true (by kernel_rfl)) k0 bel lt0) (trodAll_cons_mk (shut_string Try.underlying9 w1) (trodAll_cons_mk (shut_string Try.underlying9 w2) (trodAll_cons_mk (Below.trod laidOut (by kernel_rfl) (of_decide_eq_true (by kernel_rfl)) k3 bel lt3) (trodAll_cons_mk (shut_int Try.underlying3 w4) trodAll_mk0))))), rfl, bel.frame _, fun h => by cases h⟩

theorem over : Rows.chunkCutsRow.holds Try.pinned (OpenSpec.ofChange Rows.chunkCutsSpec) :=
  OpenClaim.holds_of_wide 3 Try.f3 rfl rfl rfl rfl rfl rfl rfl ⟨rfl, rfl, rfl, rfl, rfl⟩ rfl rfl rfl rfl rfl (by kernel_rfl) Try.func3 (by kernel_rfl)
    (of_decide_eq_true (by kernel_rfl)) (by unfold Func.isWrapper; first | (rw [if_pos (by decide +kernel)]; kernel_rfl) | (rw [if_neg (by decide +kernel)]; exact ⟨rfl, rfl⟩))
    (fun os started H enc _ => lifted os started H enc)

/-- the statement -/
theorem proved : Rows.ChunkCutsSaid :=
  over
end Go.Proofs.Ytenkloceonojeaa.chunkCuts
