/-
  RefsDoes: for every input the call answers true and leaves its arguments as they were. Conditions: none.
-/
import Derived.Test.YtmdakplaaehmnaaRows
import Derived.Test.YtmdakplaaehmnaaLawIQ
import Derived.Test.YtmdakplaaehmnaaKit
import Derived.WalkKit
import Derived.ProofKit
import Derived.OpenShut
import Derived.ShutString
import Derived.ChangeOld
import Derived.Below
import Derived.SizedLaws
import Derived.Lib.SmallJoins
import Derived.Test.YtmdakplaaehmnaaArg3
namespace Go.Proofs.Ytmdakplaaehmnaa.refsDoes
open Go.ChangeShapes Go.WideShapes Go.ChangeAt Go.RowKit
open Go.ChangeMaps (open_string shut_string)
set_option linter.unusedVariables false

theorem own : ownKnob Try.prog.godebug = none := by kernel_rfl
theorem laidOut : laidOutB Try.prog = true := by kernel_rfl

set_option maxRecDepth 100000 in
theorem lifted (os : Os) (started : os.Started) (H : Type) (enc : TypeId × Value → H) :
    ReturnsInHanded {} Try.checked os 3 .any (Rows.refsDoesSpec.pre6 enc Try.prog Try.f3 Rows.refsDoesRow.domain false) (Rows.refsDoesSpec.post enc Try.prog Try.f3 false true false false) := by
  refine returnsInHanded_of_change_sized (C := Try.checked) own started (by kernel_rfl) Try.func3
    (ChangeSpec.witness6 (enc := enc) (C := Try.checked) false ⟨#[], #[.slice none 0 0, .agg #[.slice none 0 0], .string ByteArray.empty, .int .i64 0, .int .i64 0], []⟩ 8 (by kernel_rfl) (by kernel_rfl) (by kernel_rfl) (by kernel_rfl)) ?_
  intro W base args ds gs before hval0 hW hcnd hsz0 _
  have hval : ∀ (j : Nat) t v, Try.f3.params[j]? = some t → args[j]? = some v → Value.okWide Try.prog W .any base t v := hval0
  have hsz : (DataW.weightsEach Try.prog (Try.f3.params.toList ++ Rows.refsDoesSpec.plain.varTypes Try.prog) (ds ++ gs)).all (· ≤ reachBytes) = true := hsz0
  have hW' := hW
  obtain ⟨p, q, hA0, hV, rfl, hfz, hnd⟩ := hW
  have hA : DataW.TrodAll enc Try.prog W 0 (fun _ => true) true Try.f3.params.toList args.toList ds p := hA0
  rw [Try.params3] at hA hval hsz
  obtain ⟨v0, vs0, d0, ds0, p0, q0, hargs, rfl, rfl, h0, r0⟩ := trodAll_cons hA
  obtain ⟨v1, vs1, d1, ds1, p1, q1, rfl, rfl, rfl, h1, r1⟩ := trodAll_cons r0
  obtain ⟨v2, vs2, d2, ds2, p2, q2, rfl, rfl, rfl, h2, r2⟩ := trodAll_cons r1
  obtain ⟨v3, vs3, d3, ds3, p3, q3, rfl, rfl, rfl, h3, r3⟩ := trodAll_cons r2
  obtain ⟨v4, vs4, d4, ds4, p4, q4, rfl, rfl, rfl, h4, r4⟩ := trodAll_cons r3
  obtain ⟨rfl, rfl, rfl⟩ := trodAll_nil r4
  obtain rfl : args = #[v0, v1, v2, v3, v4] := by cases args; simp_all
  obtain ⟨rfl, rfl⟩ := trodVars_none hV
  obtain ⟨A0, n0, c0, rfl⟩ := okWide_slice Try.underlying22 (hval 0 22 v0 rfl rfl)
  have k0 := h0
  have lt0 : ∀ x ∈ p0, x.block < W.heap.size := by obtain ⟨m, hm⟩ := k0; exact DataW.trod_lt m _ _ _ hm
  obtain ⟨z0, w0, dd0⟩ : ∃ zs, Go.Proofs.Ytmdakplaaehmnaa.IntsIn .i64 W A0 n0 c0 zs ∧ Go.Proofs.Ytmdakplaaehmnaa.IntsDatum c0 d0 := Go.Proofs.Ytmdakplaaehmnaa.intsIn_of Try.underlying22 Try.underlying3 (by kernel_rfl) h0
  have sz0 : c0 * Try.prog.bytesOf 3 ≤ 140737488351232 := Go.Proofs.Ytmdakplaaehmnaa.ints_sized hsz (j := 0) (t := 22) (e := 3) rfl rfl Try.underlying22 dd0
  have k1 := h1
  have lt1 : ∀ x ∈ p1, x.block < W.heap.size := by obtain ⟨m, hm⟩ := k1; exact DataW.trod_lt m _ _ _ hm
  obtain ⟨u1_0, y1_0, nn1, hv1, hd1, hp1, g1_0⟩ := Go.Proofs.Ytmdakplaaehmnaa.open_agg1 Try.underlying25 rfl (by kernel_rfl) (by kernel_rfl) (hval 1 25 v1 rfl rfl) h1
  obtain ⟨A1, n1, c1, z1, rfl, w1, nc1, tx1, dd1⟩ := Go.Proofs.Ytmdakplaaehmnaa.rowsIn_of Try.underlying23 Try.underlying37 (by kernel_rfl) rfl rfl rfl (by kernel_rfl) (by kernel_rfl) (by kernel_rfl) Try.underlying3 Try.underlying3 Try.underlying9 g1_0
  have sz1 : c1 * Try.prog.bytesOf 37 ≤ 140737488351232 := Go.Proofs.Ytmdakplaaehmnaa.agg_rows_sized hsz (j := 1) (t := 25) (i := 0) (d := y1_0.1) (e := 37) rfl (by rw [hd1]; rfl) Try.underlying25 rfl rfl Try.underlying23 dd1
  have tz1 : ∀ x ∈ z1, x.2.2.length ≤ 140737488355328 := fun x hx => Go.Proofs.Ytmdakplaaehmnaa.row_text_sized hsz (j := 1) (t := 25) (i := 0) (d := y1_0.1) (e := 37) rfl (by rw [hd1]; rfl) Try.underlying25 rfl rfl Try.underlying23 Try.underlying37 (tx1 x hx)
  subst hv1
  obtain ⟨a2, rfl, rfl, rfl, w2⟩ := open_string Try.underlying9 (hval 2 9 v2 rfl rfl) h2
  have sz2 : a2.size ≤ 140737488351232 := by have := sized_string hsz (j := 2) (t := 9) rfl rfl; simpa [reachBytes] using this
  obtain ⟨a3, rfl, rfl, rfl, w3⟩ := open_int Try.underlying3 (hval 3 3 v3 rfl rfl) h3
  have bd3 := Go.Proofs.Ytmdakplaaehmnaa.bd_i64 w3
  obtain ⟨a4, rfl, rfl, rfl, w4⟩ := open_int Try.underlying3 (hval 4 3 v4 rfl rfl) h4
  have bd4 := Go.Proofs.Ytmdakplaaehmnaa.bd_i64 w4
  clear hA0 hval0
  refine (Go.Proofs.Ytmdakplaaehmnaa.refsDoes_law A0 n0 c0 z0 A1 n1 c1 z1 a2 a3 a4 W w0 sz0 w1 nc1 tz1 sz1 sz2 bd3.1 bd3.2 bd4.1 bd4.2).mono fun e W' ⟨he, bel⟩ => ?_
  subst he
  exact ⟨_, rfl, _, _, _, [], _, [], hW', trodAll_mk1 (shut_bool Try.underlying4 _), (trodAll_cons_mk (Below.trod laidOut (by kernel_rfl) (of_decide_eq_true (by kernel_rfl)) k0 bel lt0) (trodAll_cons_mk (Below.trod laidOut (by kernel_rfl) (of_decide_eq_true (by kernel_rfl)) k1 bel lt1) (trodAll_cons_mk (shut_string Try.underlying9 w2) (trodAll_cons_mk (shut_int Try.underlying3 w3) (trodAll_cons_mk (shut_int Try.underlying3 w4) trodAll_mk0))))), rfl, bel.frame _, fun h => by cases h⟩

theorem over : Rows.refsDoesRow.holds Try.pinned (OpenSpec.ofChange Rows.refsDoesSpec) :=
  OpenClaim.holds_of_wide 3 Try.f3 rfl rfl rfl rfl rfl rfl rfl ⟨rfl, rfl, rfl, rfl, rfl⟩ rfl rfl rfl rfl rfl (by kernel_rfl) Try.func3 (by kernel_rfl)
    (of_decide_eq_true (by kernel_rfl)) (by unfold Func.isWrapper; first | (rw [if_pos (by decide +kernel)]; kernel_rfl) | (rw [if_neg (by decide +kernel)]; exact ⟨rfl, rfl⟩))
    (fun os started H enc _ => lifted os started H enc)

/-- the statement -/
theorem proved : Rows.RefsDoesSaid :=
  over
end Go.Proofs.Ytmdakplaaehmnaa.refsDoes
