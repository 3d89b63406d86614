/-
  ManifestDoes: for every input the call answers true and leaves its arguments as they were. Conditions: none.
-/
import Derived.Test.YtebkgndcgcdogaaRows
import Derived.Test.YtebkgndcgcdogaaLawVD
import Derived.Test.YtebkgndcgcdogaaKit
import Derived.WalkKit
import Derived.ProofKit
import Derived.OpenShut
import Derived.ShutString
import Derived.ChangeOld
import Derived.Below
import Derived.SizedLaws
import Derived.Lib.SmallJoins
import Derived.Test.YtebkgndcgcdogaaArg
namespace Go.Proofs.Ytebkgndcgcdogaa.manifestDoes
open Go.ChangeShapes Go.WideShapes Go.ChangeAt Go.RowKit
open Go.ChangeMaps (open_string shut_string)
set_option linter.unusedVariables false

theorem own : ownKnob Try.prog.godebug = none := by kernel_rfl
theorem laidOut : laidOutB Try.prog = true := by kernel_rfl

set_option maxRecDepth 100000 in
theorem lifted (os : Os) (started : os.Started) (H : Type) (enc : TypeId × Value → H) :
    ReturnsInHanded {} Try.checked os 3 .any (Rows.manifestDoesSpec.pre6 enc Try.prog Try.f3 Rows.manifestDoesRow.domain false) (Rows.manifestDoesSpec.post enc Try.prog Try.f3 false true false false) := by
  refine returnsInHanded_of_change_sized (C := Try.checked) own started (by kernel_rfl) Try.func3
    (ChangeSpec.witness6 (enc := enc) (C := Try.checked) false ⟨#[], #[.slice none 0 0, .agg #[.int .i64 0, .slice none 0 0], .slice none 0 0, .int .i64 0], []⟩ 8 (by kernel_rfl) (by kernel_rfl) (by kernel_rfl) (by kernel_rfl)) ?_
  intro W base args ds gs before hval0 hW hcnd hsz0 _
  have hval : ∀ (j : Nat) t v, Try.f3.params[j]? = some t → args[j]? = some v → Value.okWide Try.prog W .any base t v := hval0
  have hsz : (DataW.weightsEach Try.prog (Try.f3.params.toList ++ Rows.manifestDoesSpec.plain.varTypes Try.prog) (ds ++ gs)).all (· ≤ reachBytes) = true := hsz0
  have hW' := hW
  obtain ⟨p, q, hA0, hV, rfl, hfz, hnd⟩ := hW
  have hA : DataW.TrodAll enc Try.prog W 0 (fun _ => true) true Try.f3.params.toList args.toList ds p := hA0
  rw [Try.params3] at hA hval hsz
  obtain ⟨v0, vs0, d0, ds0, p0, q0, hargs, rfl, rfl, h0, r0⟩ := trodAll_cons hA
  obtain ⟨v1, vs1, d1, ds1, p1, q1, rfl, rfl, rfl, h1, r1⟩ := trodAll_cons r0
  obtain ⟨v2, vs2, d2, ds2, p2, q2, rfl, rfl, rfl, h2, r2⟩ := trodAll_cons r1
  obtain ⟨v3, vs3, d3, ds3, p3, q3, rfl, rfl, rfl, h3, r3⟩ := trodAll_cons r2
  obtain ⟨rfl, rfl, rfl⟩ := trodAll_nil r3
  obtain rfl : args = #[v0, v1, v2, v3] := by cases args; simp_all
  obtain ⟨rfl, rfl⟩ := trodVars_none hV
  obtain ⟨A0, n0, c0, rfl⟩ := okWide_slice Try.underlying22 (hval 0 22 v0 rfl rfl)
  have k0 := h0
  have lt0 : ∀ x ∈ p0, x.block < W.heap.size := by obtain ⟨m, hm⟩ := k0; exact DataW.trod_lt m _ _ _ hm
  obtain ⟨z0, w0, dd0⟩ : ∃ zs, Go.Proofs.Ytebkgndcgcdogaa.IntsIn .i64 W A0 n0 c0 zs ∧ Go.Proofs.Ytebkgndcgcdogaa.IntsDatum c0 d0 := Go.Proofs.Ytebkgndcgcdogaa.intsIn_of Try.underlying22 Try.underlying3 (by kernel_rfl) h0
  have sz0 : c0 * Try.prog.bytesOf 3 ≤ 140737488351232 := Go.Proofs.Ytebkgndcgcdogaa.ints_sized hsz (j := 0) (t := 22) (e := 3) rfl rfl Try.underlying22 dd0
  have k1 := h1
  have lt1 : ∀ x ∈ p1, x.block < W.heap.size := by obtain ⟨m, hm⟩ := k1; exact DataW.trod_lt m _ _ _ hm
  obtain ⟨u1_0, u1_1, y1_0, y1_1, nn1, hv1, hd1, hp1, g1_0, g1_1⟩ := Go.Joins.open_agg2 Try.underlying25 (by kernel_rfl) (by kernel_rfl) (hval 1 25 v1 rfl rfl) h1
  obtain ⟨b1, hc1, hx1, wb1⟩ := DataW.trod_int Try.underlying3 g1_0
  obtain rfl : u1_0 = _ := List.cons.inj hc1 |>.1
  obtain ⟨A1, n1, c1, z1, rfl, w1, dd1⟩ := Go.Proofs.Ytebkgndcgcdogaa.namesIn_of Try.underlying23 Try.underlying59 (by kernel_rfl) rfl rfl (by kernel_rfl) (by kernel_rfl) Try.underlying3 Try.underlying3 g1_1
  have sz1 : c1 * Try.prog.bytesOf 59 ≤ 140737488351232 := Go.Proofs.Ytebkgndcgcdogaa.agg_names_sized hsz (j := 1) (t := 25) (i := 1) (d := y1_1.1) (e := 59) rfl (by rw [hd1]; rfl) Try.underlying25 rfl rfl Try.underlying23 dd1
  subst hv1
  obtain ⟨A2, n2, c2, rfl⟩ := okWide_slice Try.underlying26 (hval 2 26 v2 rfl rfl)
  have k2 := h2
  have lt2 : ∀ x ∈ p2, x.block < W.heap.size := by obtain ⟨m, hm⟩ := k2; exact DataW.trod_lt m _ _ _ hm
  obtain ⟨z2, w2, nc2, dd2⟩ : ∃ l, Go.Proofs.Ytebkgndcgcdogaa.CellsIn W A2 n2 c2 (l.map Go.Proofs.Ytebkgndcgcdogaa.Cm.str) ∧ (A2 = none → c2 = 0) ∧ Go.Proofs.Ytebkgndcgcdogaa.StrsDatum l c2 d2 := Go.Proofs.Ytebkgndcgcdogaa.strsIn_of Try.underlying26 Try.underlying9 (by kernel_rfl) h2
  have sz2 := Go.Proofs.Ytebkgndcgcdogaa.strs_sized hsz (j := 2) (t := 26) (e := 9) rfl rfl Try.underlying26 dd2
  have nn2 : A2 = none → n2 = 0 ∧ c2 = 0 := fun h => ⟨by have := nc2 h; have := w2.2.1; omega, nc2 h⟩
  obtain ⟨a3, rfl, rfl, rfl, w3⟩ := open_int Try.underlying3 (hval 3 3 v3 rfl rfl) h3
  have bd3 := Go.Proofs.Ytebkgndcgcdogaa.bd_i64 w3
  clear hA0 hval0
  refine (Go.Proofs.Ytebkgndcgcdogaa.manifestDoes_walk A0 n0 c0 z0 b1 A1 n1 c1 z1 A2 n2 c2 z2 a3 W w0 sz0 w1 sz1 w2 nn2 sz2.1 sz2.2 bd3.1 bd3.2).mono fun e W' ⟨he, bel⟩ => ?_
  subst he
  exact ⟨_, rfl, _, _, _, [], _, [], hW', trodAll_mk1 (shut_bool Try.underlying4 _), (trodAll_cons_mk (Below.trod laidOut (by kernel_rfl) (of_decide_eq_true (by kernel_rfl)) k0 bel lt0) (trodAll_cons_mk (Below.trod laidOut (by kernel_rfl) (of_decide_eq_true (by kernel_rfl)) k1 bel lt1) (trodAll_cons_mk (Below.trod laidOut (by kernel_rfl) (of_decide_eq_true (by kernel_rfl)) k2 bel lt2) (trodAll_cons_mk (shut_int Try.underlying3 w3) trodAll_mk0)))), rfl, bel.frame _, fun h => by cases h⟩

theorem over : Rows.manifestDoesRow.holds Try.pinned (OpenSpec.ofChange Rows.manifestDoesSpec) :=
  OpenClaim.holds_of_wide 3 Try.f3 rfl rfl rfl rfl rfl rfl rfl ⟨rfl, rfl, rfl, rfl, rfl⟩ rfl rfl rfl rfl rfl (by kernel_rfl) Try.func3 (by kernel_rfl)
    (of_decide_eq_true (by kernel_rfl)) (by unfold Func.isWrapper; first | (rw [if_pos (by decide +kernel)]; kernel_rfl) | (rw [if_neg (by decide +kernel)]; exact ⟨rfl, rfl⟩))
    (fun os started H enc _ => lifted os started H enc)

/-- the statement -/
theorem proved : Rows.ManifestDoesSaid :=
  over
end Go.Proofs.Ytebkgndcgcdogaa.manifestDoes
