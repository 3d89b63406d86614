/-
  No cell of these rows narrows 'for every input' (looked for: loops, veiled, ifaces, maps, wideKeys, modest, calm, conditions, laid).
  DERIVED. THE GIVEN ROWS OF THIS SEAT. 6 by the template 'for every input the law returns true; each argument reads behind the call as it read before'; 0 by the template 'total and deterministic' (their statements: YtebkgndcgcdogaaTotals.lean).
  GIVEN WITH THE SEED: the statements are not yours to turn. If you find one false, say at which input.
  Laid BY PROGRAM, IN A SANDBOX (cutbox-rows.mjs): the forced cells as the released guide's own fill.sh prints them over the translation 1a71debd53b7d0c3… (all of the seat's roots in one cut). By AI agents, Wed Nov 11 2026. No macro, syntax, notation, axiom, sorry.
-/
import Derived.Test.YtebkgndcgcdogaaChecked
import GoSem.Claim
import GoSem.ClaimJoined
import GoSem.ClaimMapViews
import Derived.JoinedTies
import Derived.KernelRfl
namespace Go.Proofs.Ytebkgndcgcdogaa
/- THE CELL 'sum', in the pinned program and in every row, IS THE sha256 OF THE DUMP (.gsa) THAT YtebkgndcgcdogaaProg.lean LOADS. Nothing in Lean hashes anything: it is a label: what it is worth is what the hold of that sum in a sandbox is worth. -/
noncomputable def Try.pinned : Pinned := { name := "ytebkgndcgcdogaa", sum := "1a71debd53b7d0c35dee7628546a96f36393cc15b65e291f8dd4d59958c0e630", checked := Try.checked }
namespace Rows
def none {H : Type} : Left H := { results := [], args := [] }

/-- 'storagebarterlaw08.ManifestDoes': WHATEVER THE INPUT: true; the input reads as it did. -/
def manifestDoesSpec : ChangeSpec := { name := "manifestDoes", fn := fun _ => fun
  | [d1, d2, d3, d4] => { results := [.lit (.bool true)], args := [d1, d2, d3, d4] }
  | _ => none }
def manifestDoesRow : OpenClaim := { program := "ytebkgndcgcdogaa", sum := "1a71debd53b7d0c35dee7628546a96f36393cc15b65e291f8dd4d59958c0e630", func := "storagebarter/storagebarterlaw08.ManifestDoes", spec := "manifestDoes", inPlace := ["internal/abi.NoEscape"], unfollowed := true, recurses := true, plainKeys := false, apart := false }
def ManifestDoesSaid : Prop := manifestDoesRow.holds Try.pinned (OpenSpec.ofChange manifestDoesSpec)

/-- ITS FALSE NEIGHBOUR: 'it returns false'. Refute it at one input. -/
def manifestDoesWrong : ChangeSpec := { name := "manifestDoes", fn := fun _ => fun
  | [d1, d2, d3, d4] => { results := [.lit (.bool false)], args := [d1, d2, d3, d4] }
  | _ => none }
def ManifestDoesWrongFalsely : Prop := manifestDoesRow.holds Try.pinned (OpenSpec.ofChange manifestDoesWrong)

/-- 'storagebarterlaw08.ManifestBytes': WHATEVER THE INPUT: true; the input reads as it did. -/
def manifestBytesSpec : ChangeSpec := { name := "manifestBytes", fn := fun _ => fun
  | [d1, d2, d3, d4, d5] => { results := [.lit (.bool true)], args := [d1, d2, d3, d4, d5] }
  | _ => none }
def manifestBytesRow : OpenClaim := { program := "ytebkgndcgcdogaa", sum := "1a71debd53b7d0c35dee7628546a96f36393cc15b65e291f8dd4d59958c0e630", func := "storagebarter/storagebarterlaw08.ManifestBytes", spec := "manifestBytes", inPlace := ["internal/abi.NoEscape"], unfollowed := true, recurses := true, plainKeys := false, apart := false }
def ManifestBytesSaid : Prop := manifestBytesRow.holds Try.pinned (OpenSpec.ofChange manifestBytesSpec)

/-- ITS FALSE NEIGHBOUR: 'it returns false'. Refute it at one input. -/
def manifestBytesWrong : ChangeSpec := { name := "manifestBytes", fn := fun _ => fun
  | [d1, d2, d3, d4, d5] => { results := [.lit (.bool false)], args := [d1, d2, d3, d4, d5] }
  | _ => none }
def ManifestBytesWrongFalsely : Prop := manifestBytesRow.holds Try.pinned (OpenSpec.ofChange manifestBytesWrong)

/-- 'storagebarterlaw08.ManifestRestores': WHATEVER THE INPUT: true; the input reads as it did. -/
def manifestRestoresSpec : ChangeSpec := { name := "manifestRestores", fn := fun _ => fun
  | [d1, d2, d3] => { results := [.lit (.bool true)], args := [d1, d2, d3] }
  | _ => none }
def manifestRestoresRow : OpenClaim := { program := "ytebkgndcgcdogaa", sum := "1a71debd53b7d0c35dee7628546a96f36393cc15b65e291f8dd4d59958c0e630", func := "storagebarter/storagebarterlaw08.ManifestRestores", spec := "manifestRestores", inPlace := ["internal/abi.NoEscape"], unfollowed := true, recurses := true, plainKeys := false, apart := false }
def ManifestRestoresSaid : Prop := manifestRestoresRow.holds Try.pinned (OpenSpec.ofChange manifestRestoresSpec)

/-- ITS FALSE NEIGHBOUR: 'it returns false'. Refute it at one input. -/
def manifestRestoresWrong : ChangeSpec := { name := "manifestRestores", fn := fun _ => fun
  | [d1, d2, d3] => { results := [.lit (.bool false)], args := [d1, d2, d3] }
  | _ => none }
def ManifestRestoresWrongFalsely : Prop := manifestRestoresRow.holds Try.pinned (OpenSpec.ofChange manifestRestoresWrong)

/-- 'storagebarterlaw08.ManifestBack': WHATEVER THE INPUT: true; the input reads as it did. -/
def manifestBackSpec : ChangeSpec := { name := "manifestBack", fn := fun _ => fun
  | [d1, d2] => { results := [.lit (.bool true)], args := [d1, d2] }
  | _ => none }
def manifestBackRow : OpenClaim := { program := "ytebkgndcgcdogaa", sum := "1a71debd53b7d0c35dee7628546a96f36393cc15b65e291f8dd4d59958c0e630", func := "storagebarter/storagebarterlaw08.ManifestBack", spec := "manifestBack", inPlace := ["internal/abi.NoEscape"], unfollowed := true, recurses := true, plainKeys := false, apart := false }
def ManifestBackSaid : Prop := manifestBackRow.holds Try.pinned (OpenSpec.ofChange manifestBackSpec)

/-- ITS FALSE NEIGHBOUR: 'it returns false'. Refute it at one input. -/
def manifestBackWrong : ChangeSpec := { name := "manifestBack", fn := fun _ => fun
  | [d1, d2] => { results := [.lit (.bool false)], args := [d1, d2] }
  | _ => none }
def ManifestBackWrongFalsely : Prop := manifestBackRow.holds Try.pinned (OpenSpec.ofChange manifestBackWrong)

/-- 'storagebarterlaw08.ManifestChanges': WHATEVER THE INPUT: true; the input reads as it did. -/
def manifestChangesSpec : ChangeSpec := { name := "manifestChanges", fn := fun _ => fun
  | [d] => { results := [.lit (.bool true)], args := [d] }
  | _ => none }
def manifestChangesRow : OpenClaim := { program := "ytebkgndcgcdogaa", sum := "1a71debd53b7d0c35dee7628546a96f36393cc15b65e291f8dd4d59958c0e630", func := "storagebarter/storagebarterlaw08.ManifestChanges", spec := "manifestChanges", inPlace := ["internal/abi.NoEscape"], unfollowed := true, recurses := true, plainKeys := false, apart := false }
def ManifestChangesSaid : Prop := manifestChangesRow.holds Try.pinned (OpenSpec.ofChange manifestChangesSpec)

/-- ITS FALSE NEIGHBOUR: 'it returns false'. Refute it at one input. -/
def manifestChangesWrong : ChangeSpec := { name := "manifestChanges", fn := fun _ => fun
  | [d] => { results := [.lit (.bool false)], args := [d] }
  | _ => none }
def ManifestChangesWrongFalsely : Prop := manifestChangesRow.holds Try.pinned (OpenSpec.ofChange manifestChangesWrong)

/-- 'storagebarterlaw08.ManifestAppends': WHATEVER THE INPUT: true; the input reads as it did. -/
def manifestAppendsSpec : ChangeSpec := { name := "manifestAppends", fn := fun _ => fun
  | [d] => { results := [.lit (.bool true)], args := [d] }
  | _ => none }
def manifestAppendsRow : OpenClaim := { program := "ytebkgndcgcdogaa", sum := "1a71debd53b7d0c35dee7628546a96f36393cc15b65e291f8dd4d59958c0e630", func := "storagebarter/storagebarterlaw08.ManifestAppends", spec := "manifestAppends", inPlace := ["internal/abi.NoEscape"], unfollowed := true, recurses := true, plainKeys := false, apart := false }
def ManifestAppendsSaid : Prop := manifestAppendsRow.holds Try.pinned (OpenSpec.ofChange manifestAppendsSpec)

/-- ITS FALSE NEIGHBOUR: 'it returns false'. Refute it at one input. -/
def manifestAppendsWrong : ChangeSpec := { name := "manifestAppends", fn := fun _ => fun
  | [d] => { results := [.lit (.bool false)], args := [d] }
  | _ => none }
def ManifestAppendsWrongFalsely : Prop := manifestAppendsRow.holds Try.pinned (OpenSpec.ofChange manifestAppendsWrong)

/- THE SECOND FORM. 'bulk': how many values and letters a reading holds, each counted each time it is reached (what is shared counts as often as it is met; a slice's spare places count too). A statement '..UptoSaid' is the law's where the arguments, and the package variables that the reading takes, are together of bulk at most 1048576: NARROWER than '..Said'. Prove '..Said' where nothing that the law and all that it calls make is longer than what came in: it says more and counts as full. Else prove '..UptoSaid'. A law counts once. -/
mutual
def uptoBulk {H : Type} : DataW H → Nat
  | .lit (.string bytes) => bytes.length + 1
  | .lit _ => 1
  | .nil => 1
  | .ptr d => uptoBulk d + 1
  | .slice elems spare => uptoBulkAll elems + uptoBulkAll spare + 1
  | .agg parts => uptoBulkAll parts + 1
  | .iface _ d => uptoBulk d + 1
  | .map entries => uptoBulkEntries entries + 1
  | .held _ => 1
def uptoBulkAll {H : Type} : List (DataW H) → Nat
  | [] => 0
  | d :: r => uptoBulk d + uptoBulkAll r
def uptoBulkEntries {H : Type} : List (Lit × DataW H) → Nat
  | [] => 0
  | x :: r => uptoBulkEntry x + uptoBulkEntries r
def uptoBulkEntry {H : Type} : Lit × DataW H → Nat
  | (.string bytes, d) => bytes.length + uptoBulk d + 1
  | (_, d) => uptoBulk d + 1
 end
def uptoSmall : (H : Type) → List (DataW H) → Bool := fun _ ds => decide (uptoBulkAll ds ≤ 1048576)
def OpenSpec.upto (s : _root_.Go.ChangeSpec) : _root_.Go.OpenSpec := { _root_.Go.OpenSpec.ofChange s with cond := some uptoSmall }

/-- 'storagebarterlaw08.ManifestDoes', WHERE WHAT IT READS IS OF BULK AT MOST 1048576: true; the input reads as it did. -/
def manifestDoesUptoRow : OpenClaim := { program := "ytebkgndcgcdogaa", sum := "1a71debd53b7d0c35dee7628546a96f36393cc15b65e291f8dd4d59958c0e630", func := "storagebarter/storagebarterlaw08.ManifestDoes", spec := "manifestDoes", inPlace := ["internal/abi.NoEscape"], unfollowed := true, recurses := true, plainKeys := false, apart := false, narrowed := true }
def ManifestDoesUptoSaid : Prop := manifestDoesUptoRow.holds Try.pinned (OpenSpec.upto manifestDoesSpec)

/-- 'storagebarterlaw08.ManifestBytes', WHERE WHAT IT READS IS OF BULK AT MOST 1048576: true; the input reads as it did. -/
def manifestBytesUptoRow : OpenClaim := { program := "ytebkgndcgcdogaa", sum := "1a71debd53b7d0c35dee7628546a96f36393cc15b65e291f8dd4d59958c0e630", func := "storagebarter/storagebarterlaw08.ManifestBytes", spec := "manifestBytes", inPlace := ["internal/abi.NoEscape"], unfollowed := true, recurses := true, plainKeys := false, apart := false, narrowed := true }
def ManifestBytesUptoSaid : Prop := manifestBytesUptoRow.holds Try.pinned (OpenSpec.upto manifestBytesSpec)

/-- 'storagebarterlaw08.ManifestRestores', WHERE WHAT IT READS IS OF BULK AT MOST 1048576: true; the input reads as it did. -/
def manifestRestoresUptoRow : OpenClaim := { program := "ytebkgndcgcdogaa", sum := "1a71debd53b7d0c35dee7628546a96f36393cc15b65e291f8dd4d59958c0e630", func := "storagebarter/storagebarterlaw08.ManifestRestores", spec := "manifestRestores", inPlace := ["internal/abi.NoEscape"], unfollowed := true, recurses := true, plainKeys := false, apart := false, narrowed := true }
def ManifestRestoresUptoSaid : Prop := manifestRestoresUptoRow.holds Try.pinned (OpenSpec.upto manifestRestoresSpec)

/-- 'storagebarterlaw08.ManifestBack', WHERE WHAT IT READS IS OF BULK AT MOST 1048576: true; the input reads as it did. -/
def manifestBackUptoRow : OpenClaim := { program := "ytebkgndcgcdogaa", sum := "1a71debd53b7d0c35dee7628546a96f36393cc15b65e291f8dd4d59958c0e630", func := "storagebarter/storagebarterlaw08.ManifestBack", spec := "manifestBack", inPlace := ["internal/abi.NoEscape"], unfollowed := true, recurses := true, plainKeys := false, apart := false, narrowed := true }
def ManifestBackUptoSaid : Prop := manifestBackUptoRow.holds Try.pinned (OpenSpec.upto manifestBackSpec)

/-- 'storagebarterlaw08.ManifestChanges', WHERE WHAT IT READS IS OF BULK AT MOST 1048576: true; the input reads as it did. -/
def manifestChangesUptoRow : OpenClaim := { program := "ytebkgndcgcdogaa", sum := "1a71debd53b7d0c35dee7628546a96f36393cc15b65e291f8dd4d59958c0e630", func := "storagebarter/storagebarterlaw08.ManifestChanges", spec := "manifestChanges", inPlace := ["internal/abi.NoEscape"], unfollowed := true, recurses := true, plainKeys := false, apart := false, narrowed := true }
def ManifestChangesUptoSaid : Prop := manifestChangesUptoRow.holds Try.pinned (OpenSpec.upto manifestChangesSpec)

/-- 'storagebarterlaw08.ManifestAppends', WHERE WHAT IT READS IS OF BULK AT MOST 1048576: true; the input reads as it did. -/
def manifestAppendsUptoRow : OpenClaim := { program := "ytebkgndcgcdogaa", sum := "1a71debd53b7d0c35dee7628546a96f36393cc15b65e291f8dd4d59958c0e630", func := "storagebarter/storagebarterlaw08.ManifestAppends", spec := "manifestAppends", inPlace := ["internal/abi.NoEscape"], unfollowed := true, recurses := true, plainKeys := false, apart := false, narrowed := true }
def ManifestAppendsUptoSaid : Prop := manifestAppendsUptoRow.holds Try.pinned (OpenSpec.upto manifestAppendsSpec)

end Rows
end Go.Proofs.Ytebkgndcgcdogaa
