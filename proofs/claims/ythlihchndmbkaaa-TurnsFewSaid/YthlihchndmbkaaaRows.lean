/-
  No cell of these rows narrows 'for every input' (looked for: loops, veiled, ifaces, maps, wideKeys, modest, calm, conditions, laid).
  DERIVED. THE GIVEN ROWS OF THIS SEAT. 8 by the template 'for every input the law returns true; each argument reads behind the call as it read before'; 0 by the template 'total and deterministic' (their statements: YthlihchndmbkaaaTotals.lean).
  GIVEN WITH THE SEED: the statements are not yours to turn. If you find one false, say at which input.
  Laid BY PROGRAM, IN A SANDBOX (cutbox-rows.mjs): the forced cells as the released guide's own fill.sh prints them over the translation f5acb2407b68a84a… (all of the seat's roots in one cut). By AI agents, Wed Nov 11 2026. No macro, syntax, notation, axiom, sorry.
-/
import Derived.Test.YthlihchndmbkaaaChecked
import GoSem.Claim
import GoSem.ClaimJoined
import GoSem.ClaimMapViews
import Derived.JoinedTies
import Derived.KernelRfl
namespace Go.Proofs.Ythlihchndmbkaaa
/- THE CELL 'sum', in the pinned program and in every row, IS THE sha256 OF THE DUMP (.gsa) THAT YthlihchndmbkaaaProg.lean LOADS. Nothing in Lean hashes anything: it is a label: what it is worth is what the hold of that sum in a sandbox is worth. -/
noncomputable def Try.pinned : Pinned := { name := "ythlihchndmbkaaa", sum := "f5acb2407b68a84a9edccce3c46470a16512b2d5d86b8bbe1c5262123ac25242", checked := Try.checked }
namespace Rows
def none {H : Type} : Left H := { results := [], args := [] }

/-- 'handshapelaw04.TurnsLimit': WHATEVER THE INPUT: true; the input reads as it did. -/
def turnsLimitSpec : ChangeSpec := { name := "turnsLimit", fn := fun _ => fun
  | [d1, d2] => { results := [.lit (.bool true)], args := [d1, d2] }
  | _ => none }
def turnsLimitRow : OpenClaim := { program := "ythlihchndmbkaaa", sum := "f5acb2407b68a84a9edccce3c46470a16512b2d5d86b8bbe1c5262123ac25242", func := "handshape/handshapelaw04.TurnsLimit", spec := "turnsLimit", unfollowed := true, recurses := true, apart := false }
def TurnsLimitSaid : Prop := turnsLimitRow.holds Try.pinned (OpenSpec.ofChange turnsLimitSpec)

/-- ITS FALSE NEIGHBOUR: 'it returns false'. Refute it at one input. -/
def turnsLimitWrong : ChangeSpec := { name := "turnsLimit", fn := fun _ => fun
  | [d1, d2] => { results := [.lit (.bool false)], args := [d1, d2] }
  | _ => none }
def TurnsLimitWrongFalsely : Prop := turnsLimitRow.holds Try.pinned (OpenSpec.ofChange turnsLimitWrong)

/-- 'handshapelaw04.TurnsTrue': WHATEVER THE INPUT: true; the input reads as it did. -/
def turnsTrueSpec : ChangeSpec := { name := "turnsTrue", fn := fun _ => fun
  | [d1, d2, d3] => { results := [.lit (.bool true)], args := [d1, d2, d3] }
  | _ => none }
def turnsTrueRow : OpenClaim := { program := "ythlihchndmbkaaa", sum := "f5acb2407b68a84a9edccce3c46470a16512b2d5d86b8bbe1c5262123ac25242", func := "handshape/handshapelaw04.TurnsTrue", spec := "turnsTrue", unfollowed := true, recurses := true, apart := false }
def TurnsTrueSaid : Prop := turnsTrueRow.holds Try.pinned (OpenSpec.ofChange turnsTrueSpec)

/-- ITS FALSE NEIGHBOUR: 'it returns false'. Refute it at one input. -/
def turnsTrueWrong : ChangeSpec := { name := "turnsTrue", fn := fun _ => fun
  | [d1, d2, d3] => { results := [.lit (.bool false)], args := [d1, d2, d3] }
  | _ => none }
def TurnsTrueWrongFalsely : Prop := turnsTrueRow.holds Try.pinned (OpenSpec.ofChange turnsTrueWrong)

/-- 'handshapelaw04.TurnsEasier': WHATEVER THE INPUT: true; the input reads as it did. -/
def turnsEasierSpec : ChangeSpec := { name := "turnsEasier", fn := fun _ => fun
  | [d1, d2, d3] => { results := [.lit (.bool true)], args := [d1, d2, d3] }
  | _ => none }
def turnsEasierRow : OpenClaim := { program := "ythlihchndmbkaaa", sum := "f5acb2407b68a84a9edccce3c46470a16512b2d5d86b8bbe1c5262123ac25242", func := "handshape/handshapelaw04.TurnsEasier", spec := "turnsEasier", unfollowed := true, recurses := true, apart := false }
def TurnsEasierSaid : Prop := turnsEasierRow.holds Try.pinned (OpenSpec.ofChange turnsEasierSpec)

/-- ITS FALSE NEIGHBOUR: 'it returns false'. Refute it at one input. -/
def turnsEasierWrong : ChangeSpec := { name := "turnsEasier", fn := fun _ => fun
  | [d1, d2, d3] => { results := [.lit (.bool false)], args := [d1, d2, d3] }
  | _ => none }
def TurnsEasierWrongFalsely : Prop := turnsEasierRow.holds Try.pinned (OpenSpec.ofChange turnsEasierWrong)

/-- 'handshapelaw04.TurnsJoined': WHATEVER THE INPUT: true; the input reads as it did. -/
def turnsJoinedSpec : ChangeSpec := { name := "turnsJoined", fn := fun _ => fun
  | [d1, d2] => { results := [.lit (.bool true)], args := [d1, d2] }
  | _ => none }
def turnsJoinedRow : OpenClaim := { program := "ythlihchndmbkaaa", sum := "f5acb2407b68a84a9edccce3c46470a16512b2d5d86b8bbe1c5262123ac25242", func := "handshape/handshapelaw04.TurnsJoined", spec := "turnsJoined", unfollowed := true, recurses := true, apart := false }
def TurnsJoinedSaid : Prop := turnsJoinedRow.holds Try.pinned (OpenSpec.ofChange turnsJoinedSpec)

/-- ITS FALSE NEIGHBOUR: 'it returns false'. Refute it at one input. -/
def turnsJoinedWrong : ChangeSpec := { name := "turnsJoined", fn := fun _ => fun
  | [d1, d2] => { results := [.lit (.bool false)], args := [d1, d2] }
  | _ => none }
def TurnsJoinedWrongFalsely : Prop := turnsJoinedRow.holds Try.pinned (OpenSpec.ofChange turnsJoinedWrong)

/-- 'handshapelaw04.TurnsFew': WHATEVER THE INPUT: true; the input reads as it did. -/
def turnsFewSpec : ChangeSpec := { name := "turnsFew", fn := fun _ => fun
  | [d1, d2, d3] => { results := [.lit (.bool true)], args := [d1, d2, d3] }
  | _ => none }
def turnsFewRow : OpenClaim := { program := "ythlihchndmbkaaa", sum := "f5acb2407b68a84a9edccce3c46470a16512b2d5d86b8bbe1c5262123ac25242", func := "handshape/handshapelaw04.TurnsFew", spec := "turnsFew", unfollowed := true, recurses := true, apart := false }
def TurnsFewSaid : Prop := turnsFewRow.holds Try.pinned (OpenSpec.ofChange turnsFewSpec)

/-- ITS FALSE NEIGHBOUR: 'it returns false'. Refute it at one input. -/
def turnsFewWrong : ChangeSpec := { name := "turnsFew", fn := fun _ => fun
  | [d1, d2, d3] => { results := [.lit (.bool false)], args := [d1, d2, d3] }
  | _ => none }
def TurnsFewWrongFalsely : Prop := turnsFewRow.holds Try.pinned (OpenSpec.ofChange turnsFewWrong)

/-- 'handshapelaw04.TurnsAlone': WHATEVER THE INPUT: true; the input reads as it did. -/
def turnsAloneSpec : ChangeSpec := { name := "turnsAlone", fn := fun _ => fun
  | [d1, d2] => { results := [.lit (.bool true)], args := [d1, d2] }
  | _ => none }
def turnsAloneRow : OpenClaim := { program := "ythlihchndmbkaaa", sum := "f5acb2407b68a84a9edccce3c46470a16512b2d5d86b8bbe1c5262123ac25242", func := "handshape/handshapelaw04.TurnsAlone", spec := "turnsAlone", unfollowed := true, recurses := true, apart := false }
def TurnsAloneSaid : Prop := turnsAloneRow.holds Try.pinned (OpenSpec.ofChange turnsAloneSpec)

/-- ITS FALSE NEIGHBOUR: 'it returns false'. Refute it at one input. -/
def turnsAloneWrong : ChangeSpec := { name := "turnsAlone", fn := fun _ => fun
  | [d1, d2] => { results := [.lit (.bool false)], args := [d1, d2] }
  | _ => none }
def TurnsAloneWrongFalsely : Prop := turnsAloneRow.holds Try.pinned (OpenSpec.ofChange turnsAloneWrong)

/-- 'handshapelaw04.TurnsRuns': WHATEVER THE INPUT: true; the input reads as it did. -/
def turnsRunsSpec : ChangeSpec := { name := "turnsRuns", fn := fun _ => fun
  | [d1, d2, d3] => { results := [.lit (.bool true)], args := [d1, d2, d3] }
  | _ => none }
def turnsRunsRow : OpenClaim := { program := "ythlihchndmbkaaa", sum := "f5acb2407b68a84a9edccce3c46470a16512b2d5d86b8bbe1c5262123ac25242", func := "handshape/handshapelaw04.TurnsRuns", spec := "turnsRuns", unfollowed := true, recurses := true, apart := false }
def TurnsRunsSaid : Prop := turnsRunsRow.holds Try.pinned (OpenSpec.ofChange turnsRunsSpec)

/-- ITS FALSE NEIGHBOUR: 'it returns false'. Refute it at one input. -/
def turnsRunsWrong : ChangeSpec := { name := "turnsRuns", fn := fun _ => fun
  | [d1, d2, d3] => { results := [.lit (.bool false)], args := [d1, d2, d3] }
  | _ => none }
def TurnsRunsWrongFalsely : Prop := turnsRunsRow.holds Try.pinned (OpenSpec.ofChange turnsRunsWrong)

/-- 'handshapelaw04.TurnsPlans': WHATEVER THE INPUT: true; the input reads as it did. -/
def turnsPlansSpec : ChangeSpec := { name := "turnsPlans", fn := fun _ => fun
  | [d1, d2] => { results := [.lit (.bool true)], args := [d1, d2] }
  | _ => none }
def turnsPlansRow : OpenClaim := { program := "ythlihchndmbkaaa", sum := "f5acb2407b68a84a9edccce3c46470a16512b2d5d86b8bbe1c5262123ac25242", func := "handshape/handshapelaw04.TurnsPlans", spec := "turnsPlans", unfollowed := true, recurses := true, apart := false }
def TurnsPlansSaid : Prop := turnsPlansRow.holds Try.pinned (OpenSpec.ofChange turnsPlansSpec)

/-- ITS FALSE NEIGHBOUR: 'it returns false'. Refute it at one input. -/
def turnsPlansWrong : ChangeSpec := { name := "turnsPlans", fn := fun _ => fun
  | [d1, d2] => { results := [.lit (.bool false)], args := [d1, d2] }
  | _ => none }
def TurnsPlansWrongFalsely : Prop := turnsPlansRow.holds Try.pinned (OpenSpec.ofChange turnsPlansWrong)

/- THE SECOND FORM. 'bulk': how many values and letters a reading holds, each counted each time it is reached (what is shared counts as often as it is met; a slice's spare places count too). A statement '..UptoSaid' is the law's where the arguments, and the package variables that the reading takes, are together of bulk at most 1048576: NARROWER than '..Said'. Prove '..Said' where nothing that the law and all that it calls make is longer than what came in: it says more and counts as full. Else prove '..UptoSaid'. A law counts once. -/
mutual
def uptoBulk {H : Type} : DataW H → Nat
  | .lit (.string bytes) => bytes.length + 1
  | .lit _ => 1
  | .nil => 1
  | .ptr d => uptoBulk d + 1
  | .slice elems spare => uptoBulkAll elems + uptoBulkAll spare + 1
  | .agg parts => uptoBulkAll parts + 1
  | .iface _ d => uptoBulk d + 1
  | .map entries => uptoBulkEntries entries + 1
  | .held _ => 1
def uptoBulkAll {H : Type} : List (DataW H) → Nat
  | [] => 0
  | d :: r => uptoBulk d + uptoBulkAll r
def uptoBulkEntries {H : Type} : List (Lit × DataW H) → Nat
  | [] => 0
  | x :: r => uptoBulkEntry x + uptoBulkEntries r
def uptoBulkEntry {H : Type} : Lit × DataW H → Nat
  | (.string bytes, d) => bytes.length + uptoBulk d + 1
  | (_, d) => uptoBulk d + 1
 end
def uptoSmall : (H : Type) → List (DataW H) → Bool := fun _ ds => decide (uptoBulkAll ds ≤ 1048576)
def OpenSpec.upto (s : _root_.Go.ChangeSpec) : _root_.Go.OpenSpec := { _root_.Go.OpenSpec.ofChange s with cond := some uptoSmall }

/-- 'handshapelaw04.TurnsLimit', WHERE WHAT IT READS IS OF BULK AT MOST 1048576: true; the input reads as it did. -/
def turnsLimitUptoRow : OpenClaim := { program := "ythlihchndmbkaaa", sum := "f5acb2407b68a84a9edccce3c46470a16512b2d5d86b8bbe1c5262123ac25242", func := "handshape/handshapelaw04.TurnsLimit", spec := "turnsLimit", unfollowed := true, recurses := true, apart := false, narrowed := true }
def TurnsLimitUptoSaid : Prop := turnsLimitUptoRow.holds Try.pinned (OpenSpec.upto turnsLimitSpec)

/-- 'handshapelaw04.TurnsTrue', WHERE WHAT IT READS IS OF BULK AT MOST 1048576: true; the input reads as it did. -/
def turnsTrueUptoRow : OpenClaim := { program := "ythlihchndmbkaaa", sum := "f5acb2407b68a84a9edccce3c46470a16512b2d5d86b8bbe1c5262123ac25242", func := "handshape/handshapelaw04.TurnsTrue", spec := "turnsTrue", unfollowed := true, recurses := true, apart := false, narrowed := true }
def TurnsTrueUptoSaid : Prop := turnsTrueUptoRow.holds Try.pinned (OpenSpec.upto turnsTrueSpec)

/-- 'handshapelaw04.TurnsEasier', WHERE WHAT IT READS IS OF BULK AT MOST 1048576: true; the input reads as it did. -/
def turnsEasierUptoRow : OpenClaim := { program := "ythlihchndmbkaaa", sum := "f5acb2407b68a84a9edccce3c46470a16512b2d5d86b8bbe1c5262123ac25242", func := "handshape/handshapelaw04.TurnsEasier", spec := "turnsEasier", unfollowed := true, recurses := true, apart := false, narrowed := true }
def TurnsEasierUptoSaid : Prop := turnsEasierUptoRow.holds Try.pinned (OpenSpec.upto turnsEasierSpec)

/-- 'handshapelaw04.TurnsJoined', WHERE WHAT IT READS IS OF BULK AT MOST 1048576: true; the input reads as it did. -/
def turnsJoinedUptoRow : OpenClaim := { program := "ythlihchndmbkaaa", sum := "f5acb2407b68a84a9edccce3c46470a16512b2d5d86b8bbe1c5262123ac25242", func := "handshape/handshapelaw04.TurnsJoined", spec := "turnsJoined", unfollowed := true, recurses := true, apart := false, narrowed := true }
def TurnsJoinedUptoSaid : Prop := turnsJoinedUptoRow.holds Try.pinned (OpenSpec.upto turnsJoinedSpec)

/-- 'handshapelaw04.TurnsFew', WHERE WHAT IT READS IS OF BULK AT MOST 1048576: true; the input reads as it did. -/
def turnsFewUptoRow : OpenClaim := { program := "ythlihchndmbkaaa", sum := "f5acb2407b68a84a9edccce3c46470a16512b2d5d86b8bbe1c5262123ac25242", func := "handshape/handshapelaw04.TurnsFew", spec := "turnsFew", unfollowed := true, recurses := true, apart := false, narrowed := true }
def TurnsFewUptoSaid : Prop := turnsFewUptoRow.holds Try.pinned (OpenSpec.upto turnsFewSpec)

/-- 'handshapelaw04.TurnsAlone', WHERE WHAT IT READS IS OF BULK AT MOST 1048576: true; the input reads as it did. -/
def turnsAloneUptoRow : OpenClaim := { program := "ythlihchndmbkaaa", sum := "f5acb2407b68a84a9edccce3c46470a16512b2d5d86b8bbe1c5262123ac25242", func := "handshape/handshapelaw04.TurnsAlone", spec := "turnsAlone", unfollowed := true, recurses := true, apart := false, narrowed := true }
def TurnsAloneUptoSaid : Prop := turnsAloneUptoRow.holds Try.pinned (OpenSpec.upto turnsAloneSpec)

/-- 'handshapelaw04.TurnsRuns', WHERE WHAT IT READS IS OF BULK AT MOST 1048576: true; the input reads as it did. -/
def turnsRunsUptoRow : OpenClaim := { program := "ythlihchndmbkaaa", sum := "f5acb2407b68a84a9edccce3c46470a16512b2d5d86b8bbe1c5262123ac25242", func := "handshape/handshapelaw04.TurnsRuns", spec := "turnsRuns", unfollowed := true, recurses := true, apart := false, narrowed := true }
def TurnsRunsUptoSaid : Prop := turnsRunsUptoRow.holds Try.pinned (OpenSpec.upto turnsRunsSpec)

/-- 'handshapelaw04.TurnsPlans', WHERE WHAT IT READS IS OF BULK AT MOST 1048576: true; the input reads as it did. -/
def turnsPlansUptoRow : OpenClaim := { program := "ythlihchndmbkaaa", sum := "f5acb2407b68a84a9edccce3c46470a16512b2d5d86b8bbe1c5262123ac25242", func := "handshape/handshapelaw04.TurnsPlans", spec := "turnsPlans", unfollowed := true, recurses := true, apart := false, narrowed := true }
def TurnsPlansUptoSaid : Prop := turnsPlansUptoRow.holds Try.pinned (OpenSpec.upto turnsPlansSpec)

end Rows
end Go.Proofs.Ythlihchndmbkaaa
