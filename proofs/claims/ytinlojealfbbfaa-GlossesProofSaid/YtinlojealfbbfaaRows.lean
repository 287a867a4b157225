/-
  No cell of these rows narrows 'for every input' (looked for: loops, veiled, ifaces, maps, wideKeys, modest, calm, conditions, laid).
  DERIVED. THE GIVEN ROWS OF THIS SEAT. 9 by the template 'for every input the law returns true; each argument reads behind the call as it read before'; 0 by the template 'total and deterministic' (their statements: YtinlojealfbbfaaTotals.lean).
  GIVEN WITH THE SEED: the statements are not yours to turn. If you find one false, say at which input.
  Laid BY PROGRAM, IN A SANDBOX (cutbox-rows.mjs): the forced cells as the released guide's own fill.sh prints them over the translation 59089f7274d31b59… (all of the seat's roots in one cut). By AI agents, Wed Nov 11 2026. No macro, syntax, notation, axiom, sorry.
-/
import Derived.Test.YtinlojealfbbfaaChecked
import GoSem.Claim
import GoSem.ClaimJoined
import GoSem.ClaimMapViews
import Derived.JoinedTies
import Derived.KernelRfl
namespace Go.Proofs.Ytinlojealfbbfaa
/- THE CELL 'sum', in the pinned program and in every row, IS THE sha256 OF THE DUMP (.gsa) THAT YtinlojealfbbfaaProg.lean LOADS. Nothing in Lean hashes anything: it is a label: what it is worth is what the hold of that sum in a sandbox is worth. -/
noncomputable def Try.pinned : Pinned := { name := "ytinlojealfbbfaa", sum := "59089f7274d31b59bd074fc14ee864b263afc46b7ef2edd1091b4004f7a43a3e", checked := Try.checked }
namespace Rows
def none {H : Type} : Left H := { results := [], args := [] }

/-- 'handshapelaw02.GlossesOrder': WHATEVER THE INPUT: true; the input reads as it did. -/
def glossesOrderSpec : ChangeSpec := { name := "glossesOrder", fn := fun _ => fun
  | [d1, d2, d3] => { results := [.lit (.bool true)], args := [d1, d2, d3] }
  | _ => none }
def glossesOrderRow : OpenClaim := { program := "ytinlojealfbbfaa", sum := "59089f7274d31b59bd074fc14ee864b263afc46b7ef2edd1091b4004f7a43a3e", func := "handshape/handshapelaw02.GlossesOrder", spec := "glossesOrder", unfollowed := true, recurses := true, plainKeys := false, apart := false }
def GlossesOrderSaid : Prop := glossesOrderRow.holds Try.pinned (OpenSpec.ofChange glossesOrderSpec)

/-- ITS FALSE NEIGHBOUR: 'it returns false'. Refute it at one input. -/
def glossesOrderWrong : ChangeSpec := { name := "glossesOrder", fn := fun _ => fun
  | [d1, d2, d3] => { results := [.lit (.bool false)], args := [d1, d2, d3] }
  | _ => none }
def GlossesOrderWrongFalsely : Prop := glossesOrderRow.holds Try.pinned (OpenSpec.ofChange glossesOrderWrong)

/-- 'handshapelaw02.GlossesHeard': WHATEVER THE INPUT: true; the input reads as it did. -/
def glossesHeardSpec : ChangeSpec := { name := "glossesHeard", fn := fun _ => fun
  | [d1, d2, d3] => { results := [.lit (.bool true)], args := [d1, d2, d3] }
  | _ => none }
def glossesHeardRow : OpenClaim := { program := "ytinlojealfbbfaa", sum := "59089f7274d31b59bd074fc14ee864b263afc46b7ef2edd1091b4004f7a43a3e", func := "handshape/handshapelaw02.GlossesHeard", spec := "glossesHeard", unfollowed := true, recurses := true, plainKeys := false, apart := false }
def GlossesHeardSaid : Prop := glossesHeardRow.holds Try.pinned (OpenSpec.ofChange glossesHeardSpec)

/-- ITS FALSE NEIGHBOUR: 'it returns false'. Refute it at one input. -/
def glossesHeardWrong : ChangeSpec := { name := "glossesHeard", fn := fun _ => fun
  | [d1, d2, d3] => { results := [.lit (.bool false)], args := [d1, d2, d3] }
  | _ => none }
def GlossesHeardWrongFalsely : Prop := glossesHeardRow.holds Try.pinned (OpenSpec.ofChange glossesHeardWrong)

/-- 'handshapelaw02.GlossesProof': WHATEVER THE INPUT: true; the input reads as it did. -/
def glossesProofSpec : ChangeSpec := { name := "glossesProof", fn := fun _ => fun
  | [d1, d2, d3] => { results := [.lit (.bool true)], args := [d1, d2, d3] }
  | _ => none }
def glossesProofRow : OpenClaim := { program := "ytinlojealfbbfaa", sum := "59089f7274d31b59bd074fc14ee864b263afc46b7ef2edd1091b4004f7a43a3e", func := "handshape/handshapelaw02.GlossesProof", spec := "glossesProof", unfollowed := true, recurses := true, plainKeys := false, apart := false }
def GlossesProofSaid : Prop := glossesProofRow.holds Try.pinned (OpenSpec.ofChange glossesProofSpec)

/-- ITS FALSE NEIGHBOUR: 'it returns false'. Refute it at one input. -/
def glossesProofWrong : ChangeSpec := { name := "glossesProof", fn := fun _ => fun
  | [d1, d2, d3] => { results := [.lit (.bool false)], args := [d1, d2, d3] }
  | _ => none }
def GlossesProofWrongFalsely : Prop := glossesProofRow.holds Try.pinned (OpenSpec.ofChange glossesProofWrong)

/-- 'handshapelaw02.GlossesMore': WHATEVER THE INPUT: true; the input reads as it did. -/
def glossesMoreSpec : ChangeSpec := { name := "glossesMore", fn := fun _ => fun
  | [d1, d2, d3] => { results := [.lit (.bool true)], args := [d1, d2, d3] }
  | _ => none }
def glossesMoreRow : OpenClaim := { program := "ytinlojealfbbfaa", sum := "59089f7274d31b59bd074fc14ee864b263afc46b7ef2edd1091b4004f7a43a3e", func := "handshape/handshapelaw02.GlossesMore", spec := "glossesMore", unfollowed := true, recurses := true, plainKeys := false, apart := false }
def GlossesMoreSaid : Prop := glossesMoreRow.holds Try.pinned (OpenSpec.ofChange glossesMoreSpec)

/-- ITS FALSE NEIGHBOUR: 'it returns false'. Refute it at one input. -/
def glossesMoreWrong : ChangeSpec := { name := "glossesMore", fn := fun _ => fun
  | [d1, d2, d3] => { results := [.lit (.bool false)], args := [d1, d2, d3] }
  | _ => none }
def GlossesMoreWrongFalsely : Prop := glossesMoreRow.holds Try.pinned (OpenSpec.ofChange glossesMoreWrong)

/-- 'handshapelaw02.GlossesTaken': WHATEVER THE INPUT: true; the input reads as it did. -/
def glossesTakenSpec : ChangeSpec := { name := "glossesTaken", fn := fun _ => fun
  | [d1, d2, d3] => { results := [.lit (.bool true)], args := [d1, d2, d3] }
  | _ => none }
def glossesTakenRow : OpenClaim := { program := "ytinlojealfbbfaa", sum := "59089f7274d31b59bd074fc14ee864b263afc46b7ef2edd1091b4004f7a43a3e", func := "handshape/handshapelaw02.GlossesTaken", spec := "glossesTaken", unfollowed := true, recurses := true, plainKeys := false, apart := false }
def GlossesTakenSaid : Prop := glossesTakenRow.holds Try.pinned (OpenSpec.ofChange glossesTakenSpec)

/-- ITS FALSE NEIGHBOUR: 'it returns false'. Refute it at one input. -/
def glossesTakenWrong : ChangeSpec := { name := "glossesTaken", fn := fun _ => fun
  | [d1, d2, d3] => { results := [.lit (.bool false)], args := [d1, d2, d3] }
  | _ => none }
def GlossesTakenWrongFalsely : Prop := glossesTakenRow.holds Try.pinned (OpenSpec.ofChange glossesTakenWrong)

/-- 'handshapelaw02.GlossesPair': WHATEVER THE INPUT: true; the input reads as it did. -/
def glossesPairSpec : ChangeSpec := { name := "glossesPair", fn := fun _ => fun
  | [d1, d2, d3] => { results := [.lit (.bool true)], args := [d1, d2, d3] }
  | _ => none }
def glossesPairRow : OpenClaim := { program := "ytinlojealfbbfaa", sum := "59089f7274d31b59bd074fc14ee864b263afc46b7ef2edd1091b4004f7a43a3e", func := "handshape/handshapelaw02.GlossesPair", spec := "glossesPair", unfollowed := true, recurses := true, plainKeys := false, apart := false }
def GlossesPairSaid : Prop := glossesPairRow.holds Try.pinned (OpenSpec.ofChange glossesPairSpec)

/-- ITS FALSE NEIGHBOUR: 'it returns false'. Refute it at one input. -/
def glossesPairWrong : ChangeSpec := { name := "glossesPair", fn := fun _ => fun
  | [d1, d2, d3] => { results := [.lit (.bool false)], args := [d1, d2, d3] }
  | _ => none }
def GlossesPairWrongFalsely : Prop := glossesPairRow.holds Try.pinned (OpenSpec.ofChange glossesPairWrong)

/-- 'handshapelaw02.GlossesHeld': WHATEVER THE INPUT: true; the input reads as it did. -/
def glossesHeldSpec : ChangeSpec := { name := "glossesHeld", fn := fun _ => fun
  | [d1, d2, d3] => { results := [.lit (.bool true)], args := [d1, d2, d3] }
  | _ => none }
def glossesHeldRow : OpenClaim := { program := "ytinlojealfbbfaa", sum := "59089f7274d31b59bd074fc14ee864b263afc46b7ef2edd1091b4004f7a43a3e", func := "handshape/handshapelaw02.GlossesHeld", spec := "glossesHeld", unfollowed := true, recurses := true, plainKeys := false, apart := false }
def GlossesHeldSaid : Prop := glossesHeldRow.holds Try.pinned (OpenSpec.ofChange glossesHeldSpec)

/-- ITS FALSE NEIGHBOUR: 'it returns false'. Refute it at one input. -/
def glossesHeldWrong : ChangeSpec := { name := "glossesHeld", fn := fun _ => fun
  | [d1, d2, d3] => { results := [.lit (.bool false)], args := [d1, d2, d3] }
  | _ => none }
def GlossesHeldWrongFalsely : Prop := glossesHeldRow.holds Try.pinned (OpenSpec.ofChange glossesHeldWrong)

/-- 'handshapelaw02.GlossesReads': WHATEVER THE INPUT: true; the input reads as it did. -/
def glossesReadsSpec : ChangeSpec := { name := "glossesReads", fn := fun _ => fun
  | [d1, d2, d3] => { results := [.lit (.bool true)], args := [d1, d2, d3] }
  | _ => none }
def glossesReadsRow : OpenClaim := { program := "ytinlojealfbbfaa", sum := "59089f7274d31b59bd074fc14ee864b263afc46b7ef2edd1091b4004f7a43a3e", func := "handshape/handshapelaw02.GlossesReads", spec := "glossesReads", unfollowed := true, recurses := true, plainKeys := false, apart := false }
def GlossesReadsSaid : Prop := glossesReadsRow.holds Try.pinned (OpenSpec.ofChange glossesReadsSpec)

/-- ITS FALSE NEIGHBOUR: 'it returns false'. Refute it at one input. -/
def glossesReadsWrong : ChangeSpec := { name := "glossesReads", fn := fun _ => fun
  | [d1, d2, d3] => { results := [.lit (.bool false)], args := [d1, d2, d3] }
  | _ => none }
def GlossesReadsWrongFalsely : Prop := glossesReadsRow.holds Try.pinned (OpenSpec.ofChange glossesReadsWrong)

/-- 'handshapelaw02.GlossesWhy': WHATEVER THE INPUT: true; the input reads as it did. -/
def glossesWhySpec : ChangeSpec := { name := "glossesWhy", fn := fun _ => fun
  | [d1, d2, d3] => { results := [.lit (.bool true)], args := [d1, d2, d3] }
  | _ => none }
def glossesWhyRow : OpenClaim := { program := "ytinlojealfbbfaa", sum := "59089f7274d31b59bd074fc14ee864b263afc46b7ef2edd1091b4004f7a43a3e", func := "handshape/handshapelaw02.GlossesWhy", spec := "glossesWhy", unfollowed := true, recurses := true, plainKeys := false, apart := false }
def GlossesWhySaid : Prop := glossesWhyRow.holds Try.pinned (OpenSpec.ofChange glossesWhySpec)

/-- ITS FALSE NEIGHBOUR: 'it returns false'. Refute it at one input. -/
def glossesWhyWrong : ChangeSpec := { name := "glossesWhy", fn := fun _ => fun
  | [d1, d2, d3] => { results := [.lit (.bool false)], args := [d1, d2, d3] }
  | _ => none }
def GlossesWhyWrongFalsely : Prop := glossesWhyRow.holds Try.pinned (OpenSpec.ofChange glossesWhyWrong)

/- THE SECOND FORM. 'bulk': how many values and letters a reading holds, each counted each time it is reached (what is shared counts as often as it is met; a slice's spare places count too). A statement '..UptoSaid' is the law's where the arguments, and the package variables that the reading takes, are together of bulk at most 1048576: NARROWER than '..Said'. Prove '..Said' where nothing that the law and all that it calls make is longer than what came in: it says more and counts as full. Else prove '..UptoSaid'. A law counts once. -/
mutual
def uptoBulk {H : Type} : DataW H → Nat
  | .lit (.string bytes) => bytes.length + 1
  | .lit _ => 1
  | .nil => 1
  | .ptr d => uptoBulk d + 1
  | .slice elems spare => uptoBulkAll elems + uptoBulkAll spare + 1
  | .agg parts => uptoBulkAll parts + 1
  | .iface _ d => uptoBulk d + 1
  | .map entries => uptoBulkEntries entries + 1
  | .held _ => 1
def uptoBulkAll {H : Type} : List (DataW H) → Nat
  | [] => 0
  | d :: r => uptoBulk d + uptoBulkAll r
def uptoBulkEntries {H : Type} : List (Lit × DataW H) → Nat
  | [] => 0
  | x :: r => uptoBulkEntry x + uptoBulkEntries r
def uptoBulkEntry {H : Type} : Lit × DataW H → Nat
  | (.string bytes, d) => bytes.length + uptoBulk d + 1
  | (_, d) => uptoBulk d + 1
 end
def uptoSmall : (H : Type) → List (DataW H) → Bool := fun _ ds => decide (uptoBulkAll ds ≤ 1048576)
def OpenSpec.upto (s : _root_.Go.ChangeSpec) : _root_.Go.OpenSpec := { _root_.Go.OpenSpec.ofChange s with cond := some uptoSmall }

/-- 'handshapelaw02.GlossesOrder', WHERE WHAT IT READS IS OF BULK AT MOST 1048576: true; the input reads as it did. -/
def glossesOrderUptoRow : OpenClaim := { program := "ytinlojealfbbfaa", sum := "59089f7274d31b59bd074fc14ee864b263afc46b7ef2edd1091b4004f7a43a3e", func := "handshape/handshapelaw02.GlossesOrder", spec := "glossesOrder", unfollowed := true, recurses := true, plainKeys := false, apart := false, narrowed := true }
def GlossesOrderUptoSaid : Prop := glossesOrderUptoRow.holds Try.pinned (OpenSpec.upto glossesOrderSpec)

/-- 'handshapelaw02.GlossesHeard', WHERE WHAT IT READS IS OF BULK AT MOST 1048576: true; the input reads as it did. -/
def glossesHeardUptoRow : OpenClaim := { program := "ytinlojealfbbfaa", sum := "59089f7274d31b59bd074fc14ee864b263afc46b7ef2edd1091b4004f7a43a3e", func := "handshape/handshapelaw02.GlossesHeard", spec := "glossesHeard", unfollowed := true, recurses := true, plainKeys := false, apart := false, narrowed := true }
def GlossesHeardUptoSaid : Prop := glossesHeardUptoRow.holds Try.pinned (OpenSpec.upto glossesHeardSpec)

/-- 'handshapelaw02.GlossesProof', WHERE WHAT IT READS IS OF BULK AT MOST 1048576: true; the input reads as it did. -/
def glossesProofUptoRow : OpenClaim := { program := "ytinlojealfbbfaa", sum := "59089f7274d31b59bd074fc14ee864b263afc46b7ef2edd1091b4004f7a43a3e", func := "handshape/handshapelaw02.GlossesProof", spec := "glossesProof", unfollowed := true, recurses := true, plainKeys := false, apart := false, narrowed := true }
def GlossesProofUptoSaid : Prop := glossesProofUptoRow.holds Try.pinned (OpenSpec.upto glossesProofSpec)

/-- 'handshapelaw02.GlossesMore', WHERE WHAT IT READS IS OF BULK AT MOST 1048576: true; the input reads as it did. -/
def glossesMoreUptoRow : OpenClaim := { program := "ytinlojealfbbfaa", sum := "59089f7274d31b59bd074fc14ee864b263afc46b7ef2edd1091b4004f7a43a3e", func := "handshape/handshapelaw02.GlossesMore", spec := "glossesMore", unfollowed := true, recurses := true, plainKeys := false, apart := false, narrowed := true }
def GlossesMoreUptoSaid : Prop := glossesMoreUptoRow.holds Try.pinned (OpenSpec.upto glossesMoreSpec)

/-- 'handshapelaw02.GlossesTaken', WHERE WHAT IT READS IS OF BULK AT MOST 1048576: true; the input reads as it did. -/
def glossesTakenUptoRow : OpenClaim := { program := "ytinlojealfbbfaa", sum := "59089f7274d31b59bd074fc14ee864b263afc46b7ef2edd1091b4004f7a43a3e", func := "handshape/handshapelaw02.GlossesTaken", spec := "glossesTaken", unfollowed := true, recurses := true, plainKeys := false, apart := false, narrowed := true }
def GlossesTakenUptoSaid : Prop := glossesTakenUptoRow.holds Try.pinned (OpenSpec.upto glossesTakenSpec)

/-- 'handshapelaw02.GlossesPair', WHERE WHAT IT READS IS OF BULK AT MOST 1048576: true; the input reads as it did. -/
def glossesPairUptoRow : OpenClaim := { program := "ytinlojealfbbfaa", sum := "59089f7274d31b59bd074fc14ee864b263afc46b7ef2edd1091b4004f7a43a3e", func := "handshape/handshapelaw02.GlossesPair", spec := "glossesPair", unfollowed := true, recurses := true, plainKeys := false, apart := false, narrowed := true }
def GlossesPairUptoSaid : Prop := glossesPairUptoRow.holds Try.pinned (OpenSpec.upto glossesPairSpec)

/-- 'handshapelaw02.GlossesHeld', WHERE WHAT IT READS IS OF BULK AT MOST 1048576: true; the input reads as it did. -/
def glossesHeldUptoRow : OpenClaim := { program := "ytinlojealfbbfaa", sum := "59089f7274d31b59bd074fc14ee864b263afc46b7ef2edd1091b4004f7a43a3e", func := "handshape/handshapelaw02.GlossesHeld", spec := "glossesHeld", unfollowed := true, recurses := true, plainKeys := false, apart := false, narrowed := true }
def GlossesHeldUptoSaid : Prop := glossesHeldUptoRow.holds Try.pinned (OpenSpec.upto glossesHeldSpec)

/-- 'handshapelaw02.GlossesReads', WHERE WHAT IT READS IS OF BULK AT MOST 1048576: true; the input reads as it did. -/
def glossesReadsUptoRow : OpenClaim := { program := "ytinlojealfbbfaa", sum := "59089f7274d31b59bd074fc14ee864b263afc46b7ef2edd1091b4004f7a43a3e", func := "handshape/handshapelaw02.GlossesReads", spec := "glossesReads", unfollowed := true, recurses := true, plainKeys := false, apart := false, narrowed := true }
def GlossesReadsUptoSaid : Prop := glossesReadsUptoRow.holds Try.pinned (OpenSpec.upto glossesReadsSpec)

/-- 'handshapelaw02.GlossesWhy', WHERE WHAT IT READS IS OF BULK AT MOST 1048576: true; the input reads as it did. -/
def glossesWhyUptoRow : OpenClaim := { program := "ytinlojealfbbfaa", sum := "59089f7274d31b59bd074fc14ee864b263afc46b7ef2edd1091b4004f7a43a3e", func := "handshape/handshapelaw02.GlossesWhy", spec := "glossesWhy", unfollowed := true, recurses := true, plainKeys := false, apart := false, narrowed := true }
def GlossesWhyUptoSaid : Prop := glossesWhyUptoRow.holds Try.pinned (OpenSpec.upto glossesWhySpec)

end Rows
end Go.Proofs.Ytinlojealfbbfaa
