/-
  No cell of these rows narrows 'for every input' (looked for: loops, veiled, ifaces, maps, wideKeys, modest, calm, conditions, laid).
  DERIVED. THE GIVEN ROWS OF THIS SEAT. 8 by the template 'for every input the law returns true; each argument reads behind the call as it read before'; 0 by the template 'total and deterministic' (their statements: YtcgnibfcjadnjaaTotals.lean).
  GIVEN WITH THE SEED: the statements are not yours to turn. If you find one false, say at which input.
  Laid BY PROGRAM, IN A SANDBOX (cutbox-rows.mjs): the forced cells as the released guide's own fill.sh prints them over the translation 383acb0a63483194… (all of the seat's roots in one cut). By AI agents, Wed Nov 11 2026. No macro, syntax, notation, axiom, sorry.
-/
import Derived.Test.YtcgnibfcjadnjaaChecked
import GoSem.Claim
import GoSem.ClaimJoined
import GoSem.ClaimMapViews
import Derived.JoinedTies
import Derived.KernelRfl
namespace Go.Proofs.Ytcgnibfcjadnjaa
/- THE CELL 'sum', in the pinned program and in every row, IS THE sha256 OF THE DUMP (.gsa) THAT YtcgnibfcjadnjaaProg.lean LOADS. Nothing in Lean hashes anything: it is a label: what it is worth is what the hold of that sum in a sandbox is worth. -/
noncomputable def Try.pinned : Pinned := { name := "ytcgnibfcjadnjaa", sum := "383acb0a63483194d9e882968fa4d5442ef0e8f6f95af6997de502da313d3ffc", checked := Try.checked }
namespace Rows
def none {H : Type} : Left H := { results := [], args := [] }

/-- 'handshapelaw10.CoverIll': WHATEVER THE INPUT: true; the input reads as it did. -/
def coverIllSpec : ChangeSpec := { name := "coverIll", fn := fun _ => fun
  | [d1, d2, d3] => { results := [.lit (.bool true)], args := [d1, d2, d3] }
  | _ => none }
def coverIllRow : OpenClaim := { program := "ytcgnibfcjadnjaa", sum := "383acb0a63483194d9e882968fa4d5442ef0e8f6f95af6997de502da313d3ffc", func := "handshape/handshapelaw10.CoverIll", spec := "coverIll", unfollowed := true, recurses := true, plainKeys := false, apart := false }
def CoverIllSaid : Prop := coverIllRow.holds Try.pinned (OpenSpec.ofChange coverIllSpec)

/-- ITS FALSE NEIGHBOUR: 'it returns false'. Refute it at one input. -/
def coverIllWrong : ChangeSpec := { name := "coverIll", fn := fun _ => fun
  | [d1, d2, d3] => { results := [.lit (.bool false)], args := [d1, d2, d3] }
  | _ => none }
def CoverIllWrongFalsely : Prop := coverIllRow.holds Try.pinned (OpenSpec.ofChange coverIllWrong)

/-- 'handshapelaw10.CoverServed': WHATEVER THE INPUT: true; the input reads as it did. -/
def coverServedSpec : ChangeSpec := { name := "coverServed", fn := fun _ => fun
  | [d1, d2, d3] => { results := [.lit (.bool true)], args := [d1, d2, d3] }
  | _ => none }
def coverServedRow : OpenClaim := { program := "ytcgnibfcjadnjaa", sum := "383acb0a63483194d9e882968fa4d5442ef0e8f6f95af6997de502da313d3ffc", func := "handshape/handshapelaw10.CoverServed", spec := "coverServed", unfollowed := true, recurses := true, plainKeys := false, apart := false }
def CoverServedSaid : Prop := coverServedRow.holds Try.pinned (OpenSpec.ofChange coverServedSpec)

/-- ITS FALSE NEIGHBOUR: 'it returns false'. Refute it at one input. -/
def coverServedWrong : ChangeSpec := { name := "coverServed", fn := fun _ => fun
  | [d1, d2, d3] => { results := [.lit (.bool false)], args := [d1, d2, d3] }
  | _ => none }
def CoverServedWrongFalsely : Prop := coverServedRow.holds Try.pinned (OpenSpec.ofChange coverServedWrong)

/-- 'handshapelaw10.CoverCheapest': WHATEVER THE INPUT: true; the input reads as it did. -/
def coverCheapestSpec : ChangeSpec := { name := "coverCheapest", fn := fun _ => fun
  | [d1, d2] => { results := [.lit (.bool true)], args := [d1, d2] }
  | _ => none }
def coverCheapestRow : OpenClaim := { program := "ytcgnibfcjadnjaa", sum := "383acb0a63483194d9e882968fa4d5442ef0e8f6f95af6997de502da313d3ffc", func := "handshape/handshapelaw10.CoverCheapest", spec := "coverCheapest", unfollowed := true, recurses := true, plainKeys := false, apart := false }
def CoverCheapestSaid : Prop := coverCheapestRow.holds Try.pinned (OpenSpec.ofChange coverCheapestSpec)

/-- ITS FALSE NEIGHBOUR: 'it returns false'. Refute it at one input. -/
def coverCheapestWrong : ChangeSpec := { name := "coverCheapest", fn := fun _ => fun
  | [d1, d2] => { results := [.lit (.bool false)], args := [d1, d2] }
  | _ => none }
def CoverCheapestWrongFalsely : Prop := coverCheapestRow.holds Try.pinned (OpenSpec.ofChange coverCheapestWrong)

/-- 'handshapelaw10.CoverEasier': WHATEVER THE INPUT: true; the input reads as it did. -/
def coverEasierSpec : ChangeSpec := { name := "coverEasier", fn := fun _ => fun
  | [d1, d2] => { results := [.lit (.bool true)], args := [d1, d2] }
  | _ => none }
def coverEasierRow : OpenClaim := { program := "ytcgnibfcjadnjaa", sum := "383acb0a63483194d9e882968fa4d5442ef0e8f6f95af6997de502da313d3ffc", func := "handshape/handshapelaw10.CoverEasier", spec := "coverEasier", unfollowed := true, recurses := true, plainKeys := false, apart := false }
def CoverEasierSaid : Prop := coverEasierRow.holds Try.pinned (OpenSpec.ofChange coverEasierSpec)

/-- ITS FALSE NEIGHBOUR: 'it returns false'. Refute it at one input. -/
def coverEasierWrong : ChangeSpec := { name := "coverEasier", fn := fun _ => fun
  | [d1, d2] => { results := [.lit (.bool false)], args := [d1, d2] }
  | _ => none }
def CoverEasierWrongFalsely : Prop := coverEasierRow.holds Try.pinned (OpenSpec.ofChange coverEasierWrong)

/-- 'handshapelaw10.CoverMore': WHATEVER THE INPUT: true; the input reads as it did. -/
def coverMoreSpec : ChangeSpec := { name := "coverMore", fn := fun _ => fun
  | [d1, d2, d3] => { results := [.lit (.bool true)], args := [d1, d2, d3] }
  | _ => none }
def coverMoreRow : OpenClaim := { program := "ytcgnibfcjadnjaa", sum := "383acb0a63483194d9e882968fa4d5442ef0e8f6f95af6997de502da313d3ffc", func := "handshape/handshapelaw10.CoverMore", spec := "coverMore", unfollowed := true, recurses := true, plainKeys := false, apart := false }
def CoverMoreSaid : Prop := coverMoreRow.holds Try.pinned (OpenSpec.ofChange coverMoreSpec)

/-- ITS FALSE NEIGHBOUR: 'it returns false'. Refute it at one input. -/
def coverMoreWrong : ChangeSpec := { name := "coverMore", fn := fun _ => fun
  | [d1, d2, d3] => { results := [.lit (.bool false)], args := [d1, d2, d3] }
  | _ => none }
def CoverMoreWrongFalsely : Prop := coverMoreRow.holds Try.pinned (OpenSpec.ofChange coverMoreWrong)

/-- 'handshapelaw10.CoverReady': WHATEVER THE INPUT: true; the input reads as it did. -/
def coverReadySpec : ChangeSpec := { name := "coverReady", fn := fun _ => fun
  | [d1, d2] => { results := [.lit (.bool true)], args := [d1, d2] }
  | _ => none }
def coverReadyRow : OpenClaim := { program := "ytcgnibfcjadnjaa", sum := "383acb0a63483194d9e882968fa4d5442ef0e8f6f95af6997de502da313d3ffc", func := "handshape/handshapelaw10.CoverReady", spec := "coverReady", unfollowed := true, recurses := true, plainKeys := false, apart := false }
def CoverReadySaid : Prop := coverReadyRow.holds Try.pinned (OpenSpec.ofChange coverReadySpec)

/-- ITS FALSE NEIGHBOUR: 'it returns false'. Refute it at one input. -/
def coverReadyWrong : ChangeSpec := { name := "coverReady", fn := fun _ => fun
  | [d1, d2] => { results := [.lit (.bool false)], args := [d1, d2] }
  | _ => none }
def CoverReadyWrongFalsely : Prop := coverReadyRow.holds Try.pinned (OpenSpec.ofChange coverReadyWrong)

/-- 'handshapelaw10.CoverSafe': WHATEVER THE INPUT: true; the input reads as it did. -/
def coverSafeSpec : ChangeSpec := { name := "coverSafe", fn := fun _ => fun
  | [d1, d2, d3] => { results := [.lit (.bool true)], args := [d1, d2, d3] }
  | _ => none }
def coverSafeRow : OpenClaim := { program := "ytcgnibfcjadnjaa", sum := "383acb0a63483194d9e882968fa4d5442ef0e8f6f95af6997de502da313d3ffc", func := "handshape/handshapelaw10.CoverSafe", spec := "coverSafe", unfollowed := true, recurses := true, plainKeys := false, apart := false }
def CoverSafeSaid : Prop := coverSafeRow.holds Try.pinned (OpenSpec.ofChange coverSafeSpec)

/-- ITS FALSE NEIGHBOUR: 'it returns false'. Refute it at one input. -/
def coverSafeWrong : ChangeSpec := { name := "coverSafe", fn := fun _ => fun
  | [d1, d2, d3] => { results := [.lit (.bool false)], args := [d1, d2, d3] }
  | _ => none }
def CoverSafeWrongFalsely : Prop := coverSafeRow.holds Try.pinned (OpenSpec.ofChange coverSafeWrong)

/-- 'handshapelaw10.CoverPlans': WHATEVER THE INPUT: true; the input reads as it did. -/
def coverPlansSpec : ChangeSpec := { name := "coverPlans", fn := fun _ => fun
  | [d1, d2] => { results := [.lit (.bool true)], args := [d1, d2] }
  | _ => none }
def coverPlansRow : OpenClaim := { program := "ytcgnibfcjadnjaa", sum := "383acb0a63483194d9e882968fa4d5442ef0e8f6f95af6997de502da313d3ffc", func := "handshape/handshapelaw10.CoverPlans", spec := "coverPlans", unfollowed := true, recurses := true, plainKeys := false, apart := false }
def CoverPlansSaid : Prop := coverPlansRow.holds Try.pinned (OpenSpec.ofChange coverPlansSpec)

/-- ITS FALSE NEIGHBOUR: 'it returns false'. Refute it at one input. -/
def coverPlansWrong : ChangeSpec := { name := "coverPlans", fn := fun _ => fun
  | [d1, d2] => { results := [.lit (.bool false)], args := [d1, d2] }
  | _ => none }
def CoverPlansWrongFalsely : Prop := coverPlansRow.holds Try.pinned (OpenSpec.ofChange coverPlansWrong)

/- THE SECOND FORM. 'bulk': how many values and letters a reading holds, each counted each time it is reached (what is shared counts as often as it is met; a slice's spare places count too). A statement '..UptoSaid' is the law's where the arguments, and the package variables that the reading takes, are together of bulk at most 1048576: NARROWER than '..Said'. Prove '..Said' where nothing that the law and all that it calls make is longer than what came in: it says more and counts as full. Else prove '..UptoSaid'. A law counts once. -/
mutual
def uptoBulk {H : Type} : DataW H → Nat
  | .lit (.string bytes) => bytes.length + 1
  | .lit _ => 1
  | .nil => 1
  | .ptr d => uptoBulk d + 1
  | .slice elems spare => uptoBulkAll elems + uptoBulkAll spare + 1
  | .agg parts => uptoBulkAll parts + 1
  | .iface _ d => uptoBulk d + 1
  | .map entries => uptoBulkEntries entries + 1
  | .held _ => 1
def uptoBulkAll {H : Type} : List (DataW H) → Nat
  | [] => 0
  | d :: r => uptoBulk d + uptoBulkAll r
def uptoBulkEntries {H : Type} : List (Lit × DataW H) → Nat
  | [] => 0
  | x :: r => uptoBulkEntry x + uptoBulkEntries r
def uptoBulkEntry {H : Type} : Lit × DataW H → Nat
  | (.string bytes, d) => bytes.length + uptoBulk d + 1
  | (_, d) => uptoBulk d + 1
 end
def uptoSmall : (H : Type) → List (DataW H) → Bool := fun _ ds => decide (uptoBulkAll ds ≤ 1048576)
def OpenSpec.upto (s : _root_.Go.ChangeSpec) : _root_.Go.OpenSpec := { _root_.Go.OpenSpec.ofChange s with cond := some uptoSmall }

/-- 'handshapelaw10.CoverIll', WHERE WHAT IT READS IS OF BULK AT MOST 1048576: true; the input reads as it did. -/
def coverIllUptoRow : OpenClaim := { program := "ytcgnibfcjadnjaa", sum := "383acb0a63483194d9e882968fa4d5442ef0e8f6f95af6997de502da313d3ffc", func := "handshape/handshapelaw10.CoverIll", spec := "coverIll", unfollowed := true, recurses := true, plainKeys := false, apart := false, narrowed := true }
def CoverIllUptoSaid : Prop := coverIllUptoRow.holds Try.pinned (OpenSpec.upto coverIllSpec)

/-- 'handshapelaw10.CoverServed', WHERE WHAT IT READS IS OF BULK AT MOST 1048576: true; the input reads as it did. -/
def coverServedUptoRow : OpenClaim := { program := "ytcgnibfcjadnjaa", sum := "383acb0a63483194d9e882968fa4d5442ef0e8f6f95af6997de502da313d3ffc", func := "handshape/handshapelaw10.CoverServed", spec := "coverServed", unfollowed := true, recurses := true, plainKeys := false, apart := false, narrowed := true }
def CoverServedUptoSaid : Prop := coverServedUptoRow.holds Try.pinned (OpenSpec.upto coverServedSpec)

/-- 'handshapelaw10.CoverCheapest', WHERE WHAT IT READS IS OF BULK AT MOST 1048576: true; the input reads as it did. -/
def coverCheapestUptoRow : OpenClaim := { program := "ytcgnibfcjadnjaa", sum := "383acb0a63483194d9e882968fa4d5442ef0e8f6f95af6997de502da313d3ffc", func := "handshape/handshapelaw10.CoverCheapest", spec := "coverCheapest", unfollowed := true, recurses := true, plainKeys := false, apart := false, narrowed := true }
def CoverCheapestUptoSaid : Prop := coverCheapestUptoRow.holds Try.pinned (OpenSpec.upto coverCheapestSpec)

/-- 'handshapelaw10.CoverEasier', WHERE WHAT IT READS IS OF BULK AT MOST 1048576: true; the input reads as it did. -/
def coverEasierUptoRow : OpenClaim := { program := "ytcgnibfcjadnjaa", sum := "383acb0a63483194d9e882968fa4d5442ef0e8f6f95af6997de502da313d3ffc", func := "handshape/handshapelaw10.CoverEasier", spec := "coverEasier", unfollowed := true, recurses := true, plainKeys := false, apart := false, narrowed := true }
def CoverEasierUptoSaid : Prop := coverEasierUptoRow.holds Try.pinned (OpenSpec.upto coverEasierSpec)

/-- 'handshapelaw10.CoverMore', WHERE WHAT IT READS IS OF BULK AT MOST 1048576: true; the input reads as it did. -/
def coverMoreUptoRow : OpenClaim := { program := "ytcgnibfcjadnjaa", sum := "383acb0a63483194d9e882968fa4d5442ef0e8f6f95af6997de502da313d3ffc", func := "handshape/handshapelaw10.CoverMore", spec := "coverMore", unfollowed := true, recurses := true, plainKeys := false, apart := false, narrowed := true }
def CoverMoreUptoSaid : Prop := coverMoreUptoRow.holds Try.pinned (OpenSpec.upto coverMoreSpec)

/-- 'handshapelaw10.CoverReady', WHERE WHAT IT READS IS OF BULK AT MOST 1048576: true; the input reads as it did. -/
def coverReadyUptoRow : OpenClaim := { program := "ytcgnibfcjadnjaa", sum := "383acb0a63483194d9e882968fa4d5442ef0e8f6f95af6997de502da313d3ffc", func := "handshape/handshapelaw10.CoverReady", spec := "coverReady", unfollowed := true, recurses := true, plainKeys := false, apart := false, narrowed := true }
def CoverReadyUptoSaid : Prop := coverReadyUptoRow.holds Try.pinned (OpenSpec.upto coverReadySpec)

/-- 'handshapelaw10.CoverSafe', WHERE WHAT IT READS IS OF BULK AT MOST 1048576: true; the input reads as it did. -/
def coverSafeUptoRow : OpenClaim := { program := "ytcgnibfcjadnjaa", sum := "383acb0a63483194d9e882968fa4d5442ef0e8f6f95af6997de502da313d3ffc", func := "handshape/handshapelaw10.CoverSafe", spec := "coverSafe", unfollowed := true, recurses := true, plainKeys := false, apart := false, narrowed := true }
def CoverSafeUptoSaid : Prop := coverSafeUptoRow.holds Try.pinned (OpenSpec.upto coverSafeSpec)

/-- 'handshapelaw10.CoverPlans', WHERE WHAT IT READS IS OF BULK AT MOST 1048576: true; the input reads as it did. -/
def coverPlansUptoRow : OpenClaim := { program := "ytcgnibfcjadnjaa", sum := "383acb0a63483194d9e882968fa4d5442ef0e8f6f95af6997de502da313d3ffc", func := "handshape/handshapelaw10.CoverPlans", spec := "coverPlans", unfollowed := true, recurses := true, plainKeys := false, apart := false, narrowed := true }
def CoverPlansUptoSaid : Prop := coverPlansUptoRow.holds Try.pinned (OpenSpec.upto coverPlansSpec)

end Rows
end Go.Proofs.Ytcgnibfcjadnjaa
