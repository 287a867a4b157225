/-
  NARROWER THAN 'FOR EVERY INPUT', by the rows' own cells (each row's printed sentence says how): ExamsRanges: laid · ExamsNext: laid · ExamsShows: laid · ExamsRanks: laid · ExamsSure: laid · ExamsShown: laid · ExamsMore: laid · ExamsFewest: laid · ExamsMarked: laid · ExamsRanked: laid.
  DERIVED. THE GIVEN ROWS OF THIS SEAT. 10 by the template 'for every input the law returns true; each argument reads behind the call as it read before'; 0 by the template 'total and deterministic' (their statements: YthehkgpnnndboaaDoorTotals.lean).
  GIVEN WITH THE SEED: the statements are not yours to turn. If you find one false, say at which input.
  Laid BY PROGRAM, IN A SANDBOX (cutbox-rows.mjs): the forced cells as the released guide's own fill.sh prints them over the translation e8ec14cca54ab08b… (all of the seat's roots in one cut). By AI agents, Wed Nov 11 2026. No macro, syntax, notation, axiom, sorry.
-/
import Derived.Test.YthehkgpnnndboaaDoorChecked
import GoSem.Claim
import GoSem.ClaimJoined
import GoSem.ClaimMapViews
import Derived.JoinedTies
import Derived.KernelRfl
namespace Go.Proofs.YthehkgpnnndboaaDoor
/- THE CELL 'sum', in the pinned program and in every row, IS THE sha256 OF THE DUMP (.gsa) THAT YthehkgpnnndboaaDoorProg.lean LOADS. Nothing in Lean hashes anything: it is a label: what it is worth is what the hold of that sum in a sandbox is worth. -/
noncomputable def Tryd.pinned : Pinned := { name := "ythehkgpnnndboaadoor", sum := "e8ec14cca54ab08b349eda737281711ad11609c083375ffc78e088755e354f6f", checked := Tryd.checked }
namespace Rows
def none {H : Type} : Left H := { results := [], args := [] }

/- WHAT THE LISTED PACKAGE-LEVEL VARIABLES READ AS WHEN THE CALL BEGINS. Each datum BY PROGRAM (the guide's laid-datum.mjs) off the statement by which the dump's own 'gosem.cut.vars' lays the variable. In a bare row this is a premise. The card (YthehkgpnnndboaaDoorCards.lean) ties it to the program's text. -/
def laid_handshape_exams_nothing {H : Type} : DataW H := .agg [.lit (.int .i64 1201), .lit (.int .i64 (-1))]

/-- 'handshapelaw09.ExamsRanges': WHATEVER THE INPUT: true; the input reads as it did. -/
def examsRangesSpec : ChangeSpec := { name := "examsRanges", fn := fun _ => fun
  | [d] => { results := [.lit (.bool true)], args := [d] }
  | _ => none }
def examsRangesRow : OpenClaim := { program := "ythehkgpnnndboaadoor", sum := "e8ec14cca54ab08b349eda737281711ad11609c083375ffc78e088755e354f6f", func := "handshape/handshapelaw09.ExamsRanges", spec := "examsRanges", unfollowed := true, recurses := true, named := ["handshape/exams.nothing"], apart := false, laid := [("handshape/exams.nothing", laid_handshape_exams_nothing)] }
def ExamsRangesSaid : Prop := examsRangesRow.holds Tryd.pinned (OpenSpec.ofChange examsRangesSpec)

/-- ITS FALSE NEIGHBOUR: 'it returns false'. Refute it at one input. -/
def examsRangesWrong : ChangeSpec := { name := "examsRanges", fn := fun _ => fun
  | [d] => { results := [.lit (.bool false)], args := [d] }
  | _ => none }
def ExamsRangesWrongFalsely : Prop := examsRangesRow.holds Tryd.pinned (OpenSpec.ofChange examsRangesWrong)

/-- 'handshapelaw09.ExamsNext': WHATEVER THE INPUT: true; the input reads as it did. -/
def examsNextSpec : ChangeSpec := { name := "examsNext", fn := fun _ => fun
  | [d1, d2] => { results := [.lit (.bool true)], args := [d1, d2] }
  | _ => none }
def examsNextRow : OpenClaim := { program := "ythehkgpnnndboaadoor", sum := "e8ec14cca54ab08b349eda737281711ad11609c083375ffc78e088755e354f6f", func := "handshape/handshapelaw09.ExamsNext", spec := "examsNext", unfollowed := true, recurses := true, named := ["handshape/exams.nothing"], apart := false, laid := [("handshape/exams.nothing", laid_handshape_exams_nothing)] }
def ExamsNextSaid : Prop := examsNextRow.holds Tryd.pinned (OpenSpec.ofChange examsNextSpec)

/-- ITS FALSE NEIGHBOUR: 'it returns false'. Refute it at one input. -/
def examsNextWrong : ChangeSpec := { name := "examsNext", fn := fun _ => fun
  | [d1, d2] => { results := [.lit (.bool false)], args := [d1, d2] }
  | _ => none }
def ExamsNextWrongFalsely : Prop := examsNextRow.holds Tryd.pinned (OpenSpec.ofChange examsNextWrong)

/-- 'handshapelaw09.ExamsShows': WHATEVER THE INPUT: true; the input reads as it did. -/
def examsShowsSpec : ChangeSpec := { name := "examsShows", fn := fun _ => fun
  | [d1, d2] => { results := [.lit (.bool true)], args := [d1, d2] }
  | _ => none }
def examsShowsRow : OpenClaim := { program := "ythehkgpnnndboaadoor", sum := "e8ec14cca54ab08b349eda737281711ad11609c083375ffc78e088755e354f6f", func := "handshape/handshapelaw09.ExamsShows", spec := "examsShows", unfollowed := true, recurses := true, named := ["handshape/exams.nothing"], apart := false, laid := [("handshape/exams.nothing", laid_handshape_exams_nothing)] }
def ExamsShowsSaid : Prop := examsShowsRow.holds Tryd.pinned (OpenSpec.ofChange examsShowsSpec)

/-- ITS FALSE NEIGHBOUR: 'it returns false'. Refute it at one input. -/
def examsShowsWrong : ChangeSpec := { name := "examsShows", fn := fun _ => fun
  | [d1, d2] => { results := [.lit (.bool false)], args := [d1, d2] }
  | _ => none }
def ExamsShowsWrongFalsely : Prop := examsShowsRow.holds Tryd.pinned (OpenSpec.ofChange examsShowsWrong)

/-- 'handshapelaw09.ExamsRanks': WHATEVER THE INPUT: true; the input reads as it did. -/
def examsRanksSpec : ChangeSpec := { name := "examsRanks", fn := fun _ => fun
  | [d] => { results := [.lit (.bool true)], args := [d] }
  | _ => none }
def examsRanksRow : OpenClaim := { program := "ythehkgpnnndboaadoor", sum := "e8ec14cca54ab08b349eda737281711ad11609c083375ffc78e088755e354f6f", func := "handshape/handshapelaw09.ExamsRanks", spec := "examsRanks", unfollowed := true, recurses := true, named := ["handshape/exams.nothing"], apart := false, laid := [("handshape/exams.nothing", laid_handshape_exams_nothing)] }
def ExamsRanksSaid : Prop := examsRanksRow.holds Tryd.pinned (OpenSpec.ofChange examsRanksSpec)

/-- ITS FALSE NEIGHBOUR: 'it returns false'. Refute it at one input. -/
def examsRanksWrong : ChangeSpec := { name := "examsRanks", fn := fun _ => fun
  | [d] => { results := [.lit (.bool false)], args := [d] }
  | _ => none }
def ExamsRanksWrongFalsely : Prop := examsRanksRow.holds Tryd.pinned (OpenSpec.ofChange examsRanksWrong)

/-- 'handshapelaw09.ExamsSure': WHATEVER THE INPUT: true; the input reads as it did. -/
def examsSureSpec : ChangeSpec := { name := "examsSure", fn := fun _ => fun
  | [d1, d2] => { results := [.lit (.bool true)], args := [d1, d2] }
  | _ => none }
def examsSureRow : OpenClaim := { program := "ythehkgpnnndboaadoor", sum := "e8ec14cca54ab08b349eda737281711ad11609c083375ffc78e088755e354f6f", func := "handshape/handshapelaw09.ExamsSure", spec := "examsSure", unfollowed := true, recurses := true, named := ["handshape/exams.nothing"], apart := false, laid := [("handshape/exams.nothing", laid_handshape_exams_nothing)] }
def ExamsSureSaid : Prop := examsSureRow.holds Tryd.pinned (OpenSpec.ofChange examsSureSpec)

/-- ITS FALSE NEIGHBOUR: 'it returns false'. Refute it at one input. -/
def examsSureWrong : ChangeSpec := { name := "examsSure", fn := fun _ => fun
  | [d1, d2] => { results := [.lit (.bool false)], args := [d1, d2] }
  | _ => none }
def ExamsSureWrongFalsely : Prop := examsSureRow.holds Tryd.pinned (OpenSpec.ofChange examsSureWrong)

/-- 'handshapelaw09.ExamsShown': WHATEVER THE INPUT: true; the input reads as it did. -/
def examsShownSpec : ChangeSpec := { name := "examsShown", fn := fun _ => fun
  | [d1, d2] => { results := [.lit (.bool true)], args := [d1, d2] }
  | _ => none }
def examsShownRow : OpenClaim := { program := "ythehkgpnnndboaadoor", sum := "e8ec14cca54ab08b349eda737281711ad11609c083375ffc78e088755e354f6f", func := "handshape/handshapelaw09.ExamsShown", spec := "examsShown", unfollowed := true, recurses := true, named := ["handshape/exams.nothing"], apart := false, laid := [("handshape/exams.nothing", laid_handshape_exams_nothing)] }
def ExamsShownSaid : Prop := examsShownRow.holds Tryd.pinned (OpenSpec.ofChange examsShownSpec)

/-- ITS FALSE NEIGHBOUR: 'it returns false'. Refute it at one input. -/
def examsShownWrong : ChangeSpec := { name := "examsShown", fn := fun _ => fun
  | [d1, d2] => { results := [.lit (.bool false)], args := [d1, d2] }
  | _ => none }
def ExamsShownWrongFalsely : Prop := examsShownRow.holds Tryd.pinned (OpenSpec.ofChange examsShownWrong)

/-- 'handshapelaw09.ExamsMore': WHATEVER THE INPUT: true; the input reads as it did. -/
def examsMoreSpec : ChangeSpec := { name := "examsMore", fn := fun _ => fun
  | [d1, d2] => { results := [.lit (.bool true)], args := [d1, d2] }
  | _ => none }
def examsMoreRow : OpenClaim := { program := "ythehkgpnnndboaadoor", sum := "e8ec14cca54ab08b349eda737281711ad11609c083375ffc78e088755e354f6f", func := "handshape/handshapelaw09.ExamsMore", spec := "examsMore", unfollowed := true, recurses := true, named := ["handshape/exams.nothing"], apart := false, laid := [("handshape/exams.nothing", laid_handshape_exams_nothing)] }
def ExamsMoreSaid : Prop := examsMoreRow.holds Tryd.pinned (OpenSpec.ofChange examsMoreSpec)

/-- ITS FALSE NEIGHBOUR: 'it returns false'. Refute it at one input. -/
def examsMoreWrong : ChangeSpec := { name := "examsMore", fn := fun _ => fun
  | [d1, d2] => { results := [.lit (.bool false)], args := [d1, d2] }
  | _ => none }
def ExamsMoreWrongFalsely : Prop := examsMoreRow.holds Tryd.pinned (OpenSpec.ofChange examsMoreWrong)

/-- 'handshapelaw09.ExamsFewest': WHATEVER THE INPUT: true; the input reads as it did. -/
def examsFewestSpec : ChangeSpec := { name := "examsFewest", fn := fun _ => fun
  | [d1, d2, d3] => { results := [.lit (.bool true)], args := [d1, d2, d3] }
  | _ => none }
def examsFewestRow : OpenClaim := { program := "ythehkgpnnndboaadoor", sum := "e8ec14cca54ab08b349eda737281711ad11609c083375ffc78e088755e354f6f", func := "handshape/handshapelaw09.ExamsFewest", spec := "examsFewest", unfollowed := true, recurses := true, named := ["handshape/exams.nothing"], apart := false, laid := [("handshape/exams.nothing", laid_handshape_exams_nothing)] }
def ExamsFewestSaid : Prop := examsFewestRow.holds Tryd.pinned (OpenSpec.ofChange examsFewestSpec)

/-- ITS FALSE NEIGHBOUR: 'it returns false'. Refute it at one input. -/
def examsFewestWrong : ChangeSpec := { name := "examsFewest", fn := fun _ => fun
  | [d1, d2, d3] => { results := [.lit (.bool false)], args := [d1, d2, d3] }
  | _ => none }
def ExamsFewestWrongFalsely : Prop := examsFewestRow.holds Tryd.pinned (OpenSpec.ofChange examsFewestWrong)

/-- 'handshapelaw09.ExamsMarked': WHATEVER THE INPUT: true; the input reads as it did. -/
def examsMarkedSpec : ChangeSpec := { name := "examsMarked", fn := fun _ => fun
  | [d1, d2] => { results := [.lit (.bool true)], args := [d1, d2] }
  | _ => none }
def examsMarkedRow : OpenClaim := { program := "ythehkgpnnndboaadoor", sum := "e8ec14cca54ab08b349eda737281711ad11609c083375ffc78e088755e354f6f", func := "handshape/handshapelaw09.ExamsMarked", spec := "examsMarked", unfollowed := true, recurses := true, named := ["handshape/exams.nothing"], apart := false, laid := [("handshape/exams.nothing", laid_handshape_exams_nothing)] }
def ExamsMarkedSaid : Prop := examsMarkedRow.holds Tryd.pinned (OpenSpec.ofChange examsMarkedSpec)

/-- ITS FALSE NEIGHBOUR: 'it returns false'. Refute it at one input. -/
def examsMarkedWrong : ChangeSpec := { name := "examsMarked", fn := fun _ => fun
  | [d1, d2] => { results := [.lit (.bool false)], args := [d1, d2] }
  | _ => none }
def ExamsMarkedWrongFalsely : Prop := examsMarkedRow.holds Tryd.pinned (OpenSpec.ofChange examsMarkedWrong)

/-- 'handshapelaw09.ExamsRanked': WHATEVER THE INPUT: true; the input reads as it did. -/
def examsRankedSpec : ChangeSpec := { name := "examsRanked", fn := fun _ => fun
  | [d1, d2] => { results := [.lit (.bool true)], args := [d1, d2] }
  | _ => none }
def examsRankedRow : OpenClaim := { program := "ythehkgpnnndboaadoor", sum := "e8ec14cca54ab08b349eda737281711ad11609c083375ffc78e088755e354f6f", func := "handshape/handshapelaw09.ExamsRanked", spec := "examsRanked", unfollowed := true, recurses := true, named := ["handshape/exams.nothing"], apart := false, laid := [("handshape/exams.nothing", laid_handshape_exams_nothing)] }
def ExamsRankedSaid : Prop := examsRankedRow.holds Tryd.pinned (OpenSpec.ofChange examsRankedSpec)

/-- ITS FALSE NEIGHBOUR: 'it returns false'. Refute it at one input. -/
def examsRankedWrong : ChangeSpec := { name := "examsRanked", fn := fun _ => fun
  | [d1, d2] => { results := [.lit (.bool false)], args := [d1, d2] }
  | _ => none }
def ExamsRankedWrongFalsely : Prop := examsRankedRow.holds Tryd.pinned (OpenSpec.ofChange examsRankedWrong)

/- THE SECOND FORM. 'bulk': how many values and letters a reading holds, each counted each time it is reached (what is shared counts as often as it is met; a slice's spare places count too). A statement '..UptoSaid' is the law's where the arguments, and the package variables that the reading takes, are together of bulk at most 1048576: NARROWER than '..Said'. Prove '..Said' where nothing that the law and all that it calls make is longer than what came in: it says more and counts as full. Else prove '..UptoSaid'. A law counts once. -/
mutual
def uptoBulk {H : Type} : DataW H → Nat
  | .lit (.string bytes) => bytes.length + 1
  | .lit _ => 1
  | .nil => 1
  | .ptr d => uptoBulk d + 1
  | .slice elems spare => uptoBulkAll elems + uptoBulkAll spare + 1
  | .agg parts => uptoBulkAll parts + 1
  | .iface _ d => uptoBulk d + 1
  | .map entries => uptoBulkEntries entries + 1
  | .held _ => 1
def uptoBulkAll {H : Type} : List (DataW H) → Nat
  | [] => 0
  | d :: r => uptoBulk d + uptoBulkAll r
def uptoBulkEntries {H : Type} : List (Lit × DataW H) → Nat
  | [] => 0
  | x :: r => uptoBulkEntry x + uptoBulkEntries r
def uptoBulkEntry {H : Type} : Lit × DataW H → Nat
  | (.string bytes, d) => bytes.length + uptoBulk d + 1
  | (_, d) => uptoBulk d + 1
 end
def uptoSmall : (H : Type) → List (DataW H) → Bool := fun _ ds => decide (uptoBulkAll ds ≤ 1048576)
def OpenSpec.upto (s : _root_.Go.ChangeSpec) : _root_.Go.OpenSpec := { _root_.Go.OpenSpec.ofChange s with cond := some uptoSmall }

/-- 'handshapelaw09.ExamsRanges', WHERE WHAT IT READS IS OF BULK AT MOST 1048576: true; the input reads as it did. -/
def examsRangesUptoRow : OpenClaim := { program := "ythehkgpnnndboaadoor", sum := "e8ec14cca54ab08b349eda737281711ad11609c083375ffc78e088755e354f6f", func := "handshape/handshapelaw09.ExamsRanges", spec := "examsRanges", unfollowed := true, recurses := true, named := ["handshape/exams.nothing"], apart := false, laid := [("handshape/exams.nothing", laid_handshape_exams_nothing)], narrowed := true }
def ExamsRangesUptoSaid : Prop := examsRangesUptoRow.holds Tryd.pinned (OpenSpec.upto examsRangesSpec)

/-- 'handshapelaw09.ExamsNext', WHERE WHAT IT READS IS OF BULK AT MOST 1048576: true; the input reads as it did. -/
def examsNextUptoRow : OpenClaim := { program := "ythehkgpnnndboaadoor", sum := "e8ec14cca54ab08b349eda737281711ad11609c083375ffc78e088755e354f6f", func := "handshape/handshapelaw09.ExamsNext", spec := "examsNext", unfollowed := true, recurses := true, named := ["handshape/exams.nothing"], apart := false, laid := [("handshape/exams.nothing", laid_handshape_exams_nothing)], narrowed := true }
def ExamsNextUptoSaid : Prop := examsNextUptoRow.holds Tryd.pinned (OpenSpec.upto examsNextSpec)

/-- 'handshapelaw09.ExamsShows', WHERE WHAT IT READS IS OF BULK AT MOST 1048576: true; the input reads as it did. -/
def examsShowsUptoRow : OpenClaim := { program := "ythehkgpnnndboaadoor", sum := "e8ec14cca54ab08b349eda737281711ad11609c083375ffc78e088755e354f6f", func := "handshape/handshapelaw09.ExamsShows", spec := "examsShows", unfollowed := true, recurses := true, named := ["handshape/exams.nothing"], apart := false, laid := [("handshape/exams.nothing", laid_handshape_exams_nothing)], narrowed := true }
def ExamsShowsUptoSaid : Prop := examsShowsUptoRow.holds Tryd.pinned (OpenSpec.upto examsShowsSpec)

/-- 'handshapelaw09.ExamsRanks', WHERE WHAT IT READS IS OF BULK AT MOST 1048576: true; the input reads as it did. -/
def examsRanksUptoRow : OpenClaim := { program := "ythehkgpnnndboaadoor", sum := "e8ec14cca54ab08b349eda737281711ad11609c083375ffc78e088755e354f6f", func := "handshape/handshapelaw09.ExamsRanks", spec := "examsRanks", unfollowed := true, recurses := true, named := ["handshape/exams.nothing"], apart := false, laid := [("handshape/exams.nothing", laid_handshape_exams_nothing)], narrowed := true }
def ExamsRanksUptoSaid : Prop := examsRanksUptoRow.holds Tryd.pinned (OpenSpec.upto examsRanksSpec)

/-- 'handshapelaw09.ExamsSure', WHERE WHAT IT READS IS OF BULK AT MOST 1048576: true; the input reads as it did. -/
def examsSureUptoRow : OpenClaim := { program := "ythehkgpnnndboaadoor", sum := "e8ec14cca54ab08b349eda737281711ad11609c083375ffc78e088755e354f6f", func := "handshape/handshapelaw09.ExamsSure", spec := "examsSure", unfollowed := true, recurses := true, named := ["handshape/exams.nothing"], apart := false, laid := [("handshape/exams.nothing", laid_handshape_exams_nothing)], narrowed := true }
def ExamsSureUptoSaid : Prop := examsSureUptoRow.holds Tryd.pinned (OpenSpec.upto examsSureSpec)

/-- 'handshapelaw09.ExamsShown', WHERE WHAT IT READS IS OF BULK AT MOST 1048576: true; the input reads as it did. -/
def examsShownUptoRow : OpenClaim := { program := "ythehkgpnnndboaadoor", sum := "e8ec14cca54ab08b349eda737281711ad11609c083375ffc78e088755e354f6f", func := "handshape/handshapelaw09.ExamsShown", spec := "examsShown", unfollowed := true, recurses := true, named := ["handshape/exams.nothing"], apart := false, laid := [("handshape/exams.nothing", laid_handshape_exams_nothing)], narrowed := true }
def ExamsShownUptoSaid : Prop := examsShownUptoRow.holds Tryd.pinned (OpenSpec.upto examsShownSpec)

/-- 'handshapelaw09.ExamsMore', WHERE WHAT IT READS IS OF BULK AT MOST 1048576: true; the input reads as it did. -/
def examsMoreUptoRow : OpenClaim := { program := "ythehkgpnnndboaadoor", sum := "e8ec14cca54ab08b349eda737281711ad11609c083375ffc78e088755e354f6f", func := "handshape/handshapelaw09.ExamsMore", spec := "examsMore", unfollowed := true, recurses := true, named := ["handshape/exams.nothing"], apart := false, laid := [("handshape/exams.nothing", laid_handshape_exams_nothing)], narrowed := true }
def ExamsMoreUptoSaid : Prop := examsMoreUptoRow.holds Tryd.pinned (OpenSpec.upto examsMoreSpec)

/-- 'handshapelaw09.ExamsFewest', WHERE WHAT IT READS IS OF BULK AT MOST 1048576: true; the input reads as it did. -/
def examsFewestUptoRow : OpenClaim := { program := "ythehkgpnnndboaadoor", sum := "e8ec14cca54ab08b349eda737281711ad11609c083375ffc78e088755e354f6f", func := "handshape/handshapelaw09.ExamsFewest", spec := "examsFewest", unfollowed := true, recurses := true, named := ["handshape/exams.nothing"], apart := false, laid := [("handshape/exams.nothing", laid_handshape_exams_nothing)], narrowed := true }
def ExamsFewestUptoSaid : Prop := examsFewestUptoRow.holds Tryd.pinned (OpenSpec.upto examsFewestSpec)

/-- 'handshapelaw09.ExamsMarked', WHERE WHAT IT READS IS OF BULK AT MOST 1048576: true; the input reads as it did. -/
def examsMarkedUptoRow : OpenClaim := { program := "ythehkgpnnndboaadoor", sum := "e8ec14cca54ab08b349eda737281711ad11609c083375ffc78e088755e354f6f", func := "handshape/handshapelaw09.ExamsMarked", spec := "examsMarked", unfollowed := true, recurses := true, named := ["handshape/exams.nothing"], apart := false, laid := [("handshape/exams.nothing", laid_handshape_exams_nothing)], narrowed := true }
def ExamsMarkedUptoSaid : Prop := examsMarkedUptoRow.holds Tryd.pinned (OpenSpec.upto examsMarkedSpec)

/-- 'handshapelaw09.ExamsRanked', WHERE WHAT IT READS IS OF BULK AT MOST 1048576: true; the input reads as it did. -/
def examsRankedUptoRow : OpenClaim := { program := "ythehkgpnnndboaadoor", sum := "e8ec14cca54ab08b349eda737281711ad11609c083375ffc78e088755e354f6f", func := "handshape/handshapelaw09.ExamsRanked", spec := "examsRanked", unfollowed := true, recurses := true, named := ["handshape/exams.nothing"], apart := false, laid := [("handshape/exams.nothing", laid_handshape_exams_nothing)], narrowed := true }
def ExamsRankedUptoSaid : Prop := examsRankedUptoRow.holds Tryd.pinned (OpenSpec.upto examsRankedSpec)

end Rows
end Go.Proofs.YthehkgpnnndboaaDoor
