/- PlanD: mathematics of turns.task.plan: the search as a function, and the laws' example. -/
import Derived.Test.YthlihchndmbkaaaMist
import Derived.Test.YthlihchndmbkaaaMay
namespace Go.Proofs.Ythlihchndmbkaaa
open Go.RowKit

abbrev BestD := Option (List Int × Int)
/-- the search under one beginning of a rota; n: how many parts are left -/
def buildD (t : TaskD) : Nat → List Int → StD → BestD → BestD
  | 0, first, s, best => match best with
    | some (r, m) => if m ≤ s.mis then some (r, m) else some (first, s.mis)
    | none => some (first, s.mis)
  | n + 1, first, s, best =>
    let go := (List.range t.hands.length).foldl (fun (b : BestD) (h : Nat) => if maySignD t first h = true then buildD t n (first ++ [(h : Int)]) (signD true t s h) b else b) best
    match best with
    | some (r, m) => if m ≤ s.mis then some (r, m) else go
    | none => go
def planD (t : TaskD) : BestD := buildD t t.parts.length [] (beginD true t) none
def exampleT : TaskD := ⟨[⟨0, 2, 2, 3, 1, 2, 1⟩, ⟨0, 0, 1, 4, 2, 2, 2⟩], [1, 1, 2, 1], 2, 1, 1⟩
theorem example_ok : okTask exampleT = true := by decide
theorem example_plan : planD exampleT = some ([1, 1, 0, 0], 15) := by decide +kernel
theorem example_mist : mistD exampleT [1, 1, 0, 0] = (11, 15, 0) := by decide +kernel

end Go.Proofs.Ythlihchndmbkaaa
