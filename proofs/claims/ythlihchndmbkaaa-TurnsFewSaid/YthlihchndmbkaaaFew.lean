/- Few: TurnsFew: the law's walk. -/
import Derived.Test.YthlihchndmbkaaaFewA
import Derived.Test.YthlihchndmbkaaaFewB
namespace Go.Proofs.Ythlihchndmbkaaa
open Go.RowKit

theorem turnsFew_any (t : TaskR) (most other : Int) (w : World) (ht : TaskAt w w.heap.size t) (hob : other < 9223372036854775808) :
    Calls Try.prog 7 #[taskV t, .int .i64 most, .int .i64 other] w fun e w' => e = .returned (.bool true) ∧ Below w.heap.size w w' := by
  by_cases hP : validD t.d = true ∧ 0 ≤ most
  · cases hfd : fewD t.d most with
    | none => exact few_none t most other w ht hob hP.1 hP.2 hfd
    | some p => exact few_some t most other w ht hob hP.1 hP.2 p.1 p.2 hfd
  · exact few_early t most other w ht hob hP

end Go.Proofs.Ythlihchndmbkaaa
