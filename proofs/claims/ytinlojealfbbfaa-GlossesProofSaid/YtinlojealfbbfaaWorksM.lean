/- WorksM: the example of chapter 2, as mathematics. -/
import Derived.Test.YtinlojealfbbfaaReadApi
import Derived.Test.YtinlojealfbbfaaAgreeApi
namespace Go.Proofs.Ytinlojealfbbfaa
open Go.RowKit

def exF : FilmsD := ⟨[10, 4], 5⟩
def exL : List GlossD := [⟨0, 1, 0, 0, 6, 3⟩, ⟨1, 1, 0, 2, 8, 4⟩, ⟨2, 5, 0, 4, 10, 6⟩, ⟨0, 2, 0, 5, 7, 1⟩, ⟨1, 7, 1, 0, 4, 16⟩]
def exAll : List GlossD := [⟨0, 1, 0, 0, 6, 3⟩, ⟨0, 2, 0, 5, 7, 1⟩, ⟨1, 1, 0, 2, 8, 4⟩, ⟨1, 7, 1, 0, 4, 16⟩, ⟨2, 5, 0, 4, 10, 6⟩]
def exHeld : List GlossD := [⟨0, 2, 0, 5, 7, 1⟩, ⟨1, 1, 0, 2, 8, 4⟩, ⟨1, 7, 1, 0, 4, 16⟩, ⟨2, 5, 0, 4, 10, 6⟩]
def exRds : List RdD := [⟨2, 5, 4⟩, ⟨5, 7, 5⟩, ⟨7, 8, 4⟩, ⟨8, 10, 2⟩]
theorem ex_film : filmErr exF exL 0 = 0 := by decide +kernel
theorem ex_agree : agreeErr exF exL 1 2 = 0 := by decide +kernel
theorem ex_sorted : SortedG exL exAll := ⟨by decide +kernel, fun x => (show exAll.Perm exL by decide +kernel).mem_iff⟩
theorem ex_held : exAll.filter (holdsD exAll) = exHeld := by decide +kernel
theorem ex_sets : (List.range 10).map (setAt 5 exHeld 0) = [0, 0, 4, 4, 4, 5, 5, 4, 2, 2] := by decide +kernel
theorem ex_set {k : Nat} (h : k < 10) : setAt 5 exHeld 0 k = [0, 0, 4, 4, 4, 5, 5, 4, 2, 2].getD k 0 := by
  have e := congrArg (fun l => l.getD k 0) ex_sets
  simpa [List.getD, h] using e
theorem ex_both : bothD 1 2 exHeld = 4 := by decide +kernel
theorem ex_same : sameD 1 2 exHeld = 4 := by decide +kernel
theorem rdsTo_congr {s t : Nat → Nat} : ∀ {n : Nat}, (∀ k, k < n → s k = t k) → rdsTo s n = rdsTo t n
  | 0, _ => rfl
  | n + 1, h => by
    show rdStep (rdsTo s n) n (s n) = rdStep (rdsTo t n) n (t n)
    rw [rdsTo_congr fun k hk => h k (by omega), h n (by omega)]
theorem ex_rds : rdsTo (setAt 5 exHeld 0) 10 = exRds := by
  rw [rdsTo_congr fun k hk => ex_set hk]
  decide +kernel

end Go.Proofs.Ytinlojealfbbfaa
