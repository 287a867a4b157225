/- LawM: what the laws share: errors of a paper, the next item. -/
import Derived.Test.YthehkgpnnndboaaDoorFar
import Derived.Test.YthehkgpnnndboaaDoorWorksP
namespace Go.Proofs.YthehkgpnnndboaaDoor
open Go.RowKit

theorem num_same {p : PaperR} {n most : Int} (h : inB n 0 most = true) : numErr p n most = numErr p 0 0 := by
  unfold numErr
  rw [h]
  rfl
theorem num_none {p : PaperR} (ok : okPaper p.d = true) (h : truthsL p.d = []) : numErr p 0 0 = 3 := by
  unfold numErr
  rw [ok, h]
  rfl
theorem num_some {p : PaperR} (ok : okPaper p.d = true) (h : truthsL p.d ≠ []) : numErr p 0 0 = 0 := by
  unfold numErr
  rw [ok]
  cases hl : truthsL p.d with
  | nil => exact absurd hl h
  | cons _ _ => rfl
theorem next_in {d : PaperI} (G : GoodP d) (e : Nat) : (nextD d e).1 < d.items.length ∧ (nextD d e).2 = widestD (resultsD d (nextD d e).1) e := by
  have h1 := G.i1
  obtain ⟨k, hk⟩ : ∃ k, d.items.length = k + 1 := ⟨d.items.length - 1, by omega⟩
  unfold nextD
  rw [hk]
  exact next_is d e k

end Go.Proofs.YthehkgpnnndboaaDoor
