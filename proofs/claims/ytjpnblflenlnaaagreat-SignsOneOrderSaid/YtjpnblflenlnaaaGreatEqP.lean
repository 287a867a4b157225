/- '==' on pairs. -/
import Derived.Test.YtjpnblflenlnaaaGreatMem
import Derived.ChangeKeysEq
namespace Go.Proofs.YtjpnblflenlnaaaGreat
open Go.RowKit

theorem cellsOf_int : Tryz.prog.cellsOf 3 = 1 := by kernel_rfl
theorem infoInt_ : ∃ i, Tryz.prog.info? 3 = some i := by
  have : (Tryz.prog.info? 3).isSome = true := by kernel_rfl
  exact Option.isSome_iff_exists.1 this
theorem run_eqP (a b c d : Int) (w : World) : (Op.equalIn 10000 76 (.agg #[.int .i64 a, .int .i64 b]) (.agg #[.int .i64 c, .int .i64 d])).run Tryz.prog w = .ok (decide (a = c ∧ b = d)) w := by
  obtain ⟨i, hi⟩ := infoInt_
  rw [run_equalIn_array (P := Tryz.prog) (w := w) 9999 (e := 3) (n := 2) (i := i) _ _ Tryz.underlying76 hi, cellsOf_int]
  have h2 : List.range 2 = [0, 1] := by decide
  rw [h2]
  by_cases h1 : a = c
  · by_cases h2 : b = d
    · subst h1 h2; simp [Op.eqItems, go_sem]
    · subst h1; simp [Op.eqItems, go_sem, h2]
  · simp [Op.eqItems, go_sem, h1]

end Go.Proofs.YtjpnblflenlnaaaGreat
