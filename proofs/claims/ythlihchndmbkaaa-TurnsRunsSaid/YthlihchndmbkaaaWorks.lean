/- Works: the laws' look at the examples. -/
import Derived.Test.YthlihchndmbkaaaPlanApi
import Derived.Test.YthlihchndmbkaaaExample
namespace Go.Proofs.Ythlihchndmbkaaa
open Go.RowKit

abbrev rowE : Array Value := #[.int .i64 1, .int .i64 1, .int .i64 0, .int .i64 0]
theorem rowE_ints {w : World} {b : Nat} (h : BlockIs w b 3 rowE) : Ints w w.heap.size (some ⟨b, 0, none⟩) [1, 1, 0, 0] := by
  refine .inr ⟨b, 0, rfl, h.lt, fun i x hi => ?_⟩
  rw [h.cell]
  match i, hi with
  | 0, hi | 1, hi | 2, hi | 3, hi =>
    obtain rfl := Option.some.inj hi
    rfl
theorem example_planV {lo : Nat} {v m : Value} {er : Int} {w : World} (h : PlanApiV exampleT lo v m er w) : ∃ b off cap, v = .slice (some ⟨b, off, none⟩) 4 cap ∧ IntsFc w lo (some ⟨b, off, none⟩) cap [1, 1, 0, 0] ∧ m = .int .i64 15 ∧ er = 0 := by
  unfold PlanApiV at h
  rw [if_pos example_ok, example_plan] at h
  exact h

set_option maxRecDepth 100000 in
set_option maxHeartbeats 8000000 in
theorem works_any (w : World) : Calls Try.prog 12 #[] w fun e w' => e = .returned (.bool true) ∧ Below w.heap.size w w' := by
  go_enter Try.func12, Try.ntmps12
  go_wp2_with fail
  refine (example_any _).mono ?_
  rintro e w1 ⟨a1, b1, rfl, hg1, ht1⟩
  have HG1 := Lib.hid hg1
  have HP := Lib.hid (planApi_any _ _ w1 ht1 (Nat.le_refl _))
  clear hg1 ht1
  go_wp2_with fail
  refine HP.out.mono ?_
  rintro e w2 ⟨v, m, er, rfl, hpv, hb2⟩
  have HG2 : Hid (Grow w w2) := HG1.out.trans hb2
  obtain ⟨b, off, cap, rfl, hF, rfl, rfl⟩ := example_planV hpv
  have HF := Lib.hid hF
  clear hpv hb2 hF HP
  go_wp2_with fail
  refine (example_any _).mono ?_
  rintro e w3 ⟨a3, b3, rfl, hg3, ht3⟩
  have HT3 := Lib.hid ht3
  have HF3 := Lib.hid (HF.out.grow hg3)
  have HG3 : Hid (Grow w w3) := HG2.out.trans hg3
  clear hg3 ht3
  have hnew : BlockIs (w3.alloc (.cells rowE 3)) w3.heap.size 3 rowE := BlockIs.new _ _ _
  have hm := mistakes_any ⟨exampleT, some ⟨a3, 0, none⟩, 2, some ⟨b3, 0, none⟩, 4⟩ [1, 1, 0, 0] (some ⟨w3.heap.size, 0, none⟩) 4 _ (w3.alloc (.cells rowE 3)) ((HT3.out.below (Grow.alloc _ _)).more (Grow.alloc _ _).size) (rowE_ints hnew) (Nat.le_refl _)
  rw [example_mist] at hm
  have HM := Lib.hid hm
  have HG4 : Hid (Grow w (w3.alloc (.cells rowE 3))) := Lib.hid (HG3.out.trans (Grow.alloc _ _))
  have HF4 := Lib.hid (HF3.out.grow (Grow.alloc w3 (.cells rowE 3)))
  clear hm hnew
  go_wp2_with fail
  refine HM.out.mono ?_
  rintro e w5 ⟨rfl, hb5⟩
  have HG5 : Hid (Grow w w5) := HG4.out.trans hb5
  have HF5 := Lib.hid (HF4.out.grow hb5)
  have hnew : BlockIs (w5.alloc (.cells rowE 3)) w5.heap.size 3 rowE := BlockIs.new _ _ _
  have HS := Lib.hid (sameInts_any (some ⟨b, off, none⟩) (some ⟨w5.heap.size, 0, none⟩) cap 4 _ _ [1, 1, 0, 0] [1, 1, 0, 0] (w5.alloc (.cells rowE 3)) (HF5.out.grow (Grow.alloc w5 (.cells rowE 3))).1.ints (rowE_ints hnew) (by simp) (by simp))
  clear hb5 hnew
  go_wp2_with fail
  refine HS.out.mono ?_
  rintro e w6 ⟨rfl, nd, rfl⟩
  have HG6 : Hid (Grow w ((w5.alloc (.cells rowE 3)).drewN nd)) := Lib.hid (Below.drewN_ (HG5.out.trans (Grow.alloc _ _)) nd)
  generalize (w5.alloc (.cells rowE 3)).drewN nd = w6 at HG6 ⊢
  go_wp2
  go_ret
  exact ⟨ret_bool (by simp), HG6.out⟩

end Go.Proofs.Ythlihchndmbkaaa
