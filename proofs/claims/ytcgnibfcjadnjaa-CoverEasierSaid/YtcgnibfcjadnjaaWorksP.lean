/- WorksP: the program answers the chapter's examples as the chapter says. -/
import Derived.Test.YtcgnibfcjadnjaaWorks
namespace Go.Proofs.Ytcgnibfcjadnjaa
open Go.RowKit

theorem ex_plan_api (h : PoolH) (w : World) (hA : PoolAt w w.heap.size h exP.i) :
    Calls Try.prog 25 #[poolN h exP] w fun e w' => ∃ A cap, e = .returned (.tuple #[.slice A 2 cap, .int .i64 72, .int .i64 0]) ∧ Ints w' w'.heap.size A [7, 17] ∧ Below w.heap.size w w' := by
  have h1 := planApi_any h exP ex_good ex_ok ex_short w hA
  rw [ex_plan] at h1
  exact h1
theorem ex_missed_api (h : PoolH) (b : Nat) (w : World) (hA : PoolAt w w.heap.size h exP.i) (hb : BlockIs w b 3 #[.int .i64 15, .int .i64 17]) :
    Calls Try.prog 33 #[poolN h exP, .slice (some ⟨b, 0, none⟩) 2 2] w fun e w' => ∃ A, e = .returned (.tuple #[.slice A 5 5, .int .i64 0]) ∧ Ints w' w'.heap.size A [2, 1, 0, 0, 1] ∧ Below w.heap.size w w' := by
  have h1 := missedApi_any h exP ex_good ex_ok ex_short (some ⟨b, 0, none⟩) 2 [15, 17] w hA (ints_block (xs := [15, 17]) hb) ex_watch
  rw [ex_missed] at h1
  refine h1.mono ?_
  rintro e w' ⟨⟨c, rfl, _, h2⟩, h3⟩
  exact ⟨_, rfl, ints_block (xs := [2, 1, 0, 0, 1]) h2, h3⟩

set_option maxRecDepth 100000 in
set_option maxHeartbeats 8000000 in
theorem works_any (w : World) : Calls Try.prog 13 #[] w fun e w' => e = .returned (.bool true) ∧ Below w.heap.size w w' := by
  go_enter Try.func13, Try.ntmps13
  go_upto_region 1 with fail
  go_wp2_with fail
  refine (example_any _).mono ?_
  rintro e w1 ⟨h, rfl, hp, hb⟩
  have HP := Lib.hid hp
  have HG1 : Hid (Grow w w1) := hb
  clear hp hb
  go_wp2_with fail
  refine (ex_plan_api h w1 HP.out).mono ?_
  rintro e w2 ⟨A, cap, rfl, hi, hb⟩
  have HI2 := Lib.hid hi
  have HG2 : Hid (Grow w w2) := Lib.hid (HG1.out.trans hb)
  clear hi hb
  go_wp2_with fail
  refine (example_any _).mono ?_
  rintro e w3 ⟨h3, rfl, hp, hb⟩
  have HP3 := Lib.hid hp
  have HG3 : Hid (Grow w2 w3) := hb
  clear hp hb
  go_wp2_with fail
  refine (ex_missed_api h3 w3.heap.size _ (HP3.out.grow (Grow.alloc _ _)) (BlockIs.new _ _ _)).mono ?_
  rintro e w5 ⟨A5, rfl, hi, hb⟩
  have HI5 := Lib.hid hi
  have HG5 : Hid (Grow w2 w5) := Lib.hid ((HG3.out.trans (Grow.alloc _ _)).trans hb)
  clear hi hb
  go_wp2_with fail
  refine (sameInts_any A (some ⟨w5.heap.size, 0, none⟩) cap 2 _ _ [7, 17] [7, 17] _ (HI2.out.below (HG5.out.trans (Grow.alloc _ _))) (ints_block (xs := [7, 17]) (BlockIs.new w5 3 #[.int .i64 7, .int .i64 17])) (by decide) (by decide)).mono ?_
  rintro e w7 ⟨rfl, n7, rfl⟩
  have hd1 : decide (([7, 17] : List Int) = [7, 17]) = true := by decide
  generalize hw7 : World.drewN (w5.alloc (.cells #[.int .i64 7, .int .i64 17] 3)) n7 = w7
  have HG7 : Hid (Grow w5 w7) := Lib.hid (by rw [← hw7]; exact Below.drewN_ (Grow.alloc _ _) _)
  clear hw7
  go_wp2_with fail
  refine (sameInts_any A5 (some ⟨w7.heap.size, 0, none⟩) 5 5 _ _ [2, 1, 0, 0, 1] [2, 1, 0, 0, 1] _ (HI5.out.below (HG7.out.trans (Grow.alloc _ _))) (ints_block (xs := [2, 1, 0, 0, 1]) (BlockIs.new w7 3 #[.int .i64 2, .int .i64 1, .int .i64 0, .int .i64 0, .int .i64 1])) (by decide) (by decide)).mono ?_
  rintro e w9 ⟨rfl, n9, rfl⟩
  have hd2 : decide (([2, 1, 0, 0, 1] : List Int) = [2, 1, 0, 0, 1]) = true := by decide
  go_wp2
  go_ret
  exact ⟨rfl, Below.drewN_ (((HG2.out.trans HG5.out).trans HG7.out).trans (Grow.alloc _ _)) _⟩

end Go.Proofs.Ytcgnibfcjadnjaa
