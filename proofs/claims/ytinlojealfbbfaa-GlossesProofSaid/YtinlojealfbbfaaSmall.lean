/- Small: common, inOrder, hasFilm, hasFrame, validFilms. -/
import Derived.Test.YtinlojealfbbfaaGlossM
import Derived.Test.YtinlojealfbbfaaRegion
namespace Go.Proofs.Ytinlojealfbbfaa
open Go.RowKit

set_option maxRecDepth 100000 in
set_option maxHeartbeats 800000 in
theorem common_any (x y : GlossD) (w : World) (hx : SmallG x) (hy : SmallG y) :
    Calls Try.prog 52 #[glossV x, glossV y] w fun e w' => e = .returned (.int .i64 (commonD x y)) ∧ Below w.heap.size w w' := by
  obtain ⟨a, b, c, d, e, f⟩ := x
  obtain ⟨a', b', c', d', e', f'⟩ := y
  have HC : Hid (commonD ⟨a, b, c, d, e, f⟩ ⟨a', b', c', d', e', f'⟩ = max 0 (min e e' - max d d')) := rfl
  unfold SmallG at hx hy
  dsimp only at hx hy
  go_enter Try.func52, Try.ntmps52
  go_upto_region 1 with fail
  obtain ⟨W, hW, hg, hf, hf', hsz⟩ := two_blocks w 55 55 (cellsG ⟨a, b, c, d, e, f⟩) (cellsG ⟨a', b', c', d', e', f'⟩)
  rw [hW]
  clear hW
  have hcc := hf.cell
  have hcc' := hf'.cell
  have HG := Lib.hid hg
  clear hf hf' hg
  rcases Int.lt_or_le e' e with h1 | h1 <;> rcases Int.lt_or_le d d' with h2 | h2
  · have g1 : decide (e' < e) = true := decide_eq_true h1
    have g2 : decide (d < d') = true := decide_eq_true h2
    go_wp2
    all_goals
      go_ret
      exact ⟨congrArg (fun q => Ending.returned (Value.int .i64 q)) (by rw [HC.out]; omega), HG.out⟩
  · have g1 : decide (e' < e) = true := decide_eq_true h1
    have g2 : decide (d < d') = false := decide_eq_false (by omega)
    go_wp2
    all_goals
      go_ret
      exact ⟨congrArg (fun q => Ending.returned (Value.int .i64 q)) (by rw [HC.out]; omega), HG.out⟩
  · have g1 : decide (e' < e) = false := decide_eq_false (by omega)
    have g2 : decide (d < d') = true := decide_eq_true h2
    go_wp2
    all_goals
      go_ret
      exact ⟨congrArg (fun q => Ending.returned (Value.int .i64 q)) (by rw [HC.out]; omega), HG.out⟩
  · have g1 : decide (e' < e) = false := decide_eq_false (by omega)
    have g2 : decide (d < d') = false := decide_eq_false (by omega)
    go_wp2
    all_goals
      go_ret
      exact ⟨congrArg (fun q => Ending.returned (Value.int .i64 q)) (by rw [HC.out]; omega), HG.out⟩

set_option maxRecDepth 100000 in
set_option maxHeartbeats 2000000 in
theorem inOrder_any (x y : GlossD) (w : World) :
    Calls Try.prog 79 #[glossV x, glossV y] w fun e w' => e = .returned (.int .i64 (cmpG x y)) ∧ Grew w w' := by
  go_enter Try.func79, Try.ntmps79
  go_upto_region 1 with fail
  obtain ⟨W, hW, hWd, hg, hf, hf', hsz⟩ : ∃ W, (w.alloc (.cells (cellsG x) 55)).alloc (.cells (cellsG y) 55) = W ∧ w.drawn = W.drawn ∧ Grow w W ∧ BlockIs W w.heap.size 55 (cellsG x) ∧ BlockIs W (w.heap.size + 1) 55 (cellsG y) ∧ w.heap.size + 1 < W.heap.size := by
    obtain ⟨W, h1, h2⟩ := two_blocks w 55 55 (cellsG x) (cellsG y)
    exact ⟨W, h1, by rw [← h1]; rfl, h2⟩
  rw [hW]
  clear hW
  refine wp_region_lit 10 [[], [(0, 5)], [], [(2, 7)], [(1, 6), (3, 8)], [], [(5, 10)], [], [(7, 12)], [(6, 11), (8, 13)]] Grew (fun i v _ => match i with
      | 0 => v = .pointer (some ⟨w.heap.size, 0, none⟩) | 1 => v = .int .i64 x.author | 2 => v = .pointer (some ⟨w.heap.size + 1, 0, none⟩) | 3 => v = .int .i64 y.author | 4 => v = .int .i64 (cmpI x.author y.author)
      | 5 => v = .pointer (some ⟨w.heap.size, 1, none⟩) | 6 => v = .int .i64 x.stamp | 7 => v = .pointer (some ⟨w.heap.size + 1, 1, none⟩) | 8 => v = .int .i64 y.stamp | 9 => v = .int .i64 (cmpI x.stamp y.stamp)
      | _ => False) (by kernel_rfl) (by kernel_rfl) (fun _ _ _ => Grew.trans) Grew.refl (fun _ _ _ _ h _ => h) ?_ ?_
  · simp only [StepsLit, List.take_succ_cons, List.take_zero]
    refine ⟨?_, ?_, ?_, ?_, ?_, ?_, ?_, ?_, ?_, ?_, trivial⟩
    all_goals
      intro w1 hR
      have hfc := (hR.1.of_drew.block hf).cell
      have hgc := (hR.1.of_drew.block hf').cell
      simp only [depV, Region.wanted, cond_true]
      repeat (rintro _ rfl)
      go_simp
    all_goals first
      | exact Grew.refl _
      | (refine (cmpCompare_any _ _ _).mono ?_; rintro e w' ⟨rfl, rfl⟩; go_simp; exact Grew.refl _)
  · intro w2 hR2
    have hd2 : w.drawn ≤ w2.drawn := by rw [hWd]; exact hR2.of_drew.2
    have HG : Hid (Grew w w2) := ⟨hg.trans hR2.1.of_drew, hd2⟩
    clear hf hf' hg hR2 hWd hd2
    simp only [finVC, List.take_succ_cons, List.take_zero, List.drop_succ_cons, List.drop_zero]
    repeat (rintro _ rfl)
    simp only [Act.put, List.setIfInBounds_toArray, List.set_cons_succ, List.set_cons_zero]
    have hn : Ints (w2.alloc (.cells #[.int .i64 (cmpI x.author y.author), .int .i64 (cmpI x.stamp y.stamp)] 3)) (w2.heap.size + 1) (some ⟨w2.heap.size, 0, none⟩)
        [cmpI x.author y.author, cmpI x.stamp y.stamp] := by
      have := ints_block (xs := [cmpI x.author y.author, cmpI x.stamp y.stamp]) (BlockIs.new w2 3 #[.int .i64 (cmpI x.author y.author), .int .i64 (cmpI x.stamp y.stamp)])
      simpa using this
    have HOR := Lib.hid (cmpOr_any (some ⟨w2.heap.size, 0, none⟩) 2 _ _ _ hn (by simp))
    clear hn
    go_wp2_with (first | (go_at_call 91; refine HOR.out.mono ?_; rintro e w' ⟨rfl, rfl⟩))
    go_ret
    exact ⟨rfl, HG.out.trans (Grew.alloc _ _)⟩

set_option maxRecDepth 100000 in
set_option maxHeartbeats 800000 in
theorem hasFilm_any (f : FilmsR) (m h : RowG) (k : Int) (w : World) (hl : f.d.frames.length ≤ 1000000) :
    Calls Try.prog 43 #[notesV f m h, .int .i64 k] w fun e w' => e = .returned (.bool (inB k 0 (f.d.frames.length - 1))) ∧ Below w.heap.size w w' := by
  have HW := Lib.hid (fun w0 => within_any k 0 (f.d.frames.length - 1) w0)
  generalize inB k 0 (f.d.frames.length - 1) = b at HW ⊢
  go_enter Try.func43, Try.ntmps43
  go_upto_region 1 with fail
  obtain ⟨W, hW, hg, hf, hsz⟩ := one_block w 71 (cellsN f m h)
  rw [hW]
  clear hW
  have hcc := hf.cell
  have HG := Lib.hid hg
  clear hf hg
  go_wp2_with fail
  refine (HW.out _).mono ?_
  rintro e w2 ⟨rfl, rfl⟩
  go_wp2
  go_ret
  exact ⟨rfl, HG.out⟩

set_option maxRecDepth 100000 in
set_option maxHeartbeats 800000 in
theorem outside_any (x : Int) (w : World) :
    Calls Try.prog 72 #[.int .i64 x] w fun e w' => e = .returned (.bool (!inB x 1 200)) ∧ w = w' := by
  have HW := Lib.hid (fun w0 => within_any x 1 200 w0)
  generalize inB x 1 200 = b at HW ⊢
  go_enter Try.func72, Try.ntmps72
  go_wp2_with fail
  refine (HW.out _).mono ?_
  rintro e w2 ⟨rfl, rfl⟩
  go_wp2
  go_ret
  exact ⟨rfl, rfl⟩

end Go.Proofs.Ytinlojealfbbfaa
