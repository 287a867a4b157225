/- signs.compareForms: the order of forms. -/
import Derived.Test.YtfpmkolaiomabaaGreatForms
import Derived.Test.YtfpmkolaiomabaaGreatRegion
import Derived.Test.YtfpmkolaiomabaaGreatMem
namespace Go.Proofs.YtfpmkolaiomabaaGreat
open Go.RowKit

set_option maxRecDepth 100000 in
set_option maxHeartbeats 2000000 in
theorem compareForms_grew (f g : FormD) (A A' : Option Addr) (cap cap' : Nat) (w : World) (hA : Ints w w.heap.size A f.moves) (hA' : Ints w w.heap.size A' g.moves) (hl : f.moves.length ≤ 1000) (hl' : g.moves.length ≤ 1000) :
    Calls Tryz.prog 52 #[formV f A cap, formV g A' cap'] w fun e w' => e = .returned (.int .i64 (cmpF f g)) ∧ Grew w w' := by
  have HA := Lib.hid hA
  have HA' := Lib.hid hA'
  clear hA hA'
  go_enter Tryz.func52, Tryz.ntmps52
  go_wp2
  obtain ⟨W, hW, hWd, hWb, hf, hg, hsz⟩ : ∃ W, ((w.alloc (Obj.cells #[.int .i64 f.right, .int .i64 f.left, .int .i64 f.column, .int .i64 f.row, .int .i64 f.face, .slice A f.moves.length cap] 24)).alloc
      (Obj.cells #[.int .i64 g.right, .int .i64 g.left, .int .i64 g.column, .int .i64 g.row, .int .i64 g.face, .slice A' g.moves.length cap'] 24)) = W ∧ w.drawn = W.drawn ∧ Below w.heap.size w W ∧
      BlockIs W w.heap.size 24 #[.int .i64 f.right, .int .i64 f.left, .int .i64 f.column, .int .i64 f.row, .int .i64 f.face, .slice A f.moves.length cap] ∧
      BlockIs W (w.heap.size + 1) 24 #[.int .i64 g.right, .int .i64 g.left, .int .i64 g.column, .int .i64 g.row, .int .i64 g.face, .slice A' g.moves.length cap'] ∧ w.heap.size + 1 < W.heap.size := by
    refine ⟨_, rfl, rfl, by (repeat (first | (with_reducible exact Below.refl _ _) | (with_reducible assumption) | (with_reducible refine Below.drewN_ ?_ _) | (with_reducible refine Below.drew ?_) | (with_reducible refine Below.alloc ?_ (by first | omega | (simp <;> omega)) _) | (with_reducible refine Below.setCell ?_ (by first | omega | (simp <;> omega)) _))), (BlockIs.new _ _ _).old _, ?_, by simp⟩
    have h := BlockIs.new (w.alloc (Obj.cells #[.int .i64 f.right, .int .i64 f.left, .int .i64 f.column, .int .i64 f.row, .int .i64 f.face, .slice A f.moves.length cap] 24)) 24 #[.int .i64 g.right, .int .i64 g.left, .int .i64 g.column, .int .i64 g.row, .int .i64 g.face, .slice A' g.moves.length cap']
    simpa using h
  rw [hW]
  clear hW
  have HSC := Lib.hid (fun w1 (h : Below w.heap.size w w1) => slicesCompare_any A A' cap cap' _ _ f.moves g.moves w1 (HA.out.below h) (HA'.out.below h) (by omega) (by omega))
  refine wp_region_lit 30 [[], [(0, 5)], [], [(2, 7)], [(1, 6), (3, 8)], [], [(5, 10)], [], [(7, 12)], [(6, 11), (8, 13)], [], [(10, 15)], [], [(12, 17)], [(11, 16), (13, 18)], [], [(15, 20)], [], [(17, 22)], [(16, 21), (18, 23)], [], [(20, 25)], [], [(22, 27)], [(21, 26), (23, 28)], [], [(25, 30)], [], [(27, 32)], [(26, 31), (28, 33)]] Grew (fun i v _ => match i with
      | 0 => v = .pointer (some ⟨w.heap.size, 3, none⟩) | 1 => v = .int .i64 f.row | 2 => v = .pointer (some ⟨w.heap.size + 1, 3, none⟩) | 3 => v = .int .i64 g.row | 4 => v = .int .i64 (cmpI f.row g.row)
      | 5 => v = .pointer (some ⟨w.heap.size, 2, none⟩) | 6 => v = .int .i64 f.column | 7 => v = .pointer (some ⟨w.heap.size + 1, 2, none⟩) | 8 => v = .int .i64 g.column | 9 => v = .int .i64 (cmpI f.column g.column)
      | 10 => v = .pointer (some ⟨w.heap.size, 0, none⟩) | 11 => v = .int .i64 f.right | 12 => v = .pointer (some ⟨w.heap.size + 1, 0, none⟩) | 13 => v = .int .i64 g.right | 14 => v = .int .i64 (cmpI f.right g.right)
      | 15 => v = .pointer (some ⟨w.heap.size, 1, none⟩) | 16 => v = .int .i64 f.left | 17 => v = .pointer (some ⟨w.heap.size + 1, 1, none⟩) | 18 => v = .int .i64 g.left | 19 => v = .int .i64 (cmpI f.left g.left)
      | 20 => v = .pointer (some ⟨w.heap.size, 4, none⟩) | 21 => v = .int .i64 f.face | 22 => v = .pointer (some ⟨w.heap.size + 1, 4, none⟩) | 23 => v = .int .i64 g.face | 24 => v = .int .i64 (cmpI f.face g.face)
      | 25 => v = .pointer (some ⟨w.heap.size, 5, none⟩) | 26 => v = .slice A f.moves.length cap | 27 => v = .pointer (some ⟨w.heap.size + 1, 5, none⟩) | 28 => v = .slice A' g.moves.length cap' | 29 => v = .int .i64 (cmpL f.moves g.moves)
      | _ => False) (by kernel_rfl) (by kernel_rfl) (fun _ _ _ => Grew.trans) Grew.refl (fun _ _ _ _ h _ => h) ?_ ?_
  · simp only [StepsLit, List.take_succ_cons, List.take_zero]
    refine ⟨?_, ?_, ?_, ?_, ?_, ?_, ?_, ?_, ?_, ?_, ?_, ?_, ?_, ?_, ?_, ?_, ?_, ?_, ?_, ?_, ?_, ?_, ?_, ?_, ?_, ?_, ?_, ?_, ?_, ?_, trivial⟩
    all_goals
      intro w1 hR
      have hfc := (hR.1.of_drew.block hf).cell
      have hgc := (hR.1.of_drew.block hg).cell
      have hbw : Below w.heap.size w w1 := hWb.trans (Below.mono (show Below W.heap.size W w1 from hR.1.of_drew) (by omega))
      have HBW := Lib.hid hbw
      clear hbw
      simp only [depV, Region.wanted, cond_true]
      repeat (rintro _ rfl)
      go_simp
    all_goals first
      | exact Grew.refl _
      | (refine (cmpCompare_any _ _ _).mono ?_; rintro e w' ⟨rfl, rfl⟩; go_simp; exact Grew.refl _)
      | (refine (HSC.out _ HBW.out).mono ?_; rintro e w' ⟨rfl, rfl⟩; go_simp; exact Grew.refl _)
  · intro w2 hR2
    have hG := hR2.1.of_drew
    have hd2 : w.drawn ≤ w2.drawn := by rw [hWd]; exact hR2.of_drew.2
    have hbw : Below w.heap.size w w2 := hWb.trans (Below.mono (show Below W.heap.size W w2 from hG) (by omega))
    have HBW := Lib.hid hbw
    have HD2 := Lib.hid hd2
    clear hbw hf hg hWb hG hR2 hWd hd2
    simp only [finVC, List.take_succ_cons, List.take_zero, List.drop_succ_cons, List.drop_zero]
    repeat (rintro _ rfl)
    simp only [Act.put, List.setIfInBounds_toArray, List.set_cons_succ, List.set_cons_zero]
    have hn : Ints (w2.alloc (.cells #[.int .i64 (cmpI f.row g.row), .int .i64 (cmpI f.column g.column), .int .i64 (cmpI f.right g.right), .int .i64 (cmpI f.left g.left), .int .i64 (cmpI f.face g.face), .int .i64 (cmpL f.moves g.moves)] 3)) (w2.heap.size + 1) (some ⟨w2.heap.size, 0, none⟩)
        [cmpI f.row g.row, cmpI f.column g.column, cmpI f.right g.right, cmpI f.left g.left, cmpI f.face g.face, cmpL f.moves g.moves] := by
      refine .inr ⟨w2.heap.size, 0, rfl, by omega, fun j x hx => ?_⟩
      have hc := (BlockIs.new w2 3 #[.int .i64 (cmpI f.row g.row), .int .i64 (cmpI f.column g.column), .int .i64 (cmpI f.right g.right), .int .i64 (cmpI f.left g.left), .int .i64 (cmpI f.face g.face), .int .i64 (cmpL f.moves g.moves)]).cell (0 + j)
      rw [hc]
      have hj := lt_of_at hx
      match j, hx with
      | 0, hx | 1, hx | 2, hx | 3, hx | 4, hx | 5, hx => simp at hx ⊢; exact hx
      | j + 6, _ => exact absurd hj (by simp)
    have HOR := Lib.hid (cmpOr_any (some ⟨w2.heap.size, 0, none⟩) 6 _ _ _ hn (by simp))
    clear hn
    go_wp2_with (first | (go_at_call 58; refine HOR.out.mono ?_; rintro e w' ⟨rfl, rfl⟩))
    go_ret
    exact ⟨rfl, Grew.trans (show Grew w w2 from ⟨HBW.out, HD2.out⟩) (Grew.alloc _ _)⟩

theorem compareForms_any (f g : FormD) (A A' : Option Addr) (cap cap' : Nat) (w : World) (hA : Ints w w.heap.size A f.moves) (hA' : Ints w w.heap.size A' g.moves) (hl : f.moves.length ≤ 1000) (hl' : g.moves.length ≤ 1000) :
    Calls Tryz.prog 52 #[formV f A cap, formV g A' cap'] w fun e w' => e = .returned (.int .i64 (cmpF f g)) ∧ Below w.heap.size w w' :=
  (compareForms_grew f g A A' cap cap' w hA hA' hl hl').mono fun _ _ ⟨h, k⟩ => ⟨h, k.1⟩

end Go.Proofs.YtfpmkolaiomabaaGreat
