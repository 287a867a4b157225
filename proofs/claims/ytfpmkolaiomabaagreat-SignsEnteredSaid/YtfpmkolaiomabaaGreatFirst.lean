/- The specification's order of forms. -/
import Derived.Test.YtfpmkolaiomabaaGreatForms
import Derived.Deep.QuietTactic
import Derived.BigQuiet
namespace Go.Proofs.YtfpmkolaiomabaaGreat
open Go.RowKit

set_option maxRecDepth 100000 in
set_option maxHeartbeats 2000000 in
theorem rFirst_any (f g : FormD) (A A' : Option Addr) (cap cap' : Nat) (w : World) (hA : Ints w w.heap.size A f.moves) (hA' : Ints w w.heap.size A' g.moves) (hf : okForm f = true) (hg : okForm g = true) :
    Calls Tryz.prog 53 #[formV f A cap, formV g A' cap'] w fun e w' => e = .returned (.int .i64 (cmpF f g)) ∧ Below w.heap.size w w' := by
  have hbx : ∀ (j : Nat) (x : Int), (fieldsL f)[j]? = some x → -31 ≤ x ∧ x ≤ 31 := fun j x hx => okForm_field hf j x hx
  have hby : ∀ (j : Nat) (x : Int), (fieldsL g)[j]? = some x → -31 ≤ x ∧ x ≤ 31 := fun j x hx => okForm_field hg j x hx
  have hmx : ∀ (j : Nat) (x : Int), f.moves[j]? = some x → 0 ≤ x ∧ x ≤ 7 := fun j x hx => okForm_move hf j x hx
  have hmy : ∀ (j : Nat) (x : Int), g.moves[j]? = some x → 0 ≤ x ∧ x ≤ 7 := fun j x hx => okForm_move hg j x hx
  have hl := okForm_len hf
  have hl' := okForm_len hg
  have hlx : (fieldsL f).length = 5 := rfl
  have hly : (fieldsL g).length = 5 := rfl
  clear hf hg
  go_enter Tryz.func53, Tryz.ntmps53
  go_wp2
  obtain ⟨W, hW, hWb, bf, bg, hX, hY, hsz⟩ : ∃ W, ((((w.alloc (Obj.cells #[.int .i64 f.right, .int .i64 f.left, .int .i64 f.column, .int .i64 f.row, .int .i64 f.face, .slice A f.moves.length cap] 24)).alloc
      (Obj.cells #[.int .i64 g.right, .int .i64 g.left, .int .i64 g.column, .int .i64 g.row, .int .i64 g.face, .slice A' g.moves.length cap'] 24)).alloc
      (Obj.cells #[.int .i64 f.row, .int .i64 f.column, .int .i64 f.right, .int .i64 f.left, .int .i64 f.face] 3)).alloc
      (Obj.cells #[.int .i64 g.row, .int .i64 g.column, .int .i64 g.right, .int .i64 g.left, .int .i64 g.face] 3)) = W ∧ Below w.heap.size w W ∧
      BlockIs W w.heap.size 24 #[.int .i64 f.right, .int .i64 f.left, .int .i64 f.column, .int .i64 f.row, .int .i64 f.face, .slice A f.moves.length cap] ∧
      BlockIs W (w.heap.size + 1) 24 #[.int .i64 g.right, .int .i64 g.left, .int .i64 g.column, .int .i64 g.row, .int .i64 g.face, .slice A' g.moves.length cap'] ∧
      BlockIs W (w.heap.size + 1 + 1) 3 #[.int .i64 f.row, .int .i64 f.column, .int .i64 f.right, .int .i64 f.left, .int .i64 f.face] ∧
      BlockIs W (w.heap.size + 1 + 1 + 1) 3 #[.int .i64 g.row, .int .i64 g.column, .int .i64 g.right, .int .i64 g.left, .int .i64 g.face] ∧ w.heap.size + 1 + 1 + 1 < W.heap.size := by
    refine ⟨_, rfl, by (repeat (first | (with_reducible exact Below.refl _ _) | (with_reducible assumption) | (with_reducible refine Below.drewN_ ?_ _) | (with_reducible refine Below.drew ?_) | (with_reducible refine Below.alloc ?_ (by first | omega | (simp <;> omega)) _) | (with_reducible refine Below.setCell ?_ (by first | omega | (simp <;> omega)) _))), (((BlockIs.new _ _ _).old _).old _).old _, ?_, ?_, ?_, by simp⟩
    · have h := ((BlockIs.new (w.alloc (Obj.cells #[.int .i64 f.right, .int .i64 f.left, .int .i64 f.column, .int .i64 f.row, .int .i64 f.face, .slice A f.moves.length cap] 24)) 24 #[.int .i64 g.right, .int .i64 g.left, .int .i64 g.column, .int .i64 g.row, .int .i64 g.face, .slice A' g.moves.length cap']).old (Obj.cells #[.int .i64 f.row, .int .i64 f.column, .int .i64 f.right, .int .i64 f.left, .int .i64 f.face] 3)).old (Obj.cells #[.int .i64 g.row, .int .i64 g.column, .int .i64 g.right, .int .i64 g.left, .int .i64 g.face] 3)
      simpa using h
    · have h := ((BlockIs.new ((w.alloc (Obj.cells #[.int .i64 f.right, .int .i64 f.left, .int .i64 f.column, .int .i64 f.row, .int .i64 f.face, .slice A f.moves.length cap] 24)).alloc (Obj.cells #[.int .i64 g.right, .int .i64 g.left, .int .i64 g.column, .int .i64 g.row, .int .i64 g.face, .slice A' g.moves.length cap'] 24)) 3 #[.int .i64 f.row, .int .i64 f.column, .int .i64 f.right, .int .i64 f.left, .int .i64 f.face])).old (Obj.cells #[.int .i64 g.row, .int .i64 g.column, .int .i64 g.right, .int .i64 g.left, .int .i64 g.face] 3)
      simpa using h
    · have h := BlockIs.new (((w.alloc (Obj.cells #[.int .i64 f.right, .int .i64 f.left, .int .i64 f.column, .int .i64 f.row, .int .i64 f.face, .slice A f.moves.length cap] 24)).alloc (Obj.cells #[.int .i64 g.right, .int .i64 g.left, .int .i64 g.column, .int .i64 g.row, .int .i64 g.face, .slice A' g.moves.length cap'] 24)).alloc (Obj.cells #[.int .i64 f.row, .int .i64 f.column, .int .i64 f.right, .int .i64 f.left, .int .i64 f.face] 3)) 3 #[.int .i64 g.row, .int .i64 g.column, .int .i64 g.right, .int .i64 g.left, .int .i64 g.face]
      simpa using h
  rw [hW]
  clear hW
  have hXI : Ints W W.heap.size (some ⟨w.heap.size + 1 + 1, 0, none⟩) (fieldsL f) := ints_block (xs := fieldsL f) hX
  have hYI : Ints W W.heap.size (some ⟨w.heap.size + 1 + 1 + 1, 0, none⟩) (fieldsL g) := ints_block (xs := fieldsL g) hY
  clear hX hY
  have hAW := hA.below hWb
  have hAW' := hA'.below hWb
  clear hA hA'
  obtain ⟨b3, e3⟩ : ∃ b, w.heap.size + 1 + 1 = b := ⟨_, rfl⟩
  obtain ⟨b4, e4⟩ : ∃ b, w.heap.size + 1 + 1 + 1 = b := ⟨_, rfl⟩
  rw [e4] at hsz hYI ⊢
  rw [e3] at hXI ⊢
  clear e3 e4
  go_loopw [7] (fun i wr => ∃ k n : Nat, agreeL (fieldsL f) (fieldsL g) k ∧ i = .int .i64 k ∧ wr = W.drewN n) (fun i _ => 5 - (intOf i).toNat)
  case atStart => exact ⟨0, 0, agreeL_zero _ _, rfl, rfl⟩
  case round =>
    obtain ⟨k, n, hag, rfl, rfl⟩ := hrel
    have hk := hag.1
    rw [hlx] at hk
    have HG := Lib.hid hag
    clear hag
    by_cases hlt : k < 5
    · obtain ⟨b, off, x, hh, hb, hc, HX⟩ := hXI.at_ (k := k) (by rw [hlx]; exact hlt)
      obtain ⟨b', off', y, hh', hb', hc', HY⟩ := hYI.at_ (k := k) (by rw [hly]; exact hlt)
      injection hh with hh
      injection hh with e1 e2
      injection hh' with hh'
      injection hh' with e1' e2'
      subst e1 e2 e1' e2'
      obtain ⟨x1, x2⟩ := hbx k x HX.out
      obtain ⟨y1, y2⟩ := hby k y HY.out
      have hk0 : (0 : Int) ≤ k := by omega
      have hk5 : (k : Int) < 5 := by omega
      have hwr : IntKind.i64.wrap (x - y) = x - y := IntWalk.i64_in _ (by omega)
      rw [Nat.zero_add] at hc hc'
      clear hXI hYI hAW hAW' hbx hby hmx hmy hlx hly
      go_wp2
      go_quiet (fail)
      go_wp2
      · go_quiet ((go_at_call 85; exact quiet_left_add (rsign_any _ _)))
        go_wp2
        go_ret
        exact ⟨ret_int (by rw [cmpI_sub]; exact (cmpF_diff HG.out HX.out HY.out (by simpa using ‹(x != y) = true›)).symm), by have := hWb; (repeat (first | (with_reducible exact Below.refl _ _) | (with_reducible assumption) | (with_reducible refine Below.drewN_ ?_ _) | (with_reducible refine Below.drew ?_) | (with_reducible refine Below.alloc ?_ (by first | omega | (simp <;> omega)) _) | (with_reducible refine Below.setCell ?_ (by first | omega | (simp <;> omega)) _)))⟩
      · go_roundw
        case rel => exact ⟨k + 1, _, agreeL_succ HG.out HX.out HY.out (by simpa using ‹(x != y) = false›), by go_num, rfl⟩
        case measure => simp [intOf]; omega
    · obtain rfl : k = 5 := by omega
      clear hXI hYI hbx hby
      have hff : fieldsL f = fieldsL g := agreeL_all HG.out rfl
      have HFF := Lib.hid hff
      clear hff HG
      have cf : W.cell? ⟨w.heap.size, 5, none⟩ = some (.slice A f.moves.length cap) := bf.cell 5
      have cg : W.cell? ⟨w.heap.size + 1, 5, none⟩ = some (.slice A' g.moves.length cap') := bg.cell 5
      clear bf bg
      go_wp2
      go_loopw [8] (fun i wr => ∃ k n : Nat, agreeL f.moves g.moves k ∧ i = .int .i64 k ∧ wr = W.drewN n) (fun i _ => f.moves.length - (intOf i).toNat)
      case atStart => exact ⟨0, n, agreeL_zero _ _, rfl, rfl⟩
      case round =>
        obtain ⟨k, n, hag, rfl, rfl⟩ := hrel
        have hk := hag.1
        have hk' := hag.2.1
        have HG := Lib.hid hag
        clear hag
        by_cases hlt : k < f.moves.length
        · by_cases hlt' : k < g.moves.length
          · obtain ⟨b, off, x, rfl, hb, hc, HX⟩ := hAW.at_ hlt
            obtain ⟨b', off', y, rfl, hb', hc', HY⟩ := hAW'.at_ hlt'
            obtain ⟨x1, x2⟩ := hmx k x HX.out
            obtain ⟨y1, y2⟩ := hmy k y HY.out
            have hk0 : (0 : Int) ≤ k := by omega
            have hi1 : (k : Int) < f.moves.length := by omega
            have hi2 : (k : Int) < g.moves.length := by omega
            have hwr : IntKind.i64.wrap (x - y) = x - y := IntWalk.i64_in _ (by omega)
            clear hAW hAW' hmx hmy
            go_wp2
            go_quiet (fail)
            go_wp2
            · go_quiet ((go_at_call 85; exact quiet_left_add (rsign_any _ _)))
              go_wp2
              go_ret
              have hne : x ≠ y := by simpa using ‹(x != y) = true›
              exact ⟨ret_int (by rw [cmpI_sub, cmpF_moves HFF.out]; exact (cmpL_diff HG.out HX.out HY.out (fun h => hne (cmpI_eq0 h))).symm), by have := hWb; (repeat (first | (with_reducible exact Below.refl _ _) | (with_reducible assumption) | (with_reducible refine Below.drewN_ ?_ _) | (with_reducible refine Below.drew ?_) | (with_reducible refine Below.alloc ?_ (by first | omega | (simp <;> omega)) _) | (with_reducible refine Below.setCell ?_ (by first | omega | (simp <;> omega)) _)))⟩
            · go_roundw
              case rel => exact ⟨k + 1, _, agreeL_succ HG.out HX.out HY.out (by simpa using ‹(x != y) = false›), by go_num, rfl⟩
              case measure => simp [intOf]; omega
          · have hwr : IntKind.i64.wrap ((f.moves.length : Int) - g.moves.length) = (f.moves.length : Int) - g.moves.length := IntWalk.i64_in _ (by omega)
            have HE : Hid (k = f.moves.length ∨ k = g.moves.length) := .inr (by omega)
            clear hAW hAW' hmx hmy
            go_wp2_with (first | (go_at_call 85; refine (rsign_any _ _).mono ?_; rintro e w' ⟨rfl, rfl⟩))
            go_ret
            exact ⟨ret_int (by rw [cmpI_sub, cmpF_moves HFF.out]; exact (cmpL_end HG.out HE.out).symm), by have := hWb; (repeat (first | (with_reducible exact Below.refl _ _) | (with_reducible assumption) | (with_reducible refine Below.drewN_ ?_ _) | (with_reducible refine Below.drew ?_) | (with_reducible refine Below.alloc ?_ (by first | omega | (simp <;> omega)) _) | (with_reducible refine Below.setCell ?_ (by first | omega | (simp <;> omega)) _)))⟩
        · have hwr : IntKind.i64.wrap ((f.moves.length : Int) - g.moves.length) = (f.moves.length : Int) - g.moves.length := IntWalk.i64_in _ (by omega)
          have HE : Hid (k = f.moves.length ∨ k = g.moves.length) := .inl (by omega)
          clear hAW hAW' hmx hmy
          go_wp2_with (first | (go_at_call 85; refine (rsign_any _ _).mono ?_; rintro e w' ⟨rfl, rfl⟩))
          go_ret
          exact ⟨ret_int (by rw [cmpI_sub, cmpF_moves HFF.out]; exact (cmpL_end HG.out HE.out).symm), by have := hWb; (repeat (first | (with_reducible exact Below.refl _ _) | (with_reducible assumption) | (with_reducible refine Below.drewN_ ?_ _) | (with_reducible refine Below.drew ?_) | (with_reducible refine Below.alloc ?_ (by first | omega | (simp <;> omega)) _) | (with_reducible refine Below.setCell ?_ (by first | omega | (simp <;> omega)) _)))⟩

end Go.Proofs.YtfpmkolaiomabaaGreat
