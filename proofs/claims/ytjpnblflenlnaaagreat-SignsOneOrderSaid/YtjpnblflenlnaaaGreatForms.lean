/- Forms: what each function on forms returns. -/
import Derived.Test.YtjpnblflenlnaaaGreatMem
import Derived.Deep.QuietTactic
import Derived.BigQuiet
namespace Go.Proofs.YtjpnblflenlnaaaGreat
open Go.RowKit

set_option maxHeartbeats 400000 in
theorem within_any (n lo hi : Int) (w : World) :
    Calls Tryz.prog 81 #[.int .i64 n, .int .i64 lo, .int .i64 hi] w fun e w' => e = .returned (.bool (inB n lo hi)) ∧ w = w' := by
  go_enter Tryz.func81, Tryz.ntmps81
  go_wp2
  all_goals go_ret
  all_goals exact ⟨by simp [inB]; omega, rfl⟩

set_option maxHeartbeats 400000 in
theorem rwithin_any (n lo hi : Int) (w : World) :
    Calls Tryz.prog 78 #[.int .i64 n, .int .i64 lo, .int .i64 hi] w fun e w' => e = .returned (.bool (inB n lo hi)) ∧ w = w' := by
  go_enter Tryz.func78, Tryz.ntmps78
  go_wp2
  all_goals go_ret
  all_goals exact ⟨by simp [inB]; omega, rfl⟩

set_option maxHeartbeats 400000 in
theorem rsign_any (n : Int) (w : World) :
    Calls Tryz.prog 85 #[.int .i64 n] w fun e w' => e = .returned (.int .i64 (cmpI n 0)) ∧ w = w' := by
  go_enter Tryz.func85, Tryz.ntmps85
  go_wp2
  all_goals go_ret
  all_goals exact ⟨ret_int (by unfold cmpI; split <;> (try split) <;> omega), rfl⟩

set_option maxHeartbeats 400000 in
theorem isNaN_any (n : Int) (w : World) :
    Calls Tryz.prog 90 #[.int .i64 n] w fun e w' => e = .returned (.bool false) ∧ w = w' := by
  go_enter Tryz.func90, Tryz.ntmps90
  go_wp2
  all_goals go_ret
  all_goals exact ⟨ret_bool (by simp), rfl⟩

set_option maxHeartbeats 400000 in
theorem cmpCompare_any (a b : Int) (w : World) :
    Calls Tryz.prog 59 #[.int .i64 a, .int .i64 b] w fun e w' => e = .returned (.int .i64 (cmpI a b)) ∧ w = w' := by
  go_enter Tryz.func59, Tryz.ntmps59
  go_wp2_with (first | (go_at_call 90; refine (isNaN_any _ _).mono ?_; rintro e w' ⟨rfl, rfl⟩))
  all_goals go_ret
  all_goals exact ⟨ret_int (by unfold cmpI; split <;> (try split) <;> omega), rfl⟩


set_option maxHeartbeats 400000 in
theorem cmpOr_any (A : Option Addr) (cap B : Nat) (xs : List Int) (w : World) (hA : Ints w B A xs) (hl : xs.length ≤ 1000000) :
    Calls Tryz.prog 58 #[.slice A xs.length cap] w fun e w' => e = .returned (.int .i64 (orL xs)) ∧ w = w' := by
  go_enter Tryz.func58, Tryz.ntmps58
  go_wp2
  go_loop [8] (fun i => ∃ k : Nat, k ≤ xs.length ∧ i = .int .i64 k ∧ orL (xs.take k) = 0) (fun i => xs.length - (intOf i).toNat)
  case atStart => exact ⟨0, Nat.zero_le _, rfl, rfl⟩
  case round =>
    obtain ⟨k, hk, rfl, hor⟩ := hrel
    by_cases hlt : k < xs.length
    · obtain ⟨b, off, x, rfl, hb, hc, HX⟩ := hA.at_ hlt
      have HT := Lib.hid (orL_take_succ HX.out hor)
      clear hA hor
      go_wp2
      · go_ret
        exact ⟨ret_int (by rw [orL_of_take xs (k + 1) (by rw [HT.out]; simpa using ‹(x != 0) = true›), HT.out]), rfl⟩
      · go_round
        case rel => exact ⟨k + 1, by omega, by go_num, by rw [HT.out]; simpa using ‹(x != 0) = false›⟩
        case measure => simp [intOf]; omega
    · obtain rfl : k = xs.length := by omega
      have HO := Lib.hid hor
      clear hor hA
      go_wp2
      go_ret
      exact ⟨ret_int (by have := HO.out; rw [List.take_length] at this; rw [this]), rfl⟩

set_option maxHeartbeats 400000 in
theorem slicesCompare_any (A A' : Option Addr) (cap cap' B B' : Nat) (xs ys : List Int) (w : World) (hA : Ints w B A xs) (hA' : Ints w B' A' ys) (hl : xs.length ≤ 1000000) (_ : ys.length ≤ 1000000) :
    Calls Tryz.prog 67 #[.slice A xs.length cap, .slice A' ys.length cap'] w fun e w' => e = .returned (.int .i64 (cmpL xs ys)) ∧ w = w' := by
  go_enter Tryz.func67, Tryz.ntmps67
  go_wp2
  go_loop [11] (fun i => ∃ k : Nat, agreeL xs ys k ∧ i = .int .i64 k) (fun i => xs.length - (intOf i).toNat)
  case atStart => exact ⟨0, agreeL_zero _ _, rfl⟩
  case round =>
    obtain ⟨k, hag, rfl⟩ := hrel
    have hk := hag.1
    have hk' := hag.2.1
    have HG := Lib.hid hag
    clear hag
    by_cases hlt : k < xs.length
    · obtain ⟨b, off, x, rfl, hb, hc, HX⟩ := hA.at_ hlt
      by_cases hlt' : k < ys.length
      · obtain ⟨b', off', y, rfl, hb', hc', HY⟩ := hA'.at_ hlt'
        clear hA hA'
        go_wp2_with (first | (go_at_call 59; refine (cmpCompare_any _ _ _).mono ?_; rintro e w' ⟨rfl, rfl⟩))
        · go_ret
          exact ⟨ret_int (cmpL_diff HG.out HX.out HY.out (by simpa using ‹(cmpI x y != 0) = true›)).symm, rfl⟩
        · go_round
          case rel => exact ⟨k + 1, agreeL_succ HG.out HX.out HY.out (cmpI_eq0 (by simpa using ‹(cmpI x y != 0) = false›)), by go_num⟩
          case measure => simp [intOf]; omega
      · have hk2 : k = ys.length := by omega
        have HK := Lib.hid hk2
        clear hA hA' hk2
        go_wp2
        go_ret
        exact ⟨ret_int (cmpL_yEnd (by have := HG.out; rw [HK.out] at this; exact this) (by have := HK.out; omega)).symm, rfl⟩
    · obtain rfl : k = xs.length := by omega
      clear hA hA'
      go_wp2
      all_goals go_ret
      all_goals exact ⟨ret_int (by rw [cmpL_xEnd HG.out]; split <;> omega), rfl⟩

set_option maxHeartbeats 400000 in
theorem sameInts_any (A A' : Option Addr) (cap cap' B B' : Nat) (xs ys : List Int) (w : World) (hA : Ints w B A xs) (hA' : Ints w B' A' ys) (hl : xs.length ≤ 1000000) (hl' : ys.length ≤ 1000000) :
    Calls Tryz.prog 29 #[.slice A xs.length cap, .slice A' ys.length cap'] w fun e w' => e = .returned (.bool (decide (xs = ys))) ∧ ∃ n, w' = w.drewN n := by
  go_enter Tryz.func29, Tryz.ntmps29
  by_cases hlen : xs.length = ys.length
  · have hq : (!((xs.length : Int) == ys.length)) = false := by simp [hlen]
    have hq2 : ((xs.length : Int) != ys.length) = false := by simp [hlen]
    have HL := Lib.hid hlen
    clear hlen
    go_wp2
    go_loopw [5] (fun i wr => ∃ k n : Nat, agreeL xs ys k ∧ i = .int .i64 k ∧ wr = w.drewN n) (fun i _ => xs.length - (intOf i).toNat)
    case atStart => exact ⟨0, 0, agreeL_zero _ _, rfl, rfl⟩
    case round =>
      obtain ⟨k, n, hag, rfl, rfl⟩ := hrel
      have hk := hag.1
      have HG := Lib.hid hag
      clear hag
      by_cases hlt : k < xs.length
      · obtain ⟨b, off, x, rfl, hb, hc, HX⟩ := hA.at_ hlt
        obtain ⟨b', off', y, rfl, hb', hc', HY⟩ := hA'.at_ (k := k) (by rw [← HL.out]; exact hlt)
        have hlt' : k < ys.length := by rw [← HL.out]; exact hlt
        clear hA hA'
        go_wp2
        go_quiet (fail)
        go_wp2
        · go_ret
          exact ⟨ret_bool (by simpa using agreeL_ne HX.out HY.out (by simpa using ‹(x != y) = true›)), _, World.drewN_drewN _ _ _⟩
        · go_roundw
          case rel => exact ⟨k + 1, _, agreeL_succ HG.out HX.out HY.out (by simpa using ‹(x != y) = false›), by go_num, rfl⟩
          case measure => simp [intOf]; omega
      · obtain rfl : k = xs.length := by omega
        clear hA hA'
        go_wp2
        go_ret
        exact ⟨ret_bool (by simp [agreeL_all HG.out HL.out]), n, rfl⟩
  · have hq : ((xs.length : Int) != ys.length) = true := by simp; omega
    go_wp2
    go_ret
    exact ⟨ret_bool (by simp; rintro rfl; exact hlen rfl), 0, rfl⟩

/-- the value of a form whose moves lie at A -/
abbrev formV (f : FormD) (A : Option Addr) (cap : Nat) : Value := .agg #[.int .i64 f.right, .int .i64 f.left, .int .i64 f.column, .int .i64 f.row, .int .i64 f.face, .slice A f.moves.length cap]

set_option maxHeartbeats 400000 in
theorem sameForms_any (f g : FormD) (A A' : Option Addr) (cap cap' : Nat) (w : World) (hA : Ints w w.heap.size A f.moves) (hA' : Ints w w.heap.size A' g.moves) (hl : f.moves.length ≤ 1000000) (hl' : g.moves.length ≤ 1000000) :
    Calls Tryz.prog 20 #[formV f A cap, formV g A' cap'] w fun e w' => e = .returned (.bool (decide (f = g))) ∧ Below w.heap.size w w' := by
  obtain ⟨r, l, c, row, face, ms⟩ := f
  obtain ⟨r', l', c', row', face', ms'⟩ := g
  dsimp only at *
  have hB : ∀ o o' : Obj, Below w.heap.size w ((w.alloc o).alloc o') := fun o o' => ((Below.refl _ _).alloc (Nat.le_refl _) _).alloc (by simp) _
  have hs := fun o o' : Obj => sameInts_any A A' cap cap' _ _ ms ms' ((w.alloc o).alloc o') (hA.below (hB o o')) (hA'.below (hB o o')) hl hl'
  have HS := Lib.hid hs
  clear hs hA hA'
  go_enter Tryz.func20, Tryz.ntmps20
  go_wp2_with (first | (go_at_call 29; refine (HS.out _ _).mono ?_; rintro e w' ⟨rfl, n, rfl⟩))
  all_goals go_ret
  all_goals refine ⟨ret_bool ?_, ?_⟩
  all_goals first | (simp [*]; done) | (repeat (first | (with_reducible exact Below.refl _ _) | (with_reducible assumption) | (with_reducible refine Below.drewN_ ?_ _) | (with_reducible refine Below.drew ?_) | (with_reducible refine Below.alloc ?_ (by first | omega | (simp <;> omega)) _) | (with_reducible refine Below.setCell ?_ (by first | omega | (simp <;> omega)) _)))

end Go.Proofs.YtjpnblflenlnaaaGreat
