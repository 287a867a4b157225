/- Forms: what each function on forms returns. Whether a form is valid: the program's answer and the specification's. Sets as numbers: validSet, has; spans: contains, meet. -/
import Derived.Test.YthlihchndmbkaaaMem
import Derived.Deep.QuietTactic
import Derived.BigQuiet
namespace Go.Proofs.Ythlihchndmbkaaa
open Go.RowKit

set_option maxHeartbeats 400000 in
theorem within_any (n lo hi : Int) (w : World) :
    Calls Try.prog 48 #[.int .i64 n, .int .i64 lo, .int .i64 hi] w fun e w' => e = .returned (.bool (inB n lo hi)) ∧ w = w' := by
  go_enter Try.func48, Try.ntmps48
  go_wp2
  all_goals go_ret
  all_goals exact ⟨by simp [inB]; omega, rfl⟩

set_option maxHeartbeats 400000 in
theorem rwithin_any (n lo hi : Int) (w : World) :
    Calls Try.prog 42 #[.int .i64 n, .int .i64 lo, .int .i64 hi] w fun e w' => e = .returned (.bool (inB n lo hi)) ∧ w = w' := by
  go_enter Try.func42, Try.ntmps42
  go_wp2
  all_goals go_ret
  all_goals exact ⟨by simp [inB]; omega, rfl⟩

set_option maxHeartbeats 400000 in
theorem isNaN_any (n : Int) (w : World) :
    Calls Try.prog 85 #[.int .i64 n] w fun e w' => e = .returned (.bool false) ∧ w = w' := by
  go_enter Try.func85, Try.ntmps85
  go_wp2
  all_goals go_ret
  all_goals exact ⟨ret_bool (by simp), rfl⟩

set_option maxHeartbeats 400000 in
theorem cmpCompare_any (a b : Int) (w : World) :
    Calls Try.prog 80 #[.int .i64 a, .int .i64 b] w fun e w' => e = .returned (.int .i64 (cmpI a b)) ∧ w = w' := by
  go_enter Try.func80, Try.ntmps80
  go_wp2_with (first | (go_at_call 85; refine (isNaN_any _ _).mono ?_; rintro e w' ⟨rfl, rfl⟩))
  all_goals go_ret
  all_goals exact ⟨ret_int (by unfold cmpI; split <;> (try split) <;> omega), rfl⟩

set_option maxHeartbeats 400000 in
theorem cmpOr_any (A : Option Addr) (cap B : Nat) (xs : List Int) (w : World) (hA : Ints w B A xs) (hl : xs.length ≤ 1000000) :
    Calls Try.prog 81 #[.slice A xs.length cap] w fun e w' => e = .returned (.int .i64 (orL xs)) ∧ w = w' := by
  go_enter Try.func81, Try.ntmps81
  go_wp2
  go_loop [8] (fun i => ∃ k : Nat, k ≤ xs.length ∧ i = .int .i64 k ∧ orL (xs.take k) = 0) (fun i => xs.length - (intOf i).toNat)
  case atStart => exact ⟨0, Nat.zero_le _, rfl, rfl⟩
  case round =>
    obtain ⟨k, hk, rfl, hor⟩ := hrel
    by_cases hlt : k < xs.length
    · obtain ⟨b, off, x, rfl, hb, hc, HX⟩ := hA.at_ hlt
      have HT := Lib.hid (orL_take_succ HX.out hor)
      clear hA hor
      go_wp2
      · go_ret
        exact ⟨ret_int (by rw [orL_of_take xs (k + 1) (by rw [HT.out]; simpa using ‹(x != 0) = true›), HT.out]), rfl⟩
      · go_round
        case rel => exact ⟨k + 1, by omega, by go_num, by rw [HT.out]; simpa using ‹(x != 0) = false›⟩
        case measure => simp [intOf]; omega
    · obtain rfl : k = xs.length := by omega
      have HO := Lib.hid hor
      clear hor hA
      go_wp2
      go_ret
      exact ⟨ret_int (by have := HO.out; rw [List.take_length] at this; rw [this]), rfl⟩

set_option maxHeartbeats 400000 in
theorem slicesCompare_any (A A' : Option Addr) (cap cap' B B' : Nat) (xs ys : List Int) (w : World) (hA : Ints w B A xs) (hA' : Ints w B' A' ys) (hl : xs.length ≤ 1000000) (_ : ys.length ≤ 1000000) :
    Calls Try.prog 82 #[.slice A xs.length cap, .slice A' ys.length cap'] w fun e w' => e = .returned (.int .i64 (cmpL xs ys)) ∧ w = w' := by
  go_enter Try.func82, Try.ntmps82
  go_wp2
  go_loop [11] (fun i => ∃ k : Nat, agreeL xs ys k ∧ i = .int .i64 k) (fun i => xs.length - (intOf i).toNat)
  case atStart => exact ⟨0, agreeL_zero _ _, rfl⟩
  case round =>
    obtain ⟨k, hag, rfl⟩ := hrel
    have hk := hag.1
    have hk' := hag.2.1
    have HG := Lib.hid hag
    clear hag
    by_cases hlt : k < xs.length
    · obtain ⟨b, off, x, rfl, hb, hc, HX⟩ := hA.at_ hlt
      by_cases hlt' : k < ys.length
      · obtain ⟨b', off', y, rfl, hb', hc', HY⟩ := hA'.at_ hlt'
        clear hA hA'
        go_wp2_with (first | (go_at_call 80; refine (cmpCompare_any _ _ _).mono ?_; rintro e w' ⟨rfl, rfl⟩))
        · go_ret
          exact ⟨ret_int (cmpL_diff HG.out HX.out HY.out (by simpa using ‹(cmpI x y != 0) = true›)).symm, rfl⟩
        · go_round
          case rel => exact ⟨k + 1, agreeL_succ HG.out HX.out HY.out (cmpI_eq0 (by simpa using ‹(cmpI x y != 0) = false›)), by go_num⟩
          case measure => simp [intOf]; omega
      · have hk2 : k = ys.length := by omega
        have HK := Lib.hid hk2
        clear hA hA' hk2
        go_wp2
        go_ret
        exact ⟨ret_int (cmpL_yEnd (by have := HG.out; rw [HK.out] at this; exact this) (by have := HK.out; omega)).symm, rfl⟩
    · obtain rfl : k = xs.length := by omega
      clear hA hA'
      go_wp2
      all_goals go_ret
      all_goals exact ⟨ret_int (by rw [cmpL_xEnd HG.out]; split <;> omega), rfl⟩

set_option maxHeartbeats 400000 in
theorem sameInts_any (A A' : Option Addr) (cap cap' B B' : Nat) (xs ys : List Int) (w : World) (hA : Ints w B A xs) (hA' : Ints w B' A' ys) (hl : xs.length ≤ 1000000) (hl' : ys.length ≤ 1000000) :
    Calls Try.prog 35 #[.slice A xs.length cap, .slice A' ys.length cap'] w fun e w' => e = .returned (.bool (decide (xs = ys))) ∧ ∃ n, w' = w.drewN n := by
  go_enter Try.func35, Try.ntmps35
  by_cases hlen : xs.length = ys.length
  · have hq : (!((xs.length : Int) == ys.length)) = false := by simp [hlen]
    have hq2 : ((xs.length : Int) != ys.length) = false := by simp [hlen]
    have HL := Lib.hid hlen
    clear hlen
    go_wp2
    go_loopw [5] (fun i wr => ∃ k n : Nat, agreeL xs ys k ∧ i = .int .i64 k ∧ wr = w.drewN n) (fun i _ => xs.length - (intOf i).toNat)
    case atStart => exact ⟨0, 0, agreeL_zero _ _, rfl, rfl⟩
    case round =>
      obtain ⟨k, n, hag, rfl, rfl⟩ := hrel
      have hk := hag.1
      have HG := Lib.hid hag
      clear hag
      by_cases hlt : k < xs.length
      · obtain ⟨b, off, x, rfl, hb, hc, HX⟩ := hA.at_ hlt
        obtain ⟨b', off', y, rfl, hb', hc', HY⟩ := hA'.at_ (k := k) (by rw [← HL.out]; exact hlt)
        have hlt' : k < ys.length := by rw [← HL.out]; exact hlt
        clear hA hA'
        go_wp2
        go_quiet (fail)
        go_wp2
        · go_ret
          exact ⟨ret_bool (by simpa using agreeL_ne HX.out HY.out (by simpa using ‹(x != y) = true›)), _, World.drewN_drewN _ _ _⟩
        · go_roundw
          case rel => exact ⟨k + 1, _, agreeL_succ HG.out HX.out HY.out (by simpa using ‹(x != y) = false›), by go_num, rfl⟩
          case measure => simp [intOf]; omega
      · obtain rfl : k = xs.length := by omega
        clear hA hA'
        go_wp2
        go_ret
        exact ⟨ret_bool (by simp [agreeL_all HG.out HL.out]), n, rfl⟩
  · have hq : ((xs.length : Int) != ys.length) = true := by simp; omega
    go_wp2
    go_ret
    exact ⟨ret_bool (by simp; rintro rfl; exact hlen rfl), 0, rfl⟩

end Go.Proofs.Ythlihchndmbkaaa

namespace Go.Proofs.Ythlihchndmbkaaa
open Go.RowKit

end Go.Proofs.Ythlihchndmbkaaa

namespace Go.Proofs.Ythlihchndmbkaaa
open Go.RowKit

def meetD (a b c d : Int) : Bool := decide (a ≤ d) && decide (c ≤ b)

/-- '&' of two numbers of 64 bits that are not below 0 -/
theorem and_i64 (a b : Nat) (ha : a < 9223372036854775808) (hb : b < 9223372036854775808) : bits .and .i64 (a : Int) (b : Int) = ((a &&& b : Nat) : Int) := by
  have h1 : a &&& b ≤ a := Nat.and_le_left
  have e1 : ∀ n : Nat, n < 9223372036854775808 → (BitVec.ofInt 64 (n : Int)).toNat = n := fun n hn => by
    rw [BitVec.ofInt_natCast, BitVec.toNat_ofNat]
    exact Nat.mod_eq_of_lt (by omega)
  show IntKind.i64.wrap ((BitVec.ofInt 64 (a : Int) &&& BitVec.ofInt 64 (b : Int)).toNat : Int) = _
  rw [BitVec.toNat_and, e1 a ha, e1 b hb]
  exact IntWalk.i64_in _ (by omega)
/-- does the set s hold e? -/
def hasD (s e : Int) : Bool := decide (s / 2 ^ e.toNat % 2 = 1)
theorem and_one {x : Int} (h0 : 0 ≤ x) (h1 : x < 9223372036854775808) : bits .and .i64 x 1 = x % 2 := by
  obtain ⟨n, rfl⟩ := Int.eq_ofNat_of_zero_le h0
  have := and_i64 n 1 (by omega) (by omega)
  rw [show ((1 : Nat) : Int) = 1 from rfl] at this
  rw [this, Nat.and_one_is_mod]
  omega
theorem shr_bounds {s : Int} {k : Nat} (h0 : 0 ≤ s) (h1 : s < 8589934592) : 0 ≤ s / 2 ^ k ∧ s / 2 ^ k < 9223372036854775808 := by
  have hp : (0 : Int) < 2 ^ k := Int.pow_pos (by omega)
  refine ⟨Int.ediv_nonneg h0 (by omega), ?_⟩
  have := Int.ediv_le_self (2 ^ k : Int) h0
  omega

/-- the set of all elements below n, for the two sizes that occur -/
def maxSet (n : Int) : Int := if n = 8 then 255 else 8589934591

end Go.Proofs.Ythlihchndmbkaaa

