/- Forms: what each function on forms returns. Whether a form is valid: the program's answer and the specification's. Sets as numbers: validSet, has; spans: contains, meet. -/
import Derived.Test.YthehkgpnnndboaaDoorMem
import Derived.Deep.QuietTactic
import Derived.BigQuiet
namespace Go.Proofs.YthehkgpnnndboaaDoor
open Go.RowKit

set_option maxHeartbeats 400000 in
theorem within_any (n lo hi : Int) (w : World) :
    Calls Tryd.prog 77 #[.int .i64 n, .int .i64 lo, .int .i64 hi] w fun e w' => e = .returned (.bool (inB n lo hi)) ∧ w = w' := by
  go_enter Tryd.func77, Tryd.ntmps77
  go_wp2
  all_goals go_ret
  all_goals exact ⟨by simp [inB]; omega, rfl⟩

set_option maxHeartbeats 400000 in
theorem rwithin_any (n lo hi : Int) (w : World) :
    Calls Tryd.prog 48 #[.int .i64 n, .int .i64 lo, .int .i64 hi] w fun e w' => e = .returned (.bool (inB n lo hi)) ∧ w = w' := by
  go_enter Tryd.func48, Tryd.ntmps48
  go_wp2
  all_goals go_ret
  all_goals exact ⟨by simp [inB]; omega, rfl⟩

set_option maxHeartbeats 400000 in
theorem sameInts_any (A A' : Option Addr) (cap cap' B B' : Nat) (xs ys : List Int) (w : World) (hA : Ints w B A xs) (hA' : Ints w B' A' ys) (hl : xs.length ≤ 1000000) (hl' : ys.length ≤ 1000000) :
    Calls Tryd.prog 29 #[.slice A xs.length cap, .slice A' ys.length cap'] w fun e w' => e = .returned (.bool (decide (xs = ys))) ∧ ∃ n, w' = w.drewN n := by
  go_enter Tryd.func29, Tryd.ntmps29
  by_cases hlen : xs.length = ys.length
  · have hq : (!((xs.length : Int) == ys.length)) = false := by simp [hlen]
    have hq2 : ((xs.length : Int) != ys.length) = false := by simp [hlen]
    have HL := Lib.hid hlen
    clear hlen
    go_wp2
    go_loopw [5] (fun i wr => ∃ k n : Nat, agreeL xs ys k ∧ i = .int .i64 k ∧ wr = w.drewN n) (fun i _ => xs.length - (intOf i).toNat)
    case atStart => exact ⟨0, 0, agreeL_zero _ _, rfl, rfl⟩
    case round =>
      obtain ⟨k, n, hag, rfl, rfl⟩ := hrel
      have hk := hag.1
      have HG := Lib.hid hag
      clear hag
      by_cases hlt : k < xs.length
      · obtain ⟨b, off, x, rfl, hb, hc, HX⟩ := hA.at_ hlt
        obtain ⟨b', off', y, rfl, hb', hc', HY⟩ := hA'.at_ (k := k) (by rw [← HL.out]; exact hlt)
        have hlt' : k < ys.length := by rw [← HL.out]; exact hlt
        clear hA hA'
        go_wp2
        go_quiet (fail)
        go_wp2
        · go_ret
          exact ⟨ret_bool (by simpa using agreeL_ne HX.out HY.out (by simpa using ‹(x != y) = true›)), _, World.drewN_drewN _ _ _⟩
        · go_roundw
          case rel => exact ⟨k + 1, _, agreeL_succ HG.out HX.out HY.out (by simpa using ‹(x != y) = false›), by go_num, rfl⟩
          case measure => simp [intOf]; omega
      · obtain rfl : k = xs.length := by omega
        clear hA hA'
        go_wp2
        go_ret
        exact ⟨ret_bool (by simp [agreeL_all HG.out HL.out]), n, rfl⟩
  · have hq : ((xs.length : Int) != ys.length) = true := by simp; omega
    go_wp2
    go_ret
    exact ⟨ret_bool (by simp; rintro rfl; exact hlen rfl), 0, rfl⟩


/-- '&' of two numbers of 64 bits that are not below 0 -/
theorem and_i64 (a b : Nat) (ha : a < 9223372036854775808) (hb : b < 9223372036854775808) : bits .and .i64 (a : Int) (b : Int) = ((a &&& b : Nat) : Int) := by
  have h1 : a &&& b ≤ a := Nat.and_le_left
  have e1 : ∀ n : Nat, n < 9223372036854775808 → (BitVec.ofInt 64 (n : Int)).toNat = n := fun n hn => by
    rw [BitVec.ofInt_natCast, BitVec.toNat_ofNat]
    exact Nat.mod_eq_of_lt (by omega)
  show IntKind.i64.wrap ((BitVec.ofInt 64 (a : Int) &&& BitVec.ofInt 64 (b : Int)).toNat : Int) = _
  rw [BitVec.toNat_and, e1 a ha, e1 b hb]
  exact IntWalk.i64_in _ (by omega)
/-- does the set s hold e? -/
def hasD (s e : Int) : Bool := decide (s / 2 ^ e.toNat % 2 = 1)
theorem and_one {x : Int} (h0 : 0 ≤ x) (h1 : x < 9223372036854775808) : bits .and .i64 x 1 = x % 2 := by
  obtain ⟨n, rfl⟩ := Int.eq_ofNat_of_zero_le h0
  have := and_i64 n 1 (by omega) (by omega)
  rw [show ((1 : Nat) : Int) = 1 from rfl] at this
  rw [this, Nat.and_one_is_mod]
  omega
theorem shr_bounds {s : Int} {k : Nat} (h0 : 0 ≤ s) (h1 : s < 8589934592) : 0 ≤ s / 2 ^ k ∧ s / 2 ^ k < 9223372036854775808 := by
  have hp : (0 : Int) < 2 ^ k := Int.pow_pos (by omega)
  refine ⟨Int.ediv_nonneg h0 (by omega), ?_⟩
  have := Int.ediv_le_self (2 ^ k : Int) h0
  omega


end Go.Proofs.YthehkgpnnndboaaDoor
