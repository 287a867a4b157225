/- Sets as numbers: validSet, has; spans: contains, meet. -/
import Derived.Test.YtjpnblflenlnaaaGreatForms
namespace Go.Proofs.YtjpnblflenlnaaaGreat
open Go.RowKit

set_option maxHeartbeats 400000 in
theorem contains_any (lo hi n : Int) (w : World) :
    Calls Tryz.prog 142 #[.agg #[.int .i64 lo, .int .i64 hi], .int .i64 n] w fun e w' => e = .returned (.bool (inB n lo hi)) ∧ Below w.heap.size w w' := by
  go_enter Tryz.func142, Tryz.ntmps142
  go_wp2_with (first | (go_at_call 81; refine (within_any _ _ _ _).mono ?_; rintro e w' ⟨rfl, rfl⟩))
  go_ret
  exact ⟨rfl, by (repeat (first | (with_reducible exact Below.refl _ _) | (with_reducible assumption) | (with_reducible refine Below.drewN_ ?_ _) | (with_reducible refine Below.drew ?_) | (with_reducible refine Below.alloc ?_ (by first | omega | (simp <;> omega)) _) | (with_reducible refine Below.setCell ?_ (by first | omega | (simp <;> omega)) _)))⟩

def meetD (a b c d : Int) : Bool := decide (a ≤ d) && decide (c ≤ b)
set_option maxHeartbeats 400000 in
theorem meet_any (a b c d : Int) (w : World) :
    Calls Tryz.prog 94 #[.agg #[.int .i64 a, .int .i64 b], .agg #[.int .i64 c, .int .i64 d]] w fun e w' => e = .returned (.bool (meetD a b c d)) ∧ Below w.heap.size w w' := by
  go_enter Tryz.func94, Tryz.ntmps94
  go_wp2
  all_goals go_ret
  all_goals refine ⟨ret_bool ?_, by (repeat (first | (with_reducible exact Below.refl _ _) | (with_reducible assumption) | (with_reducible refine Below.drewN_ ?_ _) | (with_reducible refine Below.drew ?_) | (with_reducible refine Below.alloc ?_ (by first | omega | (simp <;> omega)) _) | (with_reducible refine Below.setCell ?_ (by first | omega | (simp <;> omega)) _)))⟩
  all_goals simp [meetD, *] <;> omega

/-- '&' of two numbers of 64 bits that are not below 0 -/
theorem and_i64 (a b : Nat) (ha : a < 9223372036854775808) (hb : b < 9223372036854775808) : bits .and .i64 (a : Int) (b : Int) = ((a &&& b : Nat) : Int) := by
  have h1 : a &&& b ≤ a := Nat.and_le_left
  have e1 : ∀ n : Nat, n < 9223372036854775808 → (BitVec.ofInt 64 (n : Int)).toNat = n := fun n hn => by
    rw [BitVec.ofInt_natCast, BitVec.toNat_ofNat]
    exact Nat.mod_eq_of_lt (by omega)
  show IntKind.i64.wrap ((BitVec.ofInt 64 (a : Int) &&& BitVec.ofInt 64 (b : Int)).toNat : Int) = _
  rw [BitVec.toNat_and, e1 a ha, e1 b hb]
  exact IntWalk.i64_in _ (by omega)
/-- does the set s hold e? -/
def hasD (s e : Int) : Bool := decide (s / 2 ^ e.toNat % 2 = 1)
theorem and_one {x : Int} (h0 : 0 ≤ x) (h1 : x < 9223372036854775808) : bits .and .i64 x 1 = x % 2 := by
  obtain ⟨n, rfl⟩ := Int.eq_ofNat_of_zero_le h0
  have := and_i64 n 1 (by omega) (by omega)
  rw [show ((1 : Nat) : Int) = 1 from rfl] at this
  rw [this, Nat.and_one_is_mod]
  omega
theorem shr_bounds {s : Int} {k : Nat} (h0 : 0 ≤ s) (h1 : s < 8589934592) : 0 ≤ s / 2 ^ k ∧ s / 2 ^ k < 9223372036854775808 := by
  have hp : (0 : Int) < 2 ^ k := Int.pow_pos (by omega)
  refine ⟨Int.ediv_nonneg h0 (by omega), ?_⟩
  have := Int.ediv_le_self (2 ^ k : Int) h0
  omega

/-- the set of all elements below n, for the two sizes that occur -/
def maxSet (n : Int) : Int := if n = 8 then 255 else 8589934591
set_option maxHeartbeats 400000 in
theorem validSet_any (s n : Int) (w : World) (h : n = 8 ∨ n = 33) :
    Calls Tryz.prog 121 #[.int .i64 s, .int .i64 n] w fun e w' => e = .returned (.bool (inB s 1 (maxSet n))) ∧ w = w' := by
  rcases h with rfl | rfl
  all_goals
    go_enter Tryz.func121, Tryz.ntmps121
    go_wp2_with (first | (go_at_call 81; refine (within_any _ _ _ _).mono ?_; rintro e w' ⟨rfl, rfl⟩))
    go_ret
    exact ⟨rfl, rfl⟩

set_option maxHeartbeats 400000 in
theorem has_any (s e : Int) (w : World) (h0 : 0 ≤ s) (h1 : s < 8589934592) (h2 : 0 ≤ e) (h3 : e ≤ 32) :
    Calls Tryz.prog 141 #[.int .i64 s, .int .i64 e] w fun x w' => x = .returned (.bool (hasD s e)) ∧ w = w' := by
  have HB : Hid (bits .and .i64 (s / 2 ^ e.toNat) 1 = s / 2 ^ e.toNat % 2) := and_one (shr_bounds h0 h1).1 (shr_bounds h0 h1).2
  go_enter Tryz.func141, Tryz.ntmps141
  go_wp2
  go_ret
  refine ⟨ret_bool ?_, rfl⟩
  show (bits .and .i64 (s / 2 ^ e.toNat) 1 == 1) = _
  rw [HB.out]
  rfl

end Go.Proofs.YtjpnblflenlnaaaGreat
