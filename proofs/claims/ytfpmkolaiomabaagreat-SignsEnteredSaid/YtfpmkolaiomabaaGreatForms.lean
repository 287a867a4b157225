/- Forms: what each function on forms returns. Whether a form is valid: the program's answer and the specification's. Sets as numbers: validSet, has; spans: contains, meet. -/
import Derived.Test.YtfpmkolaiomabaaGreatMem
import Derived.Deep.QuietTactic
import Derived.BigQuiet
namespace Go.Proofs.YtfpmkolaiomabaaGreat
open Go.RowKit

set_option maxHeartbeats 400000 in
theorem within_any (n lo hi : Int) (w : World) :
    Calls Tryz.prog 81 #[.int .i64 n, .int .i64 lo, .int .i64 hi] w fun e w' => e = .returned (.bool (inB n lo hi)) ∧ w = w' := by
  go_enter Tryz.func81, Tryz.ntmps81
  go_wp2
  all_goals go_ret
  all_goals exact ⟨by simp [inB]; omega, rfl⟩

set_option maxHeartbeats 400000 in
theorem rwithin_any (n lo hi : Int) (w : World) :
    Calls Tryz.prog 78 #[.int .i64 n, .int .i64 lo, .int .i64 hi] w fun e w' => e = .returned (.bool (inB n lo hi)) ∧ w = w' := by
  go_enter Tryz.func78, Tryz.ntmps78
  go_wp2
  all_goals go_ret
  all_goals exact ⟨by simp [inB]; omega, rfl⟩

set_option maxHeartbeats 400000 in
theorem rsign_any (n : Int) (w : World) :
    Calls Tryz.prog 85 #[.int .i64 n] w fun e w' => e = .returned (.int .i64 (cmpI n 0)) ∧ w = w' := by
  go_enter Tryz.func85, Tryz.ntmps85
  go_wp2
  all_goals go_ret
  all_goals exact ⟨ret_int (by unfold cmpI; split <;> (try split) <;> omega), rfl⟩

set_option maxHeartbeats 400000 in
theorem isNaN_any (n : Int) (w : World) :
    Calls Tryz.prog 90 #[.int .i64 n] w fun e w' => e = .returned (.bool false) ∧ w = w' := by
  go_enter Tryz.func90, Tryz.ntmps90
  go_wp2
  all_goals go_ret
  all_goals exact ⟨ret_bool (by simp), rfl⟩

set_option maxHeartbeats 400000 in
theorem cmpCompare_any (a b : Int) (w : World) :
    Calls Tryz.prog 59 #[.int .i64 a, .int .i64 b] w fun e w' => e = .returned (.int .i64 (cmpI a b)) ∧ w = w' := by
  go_enter Tryz.func59, Tryz.ntmps59
  go_wp2_with (first | (go_at_call 90; refine (isNaN_any _ _).mono ?_; rintro e w' ⟨rfl, rfl⟩))
  all_goals go_ret
  all_goals exact ⟨ret_int (by unfold cmpI; split <;> (try split) <;> omega), rfl⟩


set_option maxHeartbeats 400000 in
theorem cmpOr_any (A : Option Addr) (cap B : Nat) (xs : List Int) (w : World) (hA : Ints w B A xs) (hl : xs.length ≤ 1000000) :
    Calls Tryz.prog 58 #[.slice A xs.length cap] w fun e w' => e = .returned (.int .i64 (orL xs)) ∧ w = w' := by
  go_enter Tryz.func58, Tryz.ntmps58
  go_wp2
  go_loop [8] (fun i => ∃ k : Nat, k ≤ xs.length ∧ i = .int .i64 k ∧ orL (xs.take k) = 0) (fun i => xs.length - (intOf i).toNat)
  case atStart => exact ⟨0, Nat.zero_le _, rfl, rfl⟩
  case round =>
    obtain ⟨k, hk, rfl, hor⟩ := hrel
    by_cases hlt : k < xs.length
    · obtain ⟨b, off, x, rfl, hb, hc, HX⟩ := hA.at_ hlt
      have HT := Lib.hid (orL_take_succ HX.out hor)
      clear hA hor
      go_wp2
      · go_ret
        exact ⟨ret_int (by rw [orL_of_take xs (k + 1) (by rw [HT.out]; simpa using ‹(x != 0) = true›), HT.out]), rfl⟩
      · go_round
        case rel => exact ⟨k + 1, by omega, by go_num, by rw [HT.out]; simpa using ‹(x != 0) = false›⟩
        case measure => simp [intOf]; omega
    · obtain rfl : k = xs.length := by omega
      have HO := Lib.hid hor
      clear hor hA
      go_wp2
      go_ret
      exact ⟨ret_int (by have := HO.out; rw [List.take_length] at this; rw [this]), rfl⟩

set_option maxHeartbeats 400000 in
theorem slicesCompare_any (A A' : Option Addr) (cap cap' B B' : Nat) (xs ys : List Int) (w : World) (hA : Ints w B A xs) (hA' : Ints w B' A' ys) (hl : xs.length ≤ 1000000) (_ : ys.length ≤ 1000000) :
    Calls Tryz.prog 67 #[.slice A xs.length cap, .slice A' ys.length cap'] w fun e w' => e = .returned (.int .i64 (cmpL xs ys)) ∧ w = w' := by
  go_enter Tryz.func67, Tryz.ntmps67
  go_wp2
  go_loop [11] (fun i => ∃ k : Nat, agreeL xs ys k ∧ i = .int .i64 k) (fun i => xs.length - (intOf i).toNat)
  case atStart => exact ⟨0, agreeL_zero _ _, rfl⟩
  case round =>
    obtain ⟨k, hag, rfl⟩ := hrel
    have hk := hag.1
    have hk' := hag.2.1
    have HG := Lib.hid hag
    clear hag
    by_cases hlt : k < xs.length
    · obtain ⟨b, off, x, rfl, hb, hc, HX⟩ := hA.at_ hlt
      by_cases hlt' : k < ys.length
      · obtain ⟨b', off', y, rfl, hb', hc', HY⟩ := hA'.at_ hlt'
        clear hA hA'
        go_wp2_with (first | (go_at_call 59; refine (cmpCompare_any _ _ _).mono ?_; rintro e w' ⟨rfl, rfl⟩))
        · go_ret
          exact ⟨ret_int (cmpL_diff HG.out HX.out HY.out (by simpa using ‹(cmpI x y != 0) = true›)).symm, rfl⟩
        · go_round
          case rel => exact ⟨k + 1, agreeL_succ HG.out HX.out HY.out (cmpI_eq0 (by simpa using ‹(cmpI x y != 0) = false›)), by go_num⟩
          case measure => simp [intOf]; omega
      · have hk2 : k = ys.length := by omega
        have HK := Lib.hid hk2
        clear hA hA' hk2
        go_wp2
        go_ret
        exact ⟨ret_int (cmpL_yEnd (by have := HG.out; rw [HK.out] at this; exact this) (by have := HK.out; omega)).symm, rfl⟩
    · obtain rfl : k = xs.length := by omega
      clear hA hA'
      go_wp2
      all_goals go_ret
      all_goals exact ⟨ret_int (by rw [cmpL_xEnd HG.out]; split <;> omega), rfl⟩

set_option maxHeartbeats 400000 in
theorem sameInts_any (A A' : Option Addr) (cap cap' B B' : Nat) (xs ys : List Int) (w : World) (hA : Ints w B A xs) (hA' : Ints w B' A' ys) (hl : xs.length ≤ 1000000) (hl' : ys.length ≤ 1000000) :
    Calls Tryz.prog 29 #[.slice A xs.length cap, .slice A' ys.length cap'] w fun e w' => e = .returned (.bool (decide (xs = ys))) ∧ ∃ n, w' = w.drewN n := by
  go_enter Tryz.func29, Tryz.ntmps29
  by_cases hlen : xs.length = ys.length
  · have hq : (!((xs.length : Int) == ys.length)) = false := by simp [hlen]
    have hq2 : ((xs.length : Int) != ys.length) = false := by simp [hlen]
    have HL := Lib.hid hlen
    clear hlen
    go_wp2
    go_loopw [5] (fun i wr => ∃ k n : Nat, agreeL xs ys k ∧ i = .int .i64 k ∧ wr = w.drewN n) (fun i _ => xs.length - (intOf i).toNat)
    case atStart => exact ⟨0, 0, agreeL_zero _ _, rfl, rfl⟩
    case round =>
      obtain ⟨k, n, hag, rfl, rfl⟩ := hrel
      have hk := hag.1
      have HG := Lib.hid hag
      clear hag
      by_cases hlt : k < xs.length
      · obtain ⟨b, off, x, rfl, hb, hc, HX⟩ := hA.at_ hlt
        obtain ⟨b', off', y, rfl, hb', hc', HY⟩ := hA'.at_ (k := k) (by rw [← HL.out]; exact hlt)
        have hlt' : k < ys.length := by rw [← HL.out]; exact hlt
        clear hA hA'
        go_wp2
        go_quiet (fail)
        go_wp2
        · go_ret
          exact ⟨ret_bool (by simpa using agreeL_ne HX.out HY.out (by simpa using ‹(x != y) = true›)), _, World.drewN_drewN _ _ _⟩
        · go_roundw
          case rel => exact ⟨k + 1, _, agreeL_succ HG.out HX.out HY.out (by simpa using ‹(x != y) = false›), by go_num, rfl⟩
          case measure => simp [intOf]; omega
      · obtain rfl : k = xs.length := by omega
        clear hA hA'
        go_wp2
        go_ret
        exact ⟨ret_bool (by simp [agreeL_all HG.out HL.out]), n, rfl⟩
  · have hq : ((xs.length : Int) != ys.length) = true := by simp; omega
    go_wp2
    go_ret
    exact ⟨ret_bool (by simp; rintro rfl; exact hlen rfl), 0, rfl⟩

/-- the value of a form whose moves lie at A -/
abbrev formV (f : FormD) (A : Option Addr) (cap : Nat) : Value := .agg #[.int .i64 f.right, .int .i64 f.left, .int .i64 f.column, .int .i64 f.row, .int .i64 f.face, .slice A f.moves.length cap]

set_option maxHeartbeats 400000 in
theorem sameForms_any (f g : FormD) (A A' : Option Addr) (cap cap' : Nat) (w : World) (hA : Ints w w.heap.size A f.moves) (hA' : Ints w w.heap.size A' g.moves) (hl : f.moves.length ≤ 1000000) (hl' : g.moves.length ≤ 1000000) :
    Calls Tryz.prog 20 #[formV f A cap, formV g A' cap'] w fun e w' => e = .returned (.bool (decide (f = g))) ∧ Below w.heap.size w w' := by
  obtain ⟨r, l, c, row, face, ms⟩ := f
  obtain ⟨r', l', c', row', face', ms'⟩ := g
  dsimp only at *
  have hB : ∀ o o' : Obj, Below w.heap.size w ((w.alloc o).alloc o') := fun o o' => ((Below.refl _ _).alloc (Nat.le_refl _) _).alloc (by simp) _
  have hs := fun o o' : Obj => sameInts_any A A' cap cap' _ _ ms ms' ((w.alloc o).alloc o') (hA.below (hB o o')) (hA'.below (hB o o')) hl hl'
  have HS := Lib.hid hs
  clear hs hA hA'
  go_enter Tryz.func20, Tryz.ntmps20
  go_wp2_with (first | (go_at_call 29; refine (HS.out _ _).mono ?_; rintro e w' ⟨rfl, n, rfl⟩))
  all_goals go_ret
  all_goals refine ⟨ret_bool ?_, ?_⟩
  all_goals first | (simp [*]; done) | (repeat (first | (with_reducible exact Below.refl _ _) | (with_reducible assumption) | (with_reducible refine Below.drewN_ ?_ _) | (with_reducible refine Below.drew ?_) | (with_reducible refine Below.alloc ?_ (by first | omega | (simp <;> omega)) _) | (with_reducible refine Below.setCell ?_ (by first | omega | (simp <;> omega)) _)))

end Go.Proofs.YtfpmkolaiomabaaGreat

namespace Go.Proofs.YtfpmkolaiomabaaGreat
open Go.RowKit

set_option maxHeartbeats 400000 in
theorem IsForm_any (f : FormD) (A : Option Addr) (cap B : Nat) (w : World) (hA : Ints w B A f.moves) (hl : f.moves.length ≤ 1000000) (hB : B ≤ w.heap.size) :
    Calls Tryz.prog 40 #[formV f A cap] w fun e w' => e = .returned (.bool (okForm f)) ∧ Below w.heap.size w w' := by
  obtain ⟨r, l, c, row, face, ms⟩ := f
  dsimp only at *
  have hA1 := (hA.more hB).below ((Below.refl _ _).alloc (Nat.le_refl _) (.cells #[.int .i64 r, .int .i64 l, .int .i64 c, .int .i64 row, .int .i64 face, .slice A ms.length cap] 24))
  clear hA
  go_enter Tryz.func40, Tryz.ntmps40
  go_wp2
  go_loop [3] (fun i => ∃ k : Nat, k ≤ ms.length ∧ i = .int .i64 k ∧ movesOk (ms.take k) = true) (fun i => ms.length - (intOf i).toNat)
  case atStart => exact ⟨0, Nat.zero_le _, rfl, rfl⟩
  case round =>
    obtain ⟨k, hk, rfl, hmk⟩ := hrel
    by_cases hlt : k < ms.length
    · obtain ⟨b, off, x, rfl, hb, hc, HX⟩ := hA1.at_ hlt
      have HM := Lib.hid (movesOk_take HX.out hmk)
      clear hA1 hmk
      go_wp2_with (first | (go_at_call 78; refine (rwithin_any _ _ _ _).mono ?_; rintro e w' ⟨rfl, rfl⟩))
      · go_ret
        exact ⟨ret_bool (by
          have h1 : inB x 0 7 = false := by simpa using ‹(!inB x 0 7) = true›
          have h2 := movesOk_false ms (k + 1) (by rw [HM.out]; exact h1)
          simp [okForm, h2]), by (repeat (first | (with_reducible exact Below.refl _ _) | (with_reducible assumption) | (with_reducible refine Below.drewN_ ?_ _) | (with_reducible refine Below.drew ?_) | (with_reducible refine Below.alloc ?_ (by first | omega | (simp <;> omega)) _) | (with_reducible refine Below.setCell ?_ (by first | omega | (simp <;> omega)) _)))⟩
      · go_round
        case rel => exact ⟨k + 1, by omega, by go_num, by rw [HM.out]; simpa using ‹(!inB x 0 7) = false›⟩
        case measure => simp [intOf]; omega
    · obtain rfl : k = ms.length := by omega
      have HM := Lib.hid hmk
      clear hmk hA1
      go_wp2_with (first | (go_at_call 78; refine (rwithin_any _ _ _ _).mono ?_; rintro e w' ⟨rfl, rfl⟩))
      all_goals go_ret
      all_goals refine ⟨ret_bool ?_, ?_⟩
      all_goals first
        | (repeat (first | (with_reducible exact Below.refl _ _) | (with_reducible assumption) | (with_reducible refine Below.drewN_ ?_ _) | (with_reducible refine Below.drew ?_) | (with_reducible refine Below.alloc ?_ (by first | omega | (simp <;> omega)) _) | (with_reducible refine Below.setCell ?_ (by first | omega | (simp <;> omega)) _))); done
        | (have h := HM.out; rw [List.take_length] at h; simp [okForm, *]; done)
        | (have h := HM.out; rw [List.take_length] at h; have hw := wrap_hands ‹inB r (-1) 31 = true› ‹inB l (-1) 31 = true›; have hq : r + l ≤ -2 := by (rw [← hw]; assumption)
           have hq2 : decide (-2 < r + l) = false := by simp; omega
           simp [okForm, hq2]; done)
        | (have h := HM.out; rw [List.take_length] at h; have hw := wrap_hands ‹inB r (-1) 31 = true› ‹inB l (-1) 31 = true›; have hq : -2 < r + l := by (rw [← hw]; assumption)
           have hq2 : decide (-2 < r + l) = true := by simp; omega
           simp [okForm, *]; done)
        | (have h := HM.out; rw [List.take_length] at h; have hw := wrap_hands ‹inB r (-1) 31 = true› ‹inB l (-1) 31 = true›; have hq : -2 < r + l := by (rw [← hw]; assumption)
           simp [okForm, *]; omega)

end Go.Proofs.YtfpmkolaiomabaaGreat

namespace Go.Proofs.YtfpmkolaiomabaaGreat
open Go.RowKit

set_option maxHeartbeats 400000 in
theorem contains_any (lo hi n : Int) (w : World) :
    Calls Tryz.prog 142 #[.agg #[.int .i64 lo, .int .i64 hi], .int .i64 n] w fun e w' => e = .returned (.bool (inB n lo hi)) ∧ Below w.heap.size w w' := by
  go_enter Tryz.func142, Tryz.ntmps142
  go_wp2_with (first | (go_at_call 81; refine (within_any _ _ _ _).mono ?_; rintro e w' ⟨rfl, rfl⟩))
  go_ret
  exact ⟨rfl, by (repeat (first | (with_reducible exact Below.refl _ _) | (with_reducible assumption) | (with_reducible refine Below.drewN_ ?_ _) | (with_reducible refine Below.drew ?_) | (with_reducible refine Below.alloc ?_ (by first | omega | (simp <;> omega)) _) | (with_reducible refine Below.setCell ?_ (by first | omega | (simp <;> omega)) _)))⟩

def meetD (a b c d : Int) : Bool := decide (a ≤ d) && decide (c ≤ b)
set_option maxHeartbeats 400000 in
theorem meet_any (a b c d : Int) (w : World) :
    Calls Tryz.prog 94 #[.agg #[.int .i64 a, .int .i64 b], .agg #[.int .i64 c, .int .i64 d]] w fun e w' => e = .returned (.bool (meetD a b c d)) ∧ Below w.heap.size w w' := by
  go_enter Tryz.func94, Tryz.ntmps94
  go_wp2
  all_goals go_ret
  all_goals refine ⟨ret_bool ?_, by (repeat (first | (with_reducible exact Below.refl _ _) | (with_reducible assumption) | (with_reducible refine Below.drewN_ ?_ _) | (with_reducible refine Below.drew ?_) | (with_reducible refine Below.alloc ?_ (by first | omega | (simp <;> omega)) _) | (with_reducible refine Below.setCell ?_ (by first | omega | (simp <;> omega)) _)))⟩
  all_goals simp [meetD, *] <;> omega

/-- '&' of two numbers of 64 bits that are not below 0 -/
theorem and_i64 (a b : Nat) (ha : a < 9223372036854775808) (hb : b < 9223372036854775808) : bits .and .i64 (a : Int) (b : Int) = ((a &&& b : Nat) : Int) := by
  have h1 : a &&& b ≤ a := Nat.and_le_left
  have e1 : ∀ n : Nat, n < 9223372036854775808 → (BitVec.ofInt 64 (n : Int)).toNat = n := fun n hn => by
    rw [BitVec.ofInt_natCast, BitVec.toNat_ofNat]
    exact Nat.mod_eq_of_lt (by omega)
  show IntKind.i64.wrap ((BitVec.ofInt 64 (a : Int) &&& BitVec.ofInt 64 (b : Int)).toNat : Int) = _
  rw [BitVec.toNat_and, e1 a ha, e1 b hb]
  exact IntWalk.i64_in _ (by omega)
/-- does the set s hold e? -/
def hasD (s e : Int) : Bool := decide (s / 2 ^ e.toNat % 2 = 1)
theorem and_one {x : Int} (h0 : 0 ≤ x) (h1 : x < 9223372036854775808) : bits .and .i64 x 1 = x % 2 := by
  obtain ⟨n, rfl⟩ := Int.eq_ofNat_of_zero_le h0
  have := and_i64 n 1 (by omega) (by omega)
  rw [show ((1 : Nat) : Int) = 1 from rfl] at this
  rw [this, Nat.and_one_is_mod]
  omega
theorem shr_bounds {s : Int} {k : Nat} (h0 : 0 ≤ s) (h1 : s < 8589934592) : 0 ≤ s / 2 ^ k ∧ s / 2 ^ k < 9223372036854775808 := by
  have hp : (0 : Int) < 2 ^ k := Int.pow_pos (by omega)
  refine ⟨Int.ediv_nonneg h0 (by omega), ?_⟩
  have := Int.ediv_le_self (2 ^ k : Int) h0
  omega

/-- the set of all elements below n, for the two sizes that occur -/
def maxSet (n : Int) : Int := if n = 8 then 255 else 8589934591
set_option maxHeartbeats 400000 in
theorem validSet_any (s n : Int) (w : World) (h : n = 8 ∨ n = 33) :
    Calls Tryz.prog 121 #[.int .i64 s, .int .i64 n] w fun e w' => e = .returned (.bool (inB s 1 (maxSet n))) ∧ w = w' := by
  rcases h with rfl | rfl
  all_goals
    go_enter Tryz.func121, Tryz.ntmps121
    go_wp2_with (first | (go_at_call 81; refine (within_any _ _ _ _).mono ?_; rintro e w' ⟨rfl, rfl⟩))
    go_ret
    exact ⟨rfl, rfl⟩

set_option maxHeartbeats 400000 in
theorem has_any (s e : Int) (w : World) (h0 : 0 ≤ s) (h1 : s < 8589934592) (h2 : 0 ≤ e) (h3 : e ≤ 32) :
    Calls Tryz.prog 141 #[.int .i64 s, .int .i64 e] w fun x w' => x = .returned (.bool (hasD s e)) ∧ w = w' := by
  have HB : Hid (bits .and .i64 (s / 2 ^ e.toNat) 1 = s / 2 ^ e.toNat % 2) := and_one (shr_bounds h0 h1).1 (shr_bounds h0 h1).2
  go_enter Tryz.func141, Tryz.ntmps141
  go_wp2
  go_ret
  refine ⟨ret_bool ?_, rfl⟩
  show (bits .and .i64 (s / 2 ^ e.toNat) 1 == 1) = _
  rw [HB.out]
  rfl

end Go.Proofs.YtfpmkolaiomabaaGreat

