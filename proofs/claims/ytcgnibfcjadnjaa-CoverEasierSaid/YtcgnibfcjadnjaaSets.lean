/- Sets: has, includes, size; the specification's has and Size. -/
import Derived.Test.YtcgnibfcjadnjaaBits
namespace Go.Proofs.Ytcgnibfcjadnjaa
open Go.RowKit

set_option maxHeartbeats 400000 in
theorem has_any (s e : Nat) (w : World) (hs : s < 1048576) (he : e ≤ 40) :
    Calls Try.prog 78 #[.int .i64 s, .int .i64 e] w fun e' w' => e' = .returned (.bool (hasN s e)) ∧ w = w' := by
  have hsh := shr_and (e := e) hs
  have h0 : (0 : Int) ≤ (e : Int) := by omega
  have h64 : e ≤ 64 := by omega
  have HR : Hid (hasN s e = decide (((s / 2 ^ e % 2 : Nat) : Int) = 1)) := Lib.hid (by
    unfold hasN
    by_cases h : s / 2 ^ e % 2 = 1
    · rw [decide_eq_true h, decide_eq_true (by omega)]
    · rw [decide_eq_false h, decide_eq_false (by omega)])
  generalize hasN s e = r at HR ⊢
  generalize s / 2 ^ e % 2 = q at hsh HR
  go_enter Try.func78, Try.ntmps78
  go_wp2
  go_ret
  exact ⟨ret_bool (by rw [HR.out]; rfl), rfl⟩
set_option maxHeartbeats 400000 in
theorem rHas_any (s e : Nat) (w : World) (hs : s < 1048576) (he : e ≤ 40) :
    Calls Try.prog 48 #[.int .i64 s, .int .i64 e] w fun e' w' => e' = .returned (.bool (hasN s e)) ∧ w = w' := by
  have hsh := shr_and (e := e) hs
  have h0 : (0 : Int) ≤ (e : Int) := by omega
  have h64 : e ≤ 64 := by omega
  have hcv : IntKind.u64.wrap (e : Int) = (e : Int) := IntWalk.u64_in _ (by omega)
  have HR : Hid (hasN s e = decide (((s / 2 ^ e % 2 : Nat) : Int) = 1)) := Lib.hid (by
    unfold hasN
    by_cases h : s / 2 ^ e % 2 = 1
    · rw [decide_eq_true h, decide_eq_true (by omega)]
    · rw [decide_eq_false h, decide_eq_false (by omega)])
  generalize hasN s e = r at HR ⊢
  generalize s / 2 ^ e % 2 = q at hsh HR
  go_enter Try.func48, Try.ntmps48
  go_wp2
  go_ret
  exact ⟨ret_bool (by rw [HR.out]; rfl), rfl⟩
set_option maxHeartbeats 400000 in
/-- has, of any number -/
theorem rHas_int (s : Int) (e : Nat) (w : World) (he : e ≤ 40) :
    Calls Try.prog 48 #[.int .i64 s, .int .i64 e] w fun e' w' => e' = .returned (.bool (bits .and .i64 (s / 2 ^ e) 1 == 1)) ∧ w = w' := by
  have h0 : (0 : Int) ≤ (e : Int) := by omega
  have h64 : e ≤ 64 := by omega
  have hcv : IntKind.u64.wrap (e : Int) = (e : Int) := IntWalk.u64_in _ (by omega)
  go_enter Try.func48, Try.ntmps48
  go_wp2
  go_ret
  exact ⟨rfl, rfl⟩
set_option maxHeartbeats 400000 in
theorem includes_any (a : Nat) (x : Int) (w : World) :
    Calls Try.prog 76 #[.int .i64 a, .int .i64 x] w fun e' w' => e' = .returned (.bool (decide (bits .andNot .i64 x a = 0))) ∧ w = w' := by
  generalize hz : bits .andNot .i64 x a = z
  go_enter Try.func76, Try.ntmps76
  go_wp2
  go_ret
  exact ⟨rfl, rfl⟩
theorem includes_nat (a x : Nat) (w : World) (hx : x < 1048576) (ha : a < 1048576) :
    Calls Try.prog 76 #[.int .i64 a, .int .i64 x] w fun e' w' => e' = .returned (.bool (subN x a)) ∧ w = w' := by
  refine (includes_any a x w).mono ?_
  rintro e w' ⟨rfl, rfl⟩
  refine ⟨ret_bool ?_, rfl⟩
  rw [andNot_nat x a hx (by omega)]
  unfold subN
  by_cases h : diffN x a = 0
  · rw [decide_eq_true h, decide_eq_true (by omega)]
  · rw [decide_eq_false h, decide_eq_false (by omega)]
set_option maxHeartbeats 400000 in
theorem size_any (s : Nat) (w : World) (hs : s < 256) :
    Calls Try.prog 61 #[.int .i64 s] w fun e w' => e = .returned (.int .i64 (popD s)) ∧ w = w' := by
  have HO := Lib.hid (fun w0 => ones_any s w0 hs)
  have hcv : IntKind.u64.wrap (s : Int) = (s : Int) := IntWalk.u64_in _ (by omega)
  go_enter Try.func61, Try.ntmps61
  go_wp2_with fail
  refine (HO.out _).mono ?_
  rintro e w2 ⟨rfl, rfl⟩
  go_wp2
  go_ret
  exact ⟨rfl, rfl⟩
theorem popTo_eight : ∀ s < 256, popTo s 8 = popD s := by decide +kernel
theorem popTo_le (s : Nat) : ∀ k, popTo s k ≤ k
  | 0 => Nat.le_refl _
  | k + 1 => by have := popTo_le s k; unfold popTo; split <;> omega
theorem popTo_succ (s k : Nat) : popTo s (k + 1) = popTo s k + s / 2 ^ k % 2 := by
  have : s / 2 ^ k % 2 < 2 := Nat.mod_lt _ (by omega)
  show (if hasN s k = true then _ else _) = _
  unfold hasN
  by_cases h : s / 2 ^ k % 2 = 1
  · rw [if_pos (decide_eq_true h), h]
  · rw [if_neg (by simpa using h)]; omega
set_option maxRecDepth 100000 in
set_option maxHeartbeats 1000000 in
theorem rSize_any (s : Nat) (w : World) (hs : s < 256) :
    Calls Try.prog 18 #[.int .i64 s] w fun e w' => e = .returned (.int .i64 (popD s)) ∧ w = w' := by
  have HP := Lib.hid (popTo_eight s hs)
  go_enter Try.func18, Try.ntmps18
  go_wp2
  go_loop [3, 4] (fun nv iv => ∃ k m : Nat, k ≤ 8 ∧ iv = .int .i64 (k : Nat) ∧ nv = .int .i64 (m : Nat) ∧ m = popTo s k) (fun _ iv => 8 - (intOf iv).toNat)
  case atStart => exact ⟨0, 0, by omega, rfl, rfl, rfl⟩
  case round =>
    obtain ⟨k, m, hk, rfl, rfl, hm⟩ := hrel
    have hm8 : m ≤ 8 := by have := popTo_le s k; omega
    have HS := Lib.hid (popTo_succ s k)
    have HM := Lib.hid hm
    clear hm
    by_cases h0 : k < 8
    · have hd : decide ((k : Int) < 8) = true := decide_eq_true (by omega)
      have hsh := shr_and (s := s) (e := k) (by omega)
      have hq2 : s / 2 ^ k % 2 < 2 := Nat.mod_lt _ (by omega)
      have h00 : (0 : Int) ≤ (k : Int) := by omega
      have h64 : k ≤ 64 := by omega
      have hcv : IntKind.u64.wrap (k : Int) = (k : Int) := IntWalk.u64_in _ (by omega)
      generalize s / 2 ^ k % 2 = b at hsh hq2 HS
      go_wp2
      go_round
      case rel => exact ⟨k + 1, m + b, by omega, by go_num, by go_num, by rw [HS.out, HM.out]⟩
      case measure => simp [intOf]; omega
    · obtain rfl : k = 8 := by omega
      have HX : Hid ((m : Int) = (popD s : Int)) := Lib.hid (by rw [HM.out, HP.out])
      go_wp2
      go_ret
      exact ⟨ret_int HX.out, rfl⟩

end Go.Proofs.Ytcgnibfcjadnjaa
