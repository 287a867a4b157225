/- Count: how many elements a set has: the program's count and the specification's size. -/
import Derived.Test.YticeekkfdkfcgaaForms
namespace Go.Proofs.Yticeekkfdkfcgaa
open Go.RowKit

/-- how many of the first ten numbers a set has -/
def popD (s : Nat) : Nat := ((List.range 10).map fun i => s / 2 ^ i % 2).sum
def ones1 (s : Int) : Int := IntKind.u64.wrap (bits .and .u64 (s / 2) 6148914691236517205 + bits .and .u64 s 6148914691236517205)
def ones2 (x : Int) : Int := IntKind.u64.wrap (bits .and .u64 (x / 4) 3689348814741910323 + bits .and .u64 x 3689348814741910323)
def ones3 (x : Int) : Int := bits .and .u64 (IntKind.u64.wrap (x / 16 + x)) 1085102592571150095
def ones4 (x : Int) : Int := IntKind.u64.wrap (x + x / 256)
def ones5 (x : Int) : Int := IntKind.u64.wrap (x + x / 65536)
def ones6 (x : Int) : Int := IntKind.u64.wrap (x + x / 4294967296)
def onesE (s : Int) : Int := bits .and .i64 (wrap64 (ones6 (ones5 (ones4 (ones3 (ones2 (ones1 s))))))) 127
theorem ones_key : ∀ s : Nat, s < 1024 → onesE s = popD s := by
  have h : ∀ s ∈ List.range 1024, onesE (s : Nat) = popD s := by decide +kernel
  exact fun s hs => h s (List.mem_range.2 hs)
theorem pop_half : ∀ s : Nat, s < 1024 → popD s = s % 2 + popD (s / 2) := by
  have h : ∀ s ∈ List.range 1024, popD s = s % 2 + popD (s / 2) := by decide +kernel
  exact fun s hs => h s (List.mem_range.2 hs)
theorem pop_le : ∀ s : Nat, s < 1024 → popD s ≤ 10 := by
  have h : ∀ s ∈ List.range 1024, popD s ≤ 10 := by decide +kernel
  exact fun s hs => h s (List.mem_range.2 hs)

set_option maxRecDepth 100000 in
set_option maxHeartbeats 4000000 in
theorem ones64_any (s : Nat) (w : World) (hs : s < 1024) :
    Calls Try.prog 86 #[.int .u64 s] w fun e w' => e = .returned (.int .i64 (popD s)) ∧ w = w' := by
  go_enter Try.func86, Try.ntmps86
  go_wp2
  go_ret
  exact ⟨congrArg (fun q => Ending.returned (Value.int .i64 q)) (show onesE s = popD s from ones_key s hs), rfl⟩
set_option maxHeartbeats 400000 in
theorem ones_any (s : Nat) (w : World) (hs : s < 1024) :
    Calls Try.prog 74 #[.int .u64 s] w fun e w' => e = .returned (.int .i64 (popD s)) ∧ w = w' := by
  have HO := Lib.hid (fun w0 => ones64_any s w0 hs)
  go_enter Try.func74, Try.ntmps74
  go_wp2_with fail
  refine (HO.out _).mono ?_
  rintro e w2 ⟨rfl, rfl⟩
  go_wp2
  go_ret
  exact ⟨rfl, rfl⟩
set_option maxHeartbeats 400000 in
theorem count_any (s : Nat) (w : World) (hs : s < 1024) :
    Calls Try.prog 59 #[.int .i64 s] w fun e w' => e = .returned (.int .i64 (popD s)) ∧ w = w' := by
  have HO := Lib.hid (fun w0 => ones_any s w0 hs)
  go_enter Try.func59, Try.ntmps59
  go_wp2_with fail
  refine (HO.out _).mono ?_
  rintro e w2 ⟨rfl, rfl⟩
  go_wp2
  go_ret
  exact ⟨rfl, rfl⟩
set_option maxRecDepth 100000 in
set_option maxHeartbeats 1000000 in
theorem rsize_any (s : Nat) (w : World) (hs : s < 1024) :
    Calls Try.prog 51 #[.int .i64 s] w fun e w' => e = .returned (.int .i64 (popD s)) ∧ w = w' := by
  obtain ⟨t, ht⟩ : ∃ q, popD s = q := ⟨_, rfl⟩
  have ht10 : t ≤ 10 := by rw [← ht]; exact pop_le s hs
  rw [ht]
  go_enter Try.func51, Try.ntmps51
  go_wp2
  go_loop [3, 0] (fun nv sv => ∃ q m : Nat, q < 1024 ∧ nv = .int .i64 (m : Nat) ∧ sv = .int .i64 (q : Nat) ∧ m + popD q = t) (fun _ sv => (intOf sv).toNat)
  case atStart => exact ⟨s, 0, hs, rfl, rfl, by rw [ht]; omega⟩
  case round =>
    obtain ⟨q, m, hq, rfl, rfl, hm⟩ := hrel
    have HH := Lib.hid (pop_half q hq)
    have HM := Lib.hid hm
    clear hm ht
    by_cases h0 : 0 < q
    · have hd : decide ((0 : Int) < (q : Int)) = true := decide_eq_true (by omega)
      have hd2 : decide (0 < q) = true := decide_eq_true h0
      have hm9 : m ≤ 10 := by have := HM.out; omega
      have hand := and_one (x := (q : Int)) (by omega) (by omega)
      have hqm : (q : Int) % 2 = ((q % 2 : Nat) : Int) := by omega
      rw [hqm] at hand
      have hq2 : q % 2 < 2 := Nat.mod_lt _ (by omega)
      have hdv : (q : Int) / 2 = ((q / 2 : Nat) : Int) := by omega
      have hH := HH.out
      generalize q % 2 = b at hand hq2 hH
      obtain ⟨z, hz⟩ : ∃ z, q / 2 = z := ⟨_, rfl⟩
      have hzq : z < q := by omega
      rw [hz] at hdv hH
      have HZ : Hid (m + b + popD z = t) := Lib.hid (by have := HM.out; omega)
      clear hz hqm HH hH
      go_wp2
      go_round
      case rel => exact ⟨z, m + b, by omega, by go_num, by rw [← hdv], HZ.out⟩
      case measure => simp [intOf]; omega
    · obtain rfl : q = 0 := by omega
      have HX : Hid ((m : Int) = (t : Int)) := Lib.hid (by have h := HM.out; rw [show popD 0 = 0 from rfl] at h; omega)
      clear h0
      go_wp2
      go_ret
      exact ⟨ret_int HX.out, rfl⟩
set_option maxRecDepth 100000 in
set_option maxHeartbeats 1000000 in
theorem lsize_any (s : Nat) (w : World) (hs : s < 1024) :
    Calls Try.prog 34 #[.int .i64 s] w fun e w' => e = .returned (.int .i64 (popD s)) ∧ w = w' := by
  obtain ⟨t, ht⟩ : ∃ q, popD s = q := ⟨_, rfl⟩
  have ht10 : t ≤ 10 := by rw [← ht]; exact pop_le s hs
  rw [ht]
  go_enter Try.func34, Try.ntmps34
  go_wp2
  go_loop [3, 0] (fun nv sv => ∃ q m : Nat, q < 1024 ∧ nv = .int .i64 (m : Nat) ∧ sv = .int .i64 (q : Nat) ∧ m + popD q = t) (fun _ sv => (intOf sv).toNat)
  case atStart => exact ⟨s, 0, hs, rfl, rfl, by rw [ht]; omega⟩
  case round =>
    obtain ⟨q, m, hq, rfl, rfl, hm⟩ := hrel
    have HH := Lib.hid (pop_half q hq)
    have HM := Lib.hid hm
    clear hm ht
    by_cases h0 : 0 < q
    · have hd : decide ((0 : Int) < (q : Int)) = true := decide_eq_true (by omega)
      have hd2 : decide (0 < q) = true := decide_eq_true h0
      have hm9 : m ≤ 10 := by have := HM.out; omega
      have hand := and_one (x := (q : Int)) (by omega) (by omega)
      have hqm : (q : Int) % 2 = ((q % 2 : Nat) : Int) := by omega
      rw [hqm] at hand
      have hq2 : q % 2 < 2 := Nat.mod_lt _ (by omega)
      have hdv : (q : Int) / 2 = ((q / 2 : Nat) : Int) := by omega
      have hH := HH.out
      generalize q % 2 = b at hand hq2 hH
      obtain ⟨z, hz⟩ : ∃ z, q / 2 = z := ⟨_, rfl⟩
      have hzq : z < q := by omega
      rw [hz] at hdv hH
      have HZ : Hid (m + b + popD z = t) := Lib.hid (by have := HM.out; omega)
      clear hz hqm HH hH
      go_wp2
      go_round
      case rel => exact ⟨z, m + b, by omega, by go_num, by rw [← hdv], HZ.out⟩
      case measure => simp [intOf]; omega
    · obtain rfl : q = 0 := by omega
      have HX : Hid ((m : Int) = (t : Int)) := Lib.hid (by have h := HM.out; rw [show popD 0 = 0 from rfl] at h; omega)
      clear h0
      go_wp2
      go_ret
      exact ⟨ret_int HX.out, rfl⟩
end Go.Proofs.Yticeekkfdkfcgaa
