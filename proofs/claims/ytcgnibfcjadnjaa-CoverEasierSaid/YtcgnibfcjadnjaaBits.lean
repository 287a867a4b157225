/- Bits: what the operations on bits come to, for sets of people; how many a set has. -/
import Derived.Test.YtcgnibfcjadnjaaFolk
namespace Go.Proofs.Ytcgnibfcjadnjaa
open Go.RowKit

theorem toNat_small {n : Nat} (hn : n < 9223372036854775808) : (BitVec.ofInt 64 (n : Int)).toNat = n := by
  rw [BitVec.ofInt_natCast, BitVec.toNat_ofNat]
  exact Nat.mod_eq_of_lt (by omega)
theorem andNot_nat (a b : Nat) (ha : a < 1048576) (_hb : b < 9223372036854775808) : bits .andNot .i64 (a : Int) (b : Int) = ((diffN a b : Nat) : Int) := by
  have e : (BitVec.ofInt 64 (a : Int) &&& ~~~(BitVec.ofInt 64 (b : Int))).toNat = diffN a b := by
    refine Nat.eq_of_testBit_eq fun i => ?_
    rw [BitVec.testBit_toNat, BitVec.getLsbD_and, BitVec.getLsbD_not, BitVec.ofInt_natCast, BitVec.ofInt_natCast, BitVec.getLsbD_ofNat, BitVec.getLsbD_ofNat]
    unfold diffN
    rw [Nat.testBit_xor, Nat.testBit_and]
    by_cases hi : i < 64
    · simp only [hi, decide_true, Bool.true_and]
      cases a.testBit i <;> cases b.testBit i <;> rfl
    · have : a.testBit i = false := Nat.testBit_lt_two_pow (Nat.lt_of_lt_of_le (show a < 2 ^ 20 by omega) (Nat.pow_le_pow_right (by omega) (by omega)))
      simp [hi, this]
  have hl : diffN a b < 2 ^ 20 := Nat.lt_pow_two_of_testBit _ fun i hi => by
    unfold diffN
    rw [Nat.testBit_xor, Nat.testBit_and, Nat.testBit_lt_two_pow (Nat.lt_of_lt_of_le (show a < 2 ^ 20 by omega) (Nat.pow_le_pow_right (by omega) hi))]
    rfl
  show IntKind.i64.wrap ((BitVec.ofInt 64 (a : Int) &&& ~~~(BitVec.ofInt 64 (b : Int))).toNat : Int) = _
  rw [e]
  exact IntWalk.i64_in _ (by omega)
theorem or_i64 (a b : Nat) (ha : a < 1048576) (hb : b < 1048576) : bits .or .i64 (a : Int) (b : Int) = ((a ||| b : Nat) : Int) := by
  have h1 : a ||| b < 2 ^ 20 := Nat.or_lt_two_pow (by omega) (by omega)
  show IntKind.i64.wrap ((BitVec.ofInt 64 (a : Int) ||| BitVec.ofInt 64 (b : Int)).toNat : Int) = _
  rw [BitVec.toNat_or, toNat_small (by omega), toNat_small (by omega)]
  exact IntWalk.i64_in _ (by omega)
/-- '&^' of any number and a set is 0 just if the number is a set within it -/
theorem andNot_zero (x : Int) (b : Nat) (hb : b < 32) (h1 : -9223372036854775808 ≤ x) (h2 : x < 9223372036854775808) : bits .andNot .i64 x (b : Int) = 0 ↔ ∃ a : Nat, x = a ∧ subN a b = true := by
  constructor
  · intro h
    obtain ⟨v, hv⟩ : ∃ v, BitVec.ofInt 64 x = v := ⟨_, rfl⟩
    have h : IntKind.i64.wrap ((v &&& ~~~(BitVec.ofInt 64 (b : Int))).toNat : Int) = 0 := by rw [← hv]; exact h
    have hz : (v &&& ~~~(BitVec.ofInt 64 (b : Int))).toNat = 0 := by
      have hlt := (v &&& ~~~(BitVec.ofInt 64 (b : Int))).isLt
      generalize (v &&& ~~~(BitVec.ofInt 64 (b : Int))).toNat = n at h hlt
      unfold IntKind.wrap at h
      simp [IntKind.bits, IntKind.signed] at h
      omega
    have hz : v &&& ~~~(BitVec.ofInt 64 (b : Int)) = 0#64 := BitVec.eq_of_toNat_eq (by simpa using hz)
    have hsub : subN v.toNat b = true := sub_iff.2 fun e he => by
      rw [hasN_test, BitVec.testBit_toNat] at he
      have := congrArg (fun z => z.getLsbD e) hz
      simp only [BitVec.getLsbD_and, BitVec.getLsbD_not, he, BitVec.ofInt_natCast, BitVec.getLsbD_ofNat, Bool.true_and] at this
      have he64 : e < 64 := BitVec.lt_of_getLsbD he
      rw [hasN_test]
      cases hb : b.testBit e with
      | true => rfl
      | false => rw [hb] at this; simp [he64] at this
    have hlt := sub_le hsub
    refine ⟨v.toNat, ?_, hsub⟩
    have e1 : (v.toNat : Int) = x % 2 ^ 64 := by rw [← hv, BitVec.toNat_ofInt]; omega
    omega
  · rintro ⟨a, rfl, hs⟩
    have := sub_le hs
    rw [andNot_nat a b (by omega) (by omega)]
    unfold subN at hs
    rw [of_decide_eq_true hs]
    rfl
/-- the next group within a group -/
def nextN (s g : Nat) : Nat := ((s + 18446744073709551616 - g) % 18446744073709551616) &&& g
theorem next_i64 : ∀ g : Nat, g < 32 → ∀ s : Nat, s < 32 → bits .and .i64 ((s : Int) - (g : Int)) (g : Int) = ((nextN s g : Nat) : Int) := by
  have h : ∀ g : Nat, g ∈ List.range 32 → ∀ s : Nat, s ∈ List.range 32 → bits .and .i64 ((s : Int) - (g : Int)) (g : Int) = ((nextN s g : Nat) : Int) := by decide +kernel
  exact fun g hg s hs => h g (List.mem_range.2 hg) s (List.mem_range.2 hs)
/-- the groups within g, from 0 on, step by step -/
def walkN (g : Nat) : Nat → Nat → List Nat
  | 0, s => [s]
  | f + 1, s => if s = g then [s] else s :: walkN g f (nextN s g)
theorem walk_all : ∀ g < 32, walkN g 32 0 = subsL g := by decide +kernel
theorem walk_at : ∀ g < 32, ∀ k, k < (subsL g).length → (subsL g)[k]? ≠ some g → (subsL g)[k + 1]? = (subsL g)[k]?.map fun s => nextN s g := by
  have h : ∀ g < 32, ∀ k < 32, k < (subsL g).length → (subsL g)[k]? ≠ some g → (subsL g)[k + 1]? = (subsL g)[k]?.map fun s => nextN s g := by decide +kernel
  have hl : ∀ g < 32, (subsL g).length ≤ 32 := by decide +kernel
  exact fun g hg k hk => h g hg k (by have := hl g hg; omega) hk
theorem subs_first (g : Nat) : (subsL g)[0]? = some 0 := by
  unfold subsL
  rw [List.range_succ_eq_map, List.filter_cons, if_pos (sub_zero g)]
  rfl
theorem subs_len : ∀ g < 32, (subsL g).length ≤ 32 := by decide +kernel
theorem subs_last : ∀ g < 32, ∀ k < 32, (subsL g)[k]? = some g → k + 1 = (subsL g).length := by decide +kernel

theorem shr_and {s e : Nat} (hs : s < 1048576) : bits .and .i64 ((s : Int) / 2 ^ e) 1 = ((s / 2 ^ e % 2 : Nat) : Int) := by
  have h1 : ((s : Int) / 2 ^ e) = ((s / 2 ^ e : Nat) : Int) := by simp
  have h2 := Nat.div_le_self s (2 ^ e)
  generalize s / 2 ^ e = z at h1 h2 ⊢
  rw [h1, and_one (by omega) (by omega)]
  omega

def ones1 (s : Int) : Int := IntKind.u64.wrap (bits .and .u64 (s / 2) 6148914691236517205 + bits .and .u64 s 6148914691236517205)
def ones2 (x : Int) : Int := IntKind.u64.wrap (bits .and .u64 (x / 4) 3689348814741910323 + bits .and .u64 x 3689348814741910323)
def ones3 (x : Int) : Int := bits .and .u64 (IntKind.u64.wrap (x / 16 + x)) 1085102592571150095
def ones4 (x : Int) : Int := IntKind.u64.wrap (x + x / 256)
def ones5 (x : Int) : Int := IntKind.u64.wrap (x + x / 65536)
def ones6 (x : Int) : Int := IntKind.u64.wrap (x + x / 4294967296)
def onesE (s : Int) : Int := bits .and .i64 (wrap64 (ones6 (ones5 (ones4 (ones3 (ones2 (ones1 s))))))) 127
theorem ones_key : ∀ s : Nat, s < 256 → onesE s = popD s := by
  have h : ∀ s ∈ List.range 256, onesE (s : Nat) = popD s := by decide +kernel
  exact fun s hs => h s (List.mem_range.2 hs)

set_option maxRecDepth 100000 in
set_option maxHeartbeats 4000000 in
theorem ones64_any (s : Nat) (w : World) (hs : s < 256) :
    Calls Try.prog 89 #[.int .u64 s] w fun e w' => e = .returned (.int .i64 (popD s)) ∧ w = w' := by
  go_enter Try.func89, Try.ntmps89
  go_wp2
  go_ret
  exact ⟨congrArg (fun q => Ending.returned (Value.int .i64 q)) (show onesE s = popD s from ones_key s hs), rfl⟩
set_option maxHeartbeats 400000 in
theorem ones_any (s : Nat) (w : World) (hs : s < 256) :
    Calls Try.prog 79 #[.int .u64 s] w fun e w' => e = .returned (.int .i64 (popD s)) ∧ w = w' := by
  have HO := Lib.hid (fun w0 => ones64_any s w0 hs)
  go_enter Try.func79, Try.ntmps79
  go_wp2_with fail
  refine (HO.out _).mono ?_
  rintro e w2 ⟨rfl, rfl⟩
  go_wp2
  go_ret
  exact ⟨rfl, rfl⟩

end Go.Proofs.Ytcgnibfcjadnjaa
