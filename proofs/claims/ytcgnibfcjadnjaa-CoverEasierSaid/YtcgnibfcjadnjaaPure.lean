/- Pure: the mathematics of pools and watches: who is missing, who can be ill. It imports nothing of the translation. -/
namespace Go.Proofs.Ytcgnibfcjadnjaa

/-- has the set s the element e? -/
def hasN (s e : Nat) : Bool := decide (s / 2 ^ e % 2 = 1)
/-- how many of the first eight numbers a set has -/
def popD (s : Nat) : Nat := s % 2 + s / 2 % 2 + s / 4 % 2 + s / 8 % 2 + s / 16 % 2 + s / 32 % 2 + s / 64 % 2 + s / 128 % 2
/-- what of a set is not in another one -/
def diffN (a b : Nat) : Nat := a ^^^ (a &&& b)
/-- is a within b? -/
def subN (a b : Nat) : Bool := decide (diffN a b = 0)

theorem hasN_test (s e : Nat) : hasN s e = s.testBit e := by rw [hasN, Nat.testBit_eq_decide_div_mod_eq]
theorem has_diff (a b e : Nat) : hasN (diffN a b) e = (hasN a e && !hasN b e) := by
  simp only [hasN_test, diffN, Nat.testBit_xor, Nat.testBit_and]
  cases a.testBit e <;> cases b.testBit e <;> rfl
theorem has_and (a b e : Nat) : hasN (a &&& b) e = (hasN a e && hasN b e) := by simp only [hasN_test, Nat.testBit_and]
theorem has_ext {a b : Nat} (h : ∀ e, hasN a e = hasN b e) : a = b := Nat.eq_of_testBit_eq fun i => by simpa only [hasN_test] using h i
theorem has_zero (e : Nat) : hasN 0 e = false := by simp [hasN]
theorem sub_iff {a b : Nat} : subN a b = true ↔ ∀ e, hasN a e = true → hasN b e = true := by
  unfold subN
  rw [decide_eq_true_iff]
  constructor
  · intro h e ha
    have := has_diff a b e
    rw [h, has_zero, ha] at this
    cases hb : hasN b e with
    | true => rfl
    | false => rw [hb] at this; cases this
  · intro h
    refine has_ext fun e => ?_
    rw [has_diff, has_zero]
    cases ha : hasN a e with
    | false => rfl
    | true => rw [h e ha]; rfl
theorem sub_refl (a : Nat) : subN a a = true := sub_iff.2 fun _ h => h
theorem sub_trans {a b c : Nat} (h : subN a b = true) (k : subN b c = true) : subN a c = true := sub_iff.2 fun e he => sub_iff.1 k e (sub_iff.1 h e he)
theorem sub_zero (a : Nat) : subN 0 a = true := sub_iff.2 fun e he => by rw [has_zero] at he; cases he
theorem has_lt {s n e : Nat} (hs : s < 2 ^ n) (h : hasN s e = true) : e < n := by
  rcases Nat.lt_or_ge e n with g | g
  · exact g
  · rw [hasN_test, Nat.testBit_lt_two_pow (Nat.lt_of_lt_of_le hs (Nat.pow_le_pow_right (by omega) g))] at h
    cases h
theorem lt_of_has {s n : Nat} (h : ∀ e, hasN s e = true → e < n) : s < 2 ^ n := by
  refine Nat.lt_pow_two_of_testBit s fun i hi => ?_
  cases hb : s.testBit i with
  | false => rfl
  | true => have := h i (by rw [hasN_test]; exact hb); omega
theorem sub_lt {a b n : Nat} (hb : b < 2 ^ n) (h : subN a b = true) : a < 2 ^ n := lt_of_has fun e he => has_lt hb (sub_iff.1 h e he)
theorem diff_sub (a b : Nat) : subN (diffN a b) a = true := sub_iff.2 fun e he => by rw [has_diff] at he; cases h : hasN a e with
  | true => rfl
  | false => rw [h] at he; cases he
theorem sub_le {a b : Nat} (h : subN a b = true) : a ≤ b := by
  have : a &&& b = a := has_ext fun e => by
    rw [has_and]
    cases ha : hasN a e with
    | false => rfl
    | true => rw [sub_iff.1 h e ha]; rfl
  rw [← this]
  exact Nat.and_le_right

/-! facts on sets of five, by trying all -/
theorem pop_diff : ∀ g < 32, ∀ M < 32, ∀ x < 32, subN x g = true → popD (g &&& M) ≤ popD (diffN g x &&& M) + popD x := by decide +kernel
theorem pop_mono_and : ∀ g < 32, ∀ M < 32, ∀ x < 32, subN x g = true → popD (x &&& M) ≤ popD (g &&& M) := by decide +kernel
theorem pop_pick : ∀ g < 32, ∀ M < 32, ∀ k < 6, ∃ x, x < 32 ∧ subN x g = true ∧ popD x ≤ k ∧ popD (diffN g x &&& M) = popD (g &&& M) - k := by decide +kernel
theorem pop_and_le : ∀ g < 32, ∀ M < 32, popD (g &&& M) ≤ popD g := by decide +kernel
theorem pop_sub : ∀ g < 32, ∀ x < 32, subN x g = true → popD x ≤ popD g := by decide +kernel
theorem pop_le5 : ∀ g < 32, popD g ≤ 5 := by decide +kernel

end Go.Proofs.Ytcgnibfcjadnjaa
