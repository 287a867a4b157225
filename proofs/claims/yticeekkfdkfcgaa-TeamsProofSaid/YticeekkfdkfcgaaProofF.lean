/- ProofF: the least set of rules that no team keeps, and when there is one. -/
import Derived.Test.YticeekkfdkfcgaaFlip
import Derived.Test.YticeekkfdkfcgaaVital
namespace Go.Proofs.Yticeekkfdkfcgaa
open Go.RowKit

theorem why_none2 {p : Nat → Bool} : ∀ k, whyTo p k = none → ∀ r, r < k → p r = true
  | 0, _, _, h => by omega
  | k + 1, h, r, hr => by
    cases hp : p k with
    | true =>
      rw [whyTo_yes hp] at h
      rcases Nat.lt_succ_iff_lt_or_eq.1 hr with hr | rfl
      · exact why_none2 k h r hr
      · exact hp
    | false =>
      cases h0 : whyTo p k with
      | none => rw [whyTo_first hp h0] at h; cases h
      | some b =>
        by_cases hb : popD k < popD b
        · rw [whyTo_less hp h0 hb] at h; cases h
        · rw [whyTo_more hp h0 hb] at h; cases h
theorem why_some {p : Nat → Bool} : ∀ k y, whyTo p k = some y → p y = false ∧ y < k ∧ ∀ r, r < k → p r = false → popD y < popD r ∨ (popD y = popD r ∧ y ≤ r)
  | 0, _, h => by cases h
  | k + 1, y, h => by
    cases hp : p k with
    | true =>
      rw [whyTo_yes hp] at h
      obtain ⟨q1, q2, q3⟩ := why_some k y h
      refine ⟨q1, by omega, fun r hr hq => ?_⟩
      rcases Nat.lt_succ_iff_lt_or_eq.1 hr with hr | rfl
      · exact q3 r hr hq
      · rw [hp] at hq; cases hq
    | false =>
      cases h0 : whyTo p k with
      | none =>
        rw [whyTo_first hp h0] at h
        obtain rfl := Option.some.inj h
        refine ⟨hp, by omega, fun r hr hq => ?_⟩
        rcases Nat.lt_succ_iff_lt_or_eq.1 hr with hr | rfl
        · rw [why_none2 k h0 r hr] at hq; cases hq
        · exact .inr ⟨rfl, Nat.le_refl _⟩
      | some b =>
        obtain ⟨q1, q2, q3⟩ := why_some k b h0
        by_cases hb : popD k < popD b
        · rw [whyTo_less hp h0 hb] at h
          obtain rfl := Option.some.inj h
          refine ⟨hp, by omega, fun r hr hq => ?_⟩
          rcases Nat.lt_succ_iff_lt_or_eq.1 hr with hr | rfl
          · have := q3 r hr hq; omega
          · exact .inr ⟨rfl, Nat.le_refl _⟩
        · rw [whyTo_more hp h0 hb] at h
          obtain rfl := Option.some.inj h
          refine ⟨q1, by omega, fun r hr hq => ?_⟩
          rcases Nat.lt_succ_iff_lt_or_eq.1 hr with hr | rfl
          · exact q3 r hr hq
          · omega
/-- a set of rules without one of them -/
def dropN (y k : Nat) : Nat := if hasN y k = true then y - 2 ^ k else y
theorem drop_pop : ∀ y, y < 64 → ∀ k, k < 6 → hasN y k = true → popD (dropN y k) < popD y ∧ dropN y k < 64 := by decide +kernel
theorem drop_bits : ∀ y : Nat, y < 64 → ∀ k : Nat, k < 6 → bits .andNot .i64 (y : Int) ((2 ^ k : Nat) : Int) = ((dropN y k : Nat) : Int) := by decide +kernel
theorem and_63 : ∀ b, b < 64 → b &&& 63 = b := by decide +kernel
/-- what Why gives where no team fits -/
structure Least (c : CrewR) (j : JobD) (y : Nat) : Prop where
  lt : y < 64
  bad : ∀ t, 1 ≤ t → t < 2 ^ c.people.length → brokenT c j t &&& y ≠ 0
  drop : ∀ k, k < 6 → hasN y k = true → keptP c (brokenT c j) (dropN y k) = true ∧ dropN y k < 64
  least : ∀ r, r < 64 → keptP c (brokenT c j) r = false → popD y < popD r ∨ (popD y = popD r ∧ y ≤ r)
theorem kept_false {f : Nat → Nat} {r m : Nat} (h : keptTo f r m = false) (t : Nat) (h1 : 1 ≤ t) (ht : t < m) (hm : t < 1024) : f t &&& r ≠ 0 := by
  unfold keptTo at h
  rw [List.any_eq_false] at h
  have := h ⟨t, hm⟩ ((tmTo_mem _).2 ⟨h1, ht⟩)
  simpa using this
theorem fit_why {c : CrewR} {j : JobD} (h : crewErr c.d j = 0) (hl : c.people.length ≤ 8) : (tmE c j = 0 ∧ whE c j (brokenT c j) = 3) ∨ (tmE c j = 3 ∧ whE c j (brokenT c j) = 0 ∧ Least c j (whY c j (brokenT c j))) := by
  have hpl : 2 ^ c.people.length ≤ 256 := Nat.pow_le_pow_right (n := 2) (by omega) hl
  have hn : ¬ crewErr c.d j ≠ 0 := fun e => e h
  have e1 : tmT c j = (teamD (brokenF c j) (feeF c) c.people.length).1 := by unfold tmT; rw [if_neg hn]
  have e2 : tmE c j = if tmT c j = 0 then 3 else 0 := by unfold tmE; rw [if_neg hn]
  have e3 : whE c j (brokenT c j) = if whyTo (keptP c (brokenT c j)) 64 = none then 3 else 0 := by unfold whE; rw [if_neg hn]
  have e4 : whY c j (brokenT c j) = (whyTo (keptP c (brokenT c j)) 64).getD 0 := by unfold whY; rw [if_neg hn]
  by_cases h0 : tmT c j = 0
  · right
    rw [e2, if_pos h0, e3, e4]
    rw [e1, team_empty] at h0
    have h63 : keptP c (brokenT c j) 63 = false := by
      unfold keptP keptTo
      rw [List.any_eq_false]
      intro x hx
      have hb := brokenT_lt c j x.val
      rw [and_63 _ hb]
      intro he
      have : x ∈ (tmTo (2 ^ c.people.length)).filter (fitF (brokenF c j)) := List.mem_filter.2 ⟨hx, by unfold fitF brokenF; simpa using he⟩
      rw [h0] at this
      cases this
    cases hw : whyTo (keptP c (brokenT c j)) 64 with
    | none => rw [why_none2 64 hw 63 (by omega)] at h63; cases h63
    | some y =>
      obtain ⟨q1, q2, q3⟩ := why_some 64 y hw
      refine ⟨rfl, if_neg (by simp), q2, fun t h1 ht => kept_false q1 t h1 ht (by omega), fun k hk hh => ?_, q3⟩
      obtain ⟨d1, d2⟩ := drop_pop y q2 k hk hh
      refine ⟨?_, d2⟩
      show keptP c (brokenT c j) (dropN y k) = true
      cases hd : keptP c (brokenT c j) (dropN y k) with
      | true => rfl
      | false => have := q3 _ d2 hd; omega
  · left
    rw [e2, if_neg h0, e3]
    refine ⟨rfl, ?_⟩
    rw [if_pos (why_none (fun r => ?_) 64)]
    rw [e1, team_empty] at h0
    obtain ⟨x, hx⟩ := List.exists_mem_of_ne_nil _ h0
    obtain ⟨hx1, hx2⟩ := List.mem_filter.1 hx
    unfold keptP keptTo
    refine List.any_eq_true.2 ⟨x, hx1, ?_⟩
    have hz : brokenT c j x.val = 0 := by unfold fitF brokenF at hx2; simpa using hx2
    rw [hz, Nat.zero_and]; rfl

end Go.Proofs.Yticeekkfdkfcgaa
