/- ReadS: what the sets are that the program finds: those of the fewest signs that agree. -/
import Derived.Test.YtinlojealfbbfaaReadings
namespace Go.Proofs.Ytinlojealfbbfaa
open Go.RowKit

/-- what is known of the sets and their size after the sets below k -/
structure ReadIs (n : Nat) (l : List GlossD) (k : Nat) (S : List Nat) (fw : Nat) : Prop where
  all : S = (List.range k).filter fun s => agreesD s l && decide (popD s = fw)
  least : ∀ s, s < k → agreesD s l = true → fw ≤ popD s
  le : fw ≤ n
  none : S = [] → fw = n
theorem readTo_is (n : Nat) (l : List GlossD) : ∀ k, ReadIs n l k (readTo n l k).1 (readTo n l k).2
  | 0 => ⟨rfl, fun s h => by omega, Nat.le_refl _, fun _ => rfl⟩
  | k + 1 => by
    have ih := readTo_is n l k
    have hr : List.range (k + 1) = List.range k ++ [k] := List.range_succ
    by_cases h1 : (readTo n l k).2 < popD k
    · rw [readTo_skip (.inl h1)]
      refine ⟨?_, fun s hs ha => ?_, ih.le, ih.none⟩
      · rw [hr, List.filter_append, ← ih.all]
        have e : decide (popD k = (readTo n l k).2) = false := decide_eq_false (by omega)
        simp [e]
      · rcases Nat.lt_or_ge s k with g | g
        · exact ih.least s g ha
        · obtain rfl : s = k := by omega
          omega
    · cases ha : agreesD k l with
      | false =>
        rw [readTo_skip (.inr ha)]
        refine ⟨?_, fun s hs hb => ?_, ih.le, ih.none⟩
        · rw [hr, List.filter_append, ← ih.all]
          simp [ha]
        · rcases Nat.lt_or_ge s k with g | g
          · exact ih.least s g hb
          · obtain rfl : s = k := by omega
            rw [ha] at hb; cases hb
      | true =>
        by_cases h2 : popD k < (readTo n l k).2
        · rw [readTo_new h2 ha]
          refine ⟨?_, fun s hs hb => ?_, Nat.le_trans (Nat.le_of_lt h2) ih.le, fun h => by cases h⟩
          · have e : (List.range k).filter (fun s => agreesD s l && decide (popD s = popD k)) = [] := List.filter_eq_nil_iff.2 fun s hs hc => by
              simp only [Bool.and_eq_true, decide_eq_true_eq] at hc
              have := ih.least s (List.mem_range.1 hs) hc.1
              omega
            rw [hr, List.filter_append, e]
            simp [ha]
          · rcases Nat.lt_or_ge s k with g | g
            · have := ih.least s g hb
              show popD k ≤ popD s
              omega
            · obtain rfl : s = k := by omega
              exact Nat.le_refl _
        · have he : popD k = (readTo n l k).2 := by omega
          rw [readTo_same he ha]
          refine ⟨?_, fun s hs hb => ?_, ih.le, fun h => by simp at h⟩
          · rw [hr, List.filter_append, ← ih.all]
            simp [ha, he]
          · rcases Nat.lt_or_ge s k with g | g
            · exact ih.least s g hb
            · obtain rfl : s = k := by omega
              exact Nat.le_of_eq he.symm
theorem popD_full : ∀ n : Nat, n ≤ 10 → popD (2 ^ n - 1) = n := by
  have h : ∀ n ∈ List.range 11, popD (2 ^ n - 1) = n := by decide +kernel
  exact fun n hn => h n (List.mem_range.2 (by omega))
theorem full_agrees {n : Nat} {l : List GlossD} (h : ∀ x ∈ l, x.signs.toNat ≠ 0 ∧ x.signs.toNat < 2 ^ n) : agreesD (2 ^ n - 1) l = true := by
  unfold agreesD
  refine List.all_eq_true.2 fun x hx => ?_
  unfold hitD
  refine decide_eq_true ?_
  rw [Nat.and_two_pow_sub_one_eq_mod, Nat.mod_eq_of_lt (h x hx).2]
  exact (h x hx).1
/-- the size of the sets found -/
def sizeD (n : Nat) (l : List GlossD) : Nat := (readTo n l (2 ^ n)).2
theorem readD_is (n : Nat) (l : List GlossD) : ReadIs n l (2 ^ n) (readD n l) (sizeD n l) := readTo_is n l (2 ^ n)
theorem readD_ne {n : Nat} {l : List GlossD} (hn : n ≤ 10) (h : ∀ x ∈ l, x.signs.toNat ≠ 0 ∧ x.signs.toNat < 2 ^ n) : readD n l ≠ [] := fun he => by
  have hi := readD_is n l
  have hf := full_agrees h
  have hp : 0 < 2 ^ n := Nat.pow_pos (by omega)
  have h1 := hi.least (2 ^ n - 1) (by omega) hf
  have h2 := hi.none he
  rw [popD_full n hn] at h1
  have hm : 2 ^ n - 1 ∈ readD n l := by
    rw [hi.all]
    exact List.mem_filter.2 ⟨List.mem_range.2 (by omega), by rw [hf, popD_full n hn]; simp [h2]⟩
  rw [he] at hm
  cases hm
/-- the reading: the first of the sets -/
def firstD (n : Nat) (l : List GlossD) : Nat := (readD n l).headD 0
theorem firstD_at {n : Nat} {l : List GlossD} (h : readD n l ≠ []) : (readD n l)[0]? = some (firstD n l) := by
  unfold firstD
  cases hr : readD n l with
  | nil => exact absurd hr h
  | cons a t => rfl
theorem firstD_facts {n : Nat} {l : List GlossD} (h : readD n l ≠ []) : firstD n l < 2 ^ n ∧ agreesD (firstD n l) l = true ∧ popD (firstD n l) = sizeD n l ∧ ∀ s, s < 2 ^ n → agreesD s l = true → popD (firstD n l) < popD s ∨ (popD (firstD n l) = popD s ∧ firstD n l ≤ s) := by
  have hi := readD_is n l
  have hm := List.mem_of_getElem? (firstD_at h)
  have hm' := hm
  rw [hi.all, List.mem_filter, List.mem_range] at hm'
  simp only [Bool.and_eq_true, decide_eq_true_eq] at hm'
  refine ⟨hm'.1, hm'.2.1, hm'.2.2, fun s hs ha => ?_⟩
  have h1 := hi.least s hs ha
  by_cases e : popD s = sizeD n l
  · refine .inr ⟨by rw [hm'.2.2, e], ?_⟩
    have hsm : s ∈ readD n l := by
      rw [hi.all]
      exact List.mem_filter.2 ⟨List.mem_range.2 hs, by rw [ha]; simp [e]⟩
    have hso : (readD n l).Pairwise (· < ·) := by rw [hi.all]; exact List.Pairwise.filter _ List.pairwise_lt_range
    have hf := firstD_at h
    cases hr : readD n l with
    | nil => exact absurd hr h
    | cons a t =>
      rw [hr] at hso hsm hf
      obtain rfl : a = firstD n l := by simpa using hf
      rcases List.mem_cons.1 hsm with rfl | hsm
      · exact Nat.le_refl _
      · exact Nat.le_of_lt ((List.pairwise_cons.1 hso).1 s hsm)
  · exact .inl (by rw [hm'.2.2]; omega)

end Go.Proofs.Ytinlojealfbbfaa
