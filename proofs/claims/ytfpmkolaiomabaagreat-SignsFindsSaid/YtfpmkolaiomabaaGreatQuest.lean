/- Quest: mathematics of SignsQuestion: the specification's answers for a part lead to as many signs as the program's, and Ask's part is the first with the fewest. -/
import Derived.Test.YtfpmkolaiomabaaGreatMade
import Derived.Test.YtfpmkolaiomabaaGreatAsk
namespace Go.Proofs.YtfpmkolaiomabaaGreat

def rNarrowD (s : SeenD) (p n : Int) : SeenD × Bool :=
  if p = 0 then ({ s with rights := 2 ^ (max 0 n).toNat }, decide (0 ≤ n) && hasD s.rights n)
  else if p = 1 then ({ s with lefts := 2 ^ (max 0 n).toNat }, decide (0 ≤ n) && hasD s.lefts n)
  else if p = 2 then ({ s with rl := n, rh := n }, inB n (max 0 s.rl) (min 5 s.rh))
  else if p = 3 then ({ s with cl := n, ch := n }, inB n s.cl (min 3 s.ch))
  else ({ s with faces := 2 ^ (max 0 n).toNat }, decide (0 ≤ n) && hasD s.faces n)
theorem rNarrowD_moves (s : SeenD) (p n : Int) : (rNarrowD s p n).1.moves = s.moves := by
  unfold rNarrowD
  repeat' split
  all_goals rfl
def rAnswersTo (s : SeenD) (p : Int) (k : Nat) : List SeenD := (List.range k).filterMap fun (i : Nat) => if (rNarrowD s p ((i : Int) - 3)).2 = true then some (rNarrowD s p ((i : Int) - 3)).1 else none
theorem rAnswersTo_succ (s : SeenD) (p : Int) (k : Nat) : rAnswersTo s p (k + 1) = rAnswersTo s p k ++ (if (rNarrowD s p ((k : Int) - 3)).2 = true then [(rNarrowD s p ((k : Int) - 3)).1] else []) := by
  unfold rAnswersTo
  rw [List.range_succ, List.filterMap_append]
  congr 1
  by_cases h : (rNarrowD s p ((k : Int) - 3)).2 = true <;> simp [h]
theorem rAnswersTo_length (s : SeenD) (p : Int) (k : Nat) : (rAnswersTo s p k).length ≤ k := by
  have := List.length_filterMap_le (fun (i : Nat) => if (rNarrowD s p ((i : Int) - 3)).2 = true then some (rNarrowD s p ((i : Int) - 3)).1 else none) (List.range k)
  simpa [rAnswersTo] using this
theorem rAnswers_mem {s : SeenD} {p : Int} {k : Nat} {v : SeenD} (h : v ∈ rAnswersTo s p k) : ∃ n : Int, -3 ≤ n ∧ n < (k : Int) - 3 ∧ (rNarrowD s p n).2 = true ∧ (rNarrowD s p n).1 = v := by
  unfold rAnswersTo at h
  rw [List.mem_filterMap] at h
  obtain ⟨i, hi, h⟩ := h
  rw [List.mem_range] at hi
  split at h
  · rename_i hc
    exact ⟨_, by omega, by omega, hc, Option.some.inj h⟩
  · cases h
theorem rAnswers_of {s : SeenD} {p : Int} {k : Nat} {n : Int} (h0 : -3 ≤ n) (h1 : n < (k : Int) - 3) (h : (rNarrowD s p n).2 = true) : (rNarrowD s p n).1 ∈ rAnswersTo s p k := by
  unfold rAnswersTo
  rw [List.mem_filterMap]
  have e : (((n + 3).toNat : Nat) : Int) - 3 = n := by omega
  exact ⟨(n + 3).toNat, List.mem_range.2 (by omega), by rw [e, if_pos h]⟩
theorem answers_mem {s : SeenD} {p : Int} {v : SeenD} (h : v ∈ answersD s p) : ∃ n : Int, 0 ≤ n ∧ n < 33 ∧ (narrowD s p n).2 = true ∧ (narrowD s p n).1 = v := by
  unfold answersD answersTo at h
  rw [List.mem_filterMap] at h
  obtain ⟨i, hi, h⟩ := h
  rw [List.mem_range] at hi
  split at h
  · rename_i hc
    exact ⟨_, by omega, by omega, hc, Option.some.inj h⟩
  · cases h
theorem answers_of {s : SeenD} {p : Int} {n : Int} (h0 : 0 ≤ n) (h1 : n < 33) (h : (narrowD s p n).2 = true) : (narrowD s p n).1 ∈ answersD s p := by
  unfold answersD answersTo
  rw [List.mem_filterMap]
  have e : ((n.toNat : Nat) : Int) = n := by omega
  exact ⟨n.toNat, List.mem_range.2 (by omega), by rw [e, if_pos h]⟩
theorem maxD_snoc (l : List EntryD) (vs : List SeenD) (v : SeenD) : maxD l (vs ++ [v]) = max (maxD l vs) (foundL v l).length := by simp [maxD]
theorem maxD_from (l : List EntryD) : ∀ (vs : List SeenD) (m : Nat), m ≤ vs.foldl (fun m v => max m (foundL v l).length) m ∧ (∀ v ∈ vs, (foundL v l).length ≤ vs.foldl (fun m v => max m (foundL v l).length) m) ∧ ∀ c, m ≤ c → (∀ v ∈ vs, (foundL v l).length ≤ c) → vs.foldl (fun m v => max m (foundL v l).length) m ≤ c
  | [], m => ⟨Nat.le_refl _, (fun v hv => by cases hv), fun c h _ => h⟩
  | v :: vs, m => by
    obtain ⟨h1, h2, h3⟩ := maxD_from l vs (max m (foundL v l).length)
    simp only [List.foldl_cons]
    refine ⟨by omega, ?_, ?_⟩
    · intro x hx
      rcases List.mem_cons.1 hx with rfl | hx
      · omega
      · exact h2 x hx
    · intro c hc h
      exact h3 c (by have := h v List.mem_cons_self; omega) fun x hx => h x (List.mem_cons_of_mem _ hx)
theorem le_maxD {l : List EntryD} {vs : List SeenD} {v : SeenD} (h : v ∈ vs) : (foundL v l).length ≤ maxD l vs := (maxD_from l vs 0).2.1 v h
theorem maxD_le {l : List EntryD} {vs : List SeenD} {c : Nat} (h : ∀ v ∈ vs, (foundL v l).length ≤ c) : maxD l vs ≤ c := (maxD_from l vs 0).2.2 c (Nat.zero_le _) h
theorem found_none {v : SeenD} {l : List EntryD} (h : ∀ y ∈ l, agreesD v (canonE y) = false) : (foundL v l).length = 0 := by
  have hf := foundL_of v l
  rw [List.length_eq_zero_iff, List.eq_nil_iff_forall_not_mem]
  intro x hx
  obtain ⟨y, hy, ha, _⟩ := (hf.2 x).1 hx
  rw [h y hy] at ha
  cases ha
theorem agrees_none {v : SeenD} {x : EntryD} (hx : okEntry x = true) (h : ∀ f, okForm f = true → agreesAsD v f = false) : agreesD v (canonE x) = false := by
  rw [agrees_canon _ hx]
  unfold agreesD
  rw [h _ (okEntry_okForm hx), h _ (okForm_mirror (okEntry_okForm hx))]
  simp
/-- both lists of answers lead to as many signs -/
theorem answers_same {l : List EntryD} {s : SeenD} {p : Int} (hl : ∀ x ∈ l, okEntry x = true) (hp : 0 ≤ p ∧ p ≤ 4) : maxD l (rAnswersTo s p 36) = maxD l (answersD s p) := by
  apply Nat.le_antisymm
  · refine maxD_le fun v hv => ?_
    obtain ⟨n, h0, h1, hc, rfl⟩ := rAnswers_mem hv
    rcases (show p = 0 ∨ p = 1 ∨ p = 2 ∨ p = 3 ∨ p = 4 by omega) with rfl | rfl | rfl | rfl | rfl
    · simp only [rNarrowD, if_true, Bool.and_eq_true, decide_eq_true_eq] at hc ⊢
      have := answers_of (s := s) (p := 0) (n := n) hc.1 (by omega) (by simpa [narrowD] using hc.2)
      simp only [narrowD, if_true] at this
      rw [show max 0 n = n by omega]
      exact le_maxD this
    · simp only [rNarrowD, if_true, Bool.and_eq_true, decide_eq_true_eq, show ¬((1 : Int) = 0) by decide, if_false] at hc ⊢
      have := answers_of (s := s) (p := 1) (n := n) hc.1 (by omega) (by simpa [narrowD] using hc.2)
      simp only [narrowD, if_true, show ¬((1 : Int) = 0) by decide, if_false] at this
      rw [show max 0 n = n by omega]
      exact le_maxD this
    · simp only [rNarrowD, if_true, inB_iff, show ¬((2 : Int) = 0) by decide, show ¬((2 : Int) = 1) by decide, if_false] at hc ⊢
      have := answers_of (s := s) (p := 2) (n := n) (by omega) (by omega) (by simp only [narrowD, if_true, show ¬((2 : Int) = 0) by decide, show ¬((2 : Int) = 1) by decide, if_false]; rw [inB_iff]; omega)
      simp only [narrowD, if_true, show ¬((2 : Int) = 0) by decide, show ¬((2 : Int) = 1) by decide, if_false] at this
      exact le_maxD this
    · simp only [rNarrowD, if_true, inB_iff, show ¬((3 : Int) = 0) by decide, show ¬((3 : Int) = 1) by decide, show ¬((3 : Int) = 2) by decide, if_false] at hc ⊢
      have := answers_of (s := s) (p := 3) (n := n + 3) (by omega) (by omega) (by simp only [narrowD, if_true, show ¬((3 : Int) = 0) by decide, show ¬((3 : Int) = 1) by decide, show ¬((3 : Int) = 2) by decide, if_false]; rw [inB_iff]; omega)
      simp only [narrowD, if_true, show ¬((3 : Int) = 0) by decide, show ¬((3 : Int) = 1) by decide, show ¬((3 : Int) = 2) by decide, if_false, show n + 3 - 3 = n by omega] at this
      exact le_maxD this
    · simp only [rNarrowD, Bool.and_eq_true, decide_eq_true_eq, show ¬((4 : Int) = 0) by decide, show ¬((4 : Int) = 1) by decide, show ¬((4 : Int) = 2) by decide, show ¬((4 : Int) = 3) by decide, if_false] at hc ⊢
      have := answers_of (s := s) (p := 4) (n := n) hc.1 (by omega) (by simpa [narrowD] using hc.2)
      simp only [narrowD, if_true, show ¬((4 : Int) = 0) by decide, show ¬((4 : Int) = 1) by decide, show ¬((4 : Int) = 2) by decide, show ¬((4 : Int) = 3) by decide, if_false] at this
      rw [show max 0 n = n by omega]
      exact le_maxD this
  · refine maxD_le fun v hv => ?_
    obtain ⟨n, h0, h1, hc, rfl⟩ := answers_mem hv
    rcases (show p = 0 ∨ p = 1 ∨ p = 2 ∨ p = 3 ∨ p = 4 by omega) with rfl | rfl | rfl | rfl | rfl
    · simp only [narrowD, if_true] at hc ⊢
      have := rAnswers_of (s := s) (p := 0) (k := 36) (n := n) (by omega) (by omega) (by simp [rNarrowD, h0, hc])
      simp only [rNarrowD, if_true, show max 0 n = n by omega] at this
      exact le_maxD this
    · simp only [narrowD, if_true, show ¬((1 : Int) = 0) by decide, if_false] at hc ⊢
      have := rAnswers_of (s := s) (p := 1) (k := 36) (n := n) (by omega) (by omega) (by simp [rNarrowD, h0, hc])
      simp only [rNarrowD, if_true, show ¬((1 : Int) = 0) by decide, if_false, show max 0 n = n by omega] at this
      exact le_maxD this
    · simp only [narrowD, if_true, show ¬((2 : Int) = 0) by decide, show ¬((2 : Int) = 1) by decide, if_false] at hc ⊢
      rw [inB_iff] at hc
      by_cases h5 : n ≤ 5
      · have := rAnswers_of (s := s) (p := 2) (k := 36) (n := n) (by omega) (by omega) (by simp only [rNarrowD, if_true, show ¬((2 : Int) = 0) by decide, show ¬((2 : Int) = 1) by decide, if_false, inB_iff]; omega)
        simp only [rNarrowD, if_true, show ¬((2 : Int) = 0) by decide, show ¬((2 : Int) = 1) by decide, if_false] at this
        exact le_maxD this
      · rw [found_none fun y hy => agrees_none (hl y hy) fun f hf => ?_]
        · exact Nat.zero_le _
        · obtain ⟨_, _, _, _, fw, _⟩ := okForm_iff.1 hf
          unfold agreesAsD
          dsimp only
          have : inB f.row n n = false := by
            cases h : inB f.row n n with
            | false => rfl
            | true => rw [inB_iff] at h; omega
          rw [this]
          simp
    · simp only [narrowD, if_true, show ¬((3 : Int) = 0) by decide, show ¬((3 : Int) = 1) by decide, show ¬((3 : Int) = 2) by decide, if_false] at hc ⊢
      rw [inB_iff] at hc
      by_cases h5 : n - 3 ≤ 3
      · have := rAnswers_of (s := s) (p := 3) (k := 36) (n := n - 3) (by omega) (by omega) (by simp only [rNarrowD, if_true, show ¬((3 : Int) = 0) by decide, show ¬((3 : Int) = 1) by decide, show ¬((3 : Int) = 2) by decide, if_false, inB_iff]; omega)
        simp only [rNarrowD, if_true, show ¬((3 : Int) = 0) by decide, show ¬((3 : Int) = 1) by decide, show ¬((3 : Int) = 2) by decide, if_false] at this
        exact le_maxD this
      · rw [found_none fun y hy => agrees_none (hl y hy) fun f hf => ?_]
        · exact Nat.zero_le _
        · obtain ⟨_, _, _, fc, _⟩ := okForm_iff.1 hf
          unfold agreesAsD
          dsimp only
          have : inB f.column (n - 3) (n - 3) = false := by
            cases h : inB f.column (n - 3) (n - 3) with
            | false => rfl
            | true => rw [inB_iff] at h; omega
          rw [this]
          simp
    · simp only [narrowD, if_true, show ¬((4 : Int) = 0) by decide, show ¬((4 : Int) = 1) by decide, show ¬((4 : Int) = 2) by decide, show ¬((4 : Int) = 3) by decide, if_false] at hc ⊢
      have := rAnswers_of (s := s) (p := 4) (k := 36) (n := n) (by omega) (by omega) (by simp [rNarrowD, h0, hc])
      simp only [rNarrowD, show ¬((4 : Int) = 0) by decide, show ¬((4 : Int) = 1) by decide, show ¬((4 : Int) = 2) by decide, show ¬((4 : Int) = 3) by decide, if_false, show max 0 n = n by omega] at this
      exact le_maxD this
/-- what is asked of is a sight still -/
theorem rNarrow_ok {s : SeenD} {p n : Int} (hs : okSeen s = true) (hn : -3 ≤ n ∧ n ≤ 32) (h : (rNarrowD s p n).2 = true) : okSeen (rNarrowD s p n).1 = true := by
  obtain ⟨r1, l1, c1, w1, a1, n1, m1, o1, f1, g1⟩ := okSeen_iff.1 hs
  have hpow : ∀ k : Nat, k ≤ 32 → (1 : Int) ≤ 2 ^ k ∧ (2 : Int) ^ k ≤ 8589934591 := fun k hk => by
    have h1 := Nat.pow_lt_pow_right (a := 2) (by omega) (show k < 33 by omega)
    have h2 : 0 < 2 ^ k := Nat.pow_pos (by omega)
    rw [show (2 : Nat) ^ 33 = 8589934592 from rfl] at h1
    rw [show ((2 : Int) ^ k) = ((2 ^ k : Nat) : Int) by simp]
    omega
  unfold rNarrowD at h ⊢
  split at h
  · rename_i hp
    rw [if_pos hp]
    exact okSeen_iff.2 ⟨hpow _ (by omega), l1, c1, w1, a1, n1, m1, o1, f1, g1⟩
  split at h
  · rename_i hp0 hp
    rw [if_neg hp0, if_pos hp]
    exact okSeen_iff.2 ⟨r1, hpow _ (by omega), c1, w1, a1, n1, m1, o1, f1, g1⟩
  split at h
  · rename_i hp0 hp1 hp
    rw [if_neg hp0, if_neg hp1, if_pos hp]
    exact okSeen_iff.2 ⟨r1, l1, c1, Int.le_refl _, a1, n1, m1, o1, f1, g1⟩
  split at h
  · rename_i hp0 hp1 hp2 hp
    rw [if_neg hp0, if_neg hp1, if_neg hp2, if_pos hp]
    exact okSeen_iff.2 ⟨r1, l1, Int.le_refl _, w1, a1, n1, m1, o1, f1, g1⟩
  · rename_i hp0 hp1 hp2 hp3
    rw [if_neg hp0, if_neg hp1, if_neg hp2, if_neg hp3]
    simp only [Bool.and_eq_true, decide_eq_true_eq] at h
    have hn7 : n.toNat ≤ 7 := by
      rcases Nat.lt_or_ge n.toNat 8 with h8 | h8
      · omega
      · have hb := h.2
        rw [hasD_bit (by omega)] at hb
        have : s.faces.toNat < 2 ^ n.toNat := Nat.lt_of_lt_of_le (show s.faces.toNat < 2 ^ 8 by rw [show (2 : Nat) ^ 8 = 256 from rfl]; omega) (Nat.pow_le_pow_right (by omega) h8)
        rw [Nat.testBit_lt_two_pow this] at hb
        cases hb
    refine okSeen_iff.2 ⟨r1, l1, c1, w1, a1, n1, m1, o1, ?_, g1⟩
    dsimp only
    rw [show max 0 n = n by omega]
    generalize n.toNat = k at hn7
    match k, hn7 with
    | 0, _ | 1, _ | 2, _ | 3, _ | 4, _ | 5, _ | 6, _ | 7, _ => decide
theorem bestOf_spec (g : Nat → Nat) : ∀ k, 0 < k → (bestOf g k).1 < k ∧ (bestOf g k).2 = g (bestOf g k).1 ∧ (∀ p, p < k → (bestOf g k).2 ≤ g p) ∧ ∀ p, p < (bestOf g k).1 → (bestOf g k).2 < g p
  | 0, h => by omega
  | k + 1, _ => by
    rw [bestOf_succ]
    by_cases h0 : k = 0
    · subst h0
      rw [if_pos (.inl rfl)]
      exact ⟨by omega, rfl, fun p hp => by obtain rfl : p = 0 := by omega
                                           exact Nat.le_refl _, fun p hp => by omega⟩
    · obtain ⟨h1, h2, h3, h4⟩ := bestOf_spec g k (by omega)
      by_cases hlt : g k < (bestOf g k).2
      · rw [if_pos (.inr hlt)]
        dsimp only
        refine ⟨by omega, rfl, fun p hp => ?_, fun p hp => ?_⟩
        · rcases (show p < k ∨ p = k by omega) with h | rfl
          · have := h3 p h; omega
          · exact Nat.le_refl _
        · have := h3 p hp; omega
      · rw [if_neg (by omega)]
        refine ⟨by omega, h2, fun p hp => ?_, h4⟩
        rcases (show p < k ∨ p = k by omega) with h | rfl
        · exact h3 p h
        · omega

end Go.Proofs.YtfpmkolaiomabaaGreat
