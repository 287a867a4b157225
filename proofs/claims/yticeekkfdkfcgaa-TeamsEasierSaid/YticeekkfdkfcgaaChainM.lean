/- ChainM: the search for a chain, step by step. -/
import Derived.Test.YticeekkfdkfcgaaChainS
import Derived.Test.YticeekkfdkfcgaaCount
import Derived.Test.YticeekkfdkfcgaaBreach
namespace Go.Proofs.Yticeekkfdkfcgaa
open Go.RowKit

abbrev natsL (xs : List Nat) : List Int := xs.map fun (n : Nat) => (n : Int)
/-- how many of the five languages are not reached -/
def popU (r : Nat) : Nat := ((List.range 5).map fun i => 1 - r / 2 ^ i % 2).sum
theorem popU_or : ∀ r k : Nat, r < 32 → k < 5 → r / 2 ^ k % 2 ≠ 1 → popU (r ||| 2 ^ k) + 1 = popU r ∧ r ||| 2 ^ k < 32 := by
  have h : ∀ r ∈ List.range 32, ∀ k ∈ List.range 5, r / 2 ^ k % 2 ≠ 1 → popU (r ||| 2 ^ k) + 1 = popU r ∧ r ||| 2 ^ k < 32 := by decide +kernel
  exact fun r k hr hk => h r (List.mem_range.2 hr) k (List.mem_range.2 hk)
theorem popU_one : ∀ k : Nat, k < 5 → popU (2 ^ k) = 4 ∧ 2 ^ k < 32 := by
  have h : ∀ k ∈ List.range 5, popU (2 ^ k) = 4 ∧ 2 ^ k < 32 := by decide +kernel
  exact fun k hk => h k (List.mem_range.2 hk)
/-- chains of languages below n -/
def ChainOK (n : Nat) (ch : List Nat) : Prop := ch ≠ [] ∧ ∀ x ∈ ch, x < n
structure SearchOK (n f : Nat) (s : Nat × List (List Nat)) : Prop where
  r : s.1 < 32
  q : ∀ ch ∈ s.2, ChainOK n ch
  fuel : s.2.length + popU s.1 + 1 ≤ f
  len : ∀ ch ∈ s.2, ch.length + popU s.1 ≤ 5
theorem last_mem {ch : List Nat} (h : ch ≠ []) : ch.getLastD 0 ∈ ch := by
  rw [List.getLastD_eq_getLast?, List.getLast?_eq_some_getLast h]
  exact List.getLast_mem h
theorem last_at {ch : List Nat} (h : ch ≠ []) : ch[ch.length - 1]? = some (ch.getLastD 0) := by
  rw [List.getLastD_eq_getLast?, List.getLast?_eq_getElem?]
  have : ch.length - 1 < ch.length := by have := List.length_pos_iff.2 h; omega
  rw [List.getElem?_eq_getElem this]
  rfl
def roundTo (adj : Nat → Nat → Bool) (ch : List Nat) (last : Nat) (s : Nat × List (List Nat)) (m : Nat) : Nat × List (List Nat) := (List.range m).foldl (stepC adj ch last) s
theorem roundTo_succ (adj : Nat → Nat → Bool) (ch : List Nat) (last : Nat) (s : Nat × List (List Nat)) (m : Nat) : roundTo adj ch last s (m + 1) = stepC adj ch last (roundTo adj ch last s m) m := by
  unfold roundTo
  rw [List.range_succ, List.foldl_append]
  rfl
theorem stepC_skip {adj : Nat → Nat → Bool} {ch : List Nat} {last m : Nat} {s : Nat × List (List Nat)} (h : hasN s.1 m = true ∨ adj last m = false) : stepC adj ch last s m = s := by
  unfold stepC
  rcases h with h | h
  · have : (s.1 / 2 ^ m % 2 == 1) = true := by unfold hasN at h; simpa using h
    rw [this]; rfl
  · rw [h]; simp
theorem stepC_take {adj : Nat → Nat → Bool} {ch : List Nat} {last m : Nat} {s : Nat × List (List Nat)} (h : hasN s.1 m = false) (h2 : adj last m = true) : stepC adj ch last s m = (s.1 ||| 2 ^ m, s.2 ++ [ch ++ [m]]) := by
  unfold stepC
  have : (s.1 / 2 ^ m % 2 == 1) = false := by unfold hasN at h; simpa using h
  rw [this, h2]
  rfl
theorem SearchOK.step {adj : Nat → Nat → Bool} {ch : List Nat} {last m n f : Nat} {s : Nat × List (List Nat)} (h : SearchOK n f s) (hc : ChainOK n ch) (hcl : ch.length + popU s.1 ≤ 5) (hm : m < n) (hn : n ≤ 5) : SearchOK n f (stepC adj ch last s m) ∧ popU (stepC adj ch last s m).1 ≤ popU s.1 ∧ (stepC adj ch last s m).2.length + popU (stepC adj ch last s m).1 = s.2.length + popU s.1 := by
  cases hh : hasN s.1 m with
  | true => rw [stepC_skip (.inl hh)]; exact ⟨h, Nat.le_refl _, rfl⟩
  | false =>
    cases ha : adj last m with
    | false => rw [stepC_skip (.inr ha)]; exact ⟨h, Nat.le_refl _, rfl⟩
    | true =>
      rw [stepC_take hh ha]
      have hb : s.1 / 2 ^ m % 2 ≠ 1 := by unfold hasN at hh; simpa using hh
      obtain ⟨h1, h2⟩ := popU_or s.1 m h.r (by omega) hb
      refine ⟨⟨h2, fun x hx => ?_, ?_, fun x hx => ?_⟩, by show popU (s.1 ||| 2 ^ m) ≤ _; omega, by show (s.2 ++ [ch ++ [m]]).length + popU (s.1 ||| 2 ^ m) = _; rw [List.length_append, List.length_singleton]; omega⟩
      rotate_left
      · have := h.fuel
        simp only [List.length_append, List.length_singleton]
        omega
      · show x.length + popU (s.1 ||| 2 ^ m) ≤ 5
        rcases List.mem_append.1 hx with hx | hx
        · have := h.len x hx; omega
        · obtain rfl := List.mem_singleton.1 hx
          rw [List.length_append, List.length_singleton]
          omega
      · rcases List.mem_append.1 hx with hx | hx
        · exact h.q x hx
        · obtain rfl := List.mem_singleton.1 hx
          refine ⟨by simp, fun y hy => ?_⟩
          rcases List.mem_append.1 hy with hy | hy
          · exact hc.2 y hy
          · obtain rfl := List.mem_singleton.1 hy
            exact hm
theorem SearchOK.roundTo {adj : Nat → Nat → Bool} {ch : List Nat} {last n f : Nat} {s : Nat × List (List Nat)} (h : SearchOK n f s) (hc : ChainOK n ch) (hcl : ch.length + popU s.1 ≤ 5) (hn : n ≤ 5) : ∀ m, m ≤ n → SearchOK n f (roundTo adj ch last s m) ∧ popU (Go.Proofs.Yticeekkfdkfcgaa.roundTo adj ch last s m).1 ≤ popU s.1 ∧ (Go.Proofs.Yticeekkfdkfcgaa.roundTo adj ch last s m).2.length + popU (Go.Proofs.Yticeekkfdkfcgaa.roundTo adj ch last s m).1 = s.2.length + popU s.1
  | 0, _ => ⟨h, Nat.le_refl _, rfl⟩
  | m + 1, hm => by
    rw [roundTo_succ]
    obtain ⟨h1, h2, h5⟩ := h.roundTo (adj := adj) (last := last) hc hcl hn m (by omega)
    obtain ⟨h3, h4, h6⟩ := h1.step (adj := adj) (last := last) (m := m) hc (by omega) (by omega) hn
    exact ⟨h3, by omega, by omega⟩
theorem SearchOK.pop {n f : Nat} {r : Nat} {ch : List Nat} {q : List (List Nat)} (h : SearchOK n (f + 1) (r, ch :: q)) : SearchOK n f (r, q) := by
  refine ⟨h.r, fun x hx => h.q x (List.mem_cons_of_mem _ hx), ?_, fun x hx => h.len x (List.mem_cons_of_mem _ hx)⟩
  have := h.fuel
  simp only [List.length_cons] at this ⊢
  omega
theorem SearchOK.start {n fr : Nat} (hf : fr < n) (hn : n ≤ 5) : SearchOK n 6 (2 ^ fr, [[fr]]) := by
  obtain ⟨h1, h2⟩ := popU_one fr (by omega)
  refine ⟨h2, fun x hx => ?_, ?_, fun x hx => ?_⟩
  rotate_left
  · show 1 + popU (2 ^ fr) + 1 ≤ 6
    omega
  · obtain rfl := List.mem_singleton.1 hx
    show 1 + popU (2 ^ fr) ≤ 5
    omega
  · obtain rfl := List.mem_singleton.1 hx
    exact ⟨by simp, fun y hy => by obtain rfl := List.mem_singleton.1 hy; exact hf⟩
theorem searchC_nil (n : Nat) (adj : Nat → Nat → Bool) (dst f r : Nat) : searchC n adj dst f (r, []) = none := by
  cases f <;> rfl
theorem searchC_hit {n : Nat} {adj : Nat → Nat → Bool} {dst f r : Nat} {ch : List Nat} {q : List (List Nat)} (h : ch.getLastD 0 = dst) : searchC n adj dst (f + 1) (r, ch :: q) = some ch := by
  show (bif ch.getLastD 0 == dst then some ch else _) = _
  rw [h]
  simp
theorem searchC_on {n : Nat} {adj : Nat → Nat → Bool} {dst f r : Nat} {ch : List Nat} {q : List (List Nat)} (h : ch.getLastD 0 ≠ dst) : searchC n adj dst (f + 1) (r, ch :: q) = searchC n adj dst f (roundTo adj ch (ch.getLastD 0) (r, q) n) := by
  show (bif ch.getLastD 0 == dst then some ch else searchC n adj dst f (roundC n adj ch (ch.getLastD 0) r q)) = _
  have : (ch.getLastD 0 == dst) = false := by simpa using h
  rw [this]
  rfl

end Go.Proofs.Yticeekkfdkfcgaa
