/- CheapF: the team that is found is the cheapest that fits, and of those the least. -/
import Derived.Test.YticeekkfdkfcgaaFlip
import Derived.Test.YticeekkfdkfcgaaVital
namespace Go.Proofs.Yticeekkfdkfcgaa
open Go.RowKit

theorem team_spec {f : Fin 1024 → Nat} {g : Fin 1024 → Int} : ∀ k, k ≤ 1024 →
    ((((tmTo k).filter (fitF f)).foldl (pickT g) (0, 0)).1 = 0 ∧ ∀ x : Fin 1024, 1 ≤ x.val → x.val < k → f x ≠ 0) ∨
    ∃ t : Fin 1024, ((tmTo k).filter (fitF f)).foldl (pickT g) (0, 0) = (t.val, g t) ∧ 1 ≤ t.val ∧ t.val < k ∧ f t = 0 ∧ ∀ x : Fin 1024, 1 ≤ x.val → x.val < k → f x = 0 → g t < g x ∨ (g t = g x ∧ t.val ≤ x.val)
  | 0, _ => .inl ⟨rfl, fun x _ h => by omega⟩
  | k + 1, hk => by
    by_cases h1 : 1 ≤ k
    · have ih := team_spec (f := f) (g := g) k (by omega)
      have hk2 : k < 1024 := by omega
      rw [tmTo_succ h1 hk2, List.filter_append]
      have hlast : ∀ x : Fin 1024, x.val < k + 1 → x.val < k ∨ x = ⟨k, hk2⟩ := fun x hx => by
        rcases Nat.lt_succ_iff_lt_or_eq.1 hx with h | h
        · exact .inl h
        · exact .inr (Fin.ext h)
      by_cases hf : f ⟨k, hk2⟩ = 0
      · rw [show [(⟨k, hk2⟩ : Fin 1024)].filter (fitF f) = [⟨k, hk2⟩] by simp [fitF, hf], pickT_snoc]
        right
        rcases ih with ⟨h0, hno⟩ | ⟨t, e, t1, t2, t3, t4⟩
        · refine ⟨⟨k, hk2⟩, by unfold pickT; rw [if_pos (.inl h0)], h1, Nat.lt_succ_self k, hf, fun x hx1 hx2 hx3 => ?_⟩
          rcases hlast x hx2 with h | rfl
          · exact absurd hx3 (hno x hx1 h)
          · exact .inr ⟨rfl, Nat.le_refl _⟩
        · rw [e]
          by_cases hg : g ⟨k, hk2⟩ < g t
          · refine ⟨⟨k, hk2⟩, by unfold pickT; rw [if_pos (.inr hg)], h1, Nat.lt_succ_self k, hf, fun x hx1 hx2 hx3 => ?_⟩
            rcases hlast x hx2 with h | rfl
            · left
              rcases t4 x hx1 h hx3 with q | q <;> omega
            · exact .inr ⟨rfl, Nat.le_refl _⟩
          · have hng : ¬ ((t.val, g t).1 = 0 ∨ g ⟨k, hk2⟩ < (t.val, g t).2) := fun h => by
              rcases h with h | h
              · have h' : t.val = 0 := h
                omega
              · exact hg h
            refine ⟨t, by unfold pickT; rw [if_neg hng], t1, by omega, t3, fun x hx1 hx2 hx3 => ?_⟩
            rcases hlast x hx2 with h | rfl
            · exact t4 x hx1 h hx3
            · have : t.val ≤ k := by omega
              by_cases he : g t = g ⟨k, hk2⟩
              · exact .inr ⟨he, this⟩
              · left; omega
      · rw [show [(⟨k, hk2⟩ : Fin 1024)].filter (fitF f) = [] by simp [fitF, hf], List.append_nil]
        rcases ih with ⟨h0, hno⟩ | ⟨t, e, t1, t2, t3, t4⟩
        · refine .inl ⟨h0, fun x hx1 hx2 => ?_⟩
          rcases hlast x hx2 with h | rfl
          · exact hno x hx1 h
          · exact hf
        · refine .inr ⟨t, e, t1, by omega, t3, fun x hx1 hx2 hx3 => ?_⟩
          rcases hlast x hx2 with h | rfl
          · exact t4 x hx1 h hx3
          · exact absurd hx3 hf
    · obtain rfl : k = 0 := by omega
      rw [show (0 : Nat) + 1 = 1 from rfl, tmTo_one]
      exact .inl ⟨rfl, fun x h1 h2 => by omega⟩
/-- what Team gives where some team fits -/
structure Cheap (c : CrewR) (j : JobD) (t : Nat) (fe : Int) : Prop where
  pos : 1 ≤ t
  lt : t < 2 ^ c.people.length
  fits : brokenT c j t = 0
  cost : fe = feeL (membersL c.people t)
  least : ∀ o, 1 ≤ o → o < 2 ^ c.people.length → brokenT c j o = 0 → fe < feeL (membersL c.people o) ∨ (fe = feeL (membersL c.people o) ∧ t ≤ o)
theorem cheap_or {c : CrewR} {j : JobD} (h : crewErr c.d j = 0) (hl : c.people.length ≤ 8) : (tmE c j = 3 ∧ ∀ o, 1 ≤ o → o < 2 ^ c.people.length → brokenT c j o ≠ 0) ∨ (tmE c j = 0 ∧ Cheap c j (tmT c j) (tmF c j)) := by
  have hpl : 2 ^ c.people.length ≤ 256 := Nat.pow_le_pow_right (n := 2) (by omega) hl
  have hn : ¬ crewErr c.d j ≠ 0 := fun e => e h
  have e1 : tmT c j = (teamD (brokenF c j) (feeF c) c.people.length).1 := by unfold tmT; rw [if_neg hn]
  have e2 : tmE c j = if tmT c j = 0 then 3 else 0 := by unfold tmE; rw [if_neg hn]
  rcases team_spec (f := brokenF c j) (g := feeF c) (2 ^ c.people.length) (by omega) with ⟨h0, hno⟩ | ⟨t, e, t1, t2, t3, t4⟩
  · left
    refine ⟨by rw [e2, e1]; exact if_pos h0, fun o h1 h2 => hno ⟨o, by omega⟩ h1 h2⟩
  · right
    have e3 : (teamD (brokenF c j) (feeF c) c.people.length) = (t.val, feeF c t) := e
    have e4 : tmT c j = t.val := by rw [e1, e3]
    have hne : ¬ tmT c j = 0 := by omega
    refine ⟨by rw [e2]; exact if_neg hne, ?_⟩
    have e5 : tmF c j = feeF c t := by unfold tmF; rw [if_neg hne, e3]
    rw [e4, e5]
    exact ⟨t1, t2, t3, rfl, fun o h1 h2 h3 => t4 ⟨o, by omega⟩ h1 h2 h3⟩
theorem or_zero {α : Type} {f : α → Nat} : ∀ (l : List α) (s : Nat), l.foldl (fun s x => s ||| f x) s = 0 → s = 0 ∧ ∀ y ∈ l, f y = 0
  | [], s, h => ⟨h, fun y hy => by cases hy⟩
  | x :: l, s, h => by
    rw [List.foldl_cons] at h
    obtain ⟨h1, h2⟩ := or_zero l _ h
    have q1 : s ≤ s ||| f x := Nat.left_le_or
    have q2 : f x ≤ s ||| f x := Nat.right_le_or
    refine ⟨by omega, fun y hy => ?_⟩
    rcases List.mem_cons.1 hy with rfl | hy
    · omega
    · exact h2 y hy
theorem or3_zero {a b d e : Nat} (h : ((a ||| b) ||| d) ||| e = 0) : a = 0 := by
  have q1 : a ≤ a ||| b := Nat.left_le_or
  have q2 : a ||| b ≤ (a ||| b) ||| d := Nat.left_le_or
  have q3 : (a ||| b) ||| d ≤ ((a ||| b) ||| d) ||| e := Nat.left_le_or
  omega
theorem fit_may {c : CrewR} {j : JobD} {t i : Nat} (h : crewErr c.d j = 0) (hf : brokenT c j t = 0) (hi : i < c.people.length) (hb : hasN t i = true) : i ∈ mayL c j := by
  unfold mayL
  rw [if_neg (fun e => e h), zeros_mem]
  refine ⟨hi, ?_⟩
  have h0 : ruleO j (membersL c.people t) = 0 := by
    unfold brokenT brokenL at hf
    exact or3_zero hf
  have h1 := (or_zero _ _ h0).2 ⟨(i, c.people[i]), List.getElem?_eq_getElem hi⟩ ((memTo_mem _).2 ⟨hi, hb⟩)
  show (c.people.map fun x => breakD j x.d)[i]? = some 0
  rw [List.getElem?_map, List.getElem?_eq_getElem hi]
  exact congrArg some h1
theorem mayL_lt (c : CrewR) (j : JobD) : ∀ x ∈ mayL c j, x < c.people.length := by
  unfold mayL
  split
  · intro x hx; cases hx
  · intro x hx; exact (zeros_mem.1 hx).1
/-- the set of the first k of a list -/
def maskN (l : List Nat) (k : Nat) : Nat := (l.take k).foldl (fun s x => s ||| 2 ^ x) 0
theorem maskN_succ {l : List Nat} {k x : Nat} (h : l[k]? = some x) : maskN l (k + 1) = maskN l k ||| 2 ^ x := by
  unfold maskN
  rw [List.take_add_one, h, List.foldl_append]
  rfl
theorem maskN_lt {l : List Nat} {n : Nat} (h : ∀ x ∈ l, x < n) : ∀ k, maskN l k < 2 ^ n := by
  intro k
  unfold maskN
  have : ∀ (l : List Nat) (s : Nat), (∀ x ∈ l, x < n) → s < 2 ^ n → l.foldl (fun s x => s ||| 2 ^ x) s < 2 ^ n := by
    intro l
    induction l with
    | nil => exact fun s _ h => h
    | cons x l ih => exact fun s hx hs => ih _ (fun y hy => hx y (List.mem_cons_of_mem _ hy)) (Nat.or_lt_two_pow hs (Nat.pow_lt_pow_right (by omega) (hx x (List.mem_cons_self ..))))
  exact this _ 0 (fun x hx => h x (List.mem_of_mem_take hx)) (Nat.pos_of_ne_zero (by simp))
theorem maskN_has {l : List Nat} {i : Nat} (h : i ∈ l) : hasN (maskN l l.length) i = true := by
  unfold maskN
  rw [List.take_length, hasN_bit]
  have : ∀ (l : List Nat) (s : Nat), (i ∈ l ∨ Nat.testBit s i = true) → Nat.testBit (l.foldl (fun s x => s ||| 2 ^ x) s) i = true := by
    intro l
    induction l with
    | nil =>
      rintro s (h | h)
      · cases h
      · exact h
    | cons x l ih =>
      intro s h
      refine ih _ ?_
      rcases h with h | h
      · rcases List.mem_cons.1 h with rfl | h
        · right
          rw [Nat.testBit_or, Nat.testBit_two_pow_self, Bool.or_true]
        · exact .inl h
      · right
        rw [Nat.testBit_or, h]; rfl
  exact this l 0 (.inl h)
theorem andnot_zero : ∀ t : Nat, t < 32 → ∀ m : Nat, m < 32 → (∀ i, i < 5 → hasN t i = true → hasN m i = true) → bits .andNot .i64 (t : Int) (m : Int) = 0 := by decide +kernel

end Go.Proofs.Yticeekkfdkfcgaa
