/- Best: the groups that cover a slot, the cheapest one, and the cheapest watch: what the program searches is what the specification searches. -/
import Derived.Test.YtcgnibfcjadnjaaPool
namespace Go.Proofs.Ytcgnibfcjadnjaa

/-- the numbers below k of which f is true, as a set -/
def bitsTo (f : Nat → Bool) : Nat → Nat
  | 0 => 0
  | k + 1 => if f k then bitsTo f k + 2 ^ k else bitsTo f k
theorem bitsTo_lt (f : Nat → Bool) : ∀ k, bitsTo f k < 2 ^ k
  | 0 => by simp [bitsTo]
  | k + 1 => by
    have := bitsTo_lt f k
    have h2 : 2 ^ (k + 1) = 2 ^ k * 2 := Nat.pow_succ _ _
    unfold bitsTo
    split <;> omega
theorem bitsTo_has (f : Nat → Bool) : ∀ k e, hasN (bitsTo f k) e = (decide (e < k) && f e)
  | 0, e => by simp [bitsTo, has_zero]
  | k + 1, e => by
    have ih := bitsTo_has f k e
    have hd : e ≠ k → decide (e < k) = decide (e < k + 1) := fun he => by
      by_cases h : e < k
      · rw [decide_eq_true h, decide_eq_true (by omega)]
      · rw [decide_eq_false h, decide_eq_false (by omega)]
    unfold bitsTo
    cases hk : f k with
    | true =>
      rw [if_pos rfl, has_top (bitsTo_lt f k), ih]
      by_cases he : e = k
      · subst he; simp [hk]
      · rw [hd he]; simp [he]
    | false =>
      rw [if_neg Bool.false_ne_true, ih]
      by_cases he : e = k
      · subst he; simp [hk]
      · rw [hd he]
/-- all who can be on call in a slot -/
def ableD (p : Pool) (s : Nat) : Nat := bitsTo (fun i => hasN (p.folk.getD i nof).s s) p.folk.length
theorem able_lt (p : Pool) (s : Nat) : ableD p s < 2 ^ p.folk.length := bitsTo_lt _ _
theorem able_32 {p : Pool} (h : Good p) (s : Nat) : ableD p s < 32 := Nat.lt_of_lt_of_le (able_lt p s) (by have := Nat.pow_le_pow_right (n := 2) (by omega) h.f5; simpa using this)
theorem sub_32 {a b : Nat} (hb : b < 32) (h : subN a b = true) : a < 32 := Nat.lt_of_le_of_lt (sub_le h) hb

/-- all groups within a group, in ascending order -/
def subsL (g : Nat) : List Nat := (List.range (g + 1)).filter fun x => subN x g
theorem subs_mem {g x : Nat} : x ∈ subsL g ↔ subN x g = true := by
  unfold subsL
  rw [List.mem_filter, List.mem_range]
  exact ⟨fun h => h.2, fun h => ⟨by have := sub_le h; omega, h⟩⟩
theorem subs_sorted (g : Nat) : (subsL g).Pairwise (· < ·) := List.Pairwise.filter _ List.pairwise_lt_range

def costTo (l : List FolkN) (g : Nat) : Nat → Nat
  | 0 => 0
  | k + 1 => if hasN g k then costTo l g k + (l.getD k nof).y else costTo l g k
def costD (p : Pool) (g : Nat) : Nat := costTo p.folk g p.folk.length
theorem costTo_mono {l : List FolkN} {a b : Nat} (h : subN a b = true) : ∀ k, costTo l a k ≤ costTo l b k
  | 0 => Nat.le_refl _
  | k + 1 => by
    have ih := costTo_mono (l := l) h k
    unfold costTo
    cases ha : hasN a k with
    | true => rw [sub_iff.1 h k ha]; simp only [if_true]; omega
    | false => cases hasN b k <;> simp <;> omega
theorem cost_mono {p : Pool} {a b : Nat} (h : subN a b = true) : costD p a ≤ costD p b := costTo_mono h _

/-- groups that can be on call in a slot and cover it -/
def Cov (p : Pool) (s x : Nat) : Prop := subN x (ableD p s) = true ∧ coveredD p s x = true
def coverStep (p : Pool) (s : Nat) (l : List Nat) (g : Nat) : List Nat := if l.any (fun x => subN x g) then l else if coveredD p s g then l ++ [g] else l
def coveringD (p : Pool) (s : Nat) : List Nat := (subsL (ableD p s)).foldl (coverStep p s) []

theorem covering_facts (p : Pool) (s : Nat) : ∀ (rest pre : List Nat) (l : List Nat), (pre ++ rest).Pairwise (· < ·) → (∀ x, x ∈ l → x ∈ pre) → l.Pairwise (· < ·) →
    (∀ x, x ∈ l → coveredD p s x = true) → (∀ x, x ∈ pre → coveredD p s x = true → ∃ m, m ∈ l ∧ subN m x = true) →
    let r := rest.foldl (coverStep p s) l
    (∀ x, x ∈ r → x ∈ pre ++ rest ∧ coveredD p s x = true) ∧ r.Pairwise (· < ·) ∧ (∀ x, x ∈ pre ++ rest → coveredD p s x = true → ∃ m, m ∈ r ∧ subN m x = true)
  | [], pre, l, _, h2, h3, h4, h5 => by
    simp only [List.foldl_nil, List.append_nil]
    exact ⟨fun x hx => ⟨h2 x hx, h4 x hx⟩, h3, h5⟩
  | g :: rest, pre, l, h1, h2, h3, h4, h5 => by
    have e : pre ++ g :: rest = (pre ++ [g]) ++ rest := by simp
    have hlt : ∀ x, x ∈ pre → x < g := fun x hx => (List.pairwise_append.1 h1).2.2 x hx g (by simp)
    rw [List.foldl_cons, e]
    rw [e] at h1
    refine covering_facts p s rest (pre ++ [g]) _ h1 ?_ ?_ ?_ ?_
    · intro x hx
      unfold coverStep at hx
      split at hx
      · exact List.mem_append_left _ (h2 x hx)
      · split at hx
        · rcases List.mem_append.1 hx with hx | hx
          · exact List.mem_append_left _ (h2 x hx)
          · exact List.mem_append_right _ hx
        · exact List.mem_append_left _ (h2 x hx)
    · unfold coverStep
      split
      · exact h3
      · split
        · refine List.pairwise_append.2 ⟨h3, by simp, fun a ha b hb => ?_⟩
          obtain rfl : b = g := by simpa using hb
          exact hlt a (h2 a ha)
        · exact h3
    · intro x hx
      unfold coverStep at hx
      split at hx
      · exact h4 x hx
      · split at hx
        · rename_i hc
          rcases List.mem_append.1 hx with hx | hx
          · exact h4 x hx
          · obtain rfl : x = g := by simpa using hx
            exact hc
        · exact h4 x hx
    · intro x hx hc
      unfold coverStep
      rcases List.mem_append.1 hx with hx | hx
      · obtain ⟨m, hm, hs⟩ := h5 x hx hc
        refine ⟨m, ?_, hs⟩
        split
        · exact hm
        · split
          · exact List.mem_append_left _ hm
          · exact hm
      · obtain rfl : x = g := by simpa using hx
        split
        · rename_i ha
          obtain ⟨m, hm, hs⟩ := List.any_eq_true.1 ha
          exact ⟨m, hm, hs⟩
        · exact ⟨x, by simp, sub_refl x⟩
theorem covering_all (p : Pool) (s : Nat) : (∀ x, x ∈ coveringD p s → Cov p s x) ∧ (coveringD p s).Pairwise (· < ·) ∧ ∀ x, Cov p s x → ∃ m, m ∈ coveringD p s ∧ subN m x = true := by
  have h := covering_facts p s (subsL (ableD p s)) [] [] (by simpa using subs_sorted _) (by simp) (by simp) (by simp) (by simp)
  simp only [List.nil_append] at h
  exact ⟨fun x hx => ⟨subs_mem.1 (h.1 x hx).1, (h.1 x hx).2⟩, h.2.1, fun x hx => h.2.2 x (subs_mem.2 hx.1) hx.2⟩

/-! ### the first of the least -/
/-- the first of the least by k, of b and a list -/
def leastTo {α : Type} (k : α → Nat) : List α → α → α
  | [], b => b
  | x :: l, b => leastTo k l (if k x < k b then x else b)
theorem least_spec {α : Type} (k : α → Nat) (R : α → α → Prop) (ha : ∀ x y, R x y → ¬ R y x) :
    ∀ (l : List α) (b : α), (b :: l).Pairwise R → leastTo k l b ∈ b :: l ∧ ∀ x, x ∈ b :: l → k (leastTo k l b) < k x ∨ (k (leastTo k l b) = k x ∧ (x = leastTo k l b ∨ R (leastTo k l b) x))
  | [], b, _ => ⟨by simp [leastTo], fun x hx => by
    obtain rfl : x = b := by simpa using hx
    exact .inr ⟨rfl, .inl rfl⟩⟩
  | y :: l, b, hp => by
    have hp2 := List.pairwise_cons.1 hp
    have hp3 := List.pairwise_cons.1 hp2.2
    by_cases h : k y < k b
    · obtain ⟨h1, h2⟩ := least_spec k R ha l y hp2.2
      rw [leastTo, if_pos h]
      refine ⟨List.mem_cons_of_mem _ h1, fun x hx => ?_⟩
      rcases List.mem_cons.1 hx with rfl | hx
      · have := h2 y (by simp)
        left
        rcases this with g | ⟨g, _⟩ <;> omega
      · exact h2 x hx
    · obtain ⟨h1, h2⟩ := least_spec k R ha l b (List.pairwise_cons.2 ⟨fun x hx => hp2.1 x (by simp [hx]), hp3.2⟩)
      rw [leastTo, if_neg h]
      generalize leastTo k l b = m at h1 h2 ⊢
      refine ⟨by rcases List.mem_cons.1 h1 with rfl | h1 <;> simp [*], fun x hx => ?_⟩
      rcases List.mem_cons.1 hx with rfl | hx
      · exact h2 x (by simp)
      · rcases List.mem_cons.1 hx with rfl | hx
        · have hb := h2 b (by simp)
          rcases hb with g | ⟨g, g2⟩
          · left; omega
          · rcases Nat.lt_or_ge (k m) (k x) with q | q
            · exact .inl q
            · refine .inr ⟨by omega, .inr ?_⟩
              rcases List.mem_cons.1 h1 with rfl | h1
              · exact hp2.1 x (by simp)
              · rcases g2 with rfl | g2
                · exact hp2.1 x (by simp)
                · exact absurd g2 (ha _ _ (hp2.1 m (by simp [h1])))
        · exact h2 x (by simp [hx])
def minL {α : Type} (k : α → Nat) : List α → Option α
  | [] => none
  | b :: l => some (leastTo k l b)
theorem min_none {α : Type} {k : α → Nat} {l : List α} (h : minL k l = none) : l = [] := by
  cases l with
  | nil => rfl
  | cons b l => cases h
theorem min_some {α : Type} {k : α → Nat} {R : α → α → Prop} (ha : ∀ x y, R x y → ¬ R y x) {l : List α} (hp : l.Pairwise R) {m : α} (h : minL k l = some m) :
    m ∈ l ∧ ∀ x, x ∈ l → k m < k x ∨ (k m = k x ∧ (x = m ∨ R m x)) := by
  cases l with
  | nil => cases h
  | cons b l =>
    obtain rfl : leastTo k l b = m := Option.some.inj h
    exact least_spec k R ha l b hp
theorem lt_asym : ∀ x y : Nat, x < y → ¬ y < x := fun _ _ h k => by omega
/-- who is the least of some that hold the least of all, is the least of all -/
theorem min_part {k : Nat → Nat} {a b : List Nat} (ha : a.Pairwise (· < ·)) (hb : b.Pairwise (· < ·)) (hab : ∀ x, x ∈ a → x ∈ b) (hba : ∀ x, x ∈ b → ∃ m, m ∈ a ∧ (m = x ∨ k m < k x)) : minL k a = minL k b := by
  cases h1 : minL k a with
  | none =>
    rw [min_none h1] at hba
    cases h2 : minL k b with
    | none => rfl
    | some m =>
      obtain ⟨x, hx, _⟩ := hba m (min_some (R := (· < ·)) lt_asym hb h2).1
      cases hx
  | some m =>
    obtain ⟨p1, p2⟩ := min_some (R := (· < ·)) lt_asym ha h1
    cases h2 : minL k b with
    | none =>
      have := hab m p1
      rw [min_none h2] at this
      cases this
    | some n =>
      obtain ⟨q1, q2⟩ := min_some (R := (· < ·)) lt_asym hb h2
      have hna : n ∈ a := by
        obtain ⟨x, hx, hc⟩ := hba n q1
        rcases hc with rfl | hc
        · exact hx
        · rcases q2 x (hab x hx) with g | ⟨g, _⟩ <;> omega
      have e1 := p2 n hna
      have e2 := q2 m (hab m p1)
      congr 1
      rcases e1 with g | ⟨g, g2⟩
      · rcases e2 with g' | ⟨g', _⟩ <;> omega
      · rcases g2 with rfl | g2
        · rfl
        · rcases e2 with g' | ⟨g', g3⟩
          · omega
          · rcases g3 with rfl | g3
            · rfl
            · have g2 : m < n := g2
              have g3 : n < m := g3
              omega

/-! ### a slot -/
def keyD (p : Pool) (g : Nat) : Nat := costD p g * 16 + popD g
/-- the specification's: who can be on call and covers -/
def canB (p : Pool) (s g : Nat) : Bool := subN g (ableD p s)
def coversD (p : Pool) (s : Nat) : List Nat := (List.range (2 ^ p.folk.length)).filter fun g => canB p s g && standsD p s g p.ill
theorem covers_mem {p : Pool} (h : Good p) {s : Nat} (hs : s < p.needs.length) {x : Nat} : x ∈ coversD p s ↔ Cov p s x := by
  unfold coversD Cov canB
  rw [List.mem_filter, List.mem_range, Bool.and_eq_true]
  constructor
  · rintro ⟨_, a, b⟩
    exact ⟨a, by rw [← covered_stands h hs (sub_32 (able_32 h s) a)]; exact b⟩
  · rintro ⟨a, b⟩
    exact ⟨sub_lt (able_lt p s) a, a, by rw [covered_stands h hs (sub_32 (able_32 h s) a)]; exact b⟩
theorem covers_sorted (p : Pool) (s : Nat) : (coversD p s).Pairwise (· < ·) := List.Pairwise.filter _ List.pairwise_lt_range
theorem pop_lt_of_sub : ∀ g < 32, ∀ x < 32, subN x g = true → x = g ∨ popD x < popD g := by decide +kernel
theorem slot_same {p : Pool} (h : Good p) {s : Nat} (hs : s < p.needs.length) : minL (keyD p) (coveringD p s) = minL (keyD p) (coversD p s) := by
  obtain ⟨c1, c2, c3⟩ := covering_all p s
  refine min_part c2 (covers_sorted p s) (fun x hx => (covers_mem h hs).2 (c1 x hx)) fun x hx => ?_
  have hx := (covers_mem h hs).1 hx
  obtain ⟨m, hm, hsub⟩ := c3 x hx
  refine ⟨m, hm, ?_⟩
  have hx32 := sub_32 (able_32 h s) hx.1
  have hm32 := sub_32 hx32 hsub
  rcases pop_lt_of_sub x hx32 m hm32 hsub with e | e
  · exact .inl e
  · right
    have := cost_mono (p := p) hsub
    unfold keyD
    omega

end Go.Proofs.Ytcgnibfcjadnjaa
