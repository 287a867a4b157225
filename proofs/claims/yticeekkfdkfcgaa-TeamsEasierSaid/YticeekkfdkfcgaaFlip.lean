/- Flip: what a ready crew and a team of it give of the chain: the bit of rule 6, the way back, a greater team. -/
import Derived.Test.YticeekkfdkfcgaaSame
namespace Go.Proofs.Yticeekkfdkfcgaa
open Go.RowKit

theorem ready_facts {c : CrewR} {j : JobD} (h : readyC c j = true) : farC c = false ∧ crewErr c.d j = 0 ∧ okCrew c.d = true ∧ okJob c.languages j = true := by
  unfold readyC at h
  rw [Bool.and_eq_true] at h
  have h2 : crewErr c.d j = 0 := of_decide_eq_true h.2
  have h3 := crewErr_ok h2
  exact ⟨by simpa using h.1, h2, h3.1, h3.2⟩
theorem five_people {c : CrewR} (h : farC c = false) (hk : okCrew c.d = true) : c.people.length ≤ 5 := by
  unfold farC at h
  rw [hk] at h
  simp only [Bool.or_eq_false_iff, Bool.true_and, decide_eq_false_iff_not] at h
  omega
theorem team_of {c : CrewR} {j : JobD} {team : Int} (h : crewErr c.d j = 0) (hl : c.people.length ≤ 8) (hb : inB team 0 (2 ^ c.people.length - 1) = true) : teamErr c.d j team = 0 ∧ ∃ t : Nat, team = (t : Int) ∧ t < 2 ^ c.people.length ∧ t < 1024 := by
  have h0 : teamErr c.d j team = 0 := by
    unfold teamErr
    rw [show c.d.people.length = c.people.length from List.length_map .., if_neg (by simp [h]), hb]
    rfl
  exact ⟨h0, team_nat h0 hl⟩
theorem teamErr_nat {c : CrewR} {j : JobD} {t : Nat} (h : crewErr c.d j = 0) (ht : t < 2 ^ c.people.length) : teamErr c.d j (t : Nat) = 0 := by
  unfold teamErr
  rw [show c.d.people.length = c.people.length from List.length_map .., if_neg (by simp [h])]
  have hb : inB (t : Nat) 0 (2 ^ c.people.length - 1) = true := inB_iff.2 (by
    have hpI : ((2 : Int) ^ c.people.length) = ((2 ^ c.people.length : Nat) : Int) := (Int.natCast_pow 2 _).symm
    omega)
  rw [hb]; rfl
/-- rule 6's bit -/
theorem chain_bit (c : CrewR) (j : JobD) (t : Nat) : (chainT c j t = none → 32 ≤ brokenT c j t) ∧ (chainT c j t ≠ none → brokenT c j t < 32) := by
  have hA : ∀ a, a < 8 → ∀ (p q : Prop) [Decidable p] [Decidable q], (a ||| (if p then 0 else 8)) ||| (if q then 16 else 0) < 32 := fun a ha p q _ _ =>
    Nat.or_lt_two_pow (n := 5) (Nat.or_lt_two_pow (n := 5) (by omega) (by split <;> decide)) (by split <;> decide)
  have h8 : ruleO j (membersL c.people t) < 8 := ruleO_lt _ _
  unfold brokenT brokenL chainT
  constructor
  · intro h
    rw [if_pos h]
    exact Nat.right_le_or
  · intro h
    rw [if_neg h, Nat.or_zero]
    exact hA _ h8 _ _
theorem bit6 : ∀ b, b < 64 → ((b / 32 % 2 = 0) ↔ b < 32) := by decide
/-- a job the other way round -/
def flipJ (j : JobD) : JobD := ⟨j.dest, j.fr, j.client, j.field, j.kind, j.size⟩
theorem flip_ok {n : Int} {j : JobD} : okJob n (flipJ j) = okJob n j := by
  unfold okJob flipJ
  rw [show decide (j.dest ≠ j.fr) = decide (j.fr ≠ j.dest) from by rw [decide_eq_decide]; exact ⟨fun h e => h e.symm, fun h e => h e.symm⟩, Bool.and_comm (inB j.dest 0 (n - 1))]
theorem flip_err {c : CrewD} {j : JobD} : crewErr c (flipJ j) = crewErr c j := by unfold crewErr; rw [flip_ok]
/-- what is known of a chain that was found -/
structure OneChain (c : CrewR) (j : JobD) (t : Nat) (l : List Nat) : Prop where
  two : 2 ≤ l.length
  few : l.length ≤ c.languages.toNat
  head : l.head? = some j.fr.toNat
  last : l.getLast? = some j.dest.toNat
  all : ∀ x ∈ l, x < c.languages.toNat
  along : alongC (fun a b => joinsL (lawOf c.d j).level a b (membersL c.people t)) l = true
theorem okJob_ne {n : Int} {j : JobD} (h : okJob n j = true) : j.fr ≠ j.dest := by
  unfold okJob at h
  simp only [Bool.and_eq_true, decide_eq_true_eq] at h
  exact h.1.2
theorem nat_ne {c : CrewR} {j : JobD} (g : GoodT c j c.languages.toNat j.fr.toNat j.dest.toNat) (h : j.fr ≠ j.dest) : j.fr.toNat ≠ j.dest.toNat := by
  intro e
  apply h
  rw [g.frI, g.dstI, e]
theorem one_chain {c : CrewR} {j : JobD} {t : Nat} {l : List Nat} (hr : readyC c j = true) (hl : chainT c j t = some l) : OneChain c j t l := by
  obtain ⟨_, _, h1, h2⟩ := ready_facts hr
  have g := good_ok h1 h2
  obtain ⟨q1, q2, q3, q4, q5, q6, _, _⟩ := (chain_facts g.n2 g.n5 (adj := fun a b => joinsL (lawOf c.d j).level a b (membersL c.people t)) (fun a b => joinsL_symm _ _ a b) g.frn g.dstn (nat_ne g (okJob_ne h2))).some l hl
  exact ⟨q1, q2, q3, q4, q5, q6⟩
theorem flip_chain {c : CrewR} {j : JobD} {t : Nat} {l : List Nat} (hr : readyC c j = true) (hl : chainT c j t = some l) : ∃ l', chainT c (flipJ j) t = some l' ∧ l'.length = l.length := by
  obtain ⟨_, _, h1, h2⟩ := ready_facts hr
  have g := good_ok h1 h2
  exact chain_back g.n2 g.n5 (adj := fun a b => joinsL (lawOf c.d j).level a b (membersL c.people t)) (fun a b => joinsL_symm _ _ a b) g.frn g.dstn (nat_ne g (okJob_ne h2)) hl
theorem hasN_or {t m k : Nat} (h : hasN t k = true) : hasN (t ||| m) k = true := by
  rw [hasN_bit] at h ⊢
  rw [Nat.testBit_or, h]; rfl
theorem joins_more {P : List PersonR} {lv : Int} {t m a b : Nat} (h : joinsL lv a b (membersL P t) = true) : joinsL lv a b (membersL P (t ||| m)) = true := by
  unfold joinsL at *
  obtain ⟨x, hx, hb⟩ := List.any_eq_true.1 h
  refine List.any_eq_true.2 ⟨x, ?_, hb⟩
  unfold membersL at *
  rw [memTo_mem] at hx ⊢
  exact ⟨hx.1, hasN_or hx.2⟩
theorem more_chain {c : CrewR} {j : JobD} {t m : Nat} {l : List Nat} (hr : readyC c j = true) (hl : chainT c j t = some l) : ∃ l', chainT c j (t ||| m) = some l' ∧ l'.length ≤ l.length := by
  obtain ⟨_, _, h1, h2⟩ := ready_facts hr
  have g := good_ok h1 h2
  exact chain_mono g.n2 g.n5 (adj := fun a b => joinsL (lawOf c.d j).level a b (membersL c.people t)) (adj' := fun a b => joinsL (lawOf c.d j).level a b (membersL c.people (t ||| m))) (fun a b => joinsL_symm _ _ a b) (fun a b => joinsL_symm _ _ a b) (fun a b => joins_more) g.frn g.dstn (nat_ne g (okJob_ne h2)) hl
theorem along_at {adj : Nat → Nat → Bool} : ∀ {l : List Nat} {k a b : Nat}, alongC adj l = true → l[k]? = some a → l[k + 1]? = some b → adj a b = true
  | [], _, _, _, _, h, _ => by cases h
  | [_], k, _, _, _, _, h => by cases h
  | x :: y :: l, 0, a, b, h, h1, h2 => by
    rw [show a = x from (Option.some.inj h1).symm, show b = y from (Option.some.inj h2).symm]
    exact (Bool.and_eq_true _ _ ▸ h : adj x y = true ∧ alongC adj (y :: l) = true).1
  | x :: y :: l, k + 1, a, b, h, h1, h2 => along_at (l := y :: l) (Bool.and_eq_true _ _ ▸ h : adj x y = true ∧ alongC adj (y :: l) = true).2 h1 h2
/-- Chain's error and list, where the team is one of a ready crew -/
theorem chE_team {c : CrewR} {j : JobD} {t : Nat} (h : crewErr c.d j = 0) (ht : t < 2 ^ c.people.length) : chE c j (t : Nat) = (if chainT c j t = none then 3 else 0) ∧ chL c j (t : Nat) = (chainT c j t).getD [] := by
  unfold chE chL
  rw [teamErr_nat h ht, if_neg (fun h : (0 : Int) ≠ 0 => h rfl), if_neg (fun h : (0 : Int) ≠ 0 => h rfl)]
  exact ⟨rfl, rfl⟩

end Go.Proofs.Yticeekkfdkfcgaa
