/- TieF: a crew in which one person has a tie to the client alone: the teams without that person break what they broke, the others break rule 1. -/
import Derived.Test.YticeekkfdkfcgaaFlip
import Derived.Test.YticeekkfdkfcgaaVital
namespace Go.Proofs.Yticeekkfdkfcgaa
open Go.RowKit

/-- c' is c but for the ties of one person -/
structure TiedC (c c' : CrewR) (who : Nat) (cl : Int) : Prop where
  lang : c'.languages = c.languages
  laws : c'.laws = c.laws
  len : c'.people.length = c.people.length
  same : ∀ k, k ≠ who → (c'.people[k]?).map (·.d) = (c.people[k]?).map (·.d)
  one : ∃ x x', c.people[who]? = some x ∧ c'.people[who]? = some x' ∧ x'.d = { x.d with ties := [cl] }
section
variable {c c' : CrewR} {who : Nat} {j : JobD} (h : TiedC c c' who j.client)
include h
theorem TiedC.err (h0 : crewErr c.d j = 0) : crewErr c'.d j = 0 := by
  obtain ⟨h1, h2⟩ := crewErr_ok h0
  have hcl : inB j.client 0 99 = true := by
    unfold okJob at h2
    simp only [Bool.and_eq_true] at h2
    exact h2.2.1.1.1
  have h3 : okCrew c'.d = true := by
    unfold okCrew at h1 ⊢
    simp only [Bool.and_eq_true, decide_eq_true_eq, List.length_map] at h1 ⊢
    obtain ⟨⟨q1, q2, q3⟩, q4, q5⟩ := h1
    rw [h.lang, h.laws, h.len]
    refine ⟨⟨q1, q2, ?_⟩, q4, q5⟩
    rw [List.all_eq_true] at q3 ⊢
    intro p hp
    obtain ⟨x', hx', rfl⟩ := List.mem_map.1 hp
    obtain ⟨k, hk⟩ := List.mem_iff_getElem?.1 hx'
    by_cases hkw : k = who
    · subst hkw
      obtain ⟨x, y, e1, e2, e3⟩ := h.one
      obtain rfl : y = x' := Option.some.inj (e2.symm.trans hk)
      have hq := q3 x.d (List.mem_map.2 ⟨x, List.mem_of_getElem? e1, rfl⟩)
      rw [e3]
      unfold okPerson at hq ⊢
      simp only [Bool.and_eq_true] at hq ⊢
      obtain ⟨⟨⟨w1, w2⟩, w3, w4⟩, w5⟩ := hq
      exact ⟨⟨⟨w1, w2⟩, by simp, by simp [hcl]⟩, w5⟩
    · have e := h.same k hkw
      rw [hk] at e
      cases hc : c.people[k]? with
      | none => rw [hc] at e; cases e
      | some x =>
        rw [hc] at e
        have e2 : x'.d = x.d := Option.some.inj e
        rw [e2]
        exact q3 x.d (List.mem_map.2 ⟨x, List.mem_of_getElem? hc, rfl⟩)
  unfold crewErr
  rw [h3, show okJob c'.d.languages j = true from by rw [show c'.d.languages = c.languages from h.lang]; exact h2]
  rfl
theorem TiedC.law : lawOf c'.d j = lawOf c.d j := by
  unfold lawOf
  rw [show c'.d.laws = c.d.laws from h.laws]
theorem TiedC.mem (t : Nat) (ht : hasN t who = false) : ∀ k, (memTo c'.people t k).map (fun x => x.1.2.d) = (memTo c.people t k).map (fun x => x.1.2.d)
  | 0 => rfl
  | k + 1 => by
    have ih := TiedC.mem t ht k
    have hl := h.len
    by_cases hlt : k < c'.people.length
    · have e1 := List.getElem?_eq_getElem hlt
      have e2 := List.getElem?_eq_getElem (l := c.people) (i := k) (by omega)
      cases hb : hasN t k with
      | true =>
        have hne : k ≠ who := by rintro rfl; rw [ht] at hb; cases hb
        have hk := h.same k hne
        rw [e1, e2] at hk
        have hd : (c'.people[k]).d = (c.people[k]'(by omega)).d := Option.some.inj hk
        rw [memTo_yes e1 hb, memTo_yes e2 hb, List.map_append, List.map_append, ih]
        show _ ++ [(c'.people[k]).d] = _ ++ [(c.people[k]'(by omega)).d]
        rw [hd]
      | false => rw [memTo_no hb, memTo_no hb, ih]
    · rw [memTo_out hlt, memTo_out (by omega), ih]
theorem TiedC.out (t : Nat) (ht : hasN t who = false) : brokenT c' j t = brokenT c j t := by
  have hm : (membersL c'.people t).map (fun x => x.1.2.d) = (membersL c.people t).map (fun x => x.1.2.d) := by
    unfold membersL
    rw [h.len]
    exact TiedC.mem h t ht _
  have ha : ∀ lv, (fun a b => joinsL lv a b (membersL c'.people t)) = fun a b => joinsL lv a b (membersL c.people t) := fun lv => by
    funext a b
    rw [joinsL_d, joinsL_d, hm]
  unfold brokenT brokenL
  rw [ha, ruleO_d, ruleO_d, deafL_d, deafL_d, hm, TiedC.law h, h.lang]
theorem TiedC.in_ (t : Nat) (ht : hasN t who = true) : brokenT c' j t ≠ 0 := by
  obtain ⟨x, x', e1, e2, e3⟩ := h.one
  have hlt : who < c'.people.length := lt_of_at e2
  have hor : ∀ (l : List (Mem c'.people)) (s : Nat) (y : Mem c'.people), (y ∈ l ∧ breakD j y.1.2.d ≠ 0) ∨ s ≠ 0 → l.foldl (fun s x => s ||| breakD j x.1.2.d) s ≠ 0 := by
    intro l
    induction l with
    | nil =>
      rintro s y (⟨hy, _⟩ | hs)
      · cases hy
      · exact hs
    | cons z l ih =>
      intro s y hy
      rw [List.foldl_cons]
      refine ih _ y ?_
      rcases hy with ⟨hy, hb⟩ | hs
      · rcases List.mem_cons.1 hy with rfl | hy
        · right
          have := (Nat.right_le_or : breakD j y.1.2.d ≤ s ||| breakD j y.1.2.d)
          omega
        · exact .inl ⟨hy, hb⟩
      · right
        have := (Nat.left_le_or : s ≤ s ||| breakD j z.1.2.d)
        omega
  have hb : breakD j x'.d ≠ 0 := by
    have hT : brkD j x'.d 0 = true := by
      unfold brkD tiedD
      rw [e3]
      simp
    unfold breakD
    rw [hT]
    simp
  have hr : ruleO j (membersL c'.people t) ≠ 0 := hor _ 0 ⟨(who, x'), e2⟩ (.inl ⟨(memTo_mem _).2 ⟨hlt, ht⟩, hb⟩)
  unfold brokenT brokenL
  intro he
  have key : ∀ a b d : Nat, a ≠ 0 → ((a ||| b) ||| d) ≠ 0 := fun a b d ha => by
    have q1 : a ≤ a ||| b := Nat.left_le_or
    have q2 : (a ||| b) ≤ (a ||| b) ||| d := Nat.left_le_or
    omega
  have key2 : ∀ a b d e : Nat, a ≠ 0 → (((a ||| b) ||| d) ||| e) ≠ 0 := fun a b d e ha => by
    have q1 := key a b d ha
    have q2 : ((a ||| b) ||| d) ≤ ((a ||| b) ||| d) ||| e := Nat.left_le_or
    omega
  exact key2 _ _ _ _ hr he
end
theorem com_bit {f : Fin 1024 → Nat} {i : Nat} : ∀ (l : List (Fin 1024)) (s : Nat), Nat.testBit (l.foldl (fun s x => s &&& x.val) s) i = (Nat.testBit s i && l.all fun x => Nat.testBit x.val i)
  | [], s => by simp
  | x :: l, s => by
    rw [List.foldl_cons, com_bit (f := f) l, Nat.testBit_and, List.all_cons, Bool.and_assoc]
theorem fits_none {f : Fin 1024 → Nat} {m : Nat} : (tmTo m).filter (fitF f) = [] ↔ ∀ x : Fin 1024, 1 ≤ x.val → x.val < m → f x ≠ 0 := by
  rw [List.filter_eq_nil_iff]
  constructor
  · intro h x h1 h2 h0
    exact h x ((tmTo_mem _).2 ⟨h1, h2⟩) (by simpa using h0)
  · intro h x hx h0
    obtain ⟨h1, h2⟩ := (tmTo_mem _).1 hx
    exact h x h1 h2 (by simpa using h0)
/-- who stands in each team that fits: the team that is found without that person tells -/
theorem tie_law {c c' : CrewR} {who : Nat} {j : JobD} (h : TiedC c c' who j.client) (h0 : crewErr c.d j = 0) (hw : who < c.people.length) (hv : vitE c j (brokenT c j) = 0) : (tmE c' j = 3 ∧ who ∈ vitL c j (brokenT c j)) ∨ (tmE c' j = 0 ∧ who ∉ vitL c j (brokenT c j)) := by
  have hn : ¬ crewErr c'.d j ≠ 0 := fun e => e (TiedC.err h h0)
  have e1 : tmT c' j = (teamD (brokenF c' j) (feeF c') c'.people.length).1 := by unfold tmT; rw [if_neg hn]
  have e2 : tmE c' j = if tmT c' j = 0 then 3 else 0 := by unfold tmE; rw [if_neg hn]
  have e3 : who ∈ vitL c j (brokenT c j) ↔ ∀ x : Fin 1024, 1 ≤ x.val → x.val < 2 ^ c.people.length → brokenT c j x.val = 0 → hasN x.val who = true := by
    unfold vitL
    rw [if_neg (fun e => e hv)]
    unfold onesTo
    rw [List.mem_filter, List.mem_range, hasN_bit]
    unfold comTo
    rw [com_bit (f := fun x => brokenT c j x.val), Nat.testBit_two_pow_sub_one, decide_eq_true hw, Bool.true_and, List.all_eq_true]
    constructor
    · rintro ⟨_, hq⟩ x h1 h2 h3
      rw [hasN_bit]
      exact hq x (List.mem_filter.2 ⟨(tmTo_mem _).2 ⟨h1, h2⟩, by simpa using h3⟩)
    · intro hq
      refine ⟨hw, fun x hx => ?_⟩
      obtain ⟨hx1, hx2⟩ := List.mem_filter.1 hx
      obtain ⟨h1, h2⟩ := (tmTo_mem _).1 hx1
      have := hq x h1 h2 (by simpa using hx2)
      rwa [hasN_bit] at this
  have e4 : (teamD (brokenF c' j) (feeF c') c'.people.length).1 = 0 ↔ ∀ x : Fin 1024, 1 ≤ x.val → x.val < 2 ^ c.people.length → brokenF c' j x ≠ 0 := by
    rw [team_empty, fits_none, h.len]
  rw [e2, e1, e3]
  by_cases hall : ∀ x : Fin 1024, 1 ≤ x.val → x.val < 2 ^ c.people.length → brokenT c j x.val = 0 → hasN x.val who = true
  · left
    refine ⟨if_pos (e4.2 fun x h1 h2 => ?_), hall⟩
    show brokenT c' j x.val ≠ 0
    cases hb : hasN x.val who with
    | true => exact TiedC.in_ h _ hb
    | false =>
      rw [TiedC.out h _ hb]
      intro he
      have := hall x h1 h2 he
      rw [hb] at this
      cases this
  · right
    refine ⟨if_neg (fun hno' => hall fun x h1 h2 h3 => ?_), hall⟩
    have hno := e4.1 hno'
    cases hb : hasN x.val who with
    | true => rfl
    | false =>
      have := hno x h1 h2
      rw [show brokenF c' j x = brokenT c j x.val from TiedC.out h _ hb] at this
      exact absurd h3 this
theorem vitL_lt (c : CrewR) (j : JobD) (f : Nat → Nat) : ∀ x ∈ vitL c j f, x < c.people.length := by
  unfold vitL
  split
  · intro x hx; cases hx
  · intro x hx
    exact List.mem_range.1 (List.mem_filter.1 hx).1
theorem vitL_up (c : CrewR) (j : JobD) (f : Nat → Nat) {k a b : Nat} (ha : (vitL c j f)[k]? = some a) (hb : (vitL c j f)[k + 1]? = some b) : a < b := by
  have hp : (vitL c j f).Pairwise (· < ·) := by
    unfold vitL
    split
    · exact List.Pairwise.nil
    · exact List.pairwise_lt_range.filter _
  obtain ⟨hka, ea⟩ := List.getElem?_eq_some_iff.1 ha
  obtain ⟨hkb, eb⟩ := List.getElem?_eq_some_iff.1 hb
  rw [← ea, ← eb]
  exact List.pairwise_iff_getElem.1 hp k (k + 1) hka hkb (by omega)
/-- Vital's and Team's error, where the crew and the job are in order -/
theorem vit_err {c : CrewR} {j : JobD} (h : crewErr c.d j = 0) : (vitE c j (brokenT c j) = 0) ∨ (vitE c j (brokenT c j) = 3 ∧ tmE c j = 3) := by
  have hn : ¬ crewErr c.d j ≠ 0 := fun e => e h
  unfold vitE tmE tmT
  rw [if_neg hn, if_neg hn, if_neg hn]
  show _ ∨ ((if (teamD (brokenF c j) (feeF c) c.people.length).1 = 0 then (3 : Int) else 0) = 3 ∧ _)
  by_cases h0 : (teamD (brokenF c j) (feeF c) c.people.length).1 = 0
  · exact .inr ⟨if_pos h0, if_pos h0⟩
  · exact .inl (if_neg h0)

end Go.Proofs.Yticeekkfdkfcgaa
