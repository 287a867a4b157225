/- EasierF: with one person more, or with one person of whom less is in the way, a team that fits is found and costs no more. -/
import Derived.Test.YticeekkfdkfcgaaCheapF
import Derived.Test.YticeekkfdkfcgaaRCopy
import Derived.Laws.IdiomCopy
import Derived.Deep.Upon
namespace Go.Proofs.Yticeekkfdkfcgaa
open Go.RowKit

theorem memTo_map {β : Type} (φ : PersonD → β) {P P' : List PersonR} (team : Nat) : ∀ k, (∀ i, i < k → (P[i]?).map (fun x => φ x.d) = (P'[i]?).map (fun x => φ x.d)) → (memTo P team k).map (fun x => φ x.1.2.d) = (memTo P' team k).map (fun x => φ x.1.2.d)
  | 0, _ => rfl
  | k + 1, h => by
    have ih := memTo_map φ (P := P) (P' := P') team k (fun i hi => h i (by omega))
    have hk := h k (by omega)
    by_cases hlt : k < P.length
    · have e1 := List.getElem?_eq_getElem hlt
      rw [e1] at hk
      cases e2 : P'[k]? with
      | none => rw [e2] at hk; cases hk
      | some y =>
        rw [e2] at hk
        have hd : φ (P[k]).d = φ y.d := Option.some.inj hk
        cases hb : hasN team k with
        | true =>
          rw [memTo_yes e1 hb, memTo_yes e2 hb, List.map_append, List.map_append, ih]
          show _ ++ [φ (P[k]).d] = _ ++ [φ y.d]
          rw [hd]
        | false => rw [memTo_no hb, memTo_no hb, ih]
    · have e1 : P[k]? = none := List.getElem?_eq_none (by omega)
      rw [e1] at hk
      cases e2 : P'[k]? with
      | some y => rw [e2] at hk; cases hk
      | none => rw [memTo_out hlt, memTo_out (by rw [List.getElem?_eq_none_iff] at e2; omega), ih]
/-- where each team that fits fits still at the same fee, Team finds one and it costs no more -/
theorem no_worse {c c' : CrewR} {j : JobD} (h0 : crewErr c.d j = 0) (hl : c.people.length ≤ 8) (h0' : crewErr c'.d j = 0) (hl' : c'.people.length ≤ 8) (hle : c.people.length ≤ c'.people.length)
    (hf : ∀ t, 1 ≤ t → t < 2 ^ c.people.length → brokenT c j t = 0 → brokenT c' j t = 0 ∧ feeL (membersL c'.people t) = feeL (membersL c.people t)) (ht : tmE c j = 0) : tmE c' j = 0 ∧ tmF c' j ≤ tmF c j := by
  rcases cheap_or h0 hl with ⟨e, _⟩ | ⟨_, hc⟩
  · rw [ht] at e; cases e
  · obtain ⟨q1, q2⟩ := hf _ hc.pos hc.lt hc.fits
    have hlt : tmT c j < 2 ^ c'.people.length := Nat.lt_of_lt_of_le hc.lt (Nat.pow_le_pow_right (by omega) hle)
    rcases cheap_or h0' hl' with ⟨_, hno⟩ | ⟨e, hc'⟩
    · exact absurd q1 (hno _ hc.pos hlt)
    · refine ⟨e, ?_⟩
      have h1 := hc.cost
      rcases hc'.least _ hc.pos hlt q1 with q | q <;> omega
/-- one person more -/
theorem more_person {c c' : CrewR} {j : JobD} {x : PersonR} (hl : c.people.length ≤ 8) (hlang : c'.languages = c.languages) (hlaws : c'.laws = c.laws) (hp : c'.people.map (·.d) = c.people.map (·.d) ++ [x.d]) (h0 : crewErr c.d j = 0) (hok : okCrew c'.d = true) (ht : tmE c j = 0) : tmE c' j = 0 ∧ tmF c' j ≤ tmF c j := by
  have hlen : c'.people.length = c.people.length + 1 := by have := congrArg List.length hp; simpa using this
  have h0' : crewErr c'.d j = 0 := by
    obtain ⟨_, h2⟩ := crewErr_ok h0
    unfold crewErr
    rw [hok, show okJob c'.d.languages j = true from by rw [show c'.d.languages = c.languages from hlang]; exact h2]
    rfl
  have hl' : c'.people.length ≤ 8 := (good_ok hok (crewErr_ok h0').2).len
  have hm : ∀ t, t < 2 ^ c.people.length → (membersL c'.people t).map (fun x => x.1.2.d) = (membersL c.people t).map (fun x => x.1.2.d) := fun t htl => by
    have hno : hasN t c.people.length = false := by
      rw [hasN_bit]
      exact Nat.testBit_lt_two_pow htl
    unfold membersL
    rw [hlen, memTo_no hno]
    refine memTo_map (fun d => d) t _ (fun i hi => ?_)
    have e := congrArg (fun l => l[i]?) hp
    simp only [List.getElem?_map, List.getElem?_append_left (show i < (c.people.map (·.d)).length by rw [List.length_map]; exact hi)] at e
    exact e
  refine no_worse h0 hl h0' hl' (by omega) (fun t _ htl hb => ?_) ht
  have hadj : ∀ lv, (fun a b => joinsL lv a b (membersL c'.people t)) = fun a b => joinsL lv a b (membersL c.people t) := fun lv => by
    funext a b
    rw [joinsL_d, joinsL_d, hm t htl]
  have hlw : lawOf c'.d j = lawOf c.d j := by unfold lawOf; rw [show c'.d.laws = c.d.laws from hlaws]
  constructor
  · rw [← hb]
    unfold brokenT brokenL
    rw [hadj, ruleO_d, ruleO_d, deafL_d, deafL_d, hm t htl, hlw, hlang]
  · rw [feeL_d, feeL_d, hm t htl]
/-- a person of whom no more is in the way -/
structure Better (j : JobD) (p p' : PersonD) : Prop where
  rules : breakD j p = 0 → breakD j p' = 0
  levels : ∀ a, lvD p a ≤ lvD p' a
  deaf : p'.deaf = p.deaf
  fee : p'.fee = p.fee
theorem Better.refl (j : JobD) (p : PersonD) : Better j p p := ⟨fun h => h, fun _ => by omega, rfl, rfl⟩
theorem Better.both {j : JobD} {p p' : PersonD} (h : Better j p p') {lv : Int} {a b : Nat} (hb : bothD lv a b p = true) : bothD lv a b p' = true := by
  unfold bothD at *
  have h1 := h.levels a
  have h2 := h.levels b
  rw [decide_eq_true_eq] at *
  omega
theorem fold_zero {α : Type} {f : α → Nat} : ∀ (l : List α), (∀ y ∈ l, f y = 0) → l.foldl (fun s x => s ||| f x) 0 = 0
  | [], _ => rfl
  | x :: l, h => by
    rw [List.foldl_cons, h x (List.mem_cons_self ..)]
    exact fold_zero l (fun y hy => h y (List.mem_cons_of_mem _ hy))
theorem better_crew {c c' : CrewR} {j : JobD} (hlang : c'.languages = c.languages) (hlaws : c'.laws = c.laws) (hlen : c'.people.length = c.people.length) (hb : ∀ (i : Nat) x, c.people[i]? = some x → ∃ x', c'.people[i]? = some x' ∧ Better j x.d x'.d) (h0 : crewErr c.d j = 0) (h0' : crewErr c'.d j = 0) (ht : tmE c j = 0) : tmE c' j = 0 ∧ tmF c' j ≤ tmF c j := by
  obtain ⟨h1, h2⟩ := crewErr_ok h0
  have g := good_ok h1 h2
  refine no_worse h0 g.len h0' (by rw [hlen]; exact g.len) (by omega) (fun t _ htl hbr => ?_) ht
  have hmap : ∀ {β : Type} (φ : PersonD → β), (∀ p p', Better j p p' → φ p' = φ p) → (membersL c'.people t).map (fun x => φ x.1.2.d) = (membersL c.people t).map (fun x => φ x.1.2.d) := fun φ hφ => by
    unfold membersL
    rw [hlen]
    refine memTo_map φ t _ (fun i hi => ?_)
    obtain ⟨x', e, hbt⟩ := hb i c.people[i] (List.getElem?_eq_getElem hi)
    rw [e, List.getElem?_eq_getElem hi]
    exact congrArg some (hφ _ _ hbt)
  have hmem : ∀ y' ∈ membersL c'.people t, ∃ y ∈ membersL c.people t, Better j y.1.2.d y'.1.2.d := fun y' hy' => by
    obtain ⟨q1, q2⟩ := (memTo_mem _).1 hy'
    rw [hlen] at q1
    obtain ⟨x', e, hbt⟩ := hb y'.1.1 c.people[y'.1.1] (List.getElem?_eq_getElem q1)
    refine ⟨⟨(y'.1.1, c.people[y'.1.1]), List.getElem?_eq_getElem q1⟩, (memTo_mem _).2 ⟨q1, q2⟩, ?_⟩
    rw [show y'.1.2 = x' from Option.some.inj (y'.2.symm.trans e)]
    exact hbt
  have hmem2 : ∀ y ∈ membersL c.people t, ∃ y' ∈ membersL c'.people t, Better j y.1.2.d y'.1.2.d := fun y hy => by
    obtain ⟨q1, q2⟩ := (memTo_mem _).1 hy
    obtain ⟨x', e, hbt⟩ := hb y.1.1 y.1.2 y.2
    exact ⟨⟨(y.1.1, x'), e⟩, (memTo_mem _).2 ⟨by rw [hlen]; exact q1, q2⟩, hbt⟩
  have hfee : feeL (membersL c'.people t) = feeL (membersL c.people t) := by
    unfold feeL
    rw [hmap (·.fee) (fun _ _ h => h.fee)]
  refine ⟨?_, hfee⟩
  have hlw : lawOf c'.d j = lawOf c.d j := by unfold lawOf; rw [show c'.d.laws = c.d.laws from hlaws]
  have hdeaf : deafL (membersL c'.people t) = deafL (membersL c.people t) := by
    have e : ∀ (P : List PersonR) (l : List (Mem P)), deafL l = (l.map fun x => x.1.2.d.deaf).any id := fun P l => by unfold deafL; rw [List.any_map]; rfl
    rw [e, e, hmap (·.deaf) (fun _ _ h => h.deaf)]
  unfold brokenT brokenL at hbr ⊢
  rw [hlw, hdeaf, hlang]
  have hr0 : ruleO j (membersL c.people t) = 0 := or3_zero hbr
  have hr1 : ruleO j (membersL c'.people t) = 0 := by
    unfold ruleO
    refine fold_zero _ (fun y' hy' => ?_)
    obtain ⟨y, hy, hbt⟩ := hmem y' hy'
    exact hbt.rules ((or_zero _ _ hr0).2 y hy)
  have hc0 : chainD c.languages.toNat (fun a b => joinsL (lawOf c.d j).level a b (membersL c.people t)) j.fr.toNat j.dest.toNat ≠ none := by
    intro hn
    rw [if_pos hn] at hbr
    have key : ∀ z : Nat, z ||| 32 = 0 → False := fun z h => by
      have : 32 ≤ z ||| 32 := Nat.right_le_or
      omega
    exact key _ hbr
  have hc1 : chainD c.languages.toNat (fun a b => joinsL (lawOf c.d j).level a b (membersL c'.people t)) j.fr.toNat j.dest.toNat ≠ none := by
    cases hch : chainD c.languages.toNat (fun a b => joinsL (lawOf c.d j).level a b (membersL c.people t)) j.fr.toNat j.dest.toNat with
    | none => exact absurd hch hc0
    | some l =>
      obtain ⟨l', e, _⟩ := chain_mono g.n2 g.n5 (adj := fun a b => joinsL (lawOf c.d j).level a b (membersL c.people t)) (adj' := fun a b => joinsL (lawOf c.d j).level a b (membersL c'.people t)) (fun a b => joinsL_symm _ _ a b) (fun a b => joinsL_symm _ _ a b) (fun a b hab => by
        obtain ⟨y, hy, hyb⟩ := List.any_eq_true.1 hab
        obtain ⟨y', hy', hbt⟩ := hmem2 y hy
        exact List.any_eq_true.2 ⟨y', hy', hbt.both hyb⟩) g.frn g.dstn (nat_ne g (okJob_ne h2)) hch
      rw [e]
      simp
  rw [if_neg hc0] at hbr
  rw [if_neg hc1, hr1]
  rw [hr0] at hbr
  exact hbr

/-- what an ease makes of a person -/
structure Eased (p p' : PersonD) (mf mc : Nat) : Prop where
  ties : ∀ x ∈ p'.ties, x ∈ p.ties
  few : p'.ties.length ≤ p.ties.length
  fields : p'.fields = ((p.fields.toNat ||| mf : Nat) : Int)
  clears : p'.clears = ((p.clears.toNat ||| mc : Nat) : Int)
  len : p'.levels.length = p.levels.length
  up : ∀ a, lvD p a ≤ lvD p' a
  all : (p.levels.all fun x => inB x 0 5) = true → (p'.levels.all fun x => inB x 0 5) = true
  deaf : p'.deaf = p.deaf
  fee : p'.fee = p.fee
theorem Eased.better {p p' : PersonD} {mf mc : Nat} (h : Eased p p' mf mc) (j : JobD) : Better j p p' := by
  refine ⟨fun h0 => ?_, h.up, h.deaf, h.fee⟩
  have hb : ∀ q : PersonD, breakD j q = 0 ↔ brkD j q 0 = false ∧ brkD j q 1 = false ∧ brkD j q 2 = false := fun q => by
    unfold breakD
    cases brkD j q 0 <;> cases brkD j q 1 <;> cases brkD j q 2 <;> decide
  rw [hb] at h0 ⊢
  obtain ⟨q0, q1, q2⟩ := h0
  have e0 : ∀ q : PersonD, brkD j q 0 = tiedD q j.client := fun q => rfl
  have e1 : ∀ q : PersonD, brkD j q 1 = !hasN q.fields.toNat j.field.toNat := fun q => rfl
  have e2 : ∀ q : PersonD, brkD j q 2 = !hasN q.clears.toNat j.kind.toNat := fun q => rfl
  rw [e0] at q0 ⊢
  rw [e1] at q1 ⊢
  rw [e2] at q2 ⊢
  refine ⟨?_, ?_, ?_⟩
  · unfold tiedD at q0 ⊢
    rw [List.any_eq_false] at q0 ⊢
    exact fun x hx => q0 x (h.ties x hx)
  · rw [h.fields, Int.toNat_natCast, hasN_or (by simpa using q1)]; rfl
  · rw [h.clears, Int.toNat_natCast, hasN_or (by simpa using q2)]; rfl
theorem Eased.ok {p p' : PersonD} {mf mc : Nat} {n : Int} (h : Eased p p' mf mc) (h1 : mf < 256) (h2 : mc < 256) (hp : okPerson n p = true) : okPerson n p' = true := by
  unfold okPerson at hp ⊢
  simp only [Bool.and_eq_true, decide_eq_true_eq] at hp ⊢
  obtain ⟨⟨⟨⟨w0, w1⟩, w2, w3⟩, w4, w5⟩, w6⟩ := hp
  rw [inB_iff] at w2 w3
  have q1 : p.fields.toNat ||| mf < 2 ^ 8 := Nat.or_lt_two_pow (by omega) h1
  have q2 : p.clears.toNat ||| mc < 2 ^ 8 := Nat.or_lt_two_pow (by omega) h2
  refine ⟨⟨⟨⟨by rw [h.len]; exact w0, h.all w1⟩, ?_, ?_⟩, ?_, ?_⟩, by rw [h.fee]; exact w6⟩
  · rw [h.fields, inB_iff]; omega
  · rw [h.clears, inB_iff]; omega
  · have := h.few; omega
  · rw [List.all_eq_true] at w5 ⊢
    exact fun x hx => w5 x (h.ties x hx)
/-- a crew in which one person was eased -/
theorem eased_crew {c d : CrewR} {who : Nat} {x y : PersonR} {j : JobD} {mf mc : Nat} (hd : d.d = c.d) (hy : d.people[who]? = some y) (hx : Eased y.d x.d mf mc) (h1 : mf < 256) (h2 : mc < 256) (h0 : crewErr c.d j = 0) (ht : tmE c j = 0) : tmE { d with people := d.people.set who x } j = 0 ∧ tmF { d with people := d.people.set who x } j ≤ tmF c j := by
  have hp : d.people.map (·.d) = c.people.map (·.d) := congrArg CrewD.people hd
  have hlang : d.languages = c.languages := congrArg CrewD.languages hd
  have hlaws : d.laws = c.laws := congrArg CrewD.laws hd
  have hl : d.people.length = c.people.length := by simpa using congrArg List.length hp
  have hat : ∀ k : Nat, (d.people[k]?).map (·.d) = (c.people[k]?).map (·.d) := fun k => by
    rw [← List.getElem?_map, ← List.getElem?_map, hp]
  have hlt := lt_of_at hy
  obtain ⟨k1, k2⟩ := crewErr_ok h0
  have hset : ∀ (i : Nat) z, c.people[i]? = some z → ∃ z', (d.people.set who x)[i]? = some z' ∧ ((i ≠ who ∧ z'.d = z.d) ∨ (i = who ∧ z' = x ∧ z.d = y.d)) := fun i z hz => by
    have e := hat i
    rw [hz] at e
    by_cases hi : i = who
    · subst hi
      rw [hy] at e
      exact ⟨x, List.getElem?_set_self hlt, .inr ⟨rfl, rfl, (Option.some.inj e).symm⟩⟩
    · cases hq : d.people[i]? with
      | none => rw [hq] at e; cases e
      | some z' =>
        rw [hq] at e
        exact ⟨z', by rw [List.getElem?_set_ne (fun e => hi e.symm)]; exact hq, .inl ⟨hi, Option.some.inj e⟩⟩
  have hok : okCrew (CrewR.d { d with people := d.people.set who x }) = true := by
    unfold okCrew at k1 ⊢
    simp only [Bool.and_eq_true, decide_eq_true_eq, List.length_map] at k1 ⊢
    obtain ⟨⟨q1, q2, q3⟩, q4, q5⟩ := k1
    rw [List.length_set]
    refine ⟨⟨by rw [hlang]; exact q1, by omega, ?_⟩, by rw [hlaws]; exact q4, by rw [hlaws]; exact q5⟩
    rw [List.all_eq_true] at q3 ⊢
    intro p hpm
    obtain ⟨z', hz', rfl⟩ := List.mem_map.1 hpm
    have hq := fun z hz => q3 z (List.mem_map.2 hz)
    obtain ⟨i, hi⟩ := List.mem_iff_getElem?.1 hz'
    have hil : i < c.people.length := by have := lt_of_at hi; rw [List.length_set] at this; omega
    obtain ⟨z2, e2, h3⟩ := hset i c.people[i] (List.getElem?_eq_getElem hil)
    obtain rfl : z2 = z' := Option.some.inj (e2.symm.trans hi)
    have hz := hq _ ⟨c.people[i], List.getElem_mem hil, rfl⟩
    rw [hlang]
    rcases h3 with ⟨_, e⟩ | ⟨_, rfl, e⟩
    · rw [e]; exact hz
    · rw [e] at hz
      exact hx.ok h1 h2 hz
  have h0' : crewErr (CrewR.d { d with people := d.people.set who x }) j = 0 := by
    unfold crewErr
    rw [hok, show okJob (CrewR.d { d with people := d.people.set who x }).languages j = true from by rw [show (CrewR.d { d with people := d.people.set who x }).languages = c.languages from hlang]; exact k2]
    rfl
  refine better_crew hlang hlaws (by rw [← hl]; exact List.length_set ..) (fun i z hz => ?_) h0 h0' ht
  obtain ⟨z', e, h3⟩ := hset i z hz
  refine ⟨z', e, ?_⟩
  rcases h3 with ⟨_, e2⟩ | ⟨_, rfl, e2⟩
  · rw [e2]; exact Better.refl j _
  · rw [e2]; exact hx.better j

theorem and_255 (v : Int) : ∃ m : Nat, m < 256 ∧ bits .and .i64 v 255 = (m : Int) := by
  have h : (BitVec.ofInt 64 v &&& BitVec.ofInt 64 255).toNat < 256 := by
    rw [BitVec.toNat_and]
    have e : (BitVec.ofInt 64 (255 : Int)).toNat = 255 := by decide
    rw [e]
    exact Nat.lt_of_le_of_lt Nat.and_le_right (by omega)
  refine ⟨_, h, ?_⟩
  show IntKind.i64.wrap ((BitVec.ofInt 64 v &&& BitVec.ofInt 64 255).toNat : Int) = _
  exact IntWalk.i64_in _ (by omega)
theorem person_in {c d : CrewR} {j : JobD} {who : Nat} {y : PersonR} (h0 : crewErr c.d j = 0) (hd : d.d = c.d) (hy : d.people[who]? = some y) : okPerson c.languages y.d = true := by
  obtain ⟨k1, _⟩ := crewErr_ok h0
  unfold okCrew at k1
  simp only [Bool.and_eq_true] at k1
  have h := k1.1.2.2
  rw [List.all_eq_true] at h
  refine h y.d ?_
  rw [← show d.people.map (·.d) = c.people.map (·.d) from congrArg CrewD.people hd]
  exact List.mem_map.2 ⟨y, List.mem_of_getElem? hy, rfl⟩
theorem person_ok {c d : CrewR} {j : JobD} {who : Nat} {y : PersonR} (h0 : crewErr c.d j = 0) (hd : d.d = c.d) (hy : d.people[who]? = some y) : 0 ≤ y.d.fields ∧ 0 ≤ y.d.clears := by
  have h := person_in h0 hd hy
  unfold okPerson at h
  simp only [Bool.and_eq_true] at h
  have w2 := inB_iff.1 h.1.1.2.1
  have w3 := inB_iff.1 h.1.1.2.2
  exact ⟨w2.1, w3.1⟩
theorem Eased.none (p : PersonD) (h1 : 0 ≤ p.fields) (h2 : 0 ≤ p.clears) : Eased p p 0 0 :=
  ⟨fun _ h => h, Nat.le_refl _, by rw [Nat.or_zero]; omega, by rw [Nat.or_zero]; omega, rfl, fun _ => by omega, fun h => h, rfl, rfl⟩
theorem Eased.cut {p p' : PersonD} (h : Eased p p' 0 0) (ts : List Int) (hm : ∀ x ∈ ts, x ∈ p'.ties) (hl : ts.length ≤ p'.ties.length) : Eased p { p' with ties := ts } 0 0 :=
  ⟨fun x hx => h.ties x (hm x hx), Nat.le_trans hl h.few, h.fields, h.clears, h.len, h.up, h.all, h.deaf, h.fee⟩
theorem Eased.sets {p p' : PersonD} (h : Eased p p' 0 0) (mf mc : Nat) : Eased p { p' with fields := ((p.fields.toNat ||| mf : Nat) : Int), clears := ((p.clears.toNat ||| mc : Nat) : Int) } mf mc :=
  ⟨h.ties, h.few, rfl, rfl, h.len, h.up, h.all, h.deaf, h.fee⟩
theorem Eased.raise {p p' : PersonD} {mf mc k : Nat} {v : Int} (h : Eased p p' mf mc) (hv : ∀ x, p'.levels[k]? = some x → x ≤ v) (h5 : (p.levels.all fun x => inB x 0 5) = true → inB v 0 5 = true) : Eased p { p' with levels := p'.levels.set k v } mf mc := by
  refine ⟨h.ties, h.few, h.fields, h.clears, by rw [← h.len]; exact List.length_set .., fun a => ?_, fun ha => ?_, h.deaf, h.fee⟩
  · have h1 := h.up a
    show lvD p a ≤ ((p'.levels.set k v)[a]?).getD 0
    unfold lvD at h1 ⊢
    by_cases hk : k = a
    · subst hk
      by_cases hl : k < p'.levels.length
      · rw [List.getElem?_set_self hl]
        have e := List.getElem?_eq_getElem hl
        have h2 := hv _ e
        rw [e] at h1
        exact Int.le_trans h1 h2
      · rw [List.getElem?_eq_none (l := p'.levels.set k v) (by rw [List.length_set]; omega)]
        rw [List.getElem?_eq_none (l := p'.levels) (by omega)] at h1
        exact h1
    · rw [List.getElem?_set_ne hk]
      exact h1
  · have h1 := h.all ha
    rw [List.all_eq_true] at h1 ⊢
    intro x hx
    rcases List.mem_or_eq_of_mem_set hx with q | rfl
    · exact h1 x q
    · exact h5 ha


/-! ## memory of which one block alone was written; a list without one element, in place -/

theorem sizeC (b : Nat) : ∀ (vs : List Value) (o : Nat) (w : World), (w.setCells b o vs).heap.size = w.heap.size
  | [], _, _ => rfl
  | _ :: vs, o, w => (sizeC b vs (o + 1) _).trans (by simp)
structure OnlyB (b : Nat) (w w' : World) : Prop where
  size : w'.heap.size = w.heap.size
  below : Below b w w'
  same : ∀ k, k < w.heap.size → k ≠ b → w'.heap[k]? = w.heap[k]?
theorem setCells_below {b : Nat} : ∀ (vs : List Value) (o : Nat) (w : World), Below b w (w.setCells b o vs)
  | [], _, w => Below.refl b w
  | v :: vs, o, w => ((Below.refl b w).setCell (p := ⟨b, o, none⟩) (Nat.le_refl _) v).trans (setCells_below vs (o + 1) _)
theorem OnlyB.cells {b o : Nat} {vs : List Value} {w : World} : OnlyB b w (w.setCells b o vs) :=
  ⟨sizeC b vs o w, setCells_below vs o w, fun _ hk hne => World.heap_setCells_other w b o vs hk hne⟩
theorem OnlyB.one {b o : Nat} {v : Value} {w : World} : OnlyB b w (w.setCell ⟨b, o, none⟩ v) := OnlyB.cells (vs := [v])
theorem OnlyB.refl (b : Nat) (w : World) : OnlyB b w w := ⟨rfl, Below.refl b w, fun _ _ _ => rfl⟩
theorem OnlyB.trans {b : Nat} {x y z : World} (h : OnlyB b x y) (k : OnlyB b y z) : OnlyB b x z :=
  ⟨k.size.trans h.size, h.below.trans k.below, fun i hi hne => (k.same i (by rw [h.size]; exact hi) hne).trans (h.same i hi hne)⟩
theorem OnlyB.far {b g : Nat} {t : TypeId} {cs : Array Value} {w w' : World} (h : OnlyB b w w') (hB : BlockIs w g t cs) (hg : g ≠ b) : BlockIs w' g t cs := (h.same g hB.lt hg).trans hB
theorem OnlyB.ints {b : Nat} {A : Option Addr} {xs : List Int} {w w' : World} (h : OnlyB b w w') (hA : Ints w w.heap.size A xs) (ha : ∀ ad, A = some ad → ad.block ≠ b) : Ints w' w'.heap.size A xs := by
  rcases hA with rfl | ⟨g, off, rfl, hg, hc⟩
  · exact .inl rfl
  · refine .inr ⟨g, off, rfl, by rw [h.size]; exact hg, fun q x hx => ?_⟩
    have e := h.same g hg (ha _ rfl)
    have c := hc q x hx
    unfold World.cell? at c ⊢
    rw [e]
    exact c
/-- the blocks of a person's lists lie outside a stretch -/
def Outside (x : PersonR) (a b : Nat) : Prop := (∀ ad, x.la = some ad → ad.block < a ∨ b ≤ ad.block) ∧ ∀ ad, x.ta = some ad → ad.block < a ∨ b ≤ ad.block
theorem own_block_in {w : World} {lo hi cap : Nat} {A : Option Addr} {xs : List Int} (h : OwnI w lo hi A cap xs) : ∀ ad, A = some ad → lo ≤ ad.block ∧ ad.block < hi := fun ad e => ⟨own_ge h.1 ad.block (by subst e; rfl), h.2 ad e⟩
theorem newP_in {w : World} {lo hi : Nat} {x : PersonR} (h : NewP w lo hi x) : (∀ ad, x.la = some ad → lo ≤ ad.block ∧ ad.block < hi) ∧ ∀ ad, x.ta = some ad → lo ≤ ad.block ∧ ad.block < hi := by
  obtain ⟨m, h1, h2, h3, h4⟩ := h
  exact ⟨fun ad e => by have := own_block_in h3 ad e; omega, fun ad e => by have := own_block_in h4 ad e; omega⟩
theorem newPs_in {w : World} {x : PersonR} : ∀ {l : List PersonR} {lo hi : Nat}, NewPs w lo hi l → x ∈ l → (∀ ad, x.la = some ad → lo ≤ ad.block ∧ ad.block < hi) ∧ ∀ ad, x.ta = some ad → lo ≤ ad.block ∧ ad.block < hi
  | [], _, _, _, hx => by cases hx
  | y :: l, lo, hi, ⟨m, h1, h2⟩, hx => by
    have hle := h1.le
    have hle2 := h2.le
    rcases List.mem_cons.1 hx with rfl | hx
    · obtain ⟨q1, q2⟩ := newP_in h1
      exact ⟨fun ad e => by have := q1 ad e; omega, fun ad e => by have := q2 ad e; omega⟩
    · obtain ⟨q1, q2⟩ := newPs_in h2 hx
      exact ⟨fun ad e => by have := q1 ad e; omega, fun ad e => by have := q2 ad e; omega⟩
theorem newPs_sep {w : World} {y : PersonR} : ∀ {l : List PersonR} {lo hi k : Nat}, NewPs w lo hi l → l[k]? = some y → ∃ a m b, lo ≤ a ∧ a ≤ m ∧ m ≤ b ∧ b ≤ hi ∧ OwnI w a m y.la y.lc y.d.levels ∧ OwnI w m b y.ta y.tc y.d.ties ∧ ∀ i x, i ≠ k → l[i]? = some x → Outside x a b
  | [], _, _, _, _, h => by cases h
  | z :: l, lo, hi, 0, ⟨m1, h1, h2⟩, h => by
    obtain rfl : z = y := Option.some.inj h
    obtain ⟨m, q1, q2, q3, q4⟩ := h1
    refine ⟨lo, m, m1, Nat.le_refl _, q1, q2, h2.le, q3, q4, fun i x hi' hx => ?_⟩
    cases i with
    | zero => exact absurd rfl hi'
    | succ i =>
      obtain ⟨r1, r2⟩ := newPs_in h2 (List.mem_of_getElem? (show l[i]? = some x from hx))
      exact ⟨fun ad e => .inr (r1 ad e).1, fun ad e => .inr (r2 ad e).1⟩
  | z :: l, lo, hi, k + 1, ⟨m1, h1, h2⟩, h => by
    obtain ⟨a, m, b, q1, q2, q3, q4, q5, q6, q7⟩ := newPs_sep h2 (show l[k]? = some y from h)
    have hle := h1.le
    refine ⟨a, m, b, by omega, q2, q3, q4, q5, q6, fun i x hi' hx => ?_⟩
    cases i with
    | zero =>
      obtain rfl : z = x := Option.some.inj hx
      obtain ⟨r1, r2⟩ := newP_in h1
      exact ⟨fun ad e => .inl (by have := r1 ad e; omega), fun ad e => .inl (by have := r2 ad e; omega)⟩
    | succ i => exact q7 i x (by omega) hx
theorem own_room {w : World} {lo cap i : Nat} {A : Option Addr} {xs : List Int} (h : w.ownsRow lo 3 1 (.slice A xs.length cap) xs.length (xs.map (Value.int .i64))) (hi : i < xs.length) :
    ∃ B cur, A = some ⟨B, 0, none⟩ ∧ lo ≤ B ∧ BlockIs w B 3 cur ∧ xs.length ≤ cap ∧ cur.size = cap ∧ ∀ (j : Nat) x, xs[j]? = some x → w.cell? ⟨B, j, none⟩ = some (.int .i64 x) := by
  have hc := (own_ints h).1
  obtain ⟨hl, h⟩ := h
  rcases h with ⟨h1, h2⟩ | ⟨g, cap', cur, hv, hg, hh, hn, _, hsz, _⟩
  · injection h1 with _ _ h3
    omega
  · injection hv with e1 e2 e3
    subst e1 e3
    refine ⟨g, cur, rfl, hg, hh, hn, by omega, fun j x hx => ?_⟩
    rcases hc with rfl | ⟨b, off, e, _, hc⟩
    · cases hx
    · injection e with e
      injection e with e1 e2 e3
      subst e1 e2
      have := hc j x hx
      rwa [Nat.zero_add] at this
/-- a list without element i -/
def cutAt (xs : List Int) (i : Nat) : List Int := xs.take i ++ xs.drop (i + 1)
theorem cutAt_len {xs : List Int} {i : Nat} (hi : i < xs.length) : (cutAt xs i).length = i + (xs.length - (i + 1)) := by
  unfold cutAt
  rw [List.length_append, List.length_take, List.length_drop]
  omega
theorem cutAt_mem {xs : List Int} {i : Nat} : ∀ x ∈ cutAt xs i, x ∈ xs := fun x hx => by
  rcases List.mem_append.1 hx with h | h
  · exact List.mem_of_mem_take h
  · exact List.mem_of_mem_drop h
theorem cut_ints {w : World} {B i : Nat} {cur : Array Value} {xs : List Int} (hB : BlockIs w B 3 cur) (hcap : xs.length ≤ cur.size) (hi : i < xs.length) (hc : ∀ (j : Nat) x, xs[j]? = some x → w.cell? ⟨B, j, none⟩ = some (.int .i64 x)) :
    Ints (w.setCells B i ((xs.drop (i + 1)).map (Value.int .i64))) (w.setCells B i ((xs.drop (i + 1)).map (Value.int .i64))).heap.size (some ⟨B, 0, none⟩) (cutAt xs i) := by
  refine .inr ⟨B, 0, rfl, by rw [sizeC]; exact hB.lt, fun q x hx => ?_⟩
  rw [Nat.zero_add]
  unfold cutAt at hx
  by_cases hq : q < i
  · rw [World.cell?_setCells_out B _ _ _ _ (fun _ _ => .inl hq)]
    rw [List.getElem?_append_left (by rw [List.length_take]; omega), List.getElem?_take_of_lt hq] at hx
    exact hc q x hx
  · rw [List.getElem?_append_right (by rw [List.length_take]; omega), List.length_take, Nat.min_eq_left (by omega)] at hx
    have hl : q - i < ((xs.drop (i + 1)).map (Value.int .i64)).length := by
      rw [List.length_map]
      exact lt_of_at hx
    have h1 := World.cell?_setCells_in B ((xs.drop (i + 1)).map (Value.int .i64)) i w (fun j hj => by
      rw [hB.cell]
      rw [List.length_map, List.length_drop] at hj
      rw [Array.getElem?_eq_getElem (by omega)]
      rfl) (q - i) hl
    rw [show i + (q - i) = q by omega] at h1
    rw [h1, List.getElem_map]
    congr 2
    exact Option.some.inj ((List.getElem?_eq_getElem _).symm.trans hx)

theorem setCells_block {b : Nat} {t : TypeId} : ∀ (vs : List Value) (o : Nat) (w : World) (cs : Array Value), BlockIs w b t cs → ∃ cs', BlockIs (w.setCells b o vs) b t cs'
  | [], _, _, cs, h => ⟨cs, h⟩
  | _ :: vs, o, _, _, h => setCells_block vs (o + 1) _ _ (h.near o _)
/-- integers in a block of integers -/
def IntsB (w : World) (A : Option Addr) (xs : List Int) : Prop := xs = [] ∨ ∃ B cur, A = some ⟨B, 0, none⟩ ∧ BlockIs w B 3 cur ∧ ∀ (j : Nat) x, xs[j]? = some x → cur[j]? = some (.int .i64 x)
theorem IntsB.keep {w w' : World} {A : Option Addr} {xs : List Int} (h : IntsB w A xs) (k : KeepTy 3 w w') : IntsB w' A xs := by
  rcases h with rfl | ⟨B, cur, e, hB, hc⟩
  · exact .inl rfl
  · exact .inr ⟨B, cur, e, k _ _ hB, hc⟩
theorem IntsB.only {b : Nat} {w w' : World} {A : Option Addr} {xs : List Int} (h : IntsB w A xs) (k : OnlyB b w w') (ha : ∀ ad, A = some ad → ad.block ≠ b) : IntsB w' A xs := by
  rcases h with rfl | ⟨B, cur, rfl, hB, hc⟩
  · exact .inl rfl
  · exact .inr ⟨B, cur, rfl, k.far hB (ha _ rfl), hc⟩
theorem IntsB.ints {w : World} {A : Option Addr} {xs : List Int} (h : IntsB w A xs) : Ints w w.heap.size A xs := by
  rcases h with rfl | ⟨B, cur, rfl, hB, hc⟩
  · exact .inl rfl
  · exact .inr ⟨B, 0, rfl, hB.lt, fun j x hx => by rw [Nat.zero_add, hB.cell]; exact hc j x hx⟩
theorem IntsB.of {w : World} {B : Nat} {cur : Array Value} {xs : List Int} (hB : BlockIs w B 3 cur) (h : Ints w w.heap.size (some ⟨B, 0, none⟩) xs) : IntsB w (some ⟨B, 0, none⟩) xs := by
  rcases h with rfl | ⟨b, off, e, _, hc⟩
  · exact .inl rfl
  · injection e with e
    injection e with e1 e2 e3
    subst e1 e2
    refine .inr ⟨B, cur, rfl, hB, fun j x hx => ?_⟩
    have := hc j x hx
    rwa [Nat.zero_add, hB.cell] at this
theorem IntsB.own {w : World} {lo hi cap : Nat} {A : Option Addr} {xs : List Int} (h : OwnI w lo hi A cap xs) : IntsB w A xs := by
  by_cases h0 : xs = []
  · exact .inl h0
  · obtain ⟨B, cur, rfl, _, hB, _, _, hc⟩ := own_room h.1 (List.length_pos_iff.2 h0)
    exact .inr ⟨B, cur, rfl, hB, fun j x hx => by rw [← hB.cell]; exact hc j x hx⟩
def PB (w : World) (x : PersonR) : Prop := IntsB w x.la x.d.levels ∧ IntsB w x.ta x.d.ties
theorem PB.keep {w w' : World} {x : PersonR} (h : PB w x) (k : KeepTy 3 w w') : PB w' x := ⟨h.1.keep k, h.2.keep k⟩
theorem PB.only {b : Nat} {w w' : World} {x : PersonR} (h : PB w x) (k : OnlyB b w w') (h1 : ∀ ad, x.la = some ad → ad.block ≠ b) (h2 : ∀ ad, x.ta = some ad → ad.block ≠ b) : PB w' x := ⟨h.1.only k h1, h.2.only k h2⟩
theorem PB.at_ {w : World} {x : PersonR} (h : PB w x) : PersonAt w w.heap.size x := ⟨h.1.ints, h.2.ints⟩
theorem newPs_pb {w : World} {x : PersonR} : ∀ {l : List PersonR} {lo hi : Nat}, NewPs w lo hi l → x ∈ l → PB w x
  | [], _, _, _, hx => by cases hx
  | y :: l, _, _, ⟨_, h1, h2⟩, hx => by
    rcases List.mem_cons.1 hx with rfl | hx
    · obtain ⟨_, _, _, h3, h4⟩ := h1
      exact ⟨IntsB.own h3, IntsB.own h4⟩
    · exact newPs_pb h2 hx
/-- an element of the list changed, in place -/
theorem set_ints {w : World} {B k : Nat} {cur : Array Value} {xs : List Int} {v : Int} (hB : BlockIs w B 3 cur) (hc : ∀ (j : Nat) x, xs[j]? = some x → cur[j]? = some (.int .i64 x)) : IntsB (w.setCell ⟨B, k, none⟩ (.int .i64 v)) (some ⟨B, 0, none⟩) (xs.set k v) := by
  refine .inr ⟨B, _, rfl, hB.near k _, fun j x hx => ?_⟩
  by_cases hj : k = j
  · subst hj
    have hl : k < xs.length := by have := lt_of_at hx; rwa [List.length_set] at this
    rw [List.getElem?_set_self hl] at hx
    have h1 := hc k xs[k] (List.getElem?_eq_getElem hl)
    rw [Array.getElem?_setIfInBounds_self_of_lt ((Array.getElem?_eq_some_iff.1 h1).1), Option.some.inj hx]
  · rw [List.getElem?_set_ne hj] at hx
    rw [Array.getElem?_setIfInBounds_ne hj]
    exact hc j x hx
/-- a person stored at a place of a block -/
def sixW (w : World) (b o : Nat) (x : PersonR) : World :=
  ((((((w.setCell ⟨b, o, none⟩ (.slice x.la x.d.levels.length x.lc)).setCell ⟨b, o + 1, none⟩ (.int .i64 x.d.fields)).setCell ⟨b, o + 2, none⟩ (.int .i64 x.d.clears)).setCell ⟨b, o + 3, none⟩ (.slice x.ta x.d.ties.length x.tc)).setCell ⟨b, o + 4, none⟩ (.bool x.d.deaf)).setCell ⟨b, o + 5, none⟩ (.int .i64 x.d.fee))
def sixC (cs : Array Value) (o : Nat) (x : PersonR) : Array Value :=
  (((((cs.setIfInBounds o (.slice x.la x.d.levels.length x.lc)).setIfInBounds (o + 1) (.int .i64 x.d.fields)).setIfInBounds (o + 2) (.int .i64 x.d.clears)).setIfInBounds (o + 3) (.slice x.ta x.d.ties.length x.tc)).setIfInBounds (o + 4) (.bool x.d.deaf)).setIfInBounds (o + 5) (.int .i64 x.d.fee)
theorem six_block {w : World} {b o : Nat} {x : PersonR} {t : TypeId} {cs : Array Value} (h : BlockIs w b t cs) : BlockIs (sixW w b o x) b t (sixC cs o x) :=
  (((((h.near o _).near (o + 1) _).near (o + 2) _).near (o + 3) _).near (o + 4) _).near (o + 5) _
theorem six_keep {t : TypeId} {w : World} {b o : Nat} {x : PersonR} {cs : Array Value} (h : BlockIs w b 52 cs) (hn : t ≠ 52) : KeepTy t w (sixW w b o x) :=
  (KeepTy.store h hn o _).trans ((KeepTy.store (h.near o _) hn (o + 1) _).trans ((KeepTy.store ((h.near o _).near (o + 1) _) hn (o + 2) _).trans ((KeepTy.store (((h.near o _).near (o + 1) _).near (o + 2) _) hn (o + 3) _).trans ((KeepTy.store ((((h.near o _).near (o + 1) _).near (o + 2) _).near (o + 3) _) hn (o + 4) _).trans (KeepTy.store (((((h.near o _).near (o + 1) _).near (o + 2) _).near (o + 3) _).near (o + 4) _) hn (o + 5) _)))))
theorem sixW_below {w : World} {B b o : Nat} {x : PersonR} (hb : B ≤ b) : Below B w (sixW w b o x) :=
  ((((((Below.refl B w).setCell (p := ⟨b, o, none⟩) hb _).setCell (p := ⟨b, o + 1, none⟩) hb _).setCell (p := ⟨b, o + 2, none⟩) hb _).setCell (p := ⟨b, o + 3, none⟩) hb _).setCell (p := ⟨b, o + 4, none⟩) hb _).setCell (p := ⟨b, o + 5, none⟩) hb _
theorem six_at {cs : Array Value} {o : Nat} {x : PersonR} (ho : o + 5 < cs.size) : ∀ j, j < 6 → (sixC cs o x)[o + j]? = (cellsP x)[j]?
  | 0, _ => by unfold sixC; simp [Array.getElem?_setIfInBounds]; omega
  | 1, _ => by unfold sixC; simp [Array.getElem?_setIfInBounds]; omega
  | 2, _ => by unfold sixC; simp [Array.getElem?_setIfInBounds]; omega
  | 3, _ => by unfold sixC; simp [Array.getElem?_setIfInBounds]; omega
  | 4, _ => by unfold sixC; simp [Array.getElem?_setIfInBounds]; omega
  | 5, _ => by unfold sixC; simp [Array.getElem?_setIfInBounds]; omega
  | k + 6, h => by omega
theorem six_else {cs : Array Value} {o q : Nat} {x : PersonR} (h : q < o ∨ o + 5 < q) : (sixC cs o x)[q]? = cs[q]? := by
  unfold sixC
  rw [Array.getElem?_setIfInBounds_ne (by omega), Array.getElem?_setIfInBounds_ne (by omega), Array.getElem?_setIfInBounds_ne (by omega), Array.getElem?_setIfInBounds_ne (by omega), Array.getElem?_setIfInBounds_ne (by omega), Array.getElem?_setIfInBounds_ne (by omega)]
theorem put_at2 {w6 : World} {lo pb who : Nat} {d : CrewR} {cs : Array Value} {x : PersonR} (hB : BlockIs w6 pb 52 cs) (hpa : d.pa = some ⟨pb, 0, none⟩)
    (hcs : ∀ i y, d.people[i]? = some y → ∀ j, j < 6 → cs[i * 6 + j]? = (cellsPL y)[j]?) (hw : who < d.people.length) (ho : ∀ i y, i ≠ who → d.people[i]? = some y → PB w6 y) (hx : PB w6 x) (hl : w6.ownsRow lo 58 3 (.slice d.wa d.laws.length d.wc) d.laws.length (d.laws.flatMap cellsLL)) :
    CrewAt (sixW w6 pb (who * 6) x) (sixW w6 pb (who * 6) x).heap.size { d with people := d.people.set who x } := by
  have hI : KeepTy 3 w6 (sixW w6 pb (who * 6) x) := six_keep hB (by decide)
  have hL : KeepTy 58 w6 (sixW w6 pb (who * 6) x) := six_keep hB (by decide)
  have hS := six_block (o := who * 6) (x := x) hB
  have hlen : who * 6 + 5 < cs.size := by
    have h := hcs who d.people[who] (List.getElem?_eq_getElem hw) 5 (by omega)
    rw [show (cellsPL d.people[who])[5]? = some (.int .i64 (d.people[who]).d.fee) from rfl] at h
    exact (Array.getElem?_eq_some_iff.1 h).1
  refine ⟨⟨.inr ⟨pb, 0, hpa, hS.lt, fun i y hi j hj => ?_⟩, fun y hy => ?_⟩, ?_⟩
  · rw [Nat.zero_add, hS.cell]
    by_cases hiw : i = who
    · subst hiw
      have hy : x = y := by
        rw [show (d.people.set i x)[i]? = some x from List.getElem?_set_self hw] at hi
        exact Option.some.inj hi
      rw [← hy]
      exact six_at hlen j hj
    · rw [six_else (by omega)]
      have h2 : d.people[i]? = some y := by
        rw [← hi]
        exact (List.getElem?_set_ne (fun e => hiw e.symm)).symm
      rw [hcs i y h2 j hj]
      exact Array.getElem?_toList
  · obtain ⟨i, hi⟩ := List.mem_iff_getElem?.1 hy
    by_cases hiw : i = who
    · subst hiw
      rw [show (d.people.set i x)[i]? = some x from List.getElem?_set_self hw] at hi
      rw [← Option.some.inj hi]
      exact (hx.keep hI).at_
    · have h2 : d.people[i]? = some y := by
        rw [← hi]
        exact (List.getElem?_set_ne (fun e => hiw e.symm)).symm
      exact ((ho i y hiw h2).keep hI).at_
  · rcases own_flat (enc := cellsLL) (fun _ => rfl) (own_keep hl hL) rfl with e | ⟨b, cs, e, _, hB, _, _, hc⟩
    · exact .inl e
    · exact .inr ⟨b, 0, e, hB.lt, fun i x hi j hj => by rw [hB.cell, Nat.zero_add, hc i x hi j hj]; exact Array.getElem?_toList⟩

end Go.Proofs.Yticeekkfdkfcgaa
