/- MoreM: what one more gloss, or the last word of an author, does to a frame. -/
import Derived.Test.YtinlojealfbbfaaHeardM
namespace Go.Proofs.Ytinlojealfbbfaa
open Go.RowKit

theorem mem_at {ms : List GlossD} (hc : ¬ Clash ms) (hsp : ∀ x ∈ ms, SpanG x) (fm fr : Int) {y : GlossD} :
    y ∈ rAtD ms fm fr ↔ y ∈ ms ∧ y.signs ≠ 0 ∧ (∀ z ∈ ms, replD y z = false) ∧ inD fm fr y = true := by
  have hs := sortU_sorted hc
  rw [rAt_eq hc hs hsp, List.mem_filter, List.mem_filter]
  have hm := fun x => hs.2 x
  simp only [holdsD, Bool.and_eq_true, decide_eq_true_eq, Bool.not_eq_true', List.any_eq_false, Bool.not_eq_true]
  constructor
  · rintro ⟨⟨h1, h2, h3⟩, h4⟩
    exact ⟨(hm y).1 h1, h2, fun z hz => h3 z ((hm z).2 hz), h4⟩
  · rintro ⟨h1, h2, h3, h4⟩
    exact ⟨⟨(hm y).2 h1, h2, fun z hz => h3 z ((hm z).1 hz)⟩, h4⟩
theorem agreesD_iff {s : Nat} {l : List GlossD} : agreesD s l = true ↔ ∀ x ∈ l, hitD s x = true := by unfold agreesD; exact List.all_eq_true
theorem agreesD_congr {a b : List GlossD} (h : ∀ x, x ∈ a ↔ x ∈ b) (s : Nat) : agreesD s a = agreesD s b := by
  rw [Bool.eq_iff_iff, agreesD_iff, agreesD_iff]
  exact ⟨fun g x hx => g x ((h x).2 hx), fun g x hx => g x ((h x).1 hx)⟩
theorem readTo_congr (n : Nat) {a b : List GlossD} (h : ∀ s, agreesD s a = agreesD s b) : ∀ k, readTo n a k = readTo n b k
  | 0 => rfl
  | k + 1 => by
    have ih := readTo_congr n h k
    unfold readTo
    rw [ih, h k]
theorem readD_congr (n : Nat) {a b : List GlossD} (h : ∀ x, x ∈ a ↔ x ∈ b) : readD n a = readD n b := by
  unfold readD
  rw [readTo_congr n (agreesD_congr h)]
theorem firstD_congr (n : Nat) {a b : List GlossD} (h : ∀ x, x ∈ a ↔ x ∈ b) : firstD n a = firstD n b := by
  unfold firstD
  rw [readD_congr n h]
theorem popD_or : ∀ a : Nat, a < 1024 → ∀ i : Nat, i < 10 → popD (a ||| 2 ^ i) ≤ popD a + 1 := by
  have h : ∀ a ∈ List.range 1024, ∀ i ∈ List.range 10, popD (a ||| 2 ^ i) ≤ popD a + 1 := by decide +kernel
  exact fun a ha i hi => h a (List.mem_range.2 ha) i (List.mem_range.2 hi)
theorem hit_or_left {a b : Nat} {x : GlossD} (h : hitD a x = true) : hitD (a ||| b) x = true := hit_sub (fun i hi => by rw [Nat.testBit_or, hi]; rfl) h
theorem hit_or_right {a b : Nat} {x : GlossD} (h : hitD b x = true) : hitD (a ||| b) x = true := hit_sub (fun i hi => by rw [Nat.testBit_or, hi, Bool.or_true]) h
/-- one more sign is enough for one more gloss -/
theorem one_more {n : Nat} {x : GlossD} (hn : n ≤ 10) (hx : x.signs.toNat ≠ 0 ∧ x.signs.toNat < 2 ^ n) {s : Nat} (hs : s < 2 ^ n) : ∃ t, t < 2 ^ n ∧ SubN s t ∧ hitD t x = true ∧ popD t ≤ popD s + 1 := by
  obtain ⟨i, hi⟩ := Nat.exists_testBit_of_ne_zero hx.1
  have hin : i < n := by
    rcases Nat.lt_or_ge i n with g | g
    · exact g
    · have := Nat.testBit_lt_two_pow (Nat.lt_of_lt_of_le hx.2 (Nat.pow_le_pow_right (n := 2) (by omega) g))
      rw [this] at hi
      exact absurd hi (by decide)
  have hs9 : s < 1024 := Nat.lt_of_lt_of_le hs (Nat.le_trans (Nat.pow_le_pow_right (n := 2) (by omega) hn) (by decide))
  exact ⟨s ||| 2 ^ i, Nat.or_lt_two_pow hs (Nat.pow_lt_pow_right (by omega) hin), fun j hj => by rw [Nat.testBit_or, hj]; rfl, hit_or_right (hit_pow hi), popD_or s hs9 i (by omega)⟩
/-- as many signs as glosses are enough -/
theorem enough {n : Nat} (hn : n ≤ 10) : ∀ l : List GlossD, (∀ x ∈ l, x.signs.toNat ≠ 0 ∧ x.signs.toNat < 2 ^ n) → ∃ s, s < 2 ^ n ∧ agreesD s l = true ∧ popD s ≤ l.length
  | [], _ => ⟨0, Nat.pow_pos (by omega), rfl, by decide⟩
  | x :: l, h => by
    obtain ⟨s, h1, h2, h3⟩ := enough hn l fun y hy => h y (by simp [hy])
    obtain ⟨t, k1, k2, k3, k4⟩ := one_more hn (h x (by simp)) h1
    refine ⟨t, k1, agreesD_iff.2 fun y hy => ?_, by rw [List.length_cons]; omega⟩
    rcases List.mem_cons.1 hy with rfl | hy
    · exact k3
    · exact hit_sub k2 (agreesD_iff.1 h2 y hy)
theorem size_le {n : Nat} {l : List GlossD} (hn : n ≤ 10) (h : ∀ x ∈ l, x.signs.toNat ≠ 0 ∧ x.signs.toNat < 2 ^ n) {s : Nat} (hs : s < 2 ^ n) (ha : agreesD s l = true) : popD (firstD n l) ≤ popD s := by
  rcases (firstD_facts (readD_ne hn h)).2.2.2 s hs ha with g | g
  · omega
  · omega
/-- a gloss of an author who had none -/
theorem more_math {n : Nat} {l : List GlossD} {x : GlossD} (hn : n ≤ 10) (hc : ¬ Clash l) (hc2 : ¬ Clash (l ++ [x])) (hsp : ∀ y ∈ l ++ [x], SpanG y) (ha : ∀ y ∈ l, y.author ≠ x.author)
    (h0 : ∀ fm fr, ∀ y ∈ rAtD l fm fr, y.signs.toNat ≠ 0 ∧ y.signs.toNat < 2 ^ n) (h1 : ∀ fm fr, ∀ y ∈ rAtD (l ++ [x]) fm fr, y.signs.toNat ≠ 0 ∧ y.signs.toNat < 2 ^ n) (fm fr : Int) :
    popD (firstD n (rAtD l fm fr)) ≤ popD (firstD n (rAtD (l ++ [x]) fm fr)) ∧ popD (firstD n (rAtD (l ++ [x]) fm fr)) ≤ popD (firstD n (rAtD l fm fr)) + 1 ∧ popD (firstD n (rAtD (l ++ [x]) fm fr)) ≤ (rAtD l fm fr).length + 1 := by
  have hspl : ∀ y ∈ l, SpanG y := fun y hy => hsp y (by simp [hy])
  have hold : ∀ y, y ∈ rAtD l fm fr → y ∈ rAtD (l ++ [x]) fm fr := fun y hy => by
    obtain ⟨g1, g2, g3, g4⟩ := (mem_at hc hspl fm fr).1 hy
    refine (mem_at hc2 hsp fm fr).2 ⟨by simp [g1], g2, fun z hz => ?_, g4⟩
    rcases List.mem_append.1 hz with hz | hz
    · exact g3 z hz
    · obtain rfl := List.mem_singleton.1 hz
      have := ha y g1
      unfold replD
      have e : decide (z.author = y.author) = false := decide_eq_false (fun e => this e.symm)
      rw [e]; rfl
  have hnew : ∀ y, y ∈ rAtD (l ++ [x]) fm fr → y ∈ rAtD l fm fr ∨ y = x := fun y hy => by
    obtain ⟨g1, g2, g3, g4⟩ := (mem_at hc2 hsp fm fr).1 hy
    rcases List.mem_append.1 g1 with g1 | g1
    · exact .inl ((mem_at hc hspl fm fr).2 ⟨g1, g2, fun z hz => g3 z (by simp [hz]), g4⟩)
    · exact .inr (List.mem_singleton.1 g1)
  have H0 := h0 fm fr
  have H1 := h1 fm fr
  generalize rAtD l fm fr = a at hold hnew H0 ⊢
  generalize rAtD (l ++ [x]) fm fr = b at hold hnew H1 ⊢
  have f0 := firstD_facts (readD_ne hn H0)
  have f1 := firstD_facts (readD_ne hn H1)
  have up : ∀ s, s < 2 ^ n → agreesD s a = true → popD (firstD n b) ≤ popD s + 1 := fun s hs hag => by
    by_cases hxb : x ∈ b
    · obtain ⟨t, k1, k2, k3, k4⟩ := one_more hn (H1 x hxb) hs
      have := size_le hn H1 k1 (agreesD_iff.2 fun y hy => by
        rcases hnew y hy with g | rfl
        · exact hit_sub k2 (agreesD_iff.1 hag y g)
        · exact k3)
      omega
    · have := size_le hn H1 hs (agreesD_iff.2 fun y hy => by
        rcases hnew y hy with g | rfl
        · exact agreesD_iff.1 hag y g
        · exact absurd hy hxb)
      omega
  refine ⟨size_le hn H0 f1.1 (agreesD_iff.2 fun y hy => agreesD_iff.1 f1.2.1 y (hold y hy)), up _ f0.1 f0.2.1, ?_⟩
  obtain ⟨s, k1, k2, k3⟩ := enough hn a H0
  have := up s k1 k2
  omega
/-- the last word of an author -/
theorem taken_math (n : Nat) {l : List GlossD} {x : GlossD} (hc : ¬ Clash l) (hc2 : ¬ Clash (l ++ [x])) (hsp : ∀ y ∈ l ++ [x], SpanG y) (hx : x.signs = 0) (hst : ∀ y ∈ l, y.author = x.author → y.stamp < x.stamp) {fr : Int} (h0 : x.frm ≤ fr) (h1 : fr < x.to) :
    firstD n (rAtD (l ++ [x]) x.film fr) = firstD n (rAtD (l.filter fun y => decide (y.author ≠ x.author)) x.film fr) := by
  have hcw : ¬ Clash (l.filter fun y => decide (y.author ≠ x.author)) := fun ⟨a, ha, b, hb, g⟩ => hc ⟨a, (List.mem_filter.1 ha).1, b, (List.mem_filter.1 hb).1, g⟩
  have hspw : ∀ y ∈ l.filter (fun y => decide (y.author ≠ x.author)), SpanG y := fun y hy => hsp y (by simp [(List.mem_filter.1 hy).1])
  refine firstD_congr n fun y => ?_
  rw [mem_at hc2 hsp, mem_at hcw hspw]
  constructor
  · rintro ⟨g1, g2, g3, g4⟩
    rcases List.mem_append.1 g1 with g1 | g1
    · have hne : y.author ≠ x.author := fun e => by
        have h3 := g3 x (by simp)
        have h4 := hst y g1 e
        have h5 := hsp y (by simp [g1])
        have h6 := hsp x (by simp)
        unfold SpanG at h5 h6
        simp only [inD, Bool.and_eq_true, decide_eq_true_eq] at g4
        have h7 : 0 < commonD y x := by unfold commonD; omega
        have h8 : replD y x = true := by
          simp only [replD, Bool.and_eq_true, decide_eq_true_eq]
          exact ⟨⟨⟨e.symm, by omega⟩, h4⟩, h7⟩
        rw [h8] at h3
        cases h3
      exact ⟨List.mem_filter.2 ⟨g1, decide_eq_true hne⟩, g2, fun z hz => g3 z (by simp [(List.mem_filter.1 hz).1]), g4⟩
    · obtain rfl := List.mem_singleton.1 g1
      exact absurd hx g2
  · rintro ⟨g1, g2, g3, g4⟩
    obtain ⟨k1, k2⟩ := List.mem_filter.1 g1
    have k2 := of_decide_eq_true k2
    refine ⟨by simp [k1], g2, fun z hz => ?_, g4⟩
    by_cases hz2 : z.author = y.author
    · rcases List.mem_append.1 hz with hz | hz
      · exact g3 z (List.mem_filter.2 ⟨hz, decide_eq_true (by rw [hz2]; exact k2)⟩)
      · obtain rfl := List.mem_singleton.1 hz
        exact absurd hz2.symm k2
    · unfold replD
      rw [decide_eq_false hz2]
      rfl
theorem without_err {f : FilmsD} {l : List GlossD} (h : readErr f [l] = 0) (q : GlossD → Bool) : readErr f [l.filter q] = 0 := by
  obtain ⟨h1, h2, h3, h4⟩ := readErr_zero h
  rw [← rErr_eq]
  unfold rErrD
  have e2 : okMsgs f (l.filter q) = true := by
    simp only [okMsgs, Bool.and_eq_true, decide_eq_true_eq, List.all_eq_true]
    exact ⟨Nat.le_trans (List.length_filter_le _ _) h3, fun x hx => h2 x (List.mem_filter.1 hx).1⟩
  have e3 : clashB (l.filter q) = false := by
    cases hc : clashB (l.filter q) with
    | false => rfl
    | true =>
      obtain ⟨a, ha, b, hb, g⟩ := clashB_iff.1 hc
      exact absurd ⟨a, (List.mem_filter.1 ha).1, b, (List.mem_filter.1 hb).1, g⟩ h4
  rw [if_pos h1, if_pos e2, e3]
  rfl

end Go.Proofs.Ytinlojealfbbfaa
