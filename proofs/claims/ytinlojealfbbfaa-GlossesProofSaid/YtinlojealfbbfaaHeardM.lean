/- HeardM: what Sure's sets are among the readings; '&^' of sets. -/
import Derived.Test.YtinlojealfbbfaaSure
namespace Go.Proofs.Ytinlojealfbbfaa
open Go.RowKit

/-- every sign of a is one of b -/
def SubN (a b : Nat) : Prop := ∀ i, a.testBit i = true → b.testBit i = true
theorem andNot_i64 {a b : Nat} (_ha : a < 9223372036854775808) (_hb : b < 9223372036854775808) (h : SubN a b) : bits .andNot .i64 (a : Int) (b : Int) = 0 := by
  have e : BitVec.ofInt 64 (a : Int) &&& ~~~(BitVec.ofInt 64 (b : Int)) = 0#64 := by
    rw [BitVec.ofInt_natCast, BitVec.ofInt_natCast]
    apply BitVec.eq_of_getLsbD_eq
    intro i hi
    rw [BitVec.getLsbD_and, BitVec.getLsbD_not, BitVec.getLsbD_ofNat, BitVec.getLsbD_ofNat, BitVec.getLsbD_zero]
    have h1 := h i
    cases h2 : a.testBit i with
    | false => simp
    | true => simp [h1 h2, hi]
  show IntKind.i64.wrap ((BitVec.ofInt 64 (a : Int) &&& ~~~(BitVec.ofInt 64 (b : Int))).toNat : Int) = _
  rw [e]
  rfl
theorem SubN.refl (a : Nat) : SubN a a := fun _ h => h
theorem SubN.trans {a b c : Nat} (h : SubN a b) (k : SubN b c) : SubN a c := fun i hi => k i (h i hi)
theorem foldAnd_sub : ∀ (S : List Nat) (a : Nat), SubN (S.foldl (fun a s => a &&& s) a) a ∧ ∀ s ∈ S, SubN (S.foldl (fun a s => a &&& s) a) s
  | [], a => ⟨SubN.refl _, by simp⟩
  | s :: S, a => by
    obtain ⟨h1, h2⟩ := foldAnd_sub S (a &&& s)
    refine ⟨fun i hi => ?_, fun t ht i hi => ?_⟩
    · have := h1 i hi
      rw [Nat.testBit_and, Bool.and_eq_true] at this
      exact this.1
    · rcases List.mem_cons.1 ht with rfl | ht
      · have := h1 i hi
        rw [Nat.testBit_and, Bool.and_eq_true] at this
        exact this.2
      · exact h2 t ht i hi
theorem foldOr_sub : ∀ (S : List Nat) (a : Nat), SubN a (S.foldl (fun a s => a ||| s) a) ∧ ∀ s ∈ S, SubN s (S.foldl (fun a s => a ||| s) a)
  | [], a => ⟨SubN.refl _, by simp⟩
  | s :: S, a => by
    obtain ⟨h1, h2⟩ := foldOr_sub S (a ||| s)
    have ho : SubN a (a ||| s) ∧ SubN s (a ||| s) := ⟨fun i hi => by rw [Nat.testBit_or, hi]; rfl, fun i hi => by rw [Nat.testBit_or, hi, Bool.or_true]⟩
    refine ⟨ho.1.trans h1, fun t ht => ?_⟩
    rcases List.mem_cons.1 ht with rfl | ht
    · exact ho.2.trans h1
    · exact h2 t ht
theorem sureD_sub {S : List Nat} {s : Nat} (h : s ∈ S) : SubN (sureD S) s := by
  unfold sureD sureTo
  rw [List.take_length]
  exact (foldAnd_sub S _).2 s h
theorem mayD_sub {S : List Nat} {s : Nat} (h : s ∈ S) : SubN s (mayD S) := by
  unfold mayD mayTo
  rw [List.take_length]
  exact (foldOr_sub S _).2 s h
theorem foldOr_lt : ∀ (S : List Nat) (a : Nat), a < 1024 → (∀ s ∈ S, s < 1024) → S.foldl (fun a s => a ||| s) a < 1024
  | [], a, h, _ => h
  | s :: S, a, h, hs => foldOr_lt S (a ||| s) (Nat.or_lt_two_pow (n := 10) h (hs s (by simp))) fun t ht => hs t (by simp [ht])
theorem foldAnd_lt : ∀ (S : List Nat) (a : Nat), a < 1024 → S.foldl (fun a s => a &&& s) a < 1024
  | [], _, h => h
  | s :: S, a, h => foldAnd_lt S (a &&& s) (Nat.lt_of_le_of_lt Nat.and_le_left h)
theorem sets_lt {S : List Nat} (h : ∀ s ∈ S, s < 1024) : sureD S < 1024 ∧ mayD S < 1024 := by
  unfold sureD mayD sureTo mayTo
  rw [List.take_length]
  refine ⟨foldAnd_lt S _ ?_, foldOr_lt S 0 (by decide) h⟩
  match S, h with
  | [], _ => decide
  | s :: S, h => exact h s (by simp)
theorem hit_sub {a b : Nat} {x : GlossD} (h : SubN a b) (ha : hitD a x = true) : hitD b x = true := by
  unfold hitD at *
  have ha := of_decide_eq_true ha
  obtain ⟨i, hi⟩ := Nat.exists_testBit_of_ne_zero ha
  rw [Nat.testBit_and, Bool.and_eq_true] at hi
  refine decide_eq_true fun e => ?_
  have := congrArg (fun q => Nat.testBit q i) e
  simp [Nat.testBit_and, hi.1, h i hi.2] at this
theorem agrees_sub {a b : Nat} {l : List GlossD} (h : SubN a b) (ha : agreesD a l = true) : agreesD b l = true := by
  unfold agreesD at *
  rw [List.all_eq_true] at *
  exact fun x hx => hit_sub h (ha x hx)
theorem readD_lt {n : Nat} (hn : n ≤ 10) (l : List GlossD) : ∀ s ∈ readD n l, s < 1024 := fun s hs => by
  rw [(readD_is n l).all] at hs
  exact Nat.lt_of_lt_of_le (List.mem_range.1 (List.mem_filter.1 hs).1) (Nat.le_trans (Nat.pow_le_pow_right (n := 2) (by omega) hn) (by decide))
theorem readD_mem {n : Nat} {l : List GlossD} {s : Nat} (hs : s < 2 ^ n) (ha : agreesD s l = true) (hp : popD s = sizeD n l) : s ∈ readD n l := by
  rw [(readD_is n l).all]
  exact List.mem_filter.2 ⟨List.mem_range.2 hs, by rw [ha]; simp [hp]⟩
structure HeardF (n : Nat) (l : List GlossD) (own sure may : Nat) : Prop where
  lt : own < 2 ^ n
  own9 : own < 1024
  sure9 : sure < 1024
  may9 : may < 1024
  own_ok : agreesD own l = true
  may_ok : agreesD may l = true
  so : SubN sure own
  om : SubN own may
  all : ∀ s : Nat, s < 2 ^ n → agreesD s l = true → popD own < popD s ∨ (popD own = popD s ∧ own ≤ s ∧ SubN sure s ∧ SubN s may)
theorem heard_math {n : Nat} {l : List GlossD} (hn : n ≤ 10) (h : ∀ x ∈ l, x.signs.toNat ≠ 0 ∧ x.signs.toNat < 2 ^ n) : HeardF n l (firstD n l) (sureD (readD n l)) (mayD (readD n l)) := by
  have hne := readD_ne hn h
  obtain ⟨h1, h2, h3, h4⟩ := firstD_facts hne
  have hm := List.mem_of_getElem? (firstD_at hne)
  have hs := sets_lt (readD_lt hn l)
  have ho := readD_lt hn l _ hm
  refine ⟨h1, ho, hs.1, hs.2, h2, agrees_sub (mayD_sub hm) h2, sureD_sub hm, mayD_sub hm, fun s hs' ha => ?_⟩
  rcases h4 s hs' ha with g | ⟨g1, g2⟩
  · exact .inl g
  · have hmem := readD_mem hs' ha (by rw [← g1, h3])
    exact .inr ⟨g1, g2, sureD_sub hmem, mayD_sub hmem⟩
theorem sure_at {f : FilmsD} {l all : List GlossD} (h : readErr f [l] = 0) (hs : SortedG l all) (fm fr : Int) : (all.filter (holdsD all)).filter (inD fm fr) = rAtD l fm fr := by
  obtain ⟨_, h2, _, h4⟩ := readErr_zero h
  exact (rAt_eq h4 hs (fun y hy => okGloss_span (h2 y hy)) fm fr).symm

end Go.Proofs.Ytinlojealfbbfaa
