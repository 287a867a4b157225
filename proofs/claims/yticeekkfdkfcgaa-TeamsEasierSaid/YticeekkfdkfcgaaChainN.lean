/- ChainN: the searches depend on the joints of different languages alone; the graph of a symmetric relation. -/
import Derived.Test.YticeekkfdkfcgaaChainM
namespace Go.Proofs.Yticeekkfdkfcgaa

theorem foldl_same {α β : Type} {f g : β → α → β} {l : List α} (h : ∀ s, ∀ x ∈ l, f s x = g s x) : ∀ s, l.foldl f s = l.foldl g s := by
  induction l with
  | nil => exact fun _ => rfl
  | cons x l ih => exact fun s => by rw [List.foldl_cons, List.foldl_cons, h s x (List.mem_cons_self ..)]; exact ih (fun s y hy => h s y (List.mem_cons_of_mem _ hy)) _
/-- two relations that agree for different languages -/
def SameAdj (n : Nat) (adj adj' : Nat → Nat → Bool) : Prop := ∀ a b, a < n → b < n → a ≠ b → adj a b = adj' a b
theorem farStep_same {n : Nat} {adj adj' : Nat → Nat → Bool} (h : SameAdj n adj adj') (round : Nat) {a b : Nat} (ha : a < n) (hb : b < n) (out : Nat) : farStep adj round a out b = farStep adj' round a out b := by
  unfold farStep
  cases h1 : Nat.beq (dig out a) (Nat.succ round) with
  | false => rfl
  | true =>
    cases h2 : Nat.beq (dig out b) 0 with
    | false => rfl
    | true =>
      have e1 := Nat.eq_of_beq_eq_true h1
      have e2 := Nat.eq_of_beq_eq_true h2
      rw [h a b ha hb (fun e => by rw [e, e2] at e1; cases e1)]
theorem farD_same {n : Nat} {adj adj' : Nat → Nat → Bool} (h : SameAdj n adj adj') (fr : Nat) : farD n adj fr = farD n adj' fr := by
  unfold farD
  refine foldl_same (fun s round _ => ?_) _
  unfold farRound
  refine foldl_same (fun s a ha => ?_) _
  unfold farRow
  exact foldl_same (fun s b hb => farStep_same h round (List.mem_range.1 ha) (List.mem_range.1 hb) s) _
theorem find_same {α : Type} {p q : α → Bool} {l : List α} (h : ∀ x ∈ l, p x = q x) : l.find? p = l.find? q := by
  induction l with
  | nil => rfl
  | cons x l ih => rw [List.find?_cons, List.find?_cons, h x (List.mem_cons_self ..), ih fun y hy => h y (List.mem_cons_of_mem _ hy)]
theorem nextC_same {n : Nat} {adj adj' : Nat → Nat → Bool} (h : SameAdj n adj adj') (back : Nat) {a : Nat} (ha : a < n) : nextC n adj back a = nextC n adj' back a := by
  unfold nextC
  refine find_same fun m hm => ?_
  cases h1 : dig back m + 1 == dig back a with
  | false => rfl
  | true =>
    have e1 := eq_of_beq h1
    rw [h a m ha (List.mem_range.1 hm) (fun e => by rw [e] at e1; omega)]
theorem walkC_same {n : Nat} {adj adj' : Nat → Nat → Bool} (h : SameAdj n adj adj') (back dst : Nat) : ∀ (f a : Nat) (out : List Nat), a < n → walkC n adj back dst f a out = walkC n adj' back dst f a out
  | 0, _, _, _ => rfl
  | f + 1, a, out, ha => by
    unfold walkC
    cases a == dst with
    | true => rfl
    | false =>
      rw [nextC_same h back ha]
      cases hm : nextC n adj' back a with
      | none => rfl
      | some m =>
        have : m < n := by
          unfold nextC at hm
          exact List.mem_range.1 (List.mem_of_find?_eq_some hm)
        exact walkC_same h back dst f m (out ++ [m]) this
theorem rChainD_same {n : Nat} {adj adj' : Nat → Nat → Bool} (h : SameAdj n adj adj') {fr : Nat} (dst : Nat) (hf : fr < n) : rChainD n adj fr dst = rChainD n adj' fr dst := by
  unfold rChainD
  rw [farD_same h dst]
  cases dig (farD n adj' dst) fr == 0 with
  | true => rfl
  | false => exact walkC_same h _ dst 6 fr [fr] hf

/-- the last languages of all chains are reached -/
def Reached (n : Nat) (s : Nat × List (List Nat)) : Prop := ∀ ch ∈ s.2, ch.getLastD 0 < n ∧ Nat.testBit s.1 (ch.getLastD 0) = true
theorem hasN_bit (r k : Nat) : hasN r k = Nat.testBit r k := by
  unfold hasN
  rw [Nat.testBit_eq_decide_div_mod_eq]
theorem stepC_same {n : Nat} {adj adj' : Nat → Nat → Bool} (h : SameAdj n adj adj') {ch : List Nat} {last m : Nat} {s : Nat × List (List Nat)} (hl : last < n) (hm : m < n) (hb : Nat.testBit s.1 last = true) : stepC adj ch last s m = stepC adj' ch last s m := by
  cases hr : hasN s.1 m with
  | true => rw [stepC_skip (.inl hr), stepC_skip (.inl hr)]
  | false =>
    have hne : last ≠ m := fun e => by rw [hasN_bit, ← e, hb] at hr; cases hr
    cases ha : adj' last m with
    | false => rw [stepC_skip (.inr ha), stepC_skip (.inr ((h last m hl hm hne).trans ha))]
    | true => rw [stepC_take hr ha, stepC_take hr ((h last m hl hm hne).trans ha)]
theorem step_bit {adj : Nat → Nat → Bool} {ch : List Nat} {last m k : Nat} {s : Nat × List (List Nat)} (h : Nat.testBit s.1 k = true) : Nat.testBit (stepC adj ch last s m).1 k = true := by
  cases hr : hasN s.1 m with
  | true => rwa [stepC_skip (.inl hr)]
  | false =>
    cases ha : adj last m with
    | false => rwa [stepC_skip (.inr ha)]
    | true =>
      rw [stepC_take hr ha]
      show Nat.testBit (s.1 ||| 2 ^ m) k = true
      rw [Nat.testBit_or, h, Bool.true_or]
theorem step_reached {n : Nat} {adj : Nat → Nat → Bool} {ch : List Nat} {last m : Nat} {s : Nat × List (List Nat)} (h : Reached n s) (hm : m < n) : Reached n (stepC adj ch last s m) := by
  cases hr : hasN s.1 m with
  | true => rwa [stepC_skip (.inl hr)]
  | false =>
    cases ha : adj last m with
    | false => rwa [stepC_skip (.inr ha)]
    | true =>
      rw [stepC_take hr ha]
      intro c hc
      show c.getLastD 0 < n ∧ Nat.testBit (s.1 ||| 2 ^ m) (c.getLastD 0) = true
      rcases List.mem_append.1 hc with hc | hc
      · have := h c hc
        exact ⟨this.1, by rw [Nat.testBit_or, this.2, Bool.true_or]⟩
      · obtain rfl := List.mem_singleton.1 hc
        have e : (ch ++ [m]).getLastD 0 = m := by simp
        rw [e]
        exact ⟨hm, by rw [Nat.testBit_or, Nat.testBit_two_pow_self, Bool.or_true]⟩
theorem round_same {n : Nat} {adj adj' : Nat → Nat → Bool} (h : SameAdj n adj adj') {ch : List Nat} {last : Nat} (hl : last < n) : ∀ (l : List Nat), (∀ m ∈ l, m < n) → ∀ (s : Nat × List (List Nat)), Reached n s → Nat.testBit s.1 last = true → l.foldl (stepC adj ch last) s = l.foldl (stepC adj' ch last) s ∧ Reached n (l.foldl (stepC adj' ch last) s)
  | [], _, s, hs, _ => ⟨rfl, hs⟩
  | m :: l, hml, s, hs, hb => by
    have hm := hml m (List.mem_cons_self ..)
    have e := stepC_same (ch := ch) h hl hm hb
    rw [List.foldl_cons, List.foldl_cons, e]
    exact round_same h hl l (fun k hk => hml k (List.mem_cons_of_mem _ hk)) _ (step_reached hs hm) (step_bit hb)
theorem searchC_same {n : Nat} {adj adj' : Nat → Nat → Bool} (h : SameAdj n adj adj') (dst : Nat) : ∀ (f : Nat) (s : Nat × List (List Nat)), Reached n s → searchC n adj dst f s = searchC n adj' dst f s
  | 0, _, _ => rfl
  | f + 1, (r, q), hs => by
    cases q with
    | nil => rw [searchC_nil, searchC_nil]
    | cons ch q =>
      by_cases he : ch.getLastD 0 = dst
      · rw [searchC_hit he, searchC_hit he]
      · rw [searchC_on he, searchC_on he]
        have hc := hs ch (List.mem_cons_self ..)
        have hq : Reached n (r, q) := fun c hc => hs c (List.mem_cons_of_mem _ hc)
        have := round_same (ch := ch) h hc.1 (List.range n) (fun m hm => List.mem_range.1 hm) (r, q) hq hc.2
        show searchC n adj dst f ((List.range n).foldl (stepC adj ch (ch.getLastD 0)) (r, q)) = searchC n adj' dst f ((List.range n).foldl (stepC adj' ch (ch.getLastD 0)) (r, q))
        rw [this.1]
        exact searchC_same h dst f _ this.2
theorem chainD_same {n : Nat} {adj adj' : Nat → Nat → Bool} (h : SameAdj n adj adj') {fr : Nat} (dst : Nat) (hf : fr < n) : chainD n adj fr dst = chainD n adj' fr dst :=
  searchC_same h dst 6 _ fun ch hc => by
    obtain rfl := List.mem_singleton.1 hc
    exact ⟨hf, Nat.testBit_two_pow_self⟩

/-- the graph of a relation of five languages -/
def gOf (adj : Nat → Nat → Bool) : Nat := (adj 0 1).toNat + 2 * (adj 0 2).toNat + 4 * (adj 1 2).toNat + 8 * (adj 0 3).toNat + 16 * (adj 1 3).toNat + 32 * (adj 2 3).toNat + 64 * (adj 0 4).toNat + 128 * (adj 1 4).toNat + 256 * (adj 2 4).toNat + 512 * (adj 3 4).toNat
theorem gOf_lt (adj : Nat → Nat → Bool) : gOf adj < 1024 := by
  unfold gOf
  cases adj 0 1 <;> cases adj 0 2 <;> cases adj 1 2 <;> cases adj 0 3 <;> cases adj 1 3 <;> simp only [Bool.toNat_false, Bool.toNat_true] <;> (have := Bool.toNat_le (adj 2 3); have := Bool.toNat_le (adj 0 4); have := Bool.toNat_le (adj 1 4); have := Bool.toNat_le (adj 2 4); have := Bool.toNat_le (adj 3 4); omega)
theorem bits10 : ∀ x0 x1 x2 x3 x4 x5 x6 x7 x8 x9 : Bool, [0, 1, 2, 3, 4, 5, 6, 7, 8, 9].map (Nat.testBit (x0.toNat + 2 * x1.toNat + 4 * x2.toNat + 8 * x3.toNat + 16 * x4.toNat + 32 * x5.toNat + 64 * x6.toNat + 128 * x7.toNat + 256 * x8.toNat + 512 * x9.toNat)) = [x0, x1, x2, x3, x4, x5, x6, x7, x8, x9] := by decide +kernel
theorem gOf_same {n : Nat} (hn : n ≤ 5) (adj : Nat → Nat → Bool) (hs : ∀ a b, adj a b = adj b a) : SameAdj n adj (adjG (gOf adj)) := by
  have hb := bits10 (adj 0 1) (adj 0 2) (adj 1 2) (adj 0 3) (adj 1 3) (adj 2 3) (adj 0 4) (adj 1 4) (adj 2 4) (adj 3 4)
  simp only [List.map_cons, List.map_nil, List.cons.injEq, and_true] at hb
  obtain ⟨h0, h1, h2, h3, h4, h5, h6, h7, h8, h9⟩ := hb
  have hlow : ∀ a b, a < b → b < 5 → adj a b = Nat.testBit (gOf adj) (pairNo a b) := fun a b hab hb => by
    rcases a with _ | _ | _ | _ | a <;> rcases b with _ | _ | _ | _ | _ | b <;> first | omega | exact h0.symm | exact h1.symm | exact h2.symm | exact h3.symm | exact h4.symm | exact h5.symm | exact h6.symm | exact h7.symm | exact h8.symm | exact h9.symm
  have hpn : ∀ a, a < 5 → ∀ b, b < 5 → pairNo a b = pairNo b a := by decide
  intro a b ha hb hne
  have hf : Nat.beq a b = false := by
    cases hq : Nat.beq a b with
    | false => rfl
    | true => exact absurd (Nat.eq_of_beq_eq_true hq) hne
  show adj a b = cond (Nat.beq a b) false (Nat.testBit (gOf adj) (pairNo a b))
  rw [hf]
  show adj a b = Nat.testBit (gOf adj) (pairNo a b)
  rcases Nat.lt_or_ge a b with hlt | hge
  · exact hlow a b hlt (by omega)
  · rw [hs a b, hpn a (by omega) b (by omega)]
    exact hlow b a (by omega) (by omega)

end Go.Proofs.Yticeekkfdkfcgaa
