/- Plain mathematics of layer 1: forms, their order and their canons. It imports nothing of the translation. Comparisons that are orders: plain mathematics. -/

namespace Go.Proofs.YthehkgpnnndboaaDoor

/-- n is from lo to hi -/
def inB (n lo hi : Int) : Bool := decide (lo ≤ n) && decide (n ≤ hi)

/-- -1, 0 or 1 -/
def cmpI (a b : Int) : Int := if a < b then -1 else if b < a then 1 else 0
def cmpL : List Int → List Int → Int
  | [], [] => 0
  | [], _ :: _ => -1
  | _ :: _, [] => 1
  | a :: as, b :: bs => if cmpI a b = 0 then cmpL as bs else cmpI a b
/-- the first that is not 0 -/
def orL : List Int → Int
  | [] => 0
  | a :: as => if a = 0 then orL as else a

theorem cmpI_mem (a b : Int) : cmpI a b = -1 ∨ cmpI a b = 0 ∨ cmpI a b = 1 := by
  unfold cmpI
  by_cases h : a < b
  · exact .inl (if_pos h)
  · rw [if_neg h]
    by_cases h2 : b < a
    · exact .inr (.inr (if_pos h2))
    · exact .inr (.inl (if_neg h2))
theorem cmpI_lt {a b : Int} (h : a < b) : cmpI a b = -1 := by simp [cmpI, h]
theorem cmpI_gt {a b : Int} (h : b < a) : cmpI a b = 1 := by unfold cmpI; rw [if_neg (by omega), if_pos h]
theorem cmpI_self (a : Int) : cmpI a a = 0 := by simp [cmpI]

theorem lt_of_at {α : Type} {xs : List α} {k : Nat} {x : α} (h : xs[k]? = some x) : k < xs.length := (List.getElem?_eq_some_iff.1 h).1
theorem take_snoc {α : Type} {xs : List α} {k : Nat} {x : α} (h : xs[k]? = some x) : xs.take (k + 1) = xs.take k ++ [x] := by
  obtain ⟨hk, rfl⟩ := List.getElem?_eq_some_iff.1 h
  exact List.take_succ_eq_append_getElem hk
theorem orL_append (as bs : List Int) (h : orL as = 0) : orL (as ++ bs) = orL bs := by
  induction as with
  | nil => rfl
  | cons a as ih =>
    simp only [orL, List.cons_append] at h ⊢
    split at h
    · rename_i h0; rw [if_pos h0]; exact ih h
    · exact absurd h (by assumption)
theorem orL_take_succ {xs : List Int} {k : Nat} {x : Int} (hx : xs[k]? = some x) (h : orL (xs.take k) = 0) : orL (xs.take (k + 1)) = x := by
  rw [take_snoc hx, orL_append _ _ h]
  simp only [orL]
  split <;> simp_all
theorem orL_of_take (xs : List Int) (k : Nat) (h : orL (xs.take k) ≠ 0) : orL xs = orL (xs.take k) := by
  induction xs generalizing k with
  | nil => simp at h ⊢
  | cons a as ih =>
    cases k with
    | zero => simp [orL] at h
    | succ k =>
      simp only [List.take_succ_cons, orL] at h ⊢
      split
      · rename_i h0; rw [if_pos h0] at h; exact ih k h
      · rfl
/-- the two agree in the first k places -/
def agreeL (xs ys : List Int) (k : Nat) : Prop := k ≤ xs.length ∧ k ≤ ys.length ∧ xs.take k = ys.take k
theorem agreeL_succ {xs ys : List Int} {k : Nat} {x y : Int} (h : agreeL xs ys k) (hx : xs[k]? = some x) (hy : ys[k]? = some y) (he : x = y) : agreeL xs ys (k + 1) := by
  obtain ⟨_, _, h3⟩ := h
  refine ⟨lt_of_at hx, lt_of_at hy, ?_⟩
  rw [take_snoc hx, take_snoc hy, h3, he]
theorem cmpL_agree {xs ys : List Int} {k : Nat} (h : agreeL xs ys k) : cmpL xs ys = cmpL (xs.drop k) (ys.drop k) := by
  induction k generalizing xs ys with
  | zero => simp
  | succ k ih =>
    obtain ⟨h1, h2, h3⟩ := h
    match xs, ys, h1, h2, h3 with
    | a :: as, b :: bs, h1, h2, h3 =>
      simp only [List.take_succ_cons, List.cons.injEq] at h3
      obtain ⟨rfl, h3⟩ := h3
      simp only [cmpL, cmpI_self, if_true, List.drop_succ_cons]
      exact ih ⟨by simpa using h1, by simpa using h2, h3⟩
theorem cmpL_diff {xs ys : List Int} {k : Nat} {x y : Int} (h : agreeL xs ys k) (hx : xs[k]? = some x) (hy : ys[k]? = some y) (hne : cmpI x y ≠ 0) :
    cmpL xs ys = cmpI x y := by
  obtain ⟨hkx, rfl⟩ := List.getElem?_eq_some_iff.1 hx
  obtain ⟨hky, rfl⟩ := List.getElem?_eq_some_iff.1 hy
  rw [cmpL_agree h, List.drop_eq_getElem_cons hkx, List.drop_eq_getElem_cons hky]
  simp only [cmpL]
  rw [if_neg hne]
theorem cmpI_eq0 {a b : Int} (h : cmpI a b = 0) : a = b := by
  unfold cmpI at h
  split at h
  · simp at h
  · split at h
    · simp at h
    · omega
theorem cmpL_xEnd {xs ys : List Int} (h : agreeL xs ys xs.length) : cmpL xs ys = if xs.length < ys.length then -1 else 0 := by
  rw [cmpL_agree h]
  simp only [List.drop_length]
  obtain ⟨_, h2, _⟩ := h
  rcases Nat.lt_or_ge xs.length ys.length with hl | hl
  · rw [if_pos hl, List.drop_eq_getElem_cons hl]; rfl
  · rw [if_neg (by omega), List.drop_of_length_le hl]; rfl
theorem cmpL_yEnd {xs ys : List Int} (h : agreeL xs ys ys.length) (hl : ys.length < xs.length) : cmpL xs ys = 1 := by
  rw [cmpL_agree h]
  simp only [List.drop_length]
  rw [List.drop_eq_getElem_cons hl]; rfl
theorem agreeL_all {xs ys : List Int} (h : agreeL xs ys xs.length) (hl : xs.length = ys.length) : xs = ys := by
  obtain ⟨_, _, h3⟩ := h
  rw [List.take_length, hl, List.take_length] at h3
  exact h3
theorem agreeL_ne {xs ys : List Int} {k : Nat} {x y : Int} (hx : xs[k]? = some x) (hy : ys[k]? = some y) (hne : x ≠ y) : xs ≠ ys := by
  rintro rfl
  rw [hx] at hy
  exact hne (by injection hy)
theorem agreeL_zero (xs ys : List Int) : agreeL xs ys 0 := ⟨Nat.zero_le _, Nat.zero_le _, by simp⟩

theorem any_take_succ {α : Type} {xs : List α} {k : Nat} {x : α} (p : α → Bool) (hx : xs[k]? = some x) (h : (xs.take k).any p = false) : (xs.take (k + 1)).any p = p x := by
  rw [take_snoc hx, List.any_append, h]; simp
theorem any_of_take {α : Type} {xs : List α} {k : Nat} (p : α → Bool) (h : (xs.take k).any p = true) : xs.any p = true := by
  rw [List.any_eq_true] at *
  obtain ⟨x, hx, hp⟩ := h
  exact ⟨x, List.mem_of_mem_take hx, hp⟩

theorem orL_zip {xs ys : List Int} {k : Nat} {x y : Int} (rest : List Int) (h : agreeL xs ys k) (hx : xs[k]? = some x) (hy : ys[k]? = some y) (hne : x ≠ y) :
    orL (List.zipWith cmpI xs ys ++ rest) = cmpI x y := by
  induction k generalizing xs ys with
  | zero =>
    match xs, ys, hx, hy with
    | a :: as, b :: bs, hx, hy =>
      simp at hx hy
      subst hx hy
      simp only [List.zipWith_cons_cons, List.cons_append, orL]
      rw [if_neg (fun h => hne (cmpI_eq0 h))]
  | succ k ih =>
    match xs, ys, h, hx, hy with
    | a :: as, b :: bs, h, hx, hy =>
      obtain ⟨h1, h2, h3⟩ := h
      simp only [List.take_succ_cons, List.cons.injEq] at h3
      obtain ⟨rfl, h3⟩ := h3
      simp only [List.zipWith_cons_cons, List.cons_append, orL, cmpI_self, if_true]
      exact ih ⟨by simpa using h1, by simpa using h2, h3⟩ (by simpa using hx) (by simpa using hy)
theorem orL_zip_same (xs rest : List Int) : orL (List.zipWith cmpI xs xs ++ rest) = orL rest := by
  induction xs with
  | nil => rfl
  | cons a as ih => simp only [List.zipWith_cons_cons, List.cons_append, orL, cmpI_self, if_true]; exact ih
theorem cmpI_sub (x y : Int) : cmpI (x - y) 0 = cmpI x y := by
  unfold cmpI
  by_cases h : x < y
  · rw [if_pos h, if_pos (by omega)]
  · rw [if_neg h, if_neg (by omega)]
    by_cases h2 : y < x
    · rw [if_pos h2, if_pos (by omega)]
    · rw [if_neg h2, if_neg (by omega)]
theorem cmpL_end {xs ys : List Int} {k : Nat} (h : agreeL xs ys k) (he : k = xs.length ∨ k = ys.length) : cmpL xs ys = cmpI xs.length ys.length := by
  rcases he with rfl | rfl
  · rw [cmpL_xEnd h]
    have := h.2.1
    by_cases hl : xs.length < ys.length
    · rw [if_pos hl, cmpI_lt (by omega)]
    · rw [if_neg hl]; have : xs.length = ys.length := by omega
      rw [this, cmpI_self]
  · rcases Nat.lt_or_ge ys.length xs.length with hl | hl
    · rw [cmpL_yEnd h hl, cmpI_gt (by omega)]
    · have h1 := h.1
      have hl2 : ys.length = xs.length := by omega
      rw [hl2] at h
      rw [cmpL_xEnd h, if_neg (by omega), hl2, cmpI_self]

end Go.Proofs.YthehkgpnnndboaaDoor

namespace Go.Proofs.YthehkgpnnndboaaDoor

/-- a comparison: antisymmetric in its sign, and transitive -/
structure Cmp {α : Type} (c : α → α → Int) : Prop where
  neg : ∀ x y, c y x = -c x y
  tr : ∀ x y z, c x y ≤ 0 → c y z ≤ 0 → c x z ≤ 0
section
variable {α β : Type} {c d : α → α → Int}
theorem Cmp.self (h : Cmp c) (x : α) : c x x = 0 := by have := h.neg x x; omega
theorem Cmp.eqv (h : Cmp c) {x y z : α} (h1 : c x y = 0) (h2 : c y z = 0) : c x z = 0 := by
  have a := h.tr x y z (by omega) (by omega)
  have b := h.tr z y x (by have := h.neg y z; omega) (by have := h.neg x y; omega)
  have := h.neg x z
  omega
theorem Cmp.lt_le (h : Cmp c) {x y z : α} (h1 : c x y < 0) (h2 : c y z ≤ 0) : c x z < 0 := by
  have a := h.tr x y z (by omega) h2
  rcases Int.lt_or_eq_of_le a with a | a
  · exact a
  · have := h.tr y z x h2 (by have := h.neg x z; omega)
    have := h.neg x y
    omega
theorem Cmp.le_lt (h : Cmp c) {x y z : α} (h1 : c x y ≤ 0) (h2 : c y z < 0) : c x z < 0 := by
  have a := h.tr x y z h1 (by omega)
  rcases Int.lt_or_eq_of_le a with a | a
  · exact a
  · have := h.tr z x y (by have := h.neg x z; omega) h1
    have := h.neg y z
    omega
/-- first by c, then by d -/
def thenC (c d : α → α → Int) (x y : α) : Int := if c x y = 0 then d x y else c x y
theorem Cmp.then_ (h : Cmp c) (k : Cmp d) : Cmp (thenC c d) where
  neg x y := by
    unfold thenC
    have := h.neg x y
    have := k.neg x y
    by_cases e : c x y = 0
    · rw [if_pos e, if_pos (by omega)]; omega
    · rw [if_neg e, if_neg (by omega)]; omega
  tr x y z h1 h2 := by
    unfold thenC at *
    by_cases e : c x y = 0
    · rw [if_pos e] at h1
      by_cases e2 : c y z = 0
      · rw [if_pos e2] at h2
        rw [if_pos (h.eqv e e2)]
        exact k.tr x y z h1 h2
      · rw [if_neg e2] at h2
        have := h.le_lt (x := x) (y := y) (z := z) (by omega) (by omega)
        rw [if_neg (by omega)]; omega
    · rw [if_neg e] at h1
      by_cases e2 : c y z = 0
      · have := h.lt_le (x := x) (y := y) (z := z) (by omega) (by omega)
        rw [if_neg (by omega)]; omega
      · rw [if_neg e2] at h2
        have := h.lt_le (x := x) (y := y) (z := z) (by omega) (by omega)
        rw [if_neg (by omega)]; omega
theorem Cmp.on (h : Cmp c) (f : β → α) : Cmp (fun x y => c (f x) (f y)) := ⟨fun _ _ => h.neg _ _, fun _ _ _ => h.tr _ _ _⟩
end

theorem cmp_cmpI : Cmp cmpI where
  neg x y := by
    unfold cmpI
    by_cases h : x < y
    · have h2 : ¬y < x := by omega
      simp [h, h2]
    · by_cases h2 : y < x <;> simp [h, h2]
  tr x y z h1 h2 := by
    have k : ∀ a b : Int, cmpI a b ≤ 0 ↔ a ≤ b := fun a b => by
      unfold cmpI
      by_cases h : a < b
      · rw [if_pos h]; omega
      · rw [if_neg h]
        by_cases h2 : b < a
        · rw [if_pos h2]; omega
        · rw [if_neg h2]; omega
    rw [k] at *
    omega
theorem cmpI_le {a b : Int} : cmpI a b ≤ 0 ↔ a ≤ b := by
  unfold cmpI
  by_cases h : a < b
  · rw [if_pos h]; omega
  · rw [if_neg h]
    by_cases h2 : b < a
    · rw [if_pos h2]; omega
    · rw [if_neg h2]; omega
theorem cmpI_neg {a b : Int} : cmpI a b < 0 ↔ a < b := by
  unfold cmpI
  by_cases h : a < b
  · rw [if_pos h]; omega
  · rw [if_neg h]
    by_cases h2 : b < a
    · rw [if_pos h2]; omega
    · rw [if_neg h2]; omega
theorem cmpL_neg : ∀ x y : List Int, cmpL y x = -cmpL x y
  | [], [] => rfl
  | [], _ :: _ => rfl
  | _ :: _, [] => rfl
  | a :: as, b :: bs => by
    have := cmp_cmpI.neg a b
    simp only [cmpL]
    by_cases h : cmpI a b = 0
    · rw [if_pos h, if_pos (by omega)]; exact cmpL_neg as bs
    · rw [if_neg h, if_neg (by omega)]; exact this
theorem cmpL_tr : ∀ x y z : List Int, cmpL x y ≤ 0 → cmpL y z ≤ 0 → cmpL x z ≤ 0
  | [], _, [], _, _ => by simp [cmpL]
  | [], _, _ :: _, _, _ => by simp [cmpL]
  | _ :: _, [], _, h, _ => by simp [cmpL] at h
  | _ :: _, _ :: _, [], _, h => by simp [cmpL] at h
  | a :: as, b :: bs, c :: cs, h1, h2 => by
    simp only [cmpL] at *
    by_cases e : cmpI a b = 0
    · rw [if_pos e] at h1
      by_cases e2 : cmpI b c = 0
      · rw [if_pos e2] at h2
        rw [if_pos (cmp_cmpI.eqv e e2)]
        exact cmpL_tr as bs cs h1 h2
      · rw [if_neg e2] at h2
        have := cmp_cmpI.le_lt (x := a) (y := b) (z := c) (by omega) (by omega)
        rw [if_neg (by omega)]; omega
    · rw [if_neg e] at h1
      by_cases e2 : cmpI b c = 0
      · have := cmp_cmpI.lt_le (x := a) (y := b) (z := c) (by omega) (by omega)
        rw [if_neg (by omega)]; omega
      · rw [if_neg e2] at h2
        have := cmp_cmpI.lt_le (x := a) (y := b) (z := c) (by omega) (by omega)
        rw [if_neg (by omega)]; omega
theorem cmp_cmpL : Cmp cmpL := ⟨cmpL_neg, cmpL_tr⟩
theorem cmpL_eq0 : ∀ {a b : List Int}, cmpL a b = 0 → a = b
  | [], [], _ => rfl
  | [], _ :: _, h => by simp [cmpL] at h
  | _ :: _, [], h => by simp [cmpL] at h
  | a :: as, b :: bs, h => by
    simp only [cmpL] at h
    by_cases e : cmpI a b = 0
    · rw [if_pos e] at h
      rw [cmpI_eq0 e, cmpL_eq0 h]
    · rw [if_neg e] at h
      exact absurd h e
theorem cmpL_mem : ∀ a b : List Int, cmpL a b = -1 ∨ cmpL a b = 0 ∨ cmpL a b = 1
  | [], [] => by simp [cmpL]
  | [], _ :: _ => by simp [cmpL]
  | _ :: _, [] => by simp [cmpL]
  | a :: as, b :: bs => by
    simp only [cmpL]
    by_cases e : cmpI a b = 0
    · rw [if_pos e]; exact cmpL_mem as bs
    · rw [if_neg e]; exact cmpI_mem a b
theorem thenC_mem {α : Type} {c d : α → α → Int} {x y : α} (h : c x y = -1 ∨ c x y = 0 ∨ c x y = 1) (k : d x y = -1 ∨ d x y = 0 ∨ d x y = 1) : thenC c d x y = -1 ∨ thenC c d x y = 0 ∨ thenC c d x y = 1 := by
  unfold thenC
  split
  · exact k
  · exact h

/-- two lists with the same members, both strictly ascending by a comparison, are one -/
theorem sorted_unique {α : Type} {c : α → α → Int} (h : Cmp c) : ∀ {a b : List α}, a.Pairwise (fun x y => c x y < 0) → b.Pairwise (fun x y => c x y < 0) → (∀ x, x ∈ a ↔ x ∈ b) → a = b
  | [], [], _, _, _ => rfl
  | [], y :: b, _, _, hm => by have := (hm y).2 List.mem_cons_self; simp at this
  | x :: a, [], _, _, hm => by have := (hm x).1 List.mem_cons_self; simp at this
  | x :: a, y :: b, ha, hb, hm => by
    obtain ⟨hx, ha'⟩ := List.pairwise_cons.1 ha
    obtain ⟨hy, hb'⟩ := List.pairwise_cons.1 hb
    have hirr : ∀ z, ¬c z z < 0 := fun z => by rw [h.self]; omega
    have hxy : x = y := by
      have h1 := (hm x).1 List.mem_cons_self
      have h2 := (hm y).2 List.mem_cons_self
      rcases List.mem_cons.1 h1 with h1 | h1
      · exact h1
      · rcases List.mem_cons.1 h2 with h2 | h2
        · exact h2.symm
        · have h3 := hx _ h2
          have h4 := hy _ h1
          have := h.neg x y
          omega
    subst hxy
    suffices hab : a = b by rw [hab]
    refine sorted_unique h ha' hb' fun z => ?_
    have hz := hm z
    simp only [List.mem_cons] at hz
    constructor
    · intro hz1
      rcases hz.1 (.inr hz1) with rfl | h5
      · exact absurd (hx _ hz1) (hirr _)
      · exact h5
    · intro hz1
      rcases hz.2 (.inr hz1) with rfl | h5
      · exact absurd (hy _ hz1) (hirr _)
      · exact h5

/-! ### mirror forms and canons -/
theorem mirror_move {d : Int} (h0 : 0 ≤ d) (h7 : d ≤ 7) : -(-d % 8) % 8 = d := by omega

end Go.Proofs.YthehkgpnnndboaaDoor

