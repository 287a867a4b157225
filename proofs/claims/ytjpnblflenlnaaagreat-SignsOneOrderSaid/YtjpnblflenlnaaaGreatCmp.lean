/- Comparisons that are orders: plain mathematics. -/
import Derived.Test.YtjpnblflenlnaaaGreatPlain
namespace Go.Proofs.YtjpnblflenlnaaaGreat

/-- a comparison: antisymmetric in its sign, and transitive -/
structure Cmp {α : Type} (c : α → α → Int) : Prop where
  neg : ∀ x y, c y x = -c x y
  tr : ∀ x y z, c x y ≤ 0 → c y z ≤ 0 → c x z ≤ 0
section
variable {α β : Type} {c d : α → α → Int}
theorem Cmp.self (h : Cmp c) (x : α) : c x x = 0 := by have := h.neg x x; omega
theorem Cmp.eqv (h : Cmp c) {x y z : α} (h1 : c x y = 0) (h2 : c y z = 0) : c x z = 0 := by
  have a := h.tr x y z (by omega) (by omega)
  have b := h.tr z y x (by have := h.neg y z; omega) (by have := h.neg x y; omega)
  have := h.neg x z
  omega
theorem Cmp.lt_le (h : Cmp c) {x y z : α} (h1 : c x y < 0) (h2 : c y z ≤ 0) : c x z < 0 := by
  have a := h.tr x y z (by omega) h2
  rcases Int.lt_or_eq_of_le a with a | a
  · exact a
  · have := h.tr y z x h2 (by have := h.neg x z; omega)
    have := h.neg x y
    omega
theorem Cmp.le_lt (h : Cmp c) {x y z : α} (h1 : c x y ≤ 0) (h2 : c y z < 0) : c x z < 0 := by
  have a := h.tr x y z h1 (by omega)
  rcases Int.lt_or_eq_of_le a with a | a
  · exact a
  · have := h.tr z x y (by have := h.neg x z; omega) h1
    have := h.neg y z
    omega
/-- first by c, then by d -/
def thenC (c d : α → α → Int) (x y : α) : Int := if c x y = 0 then d x y else c x y
theorem Cmp.then_ (h : Cmp c) (k : Cmp d) : Cmp (thenC c d) where
  neg x y := by
    unfold thenC
    have := h.neg x y
    have := k.neg x y
    by_cases e : c x y = 0
    · rw [if_pos e, if_pos (by omega)]; omega
    · rw [if_neg e, if_neg (by omega)]; omega
  tr x y z h1 h2 := by
    unfold thenC at *
    by_cases e : c x y = 0
    · rw [if_pos e] at h1
      by_cases e2 : c y z = 0
      · rw [if_pos e2] at h2
        rw [if_pos (h.eqv e e2)]
        exact k.tr x y z h1 h2
      · rw [if_neg e2] at h2
        have := h.le_lt (x := x) (y := y) (z := z) (by omega) (by omega)
        rw [if_neg (by omega)]; omega
    · rw [if_neg e] at h1
      by_cases e2 : c y z = 0
      · have := h.lt_le (x := x) (y := y) (z := z) (by omega) (by omega)
        rw [if_neg (by omega)]; omega
      · rw [if_neg e2] at h2
        have := h.lt_le (x := x) (y := y) (z := z) (by omega) (by omega)
        rw [if_neg (by omega)]; omega
theorem Cmp.on (h : Cmp c) (f : β → α) : Cmp (fun x y => c (f x) (f y)) := ⟨fun x y => h.neg _ _, fun x y z => h.tr _ _ _⟩
end

theorem cmp_cmpI : Cmp cmpI where
  neg x y := by
    unfold cmpI
    by_cases h : x < y
    · have h2 : ¬y < x := by omega
      simp [h, h2]
    · by_cases h2 : y < x <;> simp [h, h2]
  tr x y z h1 h2 := by
    have k : ∀ a b : Int, cmpI a b ≤ 0 ↔ a ≤ b := fun a b => by
      unfold cmpI
      by_cases h : a < b
      · rw [if_pos h]; omega
      · rw [if_neg h]
        by_cases h2 : b < a
        · rw [if_pos h2]; omega
        · rw [if_neg h2]; omega
    rw [k] at *
    omega
theorem cmpI_le {a b : Int} : cmpI a b ≤ 0 ↔ a ≤ b := by
  unfold cmpI
  by_cases h : a < b
  · rw [if_pos h]; omega
  · rw [if_neg h]
    by_cases h2 : b < a
    · rw [if_pos h2]; omega
    · rw [if_neg h2]; omega
theorem cmpI_neg {a b : Int} : cmpI a b < 0 ↔ a < b := by
  unfold cmpI
  by_cases h : a < b
  · rw [if_pos h]; omega
  · rw [if_neg h]
    by_cases h2 : b < a
    · rw [if_pos h2]; omega
    · rw [if_neg h2]; omega
theorem cmpL_neg : ∀ x y : List Int, cmpL y x = -cmpL x y
  | [], [] => rfl
  | [], _ :: _ => rfl
  | _ :: _, [] => rfl
  | a :: as, b :: bs => by
    have := cmp_cmpI.neg a b
    simp only [cmpL]
    by_cases h : cmpI a b = 0
    · rw [if_pos h, if_pos (by omega)]; exact cmpL_neg as bs
    · rw [if_neg h, if_neg (by omega)]; exact this
theorem cmpL_tr : ∀ x y z : List Int, cmpL x y ≤ 0 → cmpL y z ≤ 0 → cmpL x z ≤ 0
  | [], _, [], _, _ => by simp [cmpL]
  | [], _, _ :: _, _, _ => by simp [cmpL]
  | _ :: _, [], _, h, _ => by simp [cmpL] at h
  | _ :: _, _ :: _, [], _, h => by simp [cmpL] at h
  | a :: as, b :: bs, c :: cs, h1, h2 => by
    simp only [cmpL] at *
    by_cases e : cmpI a b = 0
    · rw [if_pos e] at h1
      by_cases e2 : cmpI b c = 0
      · rw [if_pos e2] at h2
        rw [if_pos (cmp_cmpI.eqv e e2)]
        exact cmpL_tr as bs cs h1 h2
      · rw [if_neg e2] at h2
        have := cmp_cmpI.le_lt (x := a) (y := b) (z := c) (by omega) (by omega)
        rw [if_neg (by omega)]; omega
    · rw [if_neg e] at h1
      by_cases e2 : cmpI b c = 0
      · have := cmp_cmpI.lt_le (x := a) (y := b) (z := c) (by omega) (by omega)
        rw [if_neg (by omega)]; omega
      · rw [if_neg e2] at h2
        have := cmp_cmpI.lt_le (x := a) (y := b) (z := c) (by omega) (by omega)
        rw [if_neg (by omega)]; omega
theorem cmp_cmpL : Cmp cmpL := ⟨cmpL_neg, cmpL_tr⟩
theorem cmpL_eq0 : ∀ {a b : List Int}, cmpL a b = 0 → a = b
  | [], [], _ => rfl
  | [], _ :: _, h => by simp [cmpL] at h
  | _ :: _, [], h => by simp [cmpL] at h
  | a :: as, b :: bs, h => by
    simp only [cmpL] at h
    by_cases e : cmpI a b = 0
    · rw [if_pos e] at h
      rw [cmpI_eq0 e, cmpL_eq0 h]
    · rw [if_neg e] at h
      exact absurd h e
theorem cmpF_then : cmpF = thenC (fun f g => cmpI f.row g.row) (thenC (fun f g => cmpI f.column g.column) (thenC (fun f g => cmpI f.right g.right) (thenC (fun f g => cmpI f.left g.left) (thenC (fun f g => cmpI f.face g.face) (fun f g => cmpL f.moves g.moves))))) := by
  funext f g
  simp only [cmpF, orL, thenC]
  repeat' split
  all_goals simp_all
theorem cmp_cmpF : Cmp cmpF := by
  rw [cmpF_then]
  exact (cmp_cmpI.on FormD.row).then_ ((cmp_cmpI.on FormD.column).then_ ((cmp_cmpI.on FormD.right).then_ ((cmp_cmpI.on FormD.left).then_ ((cmp_cmpI.on FormD.face).then_ (cmp_cmpL.on FormD.moves)))))
theorem cmpF_eq0 {f g : FormD} (h : cmpF f g = 0) : f = g := by
  rw [cmpF_then] at h
  simp only [thenC] at h
  obtain ⟨r, l, c, ro, fa, ms⟩ := f
  obtain ⟨r', l', c', ro', fa', ms'⟩ := g
  dsimp only at h
  by_cases h1 : cmpI ro ro' = 0
  · rw [if_pos h1] at h
    by_cases h2 : cmpI c c' = 0
    · rw [if_pos h2] at h
      by_cases h3 : cmpI r r' = 0
      · rw [if_pos h3] at h
        by_cases h4 : cmpI l l' = 0
        · rw [if_pos h4] at h
          by_cases h5 : cmpI fa fa' = 0
          · rw [if_pos h5] at h
            rw [cmpI_eq0 h1, cmpI_eq0 h2, cmpI_eq0 h3, cmpI_eq0 h4, cmpI_eq0 h5, cmpL_eq0 h]
          · rw [if_neg h5] at h; exact absurd h h5
        · rw [if_neg h4] at h; exact absurd h h4
      · rw [if_neg h3] at h; exact absurd h h3
    · rw [if_neg h2] at h; exact absurd h h2
  · rw [if_neg h1] at h; exact absurd h h1
theorem cmpF_self (f : FormD) : cmpF f f = 0 := cmp_cmpF.self f
theorem cmpL_mem : ∀ a b : List Int, cmpL a b = -1 ∨ cmpL a b = 0 ∨ cmpL a b = 1
  | [], [] => by simp [cmpL]
  | [], _ :: _ => by simp [cmpL]
  | _ :: _, [] => by simp [cmpL]
  | a :: as, b :: bs => by
    simp only [cmpL]
    by_cases e : cmpI a b = 0
    · rw [if_pos e]; exact cmpL_mem as bs
    · rw [if_neg e]; exact cmpI_mem a b
theorem thenC_mem {α : Type} {c d : α → α → Int} {x y : α} (h : c x y = -1 ∨ c x y = 0 ∨ c x y = 1) (k : d x y = -1 ∨ d x y = 0 ∨ d x y = 1) : thenC c d x y = -1 ∨ thenC c d x y = 0 ∨ thenC c d x y = 1 := by
  unfold thenC
  split
  · exact k
  · exact h
theorem cmpF_mem (f g : FormD) : cmpF f g = -1 ∨ cmpF f g = 0 ∨ cmpF f g = 1 := by
  rw [cmpF_then]
  exact thenC_mem (cmpI_mem _ _) (thenC_mem (cmpI_mem _ _) (thenC_mem (cmpI_mem _ _) (thenC_mem (cmpI_mem _ _) (thenC_mem (cmpI_mem _ _) (cmpL_mem _ _)))))

/-- two lists with the same members, both strictly ascending by a comparison, are one -/
theorem sorted_unique {α : Type} {c : α → α → Int} (h : Cmp c) : ∀ {a b : List α}, a.Pairwise (fun x y => c x y < 0) → b.Pairwise (fun x y => c x y < 0) → (∀ x, x ∈ a ↔ x ∈ b) → a = b
  | [], [], _, _, _ => rfl
  | [], y :: b, _, _, hm => by have := (hm y).2 List.mem_cons_self; simp at this
  | x :: a, [], _, _, hm => by have := (hm x).1 List.mem_cons_self; simp at this
  | x :: a, y :: b, ha, hb, hm => by
    obtain ⟨hx, ha'⟩ := List.pairwise_cons.1 ha
    obtain ⟨hy, hb'⟩ := List.pairwise_cons.1 hb
    have hirr : ∀ z, ¬c z z < 0 := fun z => by rw [h.self]; omega
    have hxy : x = y := by
      have h1 := (hm x).1 List.mem_cons_self
      have h2 := (hm y).2 List.mem_cons_self
      rcases List.mem_cons.1 h1 with h1 | h1
      · exact h1
      · rcases List.mem_cons.1 h2 with h2 | h2
        · exact h2.symm
        · have h3 := hx _ h2
          have h4 := hy _ h1
          have := h.neg x y
          omega
    subst hxy
    suffices hab : a = b by rw [hab]
    refine sorted_unique h ha' hb' fun z => ?_
    have hz := hm z
    simp only [List.mem_cons] at hz
    constructor
    · intro hz1
      rcases hz.1 (.inr hz1) with rfl | h5
      · exact absurd (hx _ hz1) (hirr _)
      · exact h5
    · intro hz1
      rcases hz.2 (.inr hz1) with rfl | h5
      · exact absurd (hy _ hz1) (hirr _)
      · exact h5

/-! ### mirror forms and canons -/
theorem mirror_move {d : Int} (h0 : 0 ≤ d) (h7 : d ≤ 7) : -(-d % 8) % 8 = d := by omega
theorem mirror_mirror {f : FormD} (h : okForm f = true) : mirrorD (mirrorD f) = f := by
  obtain ⟨r, l, c, ro, fa, ms⟩ := f
  simp only [okForm, Bool.and_eq_true, movesOk, List.all_eq_true, inB, decide_eq_true_eq] at h
  have hm := h.2.2.2.2.2.2.2
  simp only [mirrorD, Int.neg_neg, List.map_map, FormD.mk.injEq, true_and]
  conv => rhs; rw [← List.map_id ms]
  refine List.map_congr_left fun d hd => ?_
  obtain ⟨h0, h7⟩ := hm d hd
  exact mirror_move h0 h7
theorem canon_cases (f : FormD) : canonD f = f ∨ canonD f = mirrorD f := by
  unfold canonD
  split
  · exact .inr rfl
  · exact .inl rfl
theorem canon_mirror {f : FormD} (h : okForm f = true) : canonD (mirrorD f) = canonD f := by
  have hn := cmp_cmpF.neg (mirrorD f) f
  unfold canonD
  rw [mirror_mirror h]
  by_cases e : cmpF (mirrorD f) f < 0
  · rw [if_pos e, if_neg (by omega)]
  · rw [if_neg e]
    by_cases e2 : cmpF f (mirrorD f) < 0
    · rw [if_pos e2]
    · rw [if_neg e2]
      exact cmpF_eq0 (by omega)
theorem canon_canon {f : FormD} (h : okForm f = true) : canonD (canonD f) = canonD f := by
  rcases canon_cases f with e | e
  · rw [e, e]
  · rw [e, canon_mirror h, e]

end Go.Proofs.YtjpnblflenlnaaaGreat
