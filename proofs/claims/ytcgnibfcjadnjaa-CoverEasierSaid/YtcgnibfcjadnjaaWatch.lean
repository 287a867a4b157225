/- Watch: the cheapest watch: the program's search over the least groups is the specification's search over all. -/
import Derived.Test.YtcgnibfcjadnjaaBest
namespace Go.Proofs.Ytcgnibfcjadnjaa

/-- in how many groups a person is -/
def timesL (l : List Nat) (i : Nat) : Nat := (l.filter fun g => hasN g i).length
theorem times_nil (i : Nat) : timesL [] i = 0 := rfl
theorem times_cons (g : Nat) (l : List Nat) (i : Nat) : timesL (g :: l) i = (if hasN g i then 1 else 0) + timesL l i := by
  unfold timesL
  rw [List.filter_cons]
  cases hasN g i <;> simp <;> omega
theorem times_le (l : List Nat) (i : Nat) : timesL l i ≤ l.length := List.length_filter_le _ _
def costL (p : Pool) : List Nat → Nat
  | [] => 0
  | g :: l => costD p g + costL p l
/-- groups for the slots from s on, of people who can be on call and cover, nobody in more than left -/
def Fits (p : Pool) (Q : Nat → Nat → Prop) : Nat → (Nat → Nat) → List Nat → Prop
  | s, _, [] => s = p.needs.length
  | s, left, g :: l => s < p.needs.length ∧ Q s g ∧ (∀ i, (if hasN g i then 1 else 0) ≤ left i) ∧ Fits p Q (s + 1) (fun i => left i - if hasN g i then 1 else 0) l
theorem fits_len {p : Pool} {Q : Nat → Nat → Prop} : ∀ {l : List Nat} {s : Nat} {left : Nat → Nat}, Fits p Q s left l → s + l.length = p.needs.length
  | [], s, _, h => (show s + 0 = _ from h)
  | g :: l, s, left, h => by
    have := fits_len h.2.2.2
    simp only [List.length_cons]
    omega
theorem fits_iff {p : Pool} {Q : Nat → Nat → Prop} : ∀ {l : List Nat} {s : Nat} {left : Nat → Nat}, Fits p Q s left l ↔ s + l.length = p.needs.length ∧ (∀ k g, l[k]? = some g → Q (s + k) g) ∧ ∀ i, timesL l i ≤ left i
  | [], s, left => by simp [Fits, times_nil]
  | g :: l, s, left => by
    unfold Fits
    rw [fits_iff (l := l)]
    constructor
    · rintro ⟨h1, h2, h3, h4, h5, h6⟩
      refine ⟨by simp only [List.length_cons]; omega, fun k x hx => ?_, fun i => ?_⟩
      · cases k with
        | zero =>
          obtain rfl : g = x := by simpa using hx
          exact h2
        | succ k =>
          have := h5 k x (by simpa using hx)
          rwa [show s + 1 + k = s + (k + 1) by omega] at this
      · have := h6 i
        have := h3 i
        rw [times_cons]
        omega
    · rintro ⟨h1, h2, h3⟩
      simp only [List.length_cons] at h1
      refine ⟨by omega, h2 0 g (by simp), fun i => ?_, by omega, fun k x hx => ?_, fun i => ?_⟩
      · have := h3 i
        rw [times_cons] at this
        omega
      · have := h2 (k + 1) x (by simpa using hx)
        rwa [show s + (k + 1) = s + 1 + k by omega] at this
      · have := h3 i
        rw [times_cons] at this
        omega
theorem fits_left {p : Pool} {Q : Nat → Nat → Prop} {l : List Nat} {s : Nat} {left left' : Nat → Nat} (h : ∀ i, min (left i) (p.needs.length - s) = min (left' i) (p.needs.length - s)) : Fits p Q s left l ↔ Fits p Q s left' l := by
  rw [fits_iff, fits_iff]
  constructor
  · rintro ⟨a, b, c⟩
    exact ⟨a, b, fun i => by have := h i; have := c i; have := times_le l i; omega⟩
  · rintro ⟨a, b, c⟩
    exact ⟨a, b, fun i => by have := h i; have := c i; have := times_le l i; omega⟩

/-- the lower list at the first place at which they differ -/
def lexL : List Nat → List Nat → Prop
  | [], [] => False
  | [], _ :: _ => True
  | _ :: _, [] => False
  | a :: l, b :: m => a < b ∨ (a = b ∧ lexL l m)
theorem lex_irrefl : ∀ l, ¬ lexL l l
  | [] => fun h => h
  | a :: l => fun h => by
    rcases h with h | ⟨_, h⟩
    · omega
    · exact lex_irrefl l h
theorem lex_trans : ∀ {a b c : List Nat}, lexL a b → lexL b c → lexL a c
  | [], [], _, h, _ => h.elim
  | [], _ :: _, [], _, h => h.elim
  | [], _ :: _, _ :: _, _, _ => trivial
  | _ :: _, [], _, h, _ => h.elim
  | _ :: _, _ :: _, [], _, h => h.elim
  | x :: a, y :: b, z :: c, h, k => by
    rcases h with h | ⟨rfl, h⟩
    · rcases k with k | ⟨rfl, k⟩
      · exact .inl (by omega)
      · exact .inl h
    · rcases k with k | ⟨rfl, k⟩
      · exact .inl k
      · exact .inr ⟨rfl, lex_trans h k⟩
theorem lex_asym (a b : List Nat) (h : lexL a b) : ¬ lexL b a := fun k => lex_irrefl a (lex_trans h k)

/-- what is left after a group; capped -/
def afterD (g cap : Nat) (left : Nat → Nat) (i : Nat) : Nat := min (left i - if hasN g i then 1 else 0) cap
def roomB (n : Nat) (g : Nat) (left : Nat → Nat) : Bool := (List.range n).all fun i => decide ((if hasN g i then 1 else 0) ≤ left i)
/-- a plan for the slots from one on: its cost and its groups -/
abbrev PlanD := Option (Nat × List Nat)
def lessP (b w : PlanD) : PlanD := match w with
  | none => b
  | some (c, l) => match b with
    | none => some (c, l)
    | some (c', l') => if c < c' then some (c, l) else some (c', l')
def bestTo (p : Pool) (next : (Nat → Nat) → PlanD) (cap : Nat) (left : Nat → Nat) : List Nat → PlanD → PlanD
  | [], b => b
  | g :: l, b => bestTo p next cap left l (if roomB 8 g left then lessP b ((next (afterD g cap left)).map fun x => (x.1 + costD p g, g :: x.2)) else b)
def bestD (p : Pool) : Nat → Nat → (Nat → Nat) → PlanD
  | 0, _, _ => some (0, [])
  | m + 1, s, left => bestTo p (bestD p m (s + 1)) m left (coveringD p s) none
def planD (p : Pool) : PlanD := bestD p p.needs.length 0 fun i => if i < p.folk.length then p.most else 0

/-- is x the best of all that fit? -/
def IsBest (p : Pool) (s : Nat) (left : Nat → Nat) (x : Nat × List Nat) : Prop :=
  Fits p (Cov p) s left x.2 ∧ x.1 = costL p x.2 ∧ ∀ l, Fits p (Cov p) s left l → x.1 < costL p l ∨ (x.1 = costL p l ∧ (l = x.2 ∨ lexL x.2 l))
def IsPlan (p : Pool) (s : Nat) (left : Nat → Nat) : PlanD → Prop
  | none => ∀ l, ¬ Fits p (Cov p) s left l
  | some x => IsBest p s left x
theorem isBest_same {p : Pool} {s : Nat} {left : Nat → Nat} {x y : Nat × List Nat} (hx : IsBest p s left x) (hy : IsBest p s left y) : x = y := by
  obtain ⟨c, l⟩ := x
  obtain ⟨d, m⟩ := y
  obtain ⟨h1, h2, h3⟩ := hx
  obtain ⟨k1, k2, k3⟩ := hy
  dsimp only at *
  have a := h3 m k1
  have b := k3 l h1
  have hc : c = d := by rcases a with a | ⟨a, _⟩ <;> rcases b with b | ⟨b, _⟩ <;> omega
  subst hc
  rcases a with a | ⟨_, a⟩
  · omega
  rcases b with b | ⟨_, b⟩
  · omega
  rcases a with rfl | a
  · rfl
  rcases b with rfl | b
  · rfl
  exact absurd b (lex_asym _ _ a)
theorem isPlan_same {p : Pool} {s : Nat} {left : Nat → Nat} {x y : PlanD} (hx : IsPlan p s left x) (hy : IsPlan p s left y) : x = y := by
  cases x with
  | none =>
    cases y with
    | none => rfl
    | some y => exact absurd hy.1 (hx _)
  | some x =>
    cases y with
    | none => exact absurd hx.1 (hy _)
    | some y => rw [isBest_same hx hy]
theorem isPlan_left {p : Pool} {s : Nat} {left left' : Nat → Nat} (h : ∀ i, min (left i) (p.needs.length - s) = min (left' i) (p.needs.length - s)) {x : PlanD} (hx : IsPlan p s left x) : IsPlan p s left' x := by
  cases x with
  | none => exact fun l hl => hx l ((fits_left h).2 hl)
  | some x => exact ⟨(fits_left h).1 hx.1, hx.2.1, fun l hl => hx.2.2 l ((fits_left h).2 hl)⟩

/-- the best of those that begin with one of the groups of a list; whatever begins with another one is not looked at -/
def BestOf (p : Pool) (s : Nat) (left : Nat → Nat) (G : List Nat) : PlanD → Prop
  | none => ∀ g l, g ∈ G → ¬ Fits p (Cov p) s left (g :: l)
  | some x => Fits p (Cov p) s left x.2 ∧ x.1 = costL p x.2 ∧ (∃ g l, g ∈ G ∧ x.2 = g :: l) ∧ ∀ g l, g ∈ G → Fits p (Cov p) s left (g :: l) → x.1 < costL p (g :: l) ∨ (x.1 = costL p (g :: l) ∧ (g :: l = x.2 ∨ lexL x.2 (g :: l)))
theorem room_iff {n g : Nat} {left : Nat → Nat} (hg : g < 2 ^ n) : roomB n g left = true ↔ ∀ i, (if hasN g i then 1 else 0) ≤ left i := by
  unfold roomB
  rw [List.all_eq_true]
  constructor
  · intro h i
    rcases Nat.lt_or_ge i n with hi | hi
    · exact of_decide_eq_true (h i (List.mem_range.2 hi))
    · cases hh : hasN g i with
      | false => simp
      | true => have := has_lt hg hh; omega
  · intro h i _
    exact decide_eq_true (h i)
theorem bestTo_spec {p : Pool} {m s : Nat} {left : Nat → Nat} (next : (Nat → Nat) → PlanD) (hs : s + (m + 1) = p.needs.length) (hn : ∀ L, IsPlan p (s + 1) L (next L)) :
    ∀ (G pre : List Nat) (b : PlanD), (pre ++ G).Pairwise (· < ·) → (∀ g, g ∈ pre ++ G → Cov p s g ∧ g < 2 ^ 8) → BestOf p s left pre b → BestOf p s left (pre ++ G) (bestTo p next m left G b)
  | [], pre, b, _, _, hb => by simpa [bestTo] using hb
  | g :: G, pre, b, hp, hc, hb => by
    have e : pre ++ g :: G = (pre ++ [g]) ++ G := by simp
    have hlt : ∀ x, x ∈ pre → x < g := fun x hx => (List.pairwise_append.1 hp).2.2 x hx g (by simp)
    have hcg := hc g (by simp)
    have hsl : s < p.needs.length := by omega
    rw [e] at hp hc ⊢
    rw [bestTo]
    refine bestTo_spec next hs hn G (pre ++ [g]) _ hp hc ?_
    -- what begins with g
    have hfit : ∀ l, Fits p (Cov p) s left (g :: l) ↔ roomB 8 g left = true ∧ Fits p (Cov p) (s + 1) (afterD g m left) l := fun l => by
      rw [room_iff hcg.2]
      have hl : ∀ i, min (left i - if hasN g i then 1 else 0) (p.needs.length - (s + 1)) = min (afterD g m left i) (p.needs.length - (s + 1)) := fun i => by unfold afterD; omega
      constructor
      · rintro ⟨_, _, h3, h4⟩
        exact ⟨h3, (fits_left hl).1 h4⟩
      · rintro ⟨h3, h4⟩
        exact ⟨hsl, hcg.1, h3, (fits_left hl).2 h4⟩
    have hkeep : (∀ l, ¬ Fits p (Cov p) s left (g :: l)) → BestOf p s left (pre ++ [g]) b := fun hno => by
      cases b with
      | none =>
        intro g' l hg'
        rcases List.mem_append.1 hg' with hg' | hg'
        · exact hb g' l hg'
        · obtain rfl : g' = g := by simpa using hg'
          exact hno l
      | some x =>
        obtain ⟨h1, h2, ⟨g0, l0, h3, h4⟩, h5⟩ := hb
        refine ⟨h1, h2, ⟨g0, l0, by simp [h3], h4⟩, fun g' l hg' hf => ?_⟩
        rcases List.mem_append.1 hg' with hg' | hg'
        · exact h5 g' l hg' hf
        · obtain rfl : g' = g := by simpa using hg'
          exact absurd hf (hno l)
    by_cases hr : roomB 8 g left = true
    · rw [if_pos hr]
      have hnx := hn (afterD g m left)
      cases hw : next (afterD g m left) with
      | none =>
        rw [hw] at hnx
        exact hkeep fun l hf => hnx l ((hfit l).1 hf).2
      | some x =>
        obtain ⟨c, t⟩ := x
        rw [hw] at hnx
        obtain ⟨n1, n2, n3⟩ := hnx
        dsimp only at n1 n2 n3
        have hgf : Fits p (Cov p) s left (g :: t) := (hfit t).2 ⟨hr, n1⟩
        have hbest : ∀ l, Fits p (Cov p) s left (g :: l) → c + costD p g < costL p (g :: l) ∨ (c + costD p g = costL p (g :: l) ∧ (g :: l = g :: t ∨ lexL (g :: t) (g :: l))) := fun l hf => by
          have := n3 l ((hfit l).1 hf).2
          show _ < costD p g + costL p l ∨ (_ = costD p g + costL p l ∧ _)
          rcases this with h | ⟨h, h2⟩
          · left; omega
          · right
            refine ⟨by omega, ?_⟩
            rcases h2 with rfl | h2
            · exact .inl rfl
            · exact .inr (.inr ⟨rfl, h2⟩)
        have hcost : c + costD p g = costL p (g :: t) := by show _ = costD p g + costL p t; omega
        show BestOf p s left (pre ++ [g]) (lessP b (some (c + costD p g, g :: t)))
        cases b with
        | none =>
          refine ⟨hgf, hcost, ⟨g, t, by simp, rfl⟩, fun g' l hg' hf => ?_⟩
          rcases List.mem_append.1 hg' with hg' | hg'
          · exact absurd hf (hb g' l hg')
          · obtain rfl : g' = g := by simpa using hg'
            exact hbest l hf
        | some x =>
          obtain ⟨c', l'⟩ := x
          obtain ⟨h1, h2, ⟨g0, l0, h3, h4⟩, h5⟩ := hb
          dsimp only at h1 h2 h4 h5
          show BestOf p s left (pre ++ [g]) (if c + costD p g < c' then some (c + costD p g, g :: t) else some (c', l'))
          by_cases hlc : c + costD p g < c'
          · rw [if_pos hlc]
            refine ⟨hgf, hcost, ⟨g, t, by simp, rfl⟩, fun g' l hg' hf => ?_⟩
            rcases List.mem_append.1 hg' with hg' | hg'
            · left
              rcases h5 g' l hg' hf with q | ⟨q, _⟩
              · show c + costD p g < _; omega
              · show c + costD p g < _; omega
            · obtain rfl : g' = g := by simpa using hg'
              exact hbest l hf
          · rw [if_neg hlc]
            refine ⟨h1, h2, ⟨g0, l0, by simp [h3], h4⟩, fun g' l hg' hf => ?_⟩
            rcases List.mem_append.1 hg' with hg' | hg'
            · exact h5 g' l hg' hf
            · obtain rfl : g' = g := by simpa using hg'
              show c' < _ ∨ (c' = _ ∧ _)
              have := hbest l hf
              rcases Nat.lt_or_ge c' (costL p (g' :: l)) with q | q
              · exact .inl q
              · refine .inr ⟨by rcases this with z | ⟨z, _⟩ <;> omega, .inr ?_⟩
                show lexL l' (g' :: l)
                rw [h4]
                exact .inl (hlt g0 h3)
    · rw [if_neg hr]
      exact hkeep fun l hf => hr ((hfit l).1 hf).1
theorem fits_swap {p : Pool} {s g m : Nat} {left : Nat → Nat} {l : List Nat} (h : Fits p (Cov p) s left (g :: l)) (hm : Cov p s m) (hs : subN m g = true) : Fits p (Cov p) s left (m :: l) := by
  rw [fits_iff] at h ⊢
  obtain ⟨h1, h2, h3⟩ := h
  refine ⟨h1, fun k x hx => ?_, fun i => ?_⟩
  · cases k with
    | zero =>
      obtain rfl : m = x := by simpa using hx
      exact hm
    | succ k => exact h2 (k + 1) x (by simpa using hx)
  · have := h3 i
    rw [times_cons] at this ⊢
    cases hi : hasN m i with
    | false => simp; omega
    | true => rw [sub_iff.1 hs i hi] at this; exact this
theorem best_is {p : Pool} (h : Good p) : ∀ (m s : Nat) (left : Nat → Nat), s + m = p.needs.length → IsPlan p s left (bestD p m s left)
  | 0, s, left, hs => by
    refine ⟨hs, rfl, fun l hl => .inr ?_⟩
    have := fits_len hl
    have : l.length = 0 := by omega
    obtain rfl := List.eq_nil_of_length_eq_zero this
    exact ⟨rfl, .inl rfl⟩
  | m + 1, s, left, hs => by
    obtain ⟨c1, c2, c3⟩ := covering_all p s
    have hB := bestTo_spec (left := left) (bestD p m (s + 1)) hs (fun L => best_is h m (s + 1) L (by omega)) (coveringD p s) [] none (by simpa using c2) (fun g hg => by
      have := c1 g (by simpa using hg)
      exact ⟨this, by have := sub_32 (able_32 h s) this.1; omega⟩) (by intro g l hg; cases hg)
    rw [List.nil_append] at hB
    rw [bestD]
    generalize bestTo p (bestD p m (s + 1)) m left (coveringD p s) none = r at hB ⊢
    have hred : ∀ l, Fits p (Cov p) s left l → ∃ g g' t, l = g :: t ∧ g' ∈ coveringD p s ∧ subN g' g = true ∧ Fits p (Cov p) s left (g' :: t) := fun l hl => by
      cases l with
      | nil => have := fits_len hl; simp at this; omega
      | cons g t =>
        obtain ⟨g', hg', hsub⟩ := c3 g hl.2.1
        exact ⟨g, g', t, rfl, hg', hsub, fits_swap hl (c1 g' hg') hsub⟩
    cases r with
    | none =>
      intro l hl
      obtain ⟨g, g', t, rfl, hg', hsub, hf⟩ := hred l hl
      exact hB g' t hg' hf
    | some x =>
      obtain ⟨h1, h2, ⟨g0, l0, h3, h4⟩, h5⟩ := hB
      refine ⟨h1, h2, fun l hl => ?_⟩
      obtain ⟨g, g', t, rfl, hg', hsub, hf⟩ := hred l hl
      have hle : costL p (g' :: t) ≤ costL p (g :: t) := by
        have := cost_mono (p := p) hsub
        show costD p g' + costL p t ≤ costD p g + costL p t
        omega
      have hlex : g' :: t = g :: t ∨ lexL (g' :: t) (g :: t) := by
        have := sub_le hsub
        rcases Nat.lt_or_ge g' g with q | q
        · exact .inr (.inl q)
        · obtain rfl : g' = g := by omega
          exact .inl rfl
      rcases h5 g' t hg' hf with q | ⟨q, q2⟩
      · left; omega
      · rcases Nat.lt_or_ge x.1 (costL p (g :: t)) with z | z
        · exact .inl z
        · refine .inr ⟨by omega, ?_⟩
          rcases q2 with q2 | q2
          · rw [← q2]
            rcases hlex with e | e
            · exact .inl e.symm
            · exact .inr e
          · right
            rcases hlex with e | e
            · rw [← e]; exact q2
            · exact lex_trans q2 e
/-- all that fit, in ascending order, as the specification lists them -/
def everyD (p : Pool) : Nat → Nat → (Nat → Nat) → List (List Nat)
  | 0, _, _ => [[]]
  | m + 1, s, left => (coversD p s).flatMap fun g => if roomB p.folk.length g left then (everyD p m (s + 1) (fun i => left i - if hasN g i then 1 else 0)).map (g :: ·) else []
theorem every_mem {p : Pool} (h : Good p) : ∀ (m s : Nat) (left : Nat → Nat), s + m = p.needs.length → ∀ l, l ∈ everyD p m s left ↔ Fits p (Cov p) s left l
  | 0, s, left, hs, l => by
    rw [everyD]
    constructor
    · intro hl
      obtain rfl : l = [] := by simpa using hl
      exact hs
    · intro hl
      have := fits_len hl
      have : l.length = 0 := by omega
      rw [List.eq_nil_of_length_eq_zero this]
      simp
  | m + 1, s, left, hs, l => by
    rw [everyD, List.mem_flatMap]
    constructor
    · rintro ⟨g, hg, hl⟩
      have hc := (covers_mem h (by omega)).1 hg
      split at hl
      · rename_i hr
        obtain ⟨t, ht, rfl⟩ := List.mem_map.1 hl
        exact ⟨by omega, hc, (room_iff (sub_lt (able_lt p s) hc.1)).1 hr, (every_mem h m (s + 1) _ (by omega) t).1 ht⟩
      · cases hl
    · intro hl
      cases l with
      | nil => have := fits_len hl; simp at this; omega
      | cons g t =>
        obtain ⟨h1, h2, h3, h4⟩ := hl
        refine ⟨g, (covers_mem h (by omega)).2 h2, ?_⟩
        rw [if_pos ((room_iff (sub_lt (able_lt p s) h2.1)).2 h3)]
        exact List.mem_map.2 ⟨t, (every_mem h m (s + 1) _ (by omega) t).2 h4, rfl⟩
theorem every_sorted (p : Pool) : ∀ (m s : Nat) (left : Nat → Nat), (everyD p m s left).Pairwise lexL
  | 0, s, left => by simp [everyD]
  | m + 1, s, left => by
    rw [everyD]
    refine List.pairwise_flatMap.2 ⟨fun g _ => ?_, ?_⟩
    · split
      · exact List.pairwise_map.2 ((every_sorted p m (s + 1) _).imp fun {a b} hab => .inr ⟨rfl, hab⟩)
      · exact List.Pairwise.nil
    · refine (covers_sorted p s).imp fun {a b} hab x hx y hy => ?_
      split at hx
      · obtain ⟨t, _, rfl⟩ := List.mem_map.1 hx
        split at hy
        · obtain ⟨u, _, rfl⟩ := List.mem_map.1 hy
          exact .inl hab
        · cases hy
      · cases hx
/-- the specification's plan -/
def planS (p : Pool) : PlanD := (minL (costL p) (everyD p p.needs.length 0 fun _ => p.most)).map fun l => (costL p l, l)
theorem cov_len {p : Pool} {s g : Nat} (hg : Cov p s g) {i : Nat} (h : ¬ i < p.folk.length) : hasN g i = false := by
  cases hh : hasN g i with
  | false => rfl
  | true => exact absurd (has_lt (sub_lt (able_lt p s) hg.1) hh) h
theorem plan_same {p : Pool} (h : Good p) : planD p = planS p := by
  have h1 := best_is h p.needs.length 0 (fun i => if i < p.folk.length then p.most else 0) (by omega)
  have hfit : ∀ l, Fits p (Cov p) 0 (fun i => if i < p.folk.length then p.most else 0) l ↔ Fits p (Cov p) 0 (fun _ => p.most) l := fun l => by
    rw [fits_iff, fits_iff]
    constructor
    · rintro ⟨a, b, c⟩
      exact ⟨a, b, fun i => by have := c i; split at this <;> omega⟩
    · rintro ⟨a, b, c⟩
      refine ⟨a, b, fun i => ?_⟩
      split
      · exact c i
      · rename_i hi
        suffices timesL l i = 0 by omega
        unfold timesL
        rw [List.length_eq_zero_iff, List.filter_eq_nil_iff]
        intro g hg
        obtain ⟨k, hk⟩ := List.mem_iff_getElem?.1 hg
        rw [cov_len (b k g hk) hi]
        exact Bool.false_ne_true
  unfold planD planS
  refine isPlan_same h1 ?_
  cases hm : minL (costL p) (everyD p p.needs.length 0 fun _ => p.most) with
  | none =>
    intro l hl
    have := (every_mem h p.needs.length 0 (fun _ => p.most) (by omega) l).2 ((hfit l).1 hl)
    rw [min_none hm] at this
    cases this
  | some x =>
    obtain ⟨a, b⟩ := min_some lex_asym (every_sorted p _ _ _) hm
    refine ⟨(hfit x).2 ((every_mem h p.needs.length 0 (fun _ => p.most) (by omega) x).1 a), rfl, fun l hl => ?_⟩
    exact b l ((every_mem h p.needs.length 0 (fun _ => p.most) (by omega) l).2 ((hfit l).1 hl))

end Go.Proofs.Ytcgnibfcjadnjaa
