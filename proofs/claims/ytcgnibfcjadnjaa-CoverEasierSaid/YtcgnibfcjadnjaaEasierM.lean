/- EasierM: mathematics of a pool that is easier than another: its plan is no dearer. -/
import Derived.Test.YtcgnibfcjadnjaaCheapM
namespace Go.Proofs.Ytcgnibfcjadnjaa
open Go.RowKit

/-- q asks no more than p, and its people give no less -/
structure Easier (p q : Pool) : Prop where
  len : p.folk.length ≤ q.folk.length
  t : ∀ i e, i < p.folk.length → hasN (p.folk.getD i nof).t e = true → hasN (q.folk.getD i nof).t e = true
  s : ∀ i e, i < p.folk.length → hasN (p.folk.getD i nof).s e = true → hasN (q.folk.getD i nof).s e = true
  y : ∀ i, i < p.folk.length → (q.folk.getD i nof).y ≤ (p.folk.getD i nof).y
  n : q.needs.length = p.needs.length
  tn : q.tn = p.tn
  row : ∀ s k, (q.row s).getD k 0 ≤ (p.row s).getD k 0
  ill : q.ill ≤ p.ill
  most : p.most ≤ q.most
theorem and_some {a T : Nat} : a &&& T ≠ 0 ↔ ∃ e, hasN a e = true ∧ hasN T e = true := by
  constructor
  · intro h
    by_cases hq : ∃ e, hasN a e = true ∧ hasN T e = true
    · exact hq
    · exfalso
      apply h
      apply has_ext
      intro e
      rw [has_and, has_zero]
      cases ha : hasN a e with
      | false => rfl
      | true =>
        cases hT : hasN T e with
        | false => rfl
        | true => exact absurd ⟨e, ha, hT⟩ hq
  · rintro ⟨e, h1, h2⟩ h
    have h3 := has_and a T e
    rw [h, has_zero, h1, h2] at h3
    cases h3
theorem neededTo_ease {r r' : List Nat} {T : Nat} (h : ∀ k, r'.getD k 0 ≤ r.getD k 0) : ∀ k, neededTo r' T k ≤ neededTo r T k
  | 0 => Nat.le_refl _
  | k + 1 => by
    have ih := neededTo_ease (T := T) h k
    have hk := h k
    unfold neededTo
    split <;> omega
theorem cntTo_more (l : List FolkN) (g T k : Nat) : ∀ d, cntTo l g T k ≤ cntTo l g T (k + d)
  | 0 => Nat.le_refl _
  | d + 1 => by
    have ih := cntTo_more l g T k d
    rw [← Nat.add_assoc]
    show _ ≤ (if ableB l g T (k + d) then cntTo l g T (k + d) + 1 else cntTo l g T (k + d))
    split <;> omega
theorem costTo_more {l : List FolkN} {g k : Nat} (h : g < 2 ^ k) : ∀ d, costTo l g (k + d) = costTo l g k
  | 0 => rfl
  | d + 1 => by
    have ih := costTo_more (l := l) h d
    rw [← Nat.add_assoc]
    show (if hasN g (k + d) then costTo l g (k + d) + (l.getD (k + d) nof).y else costTo l g (k + d)) = _
    rw [if_neg, ih]
    intro hh
    have := has_lt h hh
    omega
namespace Easier
variable {p q : Pool}
theorem able (E : Easier p q) (s : Nat) {g : Nat} (h : subN g (ableD p s) = true) : subN g (ableD q s) = true := by
  rw [sub_iff] at h ⊢
  intro e he
  have h1 := h e he
  rw [able_has, Bool.and_eq_true, decide_eq_true_iff] at h1 ⊢
  exact ⟨Nat.lt_of_lt_of_le h1.1 E.len, E.s e s h1.1 h1.2⟩
theorem ableB_le (E : Easier p q) {g T i : Nat} (hi : i < p.folk.length) (h : ableB p.folk g T i = true) : ableB q.folk g T i = true := by
  unfold ableB at h ⊢
  rw [Bool.and_eq_true, decide_eq_true_iff, and_some] at h ⊢
  obtain ⟨h1, e, h2, h3⟩ := h
  exact ⟨h1, e, E.t i e hi h2, h3⟩
theorem cntTo_le (E : Easier p q) (g T : Nat) : ∀ k, k ≤ p.folk.length → cntTo p.folk g T k ≤ cntTo q.folk g T k
  | 0, _ => Nat.le_refl _
  | k + 1, hk => by
    have ih := E.cntTo_le g T k (by omega)
    unfold cntTo
    cases h : ableB p.folk g T k with
    | true => rw [E.ableB_le (by omega) h]; simp only [if_true]; omega
    | false => simp only [Bool.false_eq_true, if_false]; split <;> omega
theorem cnt_le (E : Easier p q) (g T : Nat) : cnt p.folk g T ≤ cnt q.folk g T := by
  have h1 := E.cntTo_le g T _ (Nat.le_refl _)
  have h2 := cntTo_more q.folk g T p.folk.length (q.folk.length - p.folk.length)
  have h3 := E.len
  rw [show p.folk.length + (q.folk.length - p.folk.length) = q.folk.length by omega] at h2
  exact Nat.le_trans h1 h2
theorem costTo_le (E : Easier p q) (g : Nat) : ∀ k, k ≤ p.folk.length → costTo q.folk g k ≤ costTo p.folk g k
  | 0, _ => Nat.le_refl _
  | k + 1, hk => by
    have ih := E.costTo_le g k (by omega)
    have hy := E.y k (by omega)
    unfold costTo
    split <;> omega
theorem costD_le (E : Easier p q) {g : Nat} (hg : g < 2 ^ p.folk.length) : costD q g ≤ costD p g := by
  have h1 := E.costTo_le g _ (Nat.le_refl _)
  have h2 := costTo_more (l := q.folk) hg (q.folk.length - p.folk.length)
  have h3 := E.len
  rw [show p.folk.length + (q.folk.length - p.folk.length) = q.folk.length by omega] at h2
  unfold costD
  omega
theorem costL_le (E : Easier p q) : ∀ {l : List Nat}, (∀ g ∈ l, g < 2 ^ p.folk.length) → costL q l ≤ costL p l
  | [], _ => Nat.le_refl _
  | g :: l, h => by
    have h1 := E.costD_le (h g (by simp))
    have h2 := E.costL_le (l := l) fun x hx => h x (by simp [hx])
    show costD q g + costL q l ≤ costD p g + costL p l
    omega
theorem enough (E : Easier p q) (G : Good p) (G' : Good q) {s g : Nat} (hs : s < p.needs.length) (h : Enough p s g p.ill) : Enough q s g q.ill := by
  intro T hT hn
  have h1 : needed (q.row s) T ≤ needed (p.row s) T := by
    unfold needed
    rw [row_len G hs, row_len G' (by rw [E.n]; exact hs), E.tn]
    exact neededTo_ease (E.row s) _
  rw [E.tn] at hT
  have h2 := h T hT (by omega)
  have h3 := E.cnt_le g T
  have h4 := E.ill
  omega
theorem watch (E : Easier p q) {gs : List Nat} (h : Watch p gs) : Watch q gs := by
  refine ⟨by rw [E.n]; exact h.len, fun s g hg => E.able s (h.able s g hg), fun i hi => ?_⟩
  have hm := E.most
  by_cases hp : i < p.folk.length
  · have := h.few i hp
    omega
  · suffices timesL gs i = 0 by omega
    unfold timesL
    rw [List.length_eq_zero_iff, List.filter_eq_nil_iff]
    intro g hg
    obtain ⟨k, hk⟩ := List.mem_iff_getElem?.1 hg
    intro hh
    exact hp (has_lt (sub_lt (able_lt p k) (h.able k g hk)) hh)
theorem safe (E : Easier p q) (G : Good p) (G' : Good q) {gs : List Nat} (h : Watch p gs) (hs : safeD p gs = true) : safeD q gs = true := by
  rw [safe_all] at hs ⊢
  intro s g hg
  have hsn : s < p.needs.length := by rw [← h.len]; exact lt_of_at hg
  have h32 := sub_32 (able_32 G s) (h.able s g hg)
  rw [covered_iff G' (by rw [E.n]; exact hsn) h32]
  exact E.enough G G' hsn ((covered_iff G hsn h32).1 (hs s g hg))
/-- the plan of an easier pool is no dearer -/
theorem plan (E : Easier p q) (G : Good p) (G' : Good q) (h : (planD p).isSome = true) : (planD q).isSome = true ∧ tripC (planD q) ≤ tripC (planD p) := by
  cases hp : planD p with
  | none => rw [hp] at h; cases h
  | some x =>
    obtain ⟨h1, h2, h3, _⟩ := plan_some G hp
    have hw := E.watch h1
    have hs := E.safe G G' h1 h2
    cases hq : planD q with
    | none => rw [plan_none G' hq hw] at hs; cases hs
    | some z =>
      obtain ⟨_, _, _, h4⟩ := plan_some G' hq
      have h5 := E.costL_le (l := x.2) fun g hg => by
        obtain ⟨k, hk⟩ := List.mem_iff_getElem?.1 hg
        exact sub_lt (able_lt p k) (h1.able k g hk)
      refine ⟨rfl, ?_⟩
      show z.1 ≤ x.1
      have h6 := h4 x.2 hw hs
      omega
end Easier

end Go.Proofs.Ytcgnibfcjadnjaa
