/- CheapM: mathematics of the least cost: the plan is the cheapest safe watch, the slot's group the cheapest that covers it. -/
import Derived.Test.YtcgnibfcjadnjaaSlot
import Derived.Test.YtcgnibfcjadnjaaRCost
namespace Go.Proofs.Ytcgnibfcjadnjaa
open Go.RowKit

theorem safe_all {p : Pool} {gs : List Nat} : safeD p gs = true ↔ ∀ s g, gs[s]? = some g → coveredD p s g = true := by
  unfold safeD
  rw [List.all_eq_true]
  constructor
  · intro h s g hg
    have := h s (List.mem_range.2 (lt_of_at hg))
    rwa [List.getD_eq_getElem?_getD, hg] at this
  · intro h s hs
    have hs := List.mem_range.1 hs
    have := h s _ (List.getElem?_eq_getElem hs)
    rwa [List.getD_eq_getElem?_getD, List.getElem?_eq_getElem hs]
theorem fits_watch {p : Pool} {gs : List Nat} : Fits p (Cov p) 0 (fun i => if i < p.folk.length then p.most else 0) gs ↔ Watch p gs ∧ safeD p gs = true := by
  rw [fits_iff, safe_all]
  constructor
  · rintro ⟨h1, h2, h3⟩
    refine ⟨⟨by omega, fun s g hg => ?_, fun i hi => ?_⟩, fun s g hg => ?_⟩
    · have := h2 s g hg
      rw [Nat.zero_add] at this
      exact this.1
    · have := h3 i
      rwa [if_pos hi] at this
    · have := h2 s g hg
      rw [Nat.zero_add] at this
      exact this.2
  · rintro ⟨⟨h1, h2, h3⟩, h4⟩
    refine ⟨by omega, fun k g hg => by rw [Nat.zero_add]; exact ⟨h2 k g hg, h4 k g hg⟩, fun i => ?_⟩
    by_cases hi : i < p.folk.length
    · rw [if_pos hi]; exact h3 i hi
    · rw [if_neg hi]
      suffices timesL gs i = 0 by omega
      unfold timesL
      rw [List.length_eq_zero_iff, List.filter_eq_nil_iff]
      intro g hg
      obtain ⟨k, hk⟩ := List.mem_iff_getElem?.1 hg
      rw [cov_len ⟨h2 k g hk, h4 k g hk⟩ hi]
      exact Bool.false_ne_true
/-- there is no plan: no watch is safe -/
theorem plan_none {p : Pool} (G : Good p) (h : planD p = none) {gs : List Nat} (hw : Watch p gs) : safeD p gs = false := by
  have h1 := best_is G p.needs.length 0 (fun i => if i < p.folk.length then p.most else 0) (by omega)
  unfold planD at h
  rw [h] at h1
  cases hs : safeD p gs with
  | false => rfl
  | true => exact absurd (fits_watch.2 ⟨hw, hs⟩) (h1 gs)
theorem plan_some {p : Pool} (G : Good p) {x : Nat × List Nat} (h : planD p = some x) :
    Watch p x.2 ∧ safeD p x.2 = true ∧ costL p x.2 = x.1 ∧ ∀ gs, Watch p gs → safeD p gs = true → x.1 < costL p gs ∨ (x.1 = costL p gs ∧ ¬ lexL gs x.2) := by
  have h1 := best_is G p.needs.length 0 (fun i => if i < p.folk.length then p.most else 0) (by omega)
  unfold planD at h
  rw [h] at h1
  obtain ⟨a, b, c⟩ := h1
  obtain ⟨a1, a2⟩ := fits_watch.1 a
  refine ⟨a1, a2, b.symm, fun gs hw hs => ?_⟩
  rcases c gs (fits_watch.2 ⟨hw, hs⟩) with q | ⟨q, q2⟩
  · exact .inl q
  · refine .inr ⟨q, ?_⟩
    rcases q2 with rfl | q2
    · exact lex_irrefl _
    · exact lex_asym _ _ q2
/-- the slot's group is the cheapest -/
theorem slot_some {p : Pool} (G : Good p) {s g : Nat} (h : minL (keyD p) (coveringD p s) = some g) : Cov p s g ∧ ∀ x, Cov p s x → costD p g ≤ costD p x := by
  obtain ⟨c1, c2, c3⟩ := covering_all p s
  obtain ⟨h1, h2⟩ := min_some (R := (· < ·)) lt_asym c2 h
  refine ⟨c1 g h1, fun x hx => ?_⟩
  obtain ⟨m, hm, hsub⟩ := c3 x hx
  have hc := cost_mono (p := p) hsub
  have h5 := pop_le5 m (sub_32 (sub_32 (able_32 G s) hx.1) hsub)
  have hk := h2 m hm
  unfold keyD at hk
  rcases hk with q | ⟨q, _⟩ <;> omega
theorem slot_none {p : Pool} {s : Nat} (h : minL (keyD p) (coveringD p s) = none) (x : Nat) : ¬ Cov p s x := fun hx => by
  obtain ⟨_, _, c3⟩ := covering_all p s
  obtain ⟨m, hm, _⟩ := c3 x hx
  rw [min_none h] at hm
  cases hm
theorem slot_of_watch {p : Pool} {gs : List Nat} (hw : Watch p gs) (hs : safeD p gs = true) {s : Nat} (hn : s < p.needs.length) : Cov p s (gs.getD s 0) := by
  have hl : s < gs.length := by rw [hw.len]; exact hn
  have hg := List.getElem?_eq_getElem hl
  rw [List.getD_eq_getElem?_getD, hg]
  exact ⟨hw.able s _ hg, safe_all.1 hs s _ hg⟩
/-- the sum of the slots' costs -/
def sumC (p : Pool) : Nat → Nat
  | 0 => 0
  | k + 1 => sumC p k + slotC p k
theorem slotC_le {p : Pool} (G : Good p) (s : Nat) : slotC p s ≤ 5000 := by
  unfold slotC
  split
  · omega
  · exact costD_le G _
theorem sumC_le {p : Pool} (G : Good p) : ∀ k, sumC p k ≤ 5000 * k
  | 0 => Nat.le_refl _
  | k + 1 => by
    have := sumC_le G k
    have := slotC_le G k
    show sumC p k + slotC p k ≤ _
    omega
theorem slotC_min {p : Pool} (G : Good p) {s x : Nat} (hx : Cov p s x) : slotC p s ≤ costD p x := by
  unfold slotC
  cases h : minL (keyD p) (coveringD p s) with
  | none => exact Nat.zero_le _
  | some g => exact (slot_some G h).2 x hx
theorem sum_le {p : Pool} (G : Good p) {gs : List Nat} (hw : Watch p gs) (hs : safeD p gs = true) : ∀ k, k ≤ gs.length → sumC p k ≤ costL p (gs.take k)
  | 0, _ => Nat.zero_le _
  | k + 1, hk => by
    have ih := sum_le G hw hs k (by omega)
    have hg := List.getElem?_eq_getElem (l := gs) (i := k) (by omega)
    have h1 := slotC_min G (slot_of_watch hw hs (s := k) (by rw [← hw.len]; omega))
    rw [List.getD_eq_getElem?_getD, hg] at h1
    rw [costL_take hg]
    have h1 : slotC p k ≤ costD p gs[k] := h1
    show sumC p k + slotC p k ≤ _
    omega
theorem lex_at : ∀ {a b : List Nat} {k x y : Nat}, a.take k = b.take k → a[k]? = some x → b[k]? = some y → x < y → lexL a b
  | [], _, k, x, y, _, h, _, _ => by simp at h
  | _ :: _, [], k, x, y, _, _, h, _ => by simp at h
  | a :: u, b :: v, 0, x, y, _, h1, h2, h => by
    obtain rfl : a = x := by simpa using h1
    obtain rfl : b = y := by simpa using h2
    exact .inl h
  | a :: u, b :: v, k + 1, x, y, h0, h1, h2, h => by
    simp only [List.take_succ_cons, List.cons.injEq] at h0
    exact .inr ⟨h0.1, lex_at h0.2 (by simpa using h1) (by simpa using h2) h⟩

end Go.Proofs.Ytcgnibfcjadnjaa
