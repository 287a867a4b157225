/- Run: courses of a rota; less weariness, fewer mistakes. -/
import Derived.Test.YthlihchndmbkaaaBest
namespace Go.Proofs.Ythlihchndmbkaaa
open Go.RowKit

/-! courses of a rota: the weariness of each hand before each part, and the mistakes -/
def runW (st : Nat → Int) (sp : Nat → Nat → Int) (rota : List Nat) : Nat → Nat → Int
  | 0, k => st k
  | i + 1, k => if rota[i]? = some k then runW st sp rota i k + sp i k else max 0 (runW st sp rota i k - sp i k)
def slipAt (t : TaskD) (k : Nat) : Int := match t.hands[k]? with | some h => h.slip | none => 0
/-- the mistakes of the part i -/
def partM (t : TaskD) (W : Nat → Nat → Int) (rota : List Nat) (i : Nat) : Int :=
  t.parts.getD i 0 * (slipAt t (rota.getD i 0) + W i (rota.getD i 0)) + (if 0 < i ∧ rota.getD i 0 ≠ rota.getD (i - 1) 0 then t.swap else 0)
def runM (t : TaskD) (W : Nat → Nat → Int) (rota : List Nat) : Nat → Int
  | 0 => 0
  | i + 1 => runM t W rota i + partM t W rota i
theorem runW_le {K : Nat} {st st' : Nat → Int} {sp sp' : Nat → Nat → Int} {rota : List Nat} (h1 : ∀ k, k < K → st k ≤ st' k) (h2 : ∀ i k, k < K → i < rota.length → rota[i]? = some k → sp i k ≤ sp' i k) (h3 : ∀ i k, k < K → i < rota.length → rota[i]? ≠ some k → sp' i k ≤ sp i k) :
    ∀ i, i ≤ rota.length → ∀ k, k < K → runW st sp rota i k ≤ runW st' sp' rota i k
  | 0, _, k, hk => h1 k hk
  | i + 1, hi, k, hk => by
    have ih := runW_le (rota := rota) h1 h2 h3 i (by omega) k hk
    unfold runW
    by_cases e : rota[i]? = some k
    · rw [if_pos e, if_pos e]
      have := h2 i k hk (by omega) e
      omega
    · rw [if_neg e, if_neg e]
      have := h3 i k hk (by omega) e
      omega
theorem getD_at {α : Type} {l : List α} {i : Nat} {x d : α} (h : l[i]? = some x) : l.getD i d = x := by simp [List.getD, h]
theorem runM_le {t u : TaskD} {K : Nat} {W W' : Nat → Nat → Int} {rota : List Nat} (hp : u.parts = t.parts) (hs : u.swap = t.swap) (h0 : ∀ p ∈ t.parts, 0 ≤ p) (hr : ∀ h ∈ rota, h < K)
    (hsl : ∀ k, k < K → slipAt u k ≤ slipAt t k) (hw : ∀ i, i < rota.length → ∀ k, k < K → W i k ≤ W' i k) : ∀ i, i ≤ rota.length → runM u W rota i ≤ runM t W' rota i
  | 0, _ => Int.le_refl 0
  | i + 1, hi => by
    have ih := runM_le (W := W) (W' := W') hp hs h0 hr hsl hw i (by omega)
    obtain ⟨k, hk⟩ : ∃ k, rota[i]? = some k := ⟨_, List.getElem?_eq_getElem (by omega)⟩
    have hkK := hr k (List.mem_of_getElem? hk)
    unfold runM partM
    rw [getD_at hk, hp, hs]
    have g1 := hsl k hkK
    have g2 := hw i (by omega) k hkK
    have g3 : 0 ≤ t.parts.getD i 0 := by
      cases e : t.parts[i]? with
      | none => simp [List.getD, e]
      | some p => rw [getD_at e]; exact h0 p (List.mem_of_getElem? e)
    have g4 : t.parts.getD i 0 * (slipAt u k + W i k) ≤ t.parts.getD i 0 * (slipAt t k + W' i k) := Int.mul_le_mul_of_nonneg_left (by omega) g3
    omega
/-- the course in which the same ends of spans count throughout -/
def endSt (hi : Bool) (t : TaskD) (k : Nat) : Int := startAt hi t.hands[k]?
def endSp (hi : Bool) (t : TaskD) (rota : List Nat) (i k : Nat) : Int := match t.hands[k]? with
  | some h => if rota[i]? = some k then tireOf hi h else easeOf hi h
  | none => 0
abbrev endW (hi : Bool) (t : TaskD) (rota : List Nat) : Nat → Nat → Int := runW (endSt hi t) (endSp hi t rota) rota
theorem beginTo_get (hi : Bool) (hs : List HandD) : ∀ k, k ≤ 3 → ∀ j, j < 3 → (beginTo hi hs k).get j = if j < k then startAt hi hs[j]? else 0
  | 0, _, j, hj => by
    match j, hj with
    | 0, _ | 1, _ | 2, _ => rfl
  | k + 1, hk, j, hj => by
    show ((beginTo hi hs k).set k _).get j = _
    rw [StD.get_set _ (by omega) _ j hj]
    by_cases e : j = k
    · subst e
      rw [if_pos rfl, if_pos (by omega)]
    · rw [if_neg e, beginTo_get hi hs k (by omega) j hj]
      by_cases h : j < k
      · rw [if_pos h, if_pos (by omega)]
      · rw [if_neg h, if_neg (by omega)]
theorem beginTo_zero (hi : Bool) (hs : List HandD) : ∀ k, (beginTo hi hs k).mis = 0 ∧ (beginTo hi hs k).parts = 0
  | 0 => ⟨rfl, rfl⟩
  | k + 1 => by
    have h := StD.set_rest (beginTo hi hs k) k (startAt hi hs[k]?)
    have ih := beginTo_zero hi hs k
    exact ⟨h.2.1.trans ih.1, h.1.trans ih.2⟩
theorem signD_get (hi : Bool) (t : TaskD) (s : StD) (hand : Nat) (hl : t.hands.length ≤ 3) {k : Nat} (hk : k < t.hands.length) : (signD hi t s hand).get k = newW hi t.hands[k]? (decide (k = hand)) (s.get k) := by
  have h := wearTo_get hi t.hands hand { s with mis := misD t s hand } t.hands.length hl k (by omega)
  rw [if_pos hk] at h
  exact h
theorem signD_last (hi : Bool) (t : TaskD) (s : StD) (hand : Nat) : (signD hi t s hand).last = hand ∧ (signD hi t s hand).parts = s.parts + 1 := ⟨rfl, rfl⟩
theorem after_run {hi : Bool} {t : TaskD} (hl : t.hands.length ≤ 3) {rota : List Nat} (hf : ∀ h ∈ rota, h < t.hands.length) (hp : rota.length ≤ t.parts.length) :
    ∀ i, i ≤ rota.length → (∀ k, k < t.hands.length → (afterD hi t (rota.take i)).get k = endW hi t rota i k) ∧ (afterD hi t (rota.take i)).mis = runM t (endW hi t rota) rota i ∧ (afterD hi t (rota.take i)).parts = i ∧ (0 < i → (afterD hi t (rota.take i)).last = (rota.getD (i - 1) 0 : Nat))
  | 0, _ => by
    refine ⟨fun k hk => ?_, ?_, ?_, fun h => by omega⟩
    · show (beginTo hi t.hands t.hands.length).get k = startAt hi t.hands[k]?
      rw [beginTo_get hi t.hands _ hl k (by omega), if_pos hk]
    · exact (beginTo_zero hi t.hands _).1
    · exact (beginTo_zero hi t.hands _).2
  | i + 1, hi' => by
    obtain ⟨ih1, ih2, ih3, ih4⟩ := after_run (hi := hi) hl hf hp i (by omega)
    obtain ⟨h, hx⟩ : ∃ h, rota[i]? = some h := ⟨_, List.getElem?_eq_getElem (by omega)⟩
    have hh := hf h (List.mem_of_getElem? hx)
    rw [afterD_take hx]
    generalize afterD hi t (rota.take i) = s at ih1 ih2 ih3 ih4
    refine ⟨fun k hk => ?_, ?_, ?_, fun _ => ?_⟩
    · rw [signD_get hi t s h hl hk, ih1 k hk]
      have e : t.hands[k]? = some t.hands[k] := List.getElem?_eq_getElem hk
      show _ = if rota[i]? = some k then endW hi t rota i k + endSp hi t rota i k else max 0 (endW hi t rota i k - endSp hi t rota i k)
      generalize endW hi t rota i k = q
      unfold endSp newW
      rw [hx, e]
      by_cases g : h = k
      · subst g
        simp
      · have g' : k ≠ h := fun x => g x.symm
        simp [g, g']
    · rw [signD_mis]
      obtain ⟨p, hpx⟩ : ∃ p, t.parts[i]? = some p := ⟨_, List.getElem?_eq_getElem (by omega)⟩
      unfold runM partM misD slipAt
      rw [ih3, Int.toNat_natCast, hpx, getD_at hx, getD_at hpx, List.getElem?_eq_getElem hh, ih1 h hh, ih2]
      dsimp only
      by_cases g : 0 < i
      · rw [ih4 g]
        have e : ((rota.getD (i - 1) 0 : Nat) : Int) ≠ (h : Int) ↔ h ≠ rota.getD (i - 1) 0 := by omega
        simp only [e, Int.natCast_pos, g, true_and]
        omega
      · obtain rfl : i = 0 := by omega
        simp
    · rw [(signD_last hi t s h).2, ih3]; omega
    · rw [(signD_last hi t s h).1]
      simp [hx]
/-- the first K hands of u are no wearier than those of t -/
structure Easy (K : Nat) (t u : TaskD) : Prop where
  parts : u.parts = t.parts
  swap : u.swap = t.swap
  hands : ∀ k, k < K → ∃ h g, t.hands[k]? = some h ∧ u.hands[k]? = some g ∧ g.s0 ≤ h.s0 ∧ g.s1 ≤ h.s1 ∧ g.t0 ≤ h.t0 ∧ g.t1 ≤ h.t1 ∧ h.e0 ≤ g.e0 ∧ h.e1 ≤ g.e1 ∧ g.slip ≤ h.slip
theorem easy_le {K : Nat} {t u : TaskD} (h : Easy K t u) (ht : t.hands.length ≤ 3) (hu : u.hands.length ≤ 3) (h0 : ∀ p ∈ t.parts, 0 ≤ p) {rota : List Nat} (hf : ∀ h ∈ rota, h < K) (hp : rota.length ≤ t.parts.length) (hi : Bool) :
    (afterD hi u rota).mis ≤ (afterD hi t rota).mis := by
  have hK : ∀ k, k < K → k < t.hands.length ∧ k < u.hands.length := fun k hk => by
    obtain ⟨x, y, e1, e2, _⟩ := h.hands k hk
    exact ⟨lt_of_at e1, lt_of_at e2⟩
  have r1 := (after_run (hi := hi) ht (fun x hx => (hK x (hf x hx)).1) hp rota.length (Nat.le_refl _)).2.1
  have r2 := (after_run (hi := hi) hu (fun x hx => (hK x (hf x hx)).2) (by rw [h.parts]; exact hp) rota.length (Nat.le_refl _)).2.1
  rw [List.take_length] at r1 r2
  rw [r1, r2]
  refine runM_le (K := K) h.parts h.swap h0 hf (fun k hk => ?_) (fun i hi' k hk => ?_) _ (Nat.le_refl _)
  · obtain ⟨x, y, e1, e2, h1, h2, h3, h4, h5, h6, h7⟩ := h.hands k hk
    unfold slipAt
    rw [e1, e2]
    exact h7
  · refine runW_le (K := K) (fun k hk => ?_) (fun i k hk _ e => ?_) (fun i k hk _ e => ?_) i (by omega) k hk
    · obtain ⟨x, y, e1, e2, h1, h2, h3, h4, h5, h6, h7⟩ := h.hands k hk
      unfold endSt startAt
      rw [e1, e2]
      unfold startOf
      cases hi <;> simp [h1, h2]
    · obtain ⟨x, y, e1, e2, h1, h2, h3, h4, h5, h6, h7⟩ := h.hands k hk
      unfold endSp tireOf
      rw [e1, e2]
      cases hi <;> simp [e, h3, h4]
    · obtain ⟨x, y, e1, e2, h1, h2, h3, h4, h5, h6, h7⟩ := h.hands k hk
      unfold endSp easeOf
      rw [e1, e2]
      cases hi <;> simp [e, h5, h6]

end Go.Proofs.Ythlihchndmbkaaa
