/- IsRightM: right rotas, hand by hand. -/
import Derived.Test.YthlihchndmbkaaaRun
namespace Go.Proofs.Ythlihchndmbkaaa
open Go.RowKit

/-! right rotas, hand by hand -/
theorem fit_iff {t : TaskD} {ys : List Nat} : Fit t ys ↔ (∀ h ∈ ys, h < t.hands.length) ∧ rightD t (natsL ys) = true := by
  unfold Fit rightD rightTo
  refine and_congr_right fun _ => ?_
  rw [List.all_eq_true]
  constructor
  · intro h i hi
    have hi := List.mem_range.1 hi
    rw [List.length_map] at hi
    have e : ys[i]? = some ys[i] := List.getElem?_eq_getElem hi
    have g := h i _ e
    have e2 : (natsL ys).getD i 0 = (ys[i] : Int) := getD_at (by simp [e])
    rw [e2, ← List.map_take]
    exact g
  · intro h i y hy
    have hi := lt_of_at hy
    have g := h i (List.mem_range.2 (by rw [List.length_map]; exact hi))
    have e2 : (natsL ys).getD i 0 = (y : Int) := getD_at (by simp [hy])
    rwa [e2, ← List.map_take] at g
/-- one hand, part by part: how many parts in a row it has signed, and for how many it has rested; none: it signed where it may not -/
def scanStep (t : TaskD) (h : Int) : Option (Int × Int) → Int → Option (Int × Int)
  | none, _ => none
  | some (row, rest), x => if x ≠ h then some (0, rest + 1) else if (row = 0 ∧ rest < t.rest) ∨ row = t.limit then none else some (row + 1, 0)
def scanD (t : TaskD) (h : Int) (xs : List Int) : Option (Int × Int) := xs.foldl (scanStep t h) (some (0, t.rest))
def isRightD (t : TaskD) (xs : List Int) : Bool := (List.range t.hands.length).all fun h => (scanD t (h : Int) xs).isSome
theorem scanD_snoc (t : TaskD) (h : Int) (xs : List Int) (x : Int) : scanD t h (xs ++ [x]) = scanStep t h (scanD t h xs) x := by
  unfold scanD
  rw [List.foldl_append]
  rfl
theorem restsD_snoc (xs : List Int) (x h : Int) : restsD (xs ++ [x]) h = if x ≠ h then restsD xs h + 1 else 0 := by
  unfold restsD
  rw [List.reverse_append]
  simp only [List.reverse_singleton, List.singleton_append, List.takeWhile_cons]
  by_cases e : x = h
  · simp [e]
  · simp [e]
def rowD (xs : List Int) (h : Int) : Nat := (xs.reverse.takeWhile fun x => decide (x = h)).length
theorem rowD_snoc (xs : List Int) (x h : Int) : rowD (xs ++ [x]) h = if x = h then rowD xs h + 1 else 0 := by
  unfold rowD
  rw [List.reverse_append]
  simp only [List.reverse_singleton, List.singleton_append, List.takeWhile_cons]
  by_cases e : x = h
  · simp [e]
  · simp [e]
theorem restsD_le (xs : List Int) (h : Int) : restsD xs h ≤ xs.length := by
  unfold restsD
  have := List.takeWhile_prefix (fun x => decide (x ≠ h)) (l := xs.reverse)
  have := this.length_le
  rwa [List.length_reverse] at this
theorem rowD_le (xs : List Int) (h : Int) : rowD xs h ≤ xs.length := by
  unfold rowD
  have := List.takeWhile_prefix (fun x => decide (x = h)) (l := xs.reverse)
  have := this.length_le
  rwa [List.length_reverse] at this

theorem snoc_ind {α : Type} {P : List α → Prop} (h0 : P []) (h1 : ∀ l x, P l → P (l ++ [x])) : ∀ l, P l := fun l => by
  rw [← List.reverse_reverse l]
  induction l.reverse with
  | nil => exact h0
  | cons x l ih => rw [List.reverse_cons]; exact h1 _ _ ih
/-- a hand has signed in the last part, or has rested; who has rested all the time has not signed -/
theorem rests_row (h : Int) : ∀ xs : List Int, (0 < restsD xs h → rowD xs h = 0) ∧ (restsD xs h = 0 → xs = [] ∨ 0 < rowD xs h) ∧ (h ∉ xs ↔ restsD xs h = xs.length) := by
  refine snoc_ind ⟨fun h => ?_, fun _ => .inl rfl, by simp [restsD]⟩ fun xs x ih => ?_
  · simp [restsD] at h
  · obtain ⟨i1, i2, i3⟩ := ih
    have hle := restsD_le xs h
    rw [restsD_snoc, rowD_snoc]
    by_cases e : x = h
    · subst e
      simp
    · have e' : h ≠ x := fun g => e g.symm
      simp [e, e']
      exact i3
/-- what the scan of one hand has come to -/
theorem scanD_state {t : TaskD} (hlim : 1 ≤ t.limit) (h : Int) : ∀ xs : List Int, ∀ row rest, scanD t h xs = some (row, rest) → row = rowD xs h ∧ rest = (if h ∈ xs then (restsD xs h : Int) else t.rest + xs.length) ∧ (row ≤ t.limit ∨ row = 0) := by
  refine snoc_ind (fun row rest e => ?_) fun xs x ih row rest e => ?_
  · obtain ⟨rfl, rfl⟩ := Prod.mk.inj (Option.some.inj e)
    simp [rowD]
  · rw [scanD_snoc] at e
    cases hs : scanD t h xs with
    | none => rw [hs] at e; simp [scanStep] at e
    | some p =>
      obtain ⟨r0, q0⟩ := p
      rw [hs] at e
      obtain ⟨k1, k2, k3⟩ := ih r0 q0 hs
      unfold scanStep at e
      dsimp only at e
      rw [restsD_snoc, rowD_snoc]
      by_cases hx : x = h
      · subst hx
        simp only [ne_eq, not_true_eq_false, if_false] at e
        split at e
        · simp at e
        · rename_i hc
          obtain ⟨rfl, rfl⟩ := Prod.mk.inj (Option.some.inj e)
          refine ⟨by simp [k1], by simp, ?_⟩
          omega
      · have hx' : h ≠ x := fun g => hx g.symm
        rw [if_pos hx] at e
        obtain ⟨rfl, rfl⟩ := Prod.mk.inj (Option.some.inj e)
        refine ⟨by simp [hx], ?_, .inr rfl⟩
        rw [k2]
        by_cases hm : h ∈ xs
        · simp [hm, hx]
        · simp [hm, hx']; omega
/-- who may not sign again: the row is as long as Limit -/
theorem row_other {xs : List Int} {h : Int} {n : Nat} (hn : n ≤ xs.length) : (xs.drop (xs.length - n)).any (fun x => decide (x ≠ h)) = false ↔ n ≤ rowD xs h := by
  have e : (xs.drop (xs.length - n)).any (fun x => decide (x ≠ h)) = (xs.reverse.take n).any (fun x => decide (x ≠ h)) := by
    rw [List.take_reverse, List.any_reverse]
  rw [e]
  unfold rowD
  have hn' : n ≤ xs.reverse.length := by rw [List.length_reverse]; exact hn
  generalize xs.reverse = ys at hn'
  clear e hn
  induction ys generalizing n with
  | nil => simp at hn'; simp [hn']
  | cons y ys ih =>
    cases n with
    | zero => simp
    | succ n =>
      rw [List.take_succ_cons, List.any_cons, List.takeWhile_cons]
      by_cases g : y = h
      · have := ih (n := n) (by simpa using hn')
        simp [g] at this ⊢
        omega
      · simp [g]
theorem may_step {t : TaskD} (hlim : 1 ≤ t.limit) {xs : List Int} {h row rest : Int} (hs : scanD t h xs = some (row, rest)) : maySignD t xs h = (scanStep t h (some (row, rest)) h).isSome := by
  obtain ⟨k1, k2, k3⟩ := scanD_state hlim h xs row rest hs
  obtain ⟨r1, r2, r3⟩ := rests_row h xs
  have hle := rowD_le xs h
  unfold scanStep maySignD
  simp only [ne_eq, not_true_eq_false, if_false]
  by_cases hr : 0 < restsD xs h
  · have h0 := r1 hr
    rw [if_pos hr]
    have hrow : row = 0 := by omega
    by_cases hm : h ∈ xs
    · have hne : restsD xs h ≠ xs.length := fun g => (r3.2 g) hm
      rw [if_pos hm] at k2
      by_cases g : t.rest ≤ restsD xs h
      · rw [if_neg (by omega)]
        simp [g]
      · rw [if_pos (by omega)]
        simp [g, hne]
    · rw [if_neg hm] at k2
      rw [if_neg (by omega)]
      simp [r3.1 hm]
  · rw [if_neg hr]
    have hr0 : restsD xs h = 0 := by omega
    rcases r2 hr0 with rfl | hrow
    · have : row = 0 := by rw [k1]; rfl
      have hq : rest = t.rest := by rw [k2]; simp
      rw [if_neg (by omega)]
      simp
      omega
    · by_cases g : (xs.length : Int) < t.limit
      · rw [if_neg (by omega)]
        simp [g]
      · have ho := row_other (xs := xs) (h := h) (n := t.limit.toNat) (by omega)
        by_cases gl : row = t.limit
        · rw [if_pos (.inr gl)]
          have := ho.2 (by omega)
          simp only [g, decide_false, Bool.false_or, Option.isSome_none]
          exact this
        · rw [if_neg (by omega)]
          have : ¬ (xs.drop (xs.length - t.limit.toNat)).any (fun x => decide (x ≠ h)) = false := fun q => by have := ho.1 q; omega
          simp only [g, decide_false, Bool.false_or, Option.isSome_some]
          simpa using this
theorem scan_other {t : TaskD} {h x : Int} (hx : x ≠ h) (o : Option (Int × Int)) : (scanStep t h o x).isSome = o.isSome := by
  cases o with
  | none => rfl
  | some p => unfold scanStep; simp [hx]
theorem isRight_snoc {t : TaskD} (hlim : 1 ≤ t.limit) {xs : List Int} {x : Nat} (hx : x < t.hands.length) : isRightD t (xs ++ [(x : Int)]) = (isRightD t xs && maySignD t xs (x : Int)) := by
  unfold isRightD
  apply Bool.eq_iff_iff.2
  rw [Bool.and_eq_true, List.all_eq_true, List.all_eq_true]
  constructor
  · intro h
    have h1 : ∀ k ∈ List.range t.hands.length, (scanD t (k : Int) xs).isSome = true := fun k hk => by
      have g := h k hk
      rw [scanD_snoc] at g
      cases hs : scanD t (k : Int) xs with
      | none => rw [hs] at g; exact g
      | some p => rfl
    refine ⟨h1, ?_⟩
    obtain ⟨p, hp⟩ := Option.isSome_iff_exists.1 (h1 x (List.mem_range.2 hx))
    have g := h x (List.mem_range.2 hx)
    rw [scanD_snoc, hp] at g
    rw [may_step hlim hp]
    exact g
  · rintro ⟨h1, h2⟩ k hk
    rw [scanD_snoc]
    by_cases e : (x : Int) = k
    · obtain ⟨p, hp⟩ := Option.isSome_iff_exists.1 (h1 k hk)
      rw [e] at h2 ⊢
      rw [hp, ← may_step hlim hp]
      exact h2
    · rw [scan_other e]
      exact h1 k hk
theorem rightD_snoc {t : TaskD} {xs : List Int} {x : Int} : rightD t (xs ++ [x]) = (rightD t xs && maySignD t xs x) := by
  unfold rightD
  rw [List.length_append, List.length_singleton, rightTo_succ (y := x) (by simp)]
  rw [List.take_left' rfl]
  congr 1
  unfold rightTo
  apply Bool.eq_iff_iff.2
  rw [List.all_eq_true, List.all_eq_true]
  refine forall_congr' fun i => ?_
  refine imp_congr_right fun hi => ?_
  have hi := List.mem_range.1 hi
  rw [List.take_append_of_le_length (by omega)]
  have : (xs ++ [x]).getD i 0 = xs.getD i 0 := by simp [List.getD, List.getElem?_append_left hi]
  rw [this]
/-- the two words for a right rota are one -/
theorem isRight_right {t : TaskD} (hlim : 1 ≤ t.limit) : ∀ ys : List Nat, (∀ h ∈ ys, h < t.hands.length) → isRightD t (natsL ys) = rightD t (natsL ys) := by
  refine snoc_ind (fun _ => ?_) fun ys x ih hf => ?_
  · unfold isRightD
    apply Bool.eq_iff_iff.2
    rw [List.all_eq_true]
    exact ⟨fun _ => rfl, fun _ _ _ => rfl⟩
  · have e : natsL (ys ++ [x]) = natsL ys ++ [(x : Int)] := by simp
    rw [e, isRight_snoc hlim (hf x (by simp)), rightD_snoc, ih fun h hh => hf h (by simp [hh])]

end Go.Proofs.Ythlihchndmbkaaa
