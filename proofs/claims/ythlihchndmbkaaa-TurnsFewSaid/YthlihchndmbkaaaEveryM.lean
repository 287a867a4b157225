/- EveryM: all right rotas, as the specification lists them, are those of the search. FewM: the fewest hands: sets of hands, and the best of them. -/
import Derived.Test.YthlihchndmbkaaaBest
import Derived.Test.YthlihchndmbkaaaLimit
namespace Go.Proofs.Ythlihchndmbkaaa
open Go.RowKit

def everyD (t : TaskD) : Nat → List Nat → List (List Nat)
  | 0, first => if isRightD t (natsL first) = true then [first] else []
  | n + 1, first => if isRightD t (natsL first) = true then (List.range t.hands.length).flatMap fun (h : Nat) => everyD t n (first ++ [h]) else []
theorem everyD_off {t : TaskD} {n : Nat} {first : List Nat} (h : isRightD t (natsL first) = false) : everyD t n first = [] := by
  cases n <;> (unfold everyD; rw [if_neg (by rw [h]; decide)])
theorem everyD_zero {t : TaskD} {first : List Nat} (h : isRightD t (natsL first) = true) : everyD t 0 first = [first] := if_pos h
/-- the rotas of the first k hands -/
def everyTo (t : TaskD) (n : Nat) (first : List Nat) (k : Nat) : List (List Nat) := (List.range k).flatMap fun (h : Nat) => everyD t n (first ++ [h])
theorem everyTo_succ (t : TaskD) (n : Nat) (first : List Nat) (k : Nat) : everyTo t n first (k + 1) = everyTo t n first k ++ everyD t n (first ++ [k]) := by
  unfold everyTo
  rw [List.range_succ, List.flatMap_append]
  simp
theorem everyD_succ {t : TaskD} {n : Nat} {first : List Nat} (h : isRightD t (natsL first) = true) : everyD t (n + 1) first = everyTo t n first t.hands.length := if_pos h
theorem flatMap_same {α β : Type} {l : List α} {f g : α → List β} (h : ∀ x ∈ l, f x = g x) : l.flatMap f = l.flatMap g := by
  induction l with
  | nil => rfl
  | cons x l ih => rw [List.flatMap_cons, List.flatMap_cons, h x (List.mem_cons_self ..), ih fun y hy => h y (List.mem_cons_of_mem _ hy)]
theorem every_compl {t : TaskD} (hlim : 1 ≤ t.limit) : ∀ (n : Nat) (first : List Nat), isRightD t (natsL first) = true → everyD t n first = complD t n first
  | 0, _, h => everyD_zero h
  | n + 1, first, h => by
    rw [everyD_succ h]
    show (List.range t.hands.length).flatMap _ = (List.range t.hands.length).flatMap _
    refine flatMap_same fun k hk => ?_
    have e := isRight_snoc hlim (xs := natsL first) (x := k) (List.mem_range.1 hk)
    rw [h, Bool.true_and, natsL_snoc] at e
    cases hm : maySignD t (natsL first) (k : Int) with
    | true =>
      rw [hm] at e
      rw [if_pos rfl]
      exact every_compl hlim n _ e
    | false =>
      rw [hm] at e
      rw [if_neg (by decide)]
      exact everyD_off e
theorem right_nil (t : TaskD) : isRightD t [] = true := by
  unfold isRightD
  exact List.all_eq_true.2 fun _ _ => rfl
/-- what the specification takes of all right rotas is what the search finds -/
theorem plan_every {t : TaskD} (hk : okTask t = true) : planD t = (everyD t t.parts.length []).foldl (pickD t) none := by
  rw [plan_compl hk, every_compl (okTask_parts hk).2.2.2.2.1.1 _ [] (right_nil t)]
theorem everyD_fit {t : TaskD} (hlim : 1 ≤ t.limit) {n : Nat} : ∀ ys ∈ everyD t n [], (∀ h ∈ ys, h < t.hands.length) ∧ ys.length = n := by
  rw [every_compl hlim _ [] (right_nil t)]
  intro ys hy
  obtain ⟨h1, h2, _⟩ := complD_sound n [] (Fit.nil t) ys hy
  exact ⟨h1.1, by simpa using h2⟩
theorem pick_some {t : TaskD} : ∀ (l : List (List Nat)) (b : BestD), (b.isSome = true ∨ l ≠ []) → (l.foldl (pickD t) b).isSome = true
  | [], b, h => by simpa using h
  | ys :: l, b, _ => by
    rw [List.foldl_cons]
    refine pick_some l _ (.inl ?_)
    unfold pickD
    split
    · split <;> rfl
    · rfl
/-- the best of the first k rotas -/
def pickTo (t : TaskD) (l : List (List Nat)) (k : Nat) : BestD := (l.take k).foldl (pickD t) none
theorem pickTo_succ {t : TaskD} {l : List (List Nat)} {k : Nat} {ys : List Nat} (h : l[k]? = some ys) : pickTo t l (k + 1) = pickD t (pickTo t l k) ys := by
  unfold pickTo
  rw [take_snoc h, List.foldl_append]
  rfl

end Go.Proofs.Ythlihchndmbkaaa

namespace Go.Proofs.Ythlihchndmbkaaa
open Go.RowKit

/-- the elements of a set, in ascending order -/
def elemsD (s : Nat) : List Nat := (List.range 3).filter fun i => decide (s / 2 ^ i % 2 = 1)
/-- a task with some of its hands alone -/
def withT (t : TaskD) (l : List Nat) : TaskD := ⟨l.filterMap (fun i => t.hands[i]?), t.parts, t.limit, t.rest, t.swap⟩
/-- some hands, and the worst mistakes of their plan, if these are not too many -/
def candD (t : TaskD) (most : Int) (s : Nat) : Option (List Nat × Int) := match planD (withT t (elemsD s)) with
  | some (_, m) => if m ≤ most then some (elemsD s, m) else none
  | none => none
def betterD (x y : List Nat × Int) : Bool := decide (x.1.length < y.1.length) || (decide (x.1.length = y.1.length) && (decide (x.2 < y.2) || (decide (x.2 = y.2) && beforeL (natsL x.1) (natsL y.1))))
def takeD (b : Option (List Nat × Int)) (c : Option (List Nat × Int)) : Option (List Nat × Int) := match c with
  | none => b
  | some x => match b with
    | none => some x
    | some y => if betterD x y = true then some x else some y
/-- the best of the sets 1 .. k -/
def fewTo (t : TaskD) (most : Int) : Nat → Option (List Nat × Int)
  | 0 => none
  | k + 1 => takeD (fewTo t most k) (candD t most (k + 1))
def fewD (t : TaskD) (most : Int) : Option (List Nat × Int) := fewTo t most (2 ^ t.hands.length - 1)

theorem elems_lt {s k : Nat} (h : k ∈ elemsD s) : k < 3 ∧ s / 2 ^ k % 2 = 1 := by
  unfold elemsD at h
  rw [List.mem_filter, List.mem_range] at h
  exact ⟨h.1, of_decide_eq_true h.2⟩
theorem elems_hand {n s k : Nat} (hn : n ≤ 3) (hs : s < 2 ^ n) (h : k ∈ elemsD s) : k < n := by
  obtain ⟨h1, h2⟩ := elems_lt h
  match n, hn with
  | 0, _ => have : s = 0 := by omega
            subst this; simp at h2
  | 1, _ => match k, h1 with
    | 0, _ => omega
    | 1, _ => simp at h2; omega
    | 2, _ => simp at h2; omega
  | 2, _ => match k, h1 with
    | 0, _ => omega
    | 1, _ => omega
    | 2, _ => simp at h2; omega
  | 3, _ => exact h1
theorem elems_sorted (s : Nat) : (elemsD s).Pairwise (· < ·) := List.Pairwise.filter _ List.pairwise_lt_range
theorem elems_ne {s : Nat} (h1 : 1 ≤ s) (h2 : s < 8) : elemsD s ≠ [] := by
  match s, h1, h2 with
  | 1, _, _ | 2, _, _ | 3, _, _ | 4, _, _ | 5, _, _ | 6, _, _ | 7, _, _ => decide
theorem elems_len (s : Nat) : (elemsD s).length ≤ 3 := by
  unfold elemsD
  exact Nat.le_trans (List.length_filter_le _ _) (by simp)
theorem with_len {t : TaskD} {l : List Nat} (h : ∀ k ∈ l, k < t.hands.length) : (withT t l).hands.length = l.length := by
  show (l.filterMap fun i => t.hands[i]?).length = l.length
  induction l with
  | nil => rfl
  | cons k l ih =>
    rw [List.filterMap_cons, List.getElem?_eq_getElem (h k (List.mem_cons_self ..))]
    simp only [List.length_cons]
    rw [ih fun x hx => h x (List.mem_cons_of_mem _ hx)]
theorem with_snoc {t : TaskD} {l : List Nat} {k : Nat} {x : HandD} (h : t.hands[k]? = some x) : (withT t (l ++ [k])).hands = (withT t l).hands ++ [x] := by
  show (l ++ [k]).filterMap (fun i => t.hands[i]?) = l.filterMap (fun i => t.hands[i]?) ++ [x]
  rw [List.filterMap_append]
  simp [h]
theorem with_ok {t : TaskD} (hk : okTask t = true) {l : List Nat} (h : ∀ k ∈ l, k < t.hands.length) (h1 : l ≠ []) (h3 : l.length ≤ 3) : okTask (withT t l) = true := by
  have hp := okTask_parts hk
  have hl := with_len h
  have h1' : 0 < l.length := List.length_pos_iff.2 h1
  have ha : (withT t l).hands.all okHand = true := List.all_eq_true.2 fun x hx => by
    obtain ⟨i, _, hi⟩ := List.mem_filterMap.1 hx
    exact hp.2.1 x (List.mem_of_getElem? hi)
  have hb : inB (withT t l).hands.length 1 3 = true := inB_iff.2 (by rw [hl]; omega)
  simp only [okTask, Bool.and_eq_true] at hk ⊢
  exact ⟨⟨⟨⟨hb, ha⟩, hk.1.1.2⟩, hk.1.2⟩, hk.2⟩
theorem beforeL_trans : ∀ {a b c : List Int}, beforeL a b = true → beforeL b c = true → beforeL a c = true
  | [], _, _, h, _ => by simp [beforeL] at h
  | _ :: _, [], _, h, _ => by simp [beforeL] at h
  | _ :: _, _ :: _, [], _, h => by simp [beforeL] at h
  | x :: a, y :: b, z :: c, h, k => by
    unfold beforeL at h k ⊢
    by_cases e : x = y
    · subst e
      rw [if_pos rfl] at h
      by_cases e' : x = z
      · rw [if_pos e'] at k ⊢
        exact beforeL_trans h k
      · rw [if_neg e'] at k ⊢
        exact k
    · rw [if_neg e] at h
      have h := of_decide_eq_true h
      by_cases e' : y = z
      · subst e'
        rw [if_neg e]
        exact decide_eq_true h
      · rw [if_neg e'] at k
        have k := of_decide_eq_true k
        rw [if_neg (by omega)]
        exact decide_eq_true (by omega)
theorem better_iff {x y : List Nat × Int} : betterD x y = true ↔ x.1.length < y.1.length ∨ (x.1.length = y.1.length ∧ (x.2 < y.2 ∨ (x.2 = y.2 ∧ beforeL (natsL x.1) (natsL y.1) = true))) := by
  simp [betterD]
theorem better_trans {x y z : List Nat × Int} (h : betterD x y = true) (k : betterD y z = true) : betterD x z = true := by
  rw [better_iff] at *
  rcases h with h | ⟨h1, h | ⟨h2, h⟩⟩
  · rcases k with k | ⟨k1, k⟩
    · exact .inl (by omega)
    · exact .inl (by omega)
  · rcases k with k | ⟨k1, k | ⟨k2, k⟩⟩
    · exact .inl (by omega)
    · exact .inr ⟨by omega, .inl (by omega)⟩
    · exact .inr ⟨by omega, .inl (by omega)⟩
  · rcases k with k | ⟨k1, k | ⟨k2, k⟩⟩
    · exact .inl (by omega)
    · exact .inr ⟨by omega, .inl (by omega)⟩
    · exact .inr ⟨by omega, .inr ⟨by omega, beforeL_trans h k⟩⟩
theorem better_irrefl (x : List Nat × Int) : betterD x x = false := by
  cases h : betterD x x with
  | false => rfl
  | true =>
    rw [better_iff] at h
    rcases h with h | ⟨_, h | ⟨_, h⟩⟩
    · omega
    · omega
    · rw [beforeL_self] at h; cases h
/-- what the best of some sets is: one of them, and none is better -/
theorem few_is {t : TaskD} {most : Int} : ∀ k, (fewTo t most k = none ∧ ∀ s, 1 ≤ s → s ≤ k → candD t most s = none) ∨
    (∃ b s, fewTo t most k = some b ∧ 1 ≤ s ∧ s ≤ k ∧ candD t most s = some b ∧ ∀ s' c, 1 ≤ s' → s' ≤ k → candD t most s' = some c → betterD c b = false)
  | 0 => .inl ⟨rfl, fun s h1 h2 => by omega⟩
  | k + 1 => by
    show (takeD (fewTo t most k) (candD t most (k + 1)) = none ∧ _) ∨ ∃ b s, takeD (fewTo t most k) (candD t most (k + 1)) = some b ∧ _
    rcases few_is (t := t) (most := most) k with ⟨h1, h2⟩ | ⟨b, s, h1, h2, h3, h4, h5⟩
    · rw [h1]
      cases hc : candD t most (k + 1) with
      | none =>
        refine .inl ⟨rfl, fun s g1 g2 => ?_⟩
        by_cases e : s = k + 1
        · subst e; exact hc
        · exact h2 s g1 (by omega)
      | some c =>
        refine .inr ⟨c, k + 1, rfl, by omega, Nat.le_refl _, hc, fun s' c' g1 g2 g3 => ?_⟩
        by_cases e : s' = k + 1
        · subst e
          rw [hc] at g3
          obtain rfl := Option.some.inj g3
          exact better_irrefl _
        · rw [h2 s' g1 (by omega)] at g3
          cases g3
    · rw [h1]
      cases hc : candD t most (k + 1) with
      | none =>
        refine .inr ⟨b, s, rfl, h2, by omega, h4, fun s' c' g1 g2 g3 => ?_⟩
        by_cases e : s' = k + 1
        · subst e
          rw [hc] at g3
          cases g3
        · exact h5 s' c' g1 (by omega) g3
      | some c =>
        show (_ ∨ ∃ b' s, (if betterD c b = true then some c else some b) = some b' ∧ _)
        cases hb : betterD c b with
        | true =>
          refine .inr ⟨c, k + 1, if_pos rfl, by omega, Nat.le_refl _, hc, fun s' c' g1 g2 g3 => ?_⟩
          by_cases e : s' = k + 1
          · subst e
            rw [hc] at g3
            obtain rfl := Option.some.inj g3
            exact better_irrefl _
          · have := h5 s' c' g1 (by omega) g3
            cases hx : betterD c' c with
            | false => rfl
            | true => rw [better_trans hx hb] at this; cases this
        | false =>
          refine .inr ⟨b, s, if_neg (by decide), h2, by omega, h4, fun s' c' g1 g2 g3 => ?_⟩
          by_cases e : s' = k + 1
          · subst e
            rw [hc] at g3
            obtain rfl := Option.some.inj g3
            exact hb
          · exact h5 s' c' g1 (by omega) g3

end Go.Proofs.Ythlihchndmbkaaa

