/- FewL: mathematics of TurnsFew. -/
import Derived.Test.YthlihchndmbkaaaElems
import Derived.Test.YthlihchndmbkaaaHandsApi
namespace Go.Proofs.Ythlihchndmbkaaa
open Go.RowKit

theorem elemsTo_mod {s nn : Nat} (h1 : 1 ≤ nn) (h3 : nn ≤ 3) : elemsTo s nn = elemsD (s % 2 ^ nn) := by
  have hp : 0 < 2 ^ nn := Nat.pow_pos (by omega)
  rw [← elemsTo_end (s := s % 2 ^ nn) h3 (Nat.div_eq_of_lt (Nat.mod_lt _ hp))]
  unfold elemsTo
  refine List.filter_congr fun j hj => ?_
  have hj := List.mem_range.1 hj
  have e : s % 2 ^ nn / 2 ^ j % 2 = s / 2 ^ j % 2 := by
    have hn : nn = 1 ∨ nn = 2 ∨ nn = 3 := by omega
    have hjj : j = 0 ∨ j = 1 ∨ j = 2 := by omega
    rcases hn with rfl | rfl | rfl <;> rcases hjj with rfl | rfl | rfl <;> simp <;> omega
  rw [e]
theorem elemsD_zero : elemsD 0 = [] := by decide
theorem bit_big {x : Int} (i : Nat) (h0 : 0 ≤ x) (h1 : x < 9223372036854775808) : bits .and .i64 (x / 2 ^ i) 1 = ((x.toNat / 2 ^ i % 2 : Nat) : Int) := by
  obtain ⟨n, rfl⟩ := Int.eq_ofNat_of_zero_le h0
  have h := Nat.div_le_self n (2 ^ i)
  rw [int_div, Int.toNat_natCast]
  generalize n / 2 ^ i = q at h ⊢
  rw [and_one (by omega) (by omega)]
  omega
theorem cand_some {t : TaskD} {most : Int} {s : Nat} {b : List Nat × Int} (h : candD t most s = some b) : ∃ xs, planD (withT t (elemsD s)) = some (xs, b.2) ∧ b.2 ≤ most ∧ b.1 = elemsD s := by
  unfold candD at h
  cases hp : planD (withT t (elemsD s)) with
  | none => rw [hp] at h; cases h
  | some p =>
    obtain ⟨xs, k⟩ := p
    rw [hp] at h
    dsimp only at h
    by_cases hk : k ≤ most
    · rw [if_pos hk] at h
      obtain rfl := Option.some.inj h
      exact ⟨xs, rfl, hk, rfl⟩
    · rw [if_neg hk] at h
      cases h
theorem cand_of {t : TaskD} {most : Int} {s : Nat} {xs : List Int} {k : Int} (h : planD (withT t (elemsD s)) = some (xs, k)) (hk : k ≤ most) : candD t most s = some (elemsD s, k) := by
  unfold candD
  rw [h]
  exact if_pos hk
theorem better_false {x y : List Nat × Int} (h : betterD x y = false) : y.1.length < x.1.length ∨ (x.1.length = y.1.length ∧ (y.2 < x.2 ∨ (x.2 = y.2 ∧ beforeL (natsL x.1) (natsL y.1) = false))) := by
  have h' : ¬ betterD x y = true := by rw [h]; decide
  rw [better_iff] at h'
  by_cases h1 : x.1.length < y.1.length
  · exact absurd (.inl h1) h'
  · by_cases h2 : x.1.length = y.1.length
    · refine .inr ⟨h2, ?_⟩
      by_cases h3 : x.2 < y.2
      · exact absurd (.inr ⟨h2, .inl h3⟩) h'
      · by_cases h4 : x.2 = y.2
        · refine .inr ⟨h4, ?_⟩
          cases hb : beforeL (natsL x.1) (natsL y.1) with
          | false => rfl
          | true => exact absurd (.inr ⟨h2, .inr ⟨h4, hb⟩⟩) h'
        · exact .inl (by omega)
    · exact .inl (by omega)
/-- what is known of the fewest hands -/
def FewIs (t : TaskD) (most : Int) (o : Option (List Nat × Int)) : Prop := match o with
  | none => ∀ s, 1 ≤ s → s < 2 ^ t.hands.length → candD t most s = none
  | some (l, m) => (∃ s xs, 1 ≤ s ∧ s < 2 ^ t.hands.length ∧ l = elemsD s ∧ planD (withT t l) = some (xs, m) ∧ m ≤ most) ∧ ∀ s c, 1 ≤ s → s < 2 ^ t.hands.length → candD t most s = some c → betterD c (l, m) = false
theorem few_facts (t : TaskD) (most : Int) : FewIs t most (fewD t most) := by
  have hp : 0 < 2 ^ t.hands.length := Nat.pow_pos (by omega)
  rcases few_is (t := t) (most := most) (2 ^ t.hands.length - 1) with ⟨h1, h2⟩ | ⟨b, s, h1, h2, h3, h4, h5⟩
  · unfold fewD
    rw [h1]
    exact fun s a b => h2 s a (by omega)
  · unfold fewD
    rw [h1]
    obtain ⟨xs, q1, q2, q3⟩ := cand_some h4
    exact ⟨⟨s, xs, h2, by omega, q3, by rw [q3]; exact q1, q2⟩, fun s c a b => h5 s c a (by omega)⟩
theorem elems_count {n s : Nat} (hn : n ≤ 3) (hs : s < 2 ^ n) : (elemsD s).length ≤ n := by
  rw [← elemsTo_end (s := s) hn (Nat.div_eq_of_lt hs)]
  exact elemsTo_len s n
theorem few_cell {w : World} {b : Nat} {l : List Nat} {i y : Nat} (h : IntsT w 0 (some ⟨b, 0, none⟩) (natsL l)) (hy : l[i]? = some y) : w.cell? ⟨b, i, none⟩ = some (.int .i64 (y : Int)) := by
  obtain ⟨b', off, x, e, hb, hc, hx⟩ := h.ints.at_ (k := i) (by rw [natsL_len]; exact lt_of_at hy)
  have hx' : (natsL l)[i]? = some (y : Int) := by simp [hy]
  rw [hx'] at hx
  obtain rfl := Option.some.inj hx
  injection e with e
  injection e with e1 e2
  subst e1
  subst e2
  rwa [Nat.zero_add] at hc
theorem planWith (t : TaskR) (l : List Nat) (A : Option Addr) (ca : Nat) (w0 : World) (hu : TaskAt w0 w0.heap.size ⟨withT t.d l, A, ca, t.B, t.cb⟩) (hk : okTask (withT t.d l) = true) :
    Calls Try.prog 13 #[taskV ⟨withT t.d l, A, ca, t.B, t.cb⟩] w0 fun e w' => ∃ v m er, e = .returned (.tuple #[v, m, .int .i64 er]) ∧ (match planD (withT t.d l) with | none => v = .slice none 0 0 ∧ m = .int .i64 0 ∧ er = 3 | some (xs, k) => ∃ b off cap, v = .slice (some ⟨b, off, none⟩) xs.length cap ∧ IntsFc w' w0.heap.size (some ⟨b, off, none⟩) cap xs ∧ m = .int .i64 k ∧ er = 0) ∧ Below w0.heap.size w0 w' := by
  refine (planApi_any ⟨withT t.d l, A, ca, t.B, t.cb⟩ w0.heap.size w0 hu (Nat.le_refl _)).mono ?_
  rintro e w' ⟨v, m, er, rfl, hv, hb⟩
  unfold PlanApiV at hv
  dsimp only at hv
  rw [if_pos hk] at hv
  exact ⟨v, m, er, rfl, hv, hb⟩
theorem wf_lt {z : Int} (h : Lit.wf (.int .i64 z) = true) : z < 9223372036854775808 := by
  simp only [Lit.wf, Bool.and_eq_true, decide_eq_true_eq] at h
  have e : IntKind.max .i64 = 9223372036854775807 := by decide +kernel
  omega
theorem rise {s i : Nat} {a b : Nat} (h1 : (elemsD s)[i]? = some a) (h2 : (elemsD s)[i + 1]? = some b) : a < b := by
  have h := elems_sorted s
  obtain ⟨l1, rfl⟩ := List.getElem?_eq_some_iff.1 h1
  obtain ⟨l2, rfl⟩ := List.getElem?_eq_some_iff.1 h2
  exact List.pairwise_iff_getElem.1 h i (i + 1) l1 l2 (by omega)

end Go.Proofs.Ythlihchndmbkaaa
