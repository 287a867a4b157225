/- TwL: mathematics of the specification's signs and Twins. -/
import Derived.Test.YtfpmkolaiomabaaGreatRTwin
import Derived.Test.YtfpmkolaiomabaaGreatClash
import Derived.Test.YtfpmkolaiomabaaGreatTwinsWalk
namespace Go.Proofs.YtfpmkolaiomabaaGreat
open Go.RowKit

def hasSign (l : List EntryR) (n : Int) : Bool := l.any fun x => x.d.sign == n
/-- the signs below k of some entries -/
def signsTo (l : List EntryR) (k : Nat) : List Int := (List.range k).filterMap fun (i : Nat) => if hasSign l i = true then some (i : Int) else none
theorem signsTo_succ (l : List EntryR) (k : Nat) : signsTo l (k + 1) = signsTo l k ++ (if hasSign l k = true then [(k : Int)] else []) := by
  unfold signsTo
  rw [List.range_succ, List.filterMap_append]
  congr 1
  by_cases h : hasSign l k = true <;> simp [h]
theorem signsTo_length (l : List EntryR) (k : Nat) : (signsTo l k).length ≤ k := by
  have := List.length_filterMap_le (fun (i : Nat) => if hasSign l i = true then some (i : Int) else none) (List.range k)
  simpa [signsTo] using this
theorem signsTo_mem {l : List EntryR} {k : Nat} {n : Int} : n ∈ signsTo l k ↔ 0 ≤ n ∧ n < k ∧ hasSign l n = true := by
  unfold signsTo
  rw [List.mem_filterMap]
  constructor
  · rintro ⟨i, hi, h⟩
    rw [List.mem_range] at hi
    split at h
    · rename_i hc
      obtain rfl := Option.some.inj h
      exact ⟨by omega, by omega, hc⟩
    · cases h
  · rintro ⟨h0, h1, h2⟩
    have e : ((n.toNat : Nat) : Int) = n := by omega
    exact ⟨n.toNat, List.mem_range.2 (by omega), by rw [e, if_pos h2]⟩
theorem signsTo_sorted (l : List EntryR) : ∀ k, (signsTo l k).Pairwise (· < ·)
  | 0 => by simp [signsTo]
  | k + 1 => by
    rw [signsTo_succ, List.pairwise_append]
    refine ⟨signsTo_sorted l k, ?_, fun a ha b hb => ?_⟩
    · split <;> simp
    · have := (signsTo_mem.1 ha).2.1
      split at hb
      · rw [List.mem_singleton] at hb; omega
      · cases hb
theorem okEntry_sign' {x : EntryD} (h : okEntry x = true) : 0 ≤ x.sign ∧ x.sign ≤ 999 := by
  simp only [okEntry, Bool.and_eq_true, inB_iff] at h
  exact h.2.1
theorem signsTo_all {l : List EntryR} (hl : ∀ x ∈ l, okEntry x.d = true) (n : Int) : n ∈ signsTo l 1000 ↔ ∃ x ∈ l, x.d.sign = n := by
  rw [signsTo_mem]
  unfold hasSign
  rw [List.any_eq_true]
  constructor
  · rintro ⟨_, _, x, hx, h⟩
    exact ⟨x, hx, by simpa using h⟩
  · rintro ⟨x, hx, rfl⟩
    have := okEntry_sign' (hl x hx)
    exact ⟨this.1, by omega, x, hx, by simp⟩

def twAt (a b : Int) (x y : EntryR) : Bool := (x.d.sign == a && y.d.sign == b) && rtwinD x.d y.d
/-- the first n entries beside x -/
def twN (l : List EntryR) (a b : Int) (x : EntryR) (n : Nat) : Bool := (l.take n).any fun y => twAt a b x y
def twM (l : List EntryR) (a b : Int) (m : Nat) : Bool := (l.take m).any fun x => twN l a b x l.length
theorem twN_zero (l : List EntryR) (a b : Int) (x : EntryR) : twN l a b x 0 = false := by simp [twN]
theorem twM_zero (l : List EntryR) (a b : Int) : twM l a b 0 = false := by simp [twM]
theorem twN_succ {l : List EntryR} {a b : Int} {x y : EntryR} {n : Nat} (h : l[n]? = some y) : twN l a b x (n + 1) = (twN l a b x n || twAt a b x y) := by
  unfold twN
  rw [take_snoc h, List.any_append]
  simp
theorem twM_succ {l : List EntryR} {a b : Int} {x : EntryR} {m : Nat} (h : l[m]? = some x) : twM l a b (m + 1) = (twM l a b m || twN l a b x l.length) := by
  unfold twM
  rw [take_snoc h, List.any_append]
  simp
theorem twM_all {l : List EntryR} {a b : Int} : twM l a b l.length = true ↔ ∃ x ∈ l, ∃ y ∈ l, x.d.sign = a ∧ y.d.sign = b ∧ rtwinD x.d y.d = true := by
  simp only [twM, twN, twAt, List.take_length, List.any_eq_true, Bool.and_eq_true, beq_iff_eq, and_assoc]

/-- ps are the pairs of the rows below i, and of the row i below k -/
def TwInv (l : List EntryR) (all : List Int) (i k : Nat) (ps : List (Int × Int)) : Prop := ps.Pairwise (fun p q => cmpP p q < 0) ∧ ps.length ≤ i * 1000 + k ∧
  ∀ p : Int × Int, p ∈ ps ↔ ∃ i' k' : Nat, (i' < i ∨ (i' = i ∧ k' < k)) ∧ i' < k' ∧ all[i']? = some p.1 ∧ all[k']? = some p.2 ∧ twM l p.1 p.2 l.length = true
theorem TwInv.start (l : List EntryR) (all : List Int) : TwInv l all 0 0 [] := ⟨List.Pairwise.nil, by simp, fun p => ⟨fun h => (by cases h), fun ⟨i, k, h, _⟩ => (by omega)⟩⟩
theorem TwInv.row {l : List EntryR} {all : List Int} {i : Nat} {ps : List (Int × Int)} (h : TwInv l all i 0 ps) : TwInv l all i (i + 1) ps := by
  refine ⟨h.1, by have := h.2.1; omega, fun p => (h.2.2 p).trans ⟨?_, ?_⟩⟩
  · rintro ⟨i', k', h1, h2⟩; exact ⟨i', k', by omega, h2⟩
  · rintro ⟨i', k', h1, h2, h3⟩; exact ⟨i', k', by omega, h2, h3⟩
set_option maxRecDepth 4000 in
theorem TwInv.close {l : List EntryR} {all : List Int} {i : Nat} {ps : List (Int × Int)} (hn : all.length ≤ 1000) (h : TwInv l all i all.length ps) : TwInv l all (i + 1) 0 ps := by
  refine ⟨h.1, ?_, fun p => (h.2.2 p).trans ⟨?_, ?_⟩⟩
  · have h1 := h.2.1
    rw [Nat.add_mul]
    omega
  · rintro ⟨i', k', h1, h2⟩; exact ⟨i', k', by omega, h2⟩
  · rintro ⟨i', k', h1, h2, h3, h4, h5⟩
    have := lt_of_at h4
    exact ⟨i', k', by omega, h2, h3, h4, h5⟩
theorem cmpP_lt {a b c d : Int} (h : a < c ∨ (a = c ∧ b < d)) : cmpP (a, b) (c, d) < 0 := by
  simp only [cmpP, cmpL, cmpI]
  repeat' split
  all_goals omega
theorem sorted_at {all : List Int} (hs : all.Pairwise (· < ·)) {i k : Nat} {a b : Int} (hi : all[i]? = some a) (hk : all[k]? = some b) (h : i < k) : a < b := by
  obtain ⟨h1, rfl⟩ := List.getElem?_eq_some_iff.1 hi
  obtain ⟨h2, rfl⟩ := List.getElem?_eq_some_iff.1 hk
  exact List.pairwise_iff_getElem.1 hs i k h1 h2 h
theorem TwInv.skip {l : List EntryR} {all : List Int} {i k : Nat} {ps : List (Int × Int)} {a b : Int} (h : TwInv l all i k ps) (ha : all[i]? = some a) (hb : all[k]? = some b) (ht : twM l a b l.length = false) : TwInv l all i (k + 1) ps := by
  refine ⟨h.1, by have := h.2.1; omega, fun p => (h.2.2 p).trans ⟨?_, ?_⟩⟩
  · rintro ⟨i', k', h1, h2⟩; exact ⟨i', k', by omega, h2⟩
  · rintro ⟨i', k', h1, h2, h3, h4, h5⟩
    by_cases e : i' = i ∧ k' = k
    · obtain ⟨rfl, rfl⟩ := e
      rw [ha] at h3; rw [hb] at h4
      obtain rfl := Option.some.inj h3
      obtain rfl := Option.some.inj h4
      rw [ht] at h5; cases h5
    · exact ⟨i', k', by omega, h2, h3, h4, h5⟩
theorem TwInv.take {l : List EntryR} {all : List Int} {i k : Nat} {ps : List (Int × Int)} {a b : Int} (h : TwInv l all i k ps) (hs : all.Pairwise (· < ·)) (hik : i < k) (ha : all[i]? = some a) (hb : all[k]? = some b) (ht : twM l a b l.length = true) : TwInv l all i (k + 1) (ps ++ [(a, b)]) := by
  refine ⟨?_, by have := h.2.1; rw [List.length_append]; simp; omega, fun p => ?_⟩
  · rw [List.pairwise_append]
    refine ⟨h.1, by simp, fun p hp q hq => ?_⟩
    rw [List.mem_singleton] at hq
    subst hq
    obtain ⟨i', k', h1, h2, h3, h4, -⟩ := (h.2.2 p).1 hp
    obtain ⟨p1, p2⟩ := p
    refine cmpP_lt ?_
    rcases h1 with h1 | ⟨rfl, h1⟩
    · exact .inl (sorted_at hs h3 ha h1)
    · rw [ha] at h3
      exact .inr ⟨(Option.some.inj h3).symm, sorted_at hs h4 hb h1⟩
  · rw [List.mem_append, List.mem_singleton, h.2.2 p]
    constructor
    · rintro (⟨i', k', h1, h2⟩ | rfl)
      · exact ⟨i', k', by omega, h2⟩
      · exact ⟨i, k, by omega, hik, ha, hb, ht⟩
    · rintro ⟨i', k', h1, h2, h3, h4, h5⟩
      by_cases e : i' = i ∧ k' = k
      · obtain ⟨rfl, rfl⟩ := e
        rw [ha] at h3; rw [hb] at h4
        refine .inr ?_
        obtain ⟨p1, p2⟩ := p
        rw [Option.some.inj h3, Option.some.inj h4]
      · exact .inl ⟨i', k', by omega, h2, h3, h4, h5⟩
theorem rtwin_eq {x y : EntryD} (hx : okEntry x = true) (hy : okEntry y = true) : rtwinD x y = shownD (canonE x) (canonE y) := by
  have h1 := okEntry_ages hx
  have h2 := okEntry_ages hy
  have e : decide (max x.low y.low ≤ min x.high y.high) = meetD x.low x.high y.low y.high := by
    rw [Bool.eq_iff_iff]
    simp only [meetD, Bool.and_eq_true, decide_eq_true_eq]
    omega
  unfold rtwinD shownD
  rw [e, Bool.and_assoc]
  rfl
theorem TwInv.done {l : List EntryR} {ps : List (Int × Int)} (hok : ∀ x ∈ l, okEntry x.d = true) (h : TwInv l (signsTo l 1000) (signsTo l 1000).length 0 ps) : TwinsD (l.map (·.d)) ps := by
  refine ⟨h.1, fun p => ?_⟩
  rw [h.2.2 p]
  constructor
  · rintro ⟨i, k, _, h2, h3, h4, h5⟩
    have hlt := sorted_at (signsTo_sorted l 1000) h3 h4 h2
    obtain ⟨x, hx, y, hy, e1, e2, e3⟩ := twM_all.1 h5
    refine ⟨x.d, List.mem_map.2 ⟨x, hx, rfl⟩, y.d, List.mem_map.2 ⟨y, hy, rfl⟩, ?_, by rw [e1, e2]⟩
    rw [rtwin_eq (hok x hx) (hok y hy)] at e3
    simp only [twinOf, Bool.and_eq_true, decide_eq_true_eq]
    exact ⟨by show x.d.sign < y.d.sign; omega, e3⟩
  · rintro ⟨_, hx0, _, hy0, ht, rfl⟩
    obtain ⟨x, hx, rfl⟩ := List.mem_map.1 hx0
    obtain ⟨y, hy, rfl⟩ := List.mem_map.1 hy0
    simp only [twinOf, Bool.and_eq_true, decide_eq_true_eq] at ht
    obtain ⟨hlt, hs⟩ := ht
    have hlt : x.d.sign < y.d.sign := hlt
    obtain ⟨i, hi⟩ := List.mem_iff_getElem?.1 ((signsTo_all hok x.d.sign).2 ⟨x, hx, rfl⟩)
    obtain ⟨k, hk⟩ := List.mem_iff_getElem?.1 ((signsTo_all hok y.d.sign).2 ⟨y, hy, rfl⟩)
    have hik : i < k := by
      rcases Nat.lt_trichotomy i k with h | h | h
      · exact h
      · subst h; rw [hi] at hk; have := Option.some.inj hk; omega
      · have := sorted_at (signsTo_sorted l 1000) hk hi h; omega
    exact ⟨i, k, .inl (lt_of_at hi), hik, hi, hk, twM_all.2 ⟨x, hx, y, hy, rfl, rfl, by rw [rtwin_eq (hok x hx) (hok y hy)]; exact hs⟩⟩

end Go.Proofs.YtfpmkolaiomabaaGreat
