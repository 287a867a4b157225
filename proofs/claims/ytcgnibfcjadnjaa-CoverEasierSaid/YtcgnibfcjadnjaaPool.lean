/- Pool: pools, who is missing in a slot, and for how many ill a slot is covered: the program's reckoning and the specification's are one. -/
import Derived.Test.YtcgnibfcjadnjaaPure
namespace Go.Proofs.Ytcgnibfcjadnjaa

structure FolkN where
  t : Nat
  s : Nat
  y : Nat
structure Pool where
  folk : List FolkN
  needs : List (List Nat)
  ill : Nat
  most : Nat
def Pool.row (p : Pool) (s : Nat) : List Nat := p.needs.getD s []
def Pool.tn (p : Pool) : Nat := (p.row 0).length
/-- a valid pool, and one that statements look at -/
structure Good (p : Pool) : Prop where
  f1 : 1 ≤ p.folk.length
  f5 : p.folk.length ≤ 5
  n1 : 1 ≤ p.needs.length
  n3 : p.needs.length ≤ 3
  t1 : 1 ≤ p.tn
  t3 : p.tn ≤ 3
  rows : ∀ r, r ∈ p.needs → r.length = p.tn ∧ ∀ x, x ∈ r → x ≤ 8
  folk : ∀ x, x ∈ p.folk → x.t < 2 ^ p.tn ∧ x.s < 2 ^ p.needs.length ∧ x.y ≤ 1000
  ill : p.ill ≤ 3
  most : p.most ≤ 6

def nof : FolkN := ⟨0, 0, 0⟩
/-- what the first k languages need, of those in T -/
def neededTo (r : List Nat) (T : Nat) : Nat → Nat
  | 0 => 0
  | k + 1 => if hasN T k then neededTo r T k + r.getD k 0 else neededTo r T k
def needed (r : List Nat) (T : Nat) : Nat := neededTo r T r.length
/-- does the person i of the set g have some of the languages T? -/
def ableB (l : List FolkN) (g T i : Nat) : Bool := hasN g i && decide ((l.getD i nof).t &&& T ≠ 0)
def cntTo (l : List FolkN) (g T : Nat) : Nat → Nat
  | 0 => 0
  | k + 1 => if ableB l g T k then cntTo l g T k + 1 else cntTo l g T k
def cnt (l : List FolkN) (g T : Nat) : Nat := cntTo l g T l.length
/-- how many are missing -/
def miss (p : Pool) (s g T : Nat) : Int := (needed (p.row s) T : Int) - cnt p.folk g T
/-- everybody with some of the languages -/
def maskTo (l : List FolkN) (T : Nat) : Nat → Nat
  | 0 => 0
  | k + 1 => if decide ((l.getD k nof).t &&& T ≠ 0) then maskTo l T k + 2 ^ k else maskTo l T k
theorem maskTo_lt (l : List FolkN) (T : Nat) : ∀ k, maskTo l T k < 2 ^ k
  | 0 => by simp [maskTo]
  | k + 1 => by
    have := maskTo_lt l T k
    have h2 : 2 ^ (k + 1) = 2 ^ k * 2 := Nat.pow_succ _ _
    unfold maskTo
    split <;> omega
theorem has_top {m k e : Nat} (hm : m < 2 ^ k) : hasN (m + 2 ^ k) e = (hasN m e || decide (e = k)) := by
  rw [hasN_test, hasN_test, Nat.add_comm]
  rcases Nat.lt_trichotomy e k with h | h | h
  · rw [Nat.testBit_two_pow_add_gt h]
    have : e ≠ k := by omega
    simp [this]
  · subst h
    rw [Nat.testBit_two_pow_add_eq, Nat.testBit_lt_two_pow hm]
    simp
  · have h1 : m + 2 ^ k < 2 ^ e := by
      have : 2 ^ (k + 1) ≤ 2 ^ e := Nat.pow_le_pow_right (by omega) h
      rw [Nat.pow_succ] at this
      omega
    rw [Nat.add_comm, Nat.testBit_lt_two_pow h1, Nat.testBit_lt_two_pow (Nat.lt_of_lt_of_le hm (Nat.pow_le_pow_right (by omega) (by omega)))]
    have : e ≠ k := by omega
    simp [this]
theorem maskTo_has (l : List FolkN) (T : Nat) : ∀ k e, hasN (maskTo l T k) e = (decide (e < k) && decide ((l.getD e nof).t &&& T ≠ 0))
  | 0, e => by simp [maskTo, has_zero]
  | k + 1, e => by
    have ih := maskTo_has l T k e
    unfold maskTo
    by_cases hk : (l.getD k nof).t &&& T ≠ 0
    · rw [if_pos (decide_eq_true hk), has_top (maskTo_lt l T k), ih]
      by_cases he : e = k
      · subst he; rw [decide_eq_true hk]; simp
      · have : decide (e < k) = decide (e < k + 1) := by
          by_cases h : e < k
          · rw [decide_eq_true h, decide_eq_true (by omega)]
          · rw [decide_eq_false h, decide_eq_false (by omega)]
        rw [this]; simp [he]
    · rw [if_neg (by simpa using hk), ih]
      by_cases he : e = k
      · subst he; rw [decide_eq_false hk]; simp
      · have : decide (e < k) = decide (e < k + 1) := by
          by_cases h : e < k
          · rw [decide_eq_true h, decide_eq_true (by omega)]
          · rw [decide_eq_false h, decide_eq_false (by omega)]
        rw [this]
/-- how many of the first k numbers a set has -/
def popTo (s : Nat) : Nat → Nat
  | 0 => 0
  | k + 1 => if hasN s k then popTo s k + 1 else popTo s k
theorem popTo_congr {a b : Nat} : ∀ k, (∀ e, e < k → hasN a e = hasN b e) → popTo a k = popTo b k
  | 0, _ => rfl
  | k + 1, h => by
    unfold popTo
    rw [h k (by omega), popTo_congr k fun e he => h e (by omega)]
theorem popTo_five (s : Nat) (hs : s < 32) : popTo s 5 = popD s := by
  have : ∀ s < 32, popTo s 5 = popD s := by decide +kernel
  exact this s hs
theorem popTo_more {s k : Nat} (h : s < 2 ^ k) : ∀ d, popTo s (k + d) = popTo s k
  | 0 => rfl
  | d + 1 => by
    rw [← Nat.add_assoc]
    show (if hasN s (k + d) = true then popTo s (k + d) + 1 else popTo s (k + d)) = _
    rw [if_neg, popTo_more h d]
    · cases hh : hasN s (k + d) with
      | false => exact Bool.false_ne_true
      | true => have := has_lt h hh; omega
theorem popTo_pop {s k : Nat} (h : s < 2 ^ k) (hk : k ≤ 5) : popTo s k = popD s := by
  have h5 := popTo_more h (5 - k)
  rw [show k + (5 - k) = 5 by omega] at h5
  rw [← h5]
  exact popTo_five s (Nat.lt_of_lt_of_le h (by have := Nat.pow_le_pow_right (n := 2) (by omega) hk; simpa using this))
theorem cntTo_pop (l : List FolkN) (g T n : Nat) : ∀ k, k ≤ n → cntTo l g T k = popTo (g &&& maskTo l T n) k
  | 0, _ => rfl
  | k + 1, h => by
    have h1 : ableB l g T k = hasN (g &&& maskTo l T n) k := by
      rw [has_and, maskTo_has, decide_eq_true (show k < n by omega), Bool.true_and]
      rfl
    unfold cntTo popTo
    rw [cntTo_pop l g T n k (by omega), h1]
/-- the set of all with some of the languages T -/
def maskA (l : List FolkN) (T : Nat) : Nat := maskTo l T l.length
theorem maskA_lt (l : List FolkN) (T : Nat) (h5 : l.length ≤ 5) : maskA l T < 32 := Nat.lt_of_lt_of_le (maskTo_lt l T _) (by have := Nat.pow_le_pow_right (n := 2) (by omega) h5; simpa using this)
theorem cnt_pop (l : List FolkN) (g T : Nat) (h5 : l.length ≤ 5) : cnt l g T = popD (g &&& maskA l T) := by
  unfold cnt
  rw [cntTo_pop l g T l.length _ (Nat.le_refl _)]
  refine popTo_pop (Nat.lt_of_le_of_lt Nat.and_le_right (maskTo_lt l T _)) h5

/-! ### who can be ill -/
def readyTo (p : Pool) (s g : Nat) : Nat → Int
  | 0 => popD g
  | T + 1 => if 0 < needed (p.row s) T then min (readyTo p s g T) (-(miss p s g T)) else readyTo p s g T
def readyD (p : Pool) (s g : Nat) : Int := max (readyTo p s g (2 ^ (p.row s).length)) (-1)
def coveredD (p : Pool) (s g : Nat) : Bool := decide (min (p.ill : Int) (popD g) ≤ readyD p s g)
def servesD (p : Pool) (s g : Nat) : Bool := (List.range (2 ^ p.tn)).all fun T => decide (miss p s g T ≤ 0)
/-- may the people x of g be those who are ill? -/
def illB (g x k : Nat) : Bool := subN x g && decide (popD x ≤ k)
def standsD (p : Pool) (s g k : Nat) : Bool := (List.range (g + 1)).all fun x => !illB g x k || servesD p s (diffN g x)

theorem readyTo_le (p : Pool) (s g : Nat) (b : Int) : ∀ T, b ≤ readyTo p s g T ↔ b ≤ popD g ∧ ∀ u, u < T → 0 < needed (p.row s) u → b ≤ -(miss p s g u)
  | 0 => by simp [readyTo]
  | T + 1 => by
    have ih := readyTo_le p s g b T
    unfold readyTo
    constructor
    · intro h
      have h1 : b ≤ readyTo p s g T := by split at h <;> omega
      obtain ⟨a, c⟩ := ih.1 h1
      refine ⟨a, fun u hu hn => ?_⟩
      rcases Nat.lt_or_ge u T with g | g
      · exact c u g hn
      · obtain rfl : u = T := by omega
        rw [if_pos hn] at h
        omega
    · rintro ⟨a, c⟩
      have h1 := ih.2 ⟨a, fun u hu => c u (by omega)⟩
      split
      · rename_i hn
        have := c T (by omega) hn
        omega
      · exact h1
/-- enough for all languages, whoever at most k are ill -/
def Enough (p : Pool) (s g k : Nat) : Prop := ∀ T, T < 2 ^ p.tn → 0 < needed (p.row s) T → needed (p.row s) T + k ≤ cnt p.folk g T
theorem cnt_le {p : Pool} (h : Good p) {g : Nat} (hg : g < 32) (T : Nat) : cnt p.folk g T ≤ popD g := by
  rw [cnt_pop _ _ _ h.f5]
  exact pop_and_le g hg _ (maskA_lt _ _ h.f5)
theorem row_len {p : Pool} (h : Good p) {s : Nat} (hs : s < p.needs.length) : (p.row s).length = p.tn := by
  unfold Pool.row
  rw [List.getD_eq_getElem?_getD, List.getElem?_eq_getElem hs]
  exact (h.rows _ (List.getElem_mem hs)).1
theorem covered_iff {p : Pool} (h : Good p) {s g : Nat} (hs : s < p.needs.length) (hg : g < 32) : coveredD p s g = true ↔ Enough p s g p.ill := by
  unfold coveredD
  rw [decide_eq_true_iff]
  unfold readyD
  rw [row_len h hs]
  have hr := readyTo_le p s g (min (p.ill : Int) (popD g)) (2 ^ p.tn)
  constructor
  · intro hc T hT hn
    have := (hr.1 (by omega)).2 T hT hn
    have hle := cnt_le h hg T
    unfold miss at this
    omega
  · intro hE
    have : min (p.ill : Int) (popD g) ≤ readyTo p s g (2 ^ p.tn) := hr.2 ⟨by omega, fun T hT hn => by
      have := hE T hT hn
      unfold miss
      omega⟩
    omega
theorem stands_iff {p : Pool} (h : Good p) {s g k : Nat} (hg : g < 32) : standsD p s g k = true ↔ Enough p s g k := by
  unfold standsD
  rw [List.all_eq_true]
  constructor
  · intro ha T hT hn
    have hM := maskA_lt p.folk T h.f5
    obtain ⟨x, hx, hsub, hk, hp⟩ : ∃ x, x < 32 ∧ subN x g = true ∧ popD x ≤ k ∧ popD (diffN g x &&& maskA p.folk T) = popD (g &&& maskA p.folk T) - k := by
      rcases Nat.lt_or_ge k 6 with hk | hk
      · exact pop_pick g hg _ hM k hk
      · obtain ⟨x, a, b, c, d⟩ := pop_pick g hg _ hM 5 (by omega)
        have := pop_le5 _ (Nat.lt_of_le_of_lt (Nat.and_le_left (n := g) (m := maskA p.folk T)) hg)
        exact ⟨x, a, b, by omega, by omega⟩
    have hz := ha x (List.mem_range.2 (by have := sub_le hsub; omega))
    rw [illB, hsub, decide_eq_true hk] at hz
    simp only [Bool.and_self, Bool.not_true, Bool.false_or] at hz
    unfold servesD at hz
    have hz := of_decide_eq_true (List.all_eq_true.1 hz T (List.mem_range.2 hT))
    unfold miss at hz
    rw [cnt_pop _ _ _ h.f5] at hz ⊢
    omega
  · intro hE x hx
    cases hi : illB g x k with
    | false => rfl
    | true =>
      unfold illB at hi
      rw [Bool.and_eq_true] at hi
      obtain ⟨hsub, hk⟩ := hi
      have hk := of_decide_eq_true hk
      rw [Bool.not_true, Bool.false_or]
      unfold servesD
      rw [List.all_eq_true]
      intro T hT
      have hM := maskA_lt p.folk T h.f5
      have hx32 : x < 32 := Nat.lt_of_le_of_lt (sub_le hsub) hg
      have := pop_diff g hg _ hM x hx32 hsub
      have hE := hE T (List.mem_range.1 hT)
      unfold miss
      refine decide_eq_true ?_
      rw [cnt_pop _ _ _ h.f5] at hE ⊢
      omega
theorem Enough.mono {p : Pool} {s g k m : Nat} (h : Enough p s g k) (hm : m ≤ k) : Enough p s g m := fun T hT hn => by have := h T hT hn; omega
theorem Enough.more {p : Pool} (hp : Good p) {s g x k : Nat} (h : Enough p s x k) (hg : g < 32) (hx : subN x g = true) : Enough p s g k := fun T hT hn => by
  have := h T hT hn
  have hM := maskA_lt p.folk T hp.f5
  have := pop_mono_and g hg _ hM x (Nat.lt_of_le_of_lt (sub_le hx) hg) hx
  rw [cnt_pop _ _ _ hp.f5] at *
  omega
theorem covered_stands {p : Pool} (h : Good p) {s g : Nat} (hs : s < p.needs.length) (hg : g < 32) : standsD p s g p.ill = coveredD p s g := by
  have a := covered_iff h hs hg
  have b := stands_iff (s := s) (k := p.ill) h hg
  cases h1 : standsD p s g p.ill <;> cases h2 : coveredD p s g <;> simp_all
/-- Ready, in the specification's words -/
theorem ready_iff {p : Pool} (h : Good p) {s g k : Nat} (hs : s < p.needs.length) (hg : g < 32) : (k : Int) ≤ readyD p s g ↔ k ≤ popD g ∧ standsD p s g k = true := by
  rw [stands_iff h hg]
  have hr := readyTo_le p s g (k : Int) (2 ^ p.tn)
  unfold readyD
  rw [row_len h hs]
  constructor
  · intro hc
    obtain ⟨a, c⟩ := hr.1 (by omega)
    refine ⟨by omega, fun T hT hn => ?_⟩
    have := c T hT hn
    unfold miss at this
    omega
  · rintro ⟨a, hE⟩
    have : (k : Int) ≤ readyTo p s g (2 ^ p.tn) := hr.2 ⟨by omega, fun T hT hn => by
      have := hE T hT hn
      unfold miss
      omega⟩
    omega
theorem ready_low (p : Pool) (s g : Nat) : -1 ≤ readyD p s g := by unfold readyD; omega
theorem ready_high (p : Pool) (s g : Nat) : readyD p s g ≤ popD g := by
  have := (readyTo_le p s g (readyTo p s g (2 ^ (p.row s).length)) (2 ^ (p.row s).length)).1 (Int.le_refl _)
  unfold readyD
  omega

end Go.Proofs.Ytcgnibfcjadnjaa
