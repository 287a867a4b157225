/- OkWatch: which numbers are a possible watch: the program's word and the specification's. -/
import Derived.Test.YtcgnibfcjadnjaaValid
namespace Go.Proofs.Ytcgnibfcjadnjaa
open Go.RowKit

/-- numbers of 64 bits -/
def Wf (ws : List Int) : Prop := ∀ x, x ∈ ws → -9223372036854775808 ≤ x ∧ x < 9223372036854775808
def subI (x : Int) (a : Nat) : Bool := decide (bits .andNot .i64 x a = 0)
def gsOf (ws : List Int) : List Nat := ws.map Int.toNat
/-- is each number a set of people who can be on call in its slot? -/
def setsB (p : Pool) (ws : List Int) (k : Nat) : Bool := (List.range k).all fun s => subI (ws.getD s 0) (ableD p s)
def fewB (p : Pool) (gs : List Nat) (k : Nat) : Bool := (List.range k).all fun i => decide (timesL gs i ≤ p.most)
def okWatch (p : Pool) (ws : List Int) : Bool := decide (ws.length = p.needs.length) && setsB p ws ws.length && fewB p (gsOf ws) p.folk.length
/-- a possible watch -/
structure Watch (p : Pool) (gs : List Nat) : Prop where
  len : gs.length = p.needs.length
  able : ∀ s g, gs[s]? = some g → subN g (ableD p s) = true
  few : ∀ i, i < p.folk.length → timesL gs i ≤ p.most
theorem gsOf_length (ws : List Int) : (gsOf ws).length = ws.length := List.length_map _
theorem gsOf_nats (gs : List Nat) : gsOf (natsL gs) = gs := by
  unfold gsOf natsL
  rw [List.map_map]
  conv => rhs; rw [← List.map_id gs]
  exact List.map_congr_left fun x _ => rfl
theorem subI_iff {p : Pool} (G : Good p) {x : Int} {s : Nat} (h : -9223372036854775808 ≤ x ∧ x < 9223372036854775808) : subI x (ableD p s) = true ↔ ∃ a : Nat, x = a ∧ subN a (ableD p s) = true := by
  unfold subI
  rw [decide_eq_true_iff]
  exact andNot_zero x _ (able_32 G s) h.1 h.2
theorem setsB_succ (p : Pool) (ws : List Int) (k : Nat) : setsB p ws (k + 1) = (setsB p ws k && subI (ws.getD k 0) (ableD p k)) := by
  unfold setsB
  rw [List.range_succ, List.all_append]
  simp
theorem fewB_succ (p : Pool) (gs : List Nat) (k : Nat) : fewB p gs (k + 1) = (fewB p gs k && decide (timesL gs k ≤ p.most)) := by
  unfold fewB
  rw [List.range_succ, List.all_append]
  simp
theorem setsB_mono {p : Pool} {ws : List Int} {k m : Nat} (h : k ≤ m) (hk : setsB p ws k = false) : setsB p ws m = false := by
  induction m with
  | zero => obtain rfl : k = 0 := by omega
            exact hk
  | succ m ih =>
    rcases Nat.lt_or_ge m k with q | q
    · obtain rfl : k = m + 1 := by omega
      exact hk
    · rw [setsB_succ, ih q]; rfl
theorem fewB_mono {p : Pool} {gs : List Nat} {k m : Nat} (h : k ≤ m) (hk : fewB p gs k = false) : fewB p gs m = false := by
  induction m with
  | zero => obtain rfl : k = 0 := by omega
            exact hk
  | succ m ih =>
    rcases Nat.lt_or_ge m k with q | q
    · obtain rfl : k = m + 1 := by omega
      exact hk
    · rw [fewB_succ, ih q]; rfl
theorem sets_nats {p : Pool} (G : Good p) {ws : List Int} (hw : Wf ws) (h : setsB p ws ws.length = true) : ws = natsL (gsOf ws) ∧ ∀ s g, (gsOf ws)[s]? = some g → subN g (ableD p s) = true := by
  have hall : ∀ (s : Nat) (x : Int), ws[s]? = some x → ∃ a : Nat, x = a ∧ subN a (ableD p s) = true := fun s x hx => by
    unfold setsB at h
    have hl := lt_of_at hx
    have := List.all_eq_true.1 h s (List.mem_range.2 hl)
    rw [List.getD_eq_getElem?_getD, hx] at this
    exact (subI_iff G (hw x (List.mem_of_getElem? hx))).1 this
  constructor
  · refine List.ext_getElem? fun s => ?_
    unfold natsL gsOf
    rw [List.getElem?_map, List.getElem?_map]
    cases hx : ws[s]? with
    | none => rfl
    | some x =>
      obtain ⟨a, rfl, _⟩ := hall s x hx
      rfl
  · intro s g hg
    unfold gsOf at hg
    rw [List.getElem?_map] at hg
    cases hx : ws[s]? with
    | none => rw [hx] at hg; cases hg
    | some x =>
      obtain ⟨a, rfl, ha⟩ := hall s x hx
      rw [hx] at hg
      obtain rfl : a = g := by simpa using hg
      exact ha
theorem okWatch_is {p : Pool} (G : Good p) {ws : List Int} (hw : Wf ws) (h : okWatch p ws = true) : ws = natsL (gsOf ws) ∧ Watch p (gsOf ws) := by
  unfold okWatch at h
  rw [Bool.and_eq_true, Bool.and_eq_true, decide_eq_true_iff] at h
  obtain ⟨⟨h1, h2⟩, h3⟩ := h
  obtain ⟨a, b⟩ := sets_nats G hw h2
  refine ⟨a, by rw [gsOf_length]; exact h1, b, fun i hi => ?_⟩
  unfold fewB at h3
  exact of_decide_eq_true (List.all_eq_true.1 h3 i (List.mem_range.2 hi))
theorem ok_of_watch {p : Pool} (G : Good p) {gs : List Nat} (h : Watch p gs) : okWatch p (natsL gs) = true := by
  unfold okWatch
  rw [gsOf_nats, Bool.and_eq_true, Bool.and_eq_true, decide_eq_true_iff, natsL_length]
  refine ⟨⟨h.len, ?_⟩, ?_⟩
  · unfold setsB
    rw [List.all_eq_true]
    intro s hs
    have hs := List.mem_range.1 hs
    rw [List.getD_eq_getElem?_getD, natsL_at (List.getElem?_eq_getElem hs)]
    show subI (gs[s] : Nat) _ = true
    have := h.able s _ (List.getElem?_eq_getElem hs)
    have hlt := sub_32 (able_32 G s) this
    exact (subI_iff G ⟨by omega, by omega⟩).2 ⟨_, rfl, this⟩
  · unfold fewB
    rw [List.all_eq_true]
    exact fun i hi => decide_eq_true (h.few i (List.mem_range.1 hi))
theorem Watch.g32 {p : Pool} (G : Good p) {gs : List Nat} (h : Watch p gs) {s g : Nat} (hg : gs[s]? = some g) : g < 32 := sub_32 (able_32 G s) (h.able s g hg)
theorem watch_nil_times (gs : List Nat) (i k : Nat) : timesL (gs.take k) i ≤ k := Nat.le_trans (times_le _ _) (List.length_take_le _ _)
theorem times_snoc (l : List Nat) (g i : Nat) : timesL (l ++ [g]) i = timesL l i + if hasN g i then 1 else 0 := by
  unfold timesL
  rw [List.filter_append, List.length_append, List.filter_cons]
  cases hasN g i <;> simp
theorem times_take {l : List Nat} {k g : Nat} (i : Nat) (h : l[k]? = some g) : timesL (l.take (k + 1)) i = timesL (l.take k) i + if hasN g i then 1 else 0 := by
  rw [take_snoc h, times_snoc]

/-- the specification's CanBe -/
def hasI (x : Int) (i : Nat) : Bool := bits .and .i64 (x / 2 ^ i) 1 == 1
def canTo (p : Pool) (s : Nat) (x : Int) (k : Nat) : Bool := (List.range k).all fun i => !hasI x i || hasN (p.folk.getD i nof).s s
def canI (p : Pool) (s : Nat) (x : Int) : Bool := canTo p s x p.folk.length && inB x 0 (2 ^ p.folk.length - 1)
theorem hasI_nat {a : Nat} (i : Nat) (ha : a < 1048576) : hasI (a : Int) i = hasN a i := by
  unfold hasI hasN
  rw [shr_and ha]
  by_cases h : a / 2 ^ i % 2 = 1
  · rw [decide_eq_true h, h]; rfl
  · rw [decide_eq_false h, beq_eq_false_iff_ne]; omega
theorem able_has (p : Pool) (s i : Nat) : hasN (ableD p s) i = (decide (i < p.folk.length) && hasN (p.folk.getD i nof).s s) := bitsTo_has _ _ _
theorem canI_sub {p : Pool} (G : Good p) {s : Nat} {x : Int} (h : -9223372036854775808 ≤ x ∧ x < 9223372036854775808) : canI p s x = subI x (ableD p s) := by
  have key : canI p s x = true ↔ subI x (ableD p s) = true := by
    rw [subI_iff G h]
    have hpI : ((2 : Int) ^ p.folk.length) = ((2 ^ p.folk.length : Nat) : Int) := (Int.natCast_pow 2 _).symm
    have h32 : 2 ^ p.folk.length ≤ 32 := by have := Nat.pow_le_pow_right (n := 2) (by omega) G.f5; simpa using this
    unfold canI canTo
    rw [Bool.and_eq_true, List.all_eq_true, inB_iff, hpI]
    constructor
    · rintro ⟨h1, h2, h3⟩
      obtain ⟨a, rfl⟩ := Int.eq_ofNat_of_zero_le h2
      refine ⟨a, rfl, sub_iff.2 fun e he => ?_⟩
      have hlt : e < p.folk.length := has_lt (show a < 2 ^ p.folk.length by omega) he
      have := h1 e (List.mem_range.2 hlt)
      rw [hasI_nat e (by omega), he] at this
      rw [able_has, decide_eq_true hlt]
      simpa using this
    · rintro ⟨a, rfl, ha⟩
      have hlt := sub_lt (able_lt p s) ha
      refine ⟨fun i hi => ?_, by omega, by omega⟩
      rw [hasI_nat i (by omega)]
      cases hh : hasN a i with
      | false => rfl
      | true =>
        have := sub_iff.1 ha i hh
        rw [able_has, Bool.and_eq_true] at this
        rw [this.2]; rfl
  cases h1 : canI p s x <;> cases h2 : subI x (ableD p s) <;> simp_all
theorem canTo_succ (p : Pool) (s : Nat) (x : Int) (k : Nat) : canTo p s x (k + 1) = (canTo p s x k && (!hasI x k || hasN (p.folk.getD k nof).s s)) := by
  unfold canTo
  rw [List.range_succ, List.all_append]
  simp
theorem canTo_mono {p : Pool} {s : Nat} {x : Int} {k m : Nat} (h : k ≤ m) (hk : canTo p s x k = false) : canTo p s x m = false := by
  induction m with
  | zero => obtain rfl : k = 0 := by omega
            exact hk
  | succ m ih =>
    rcases Nat.lt_or_ge m k with q | q
    · obtain rfl : k = m + 1 := by omega
      exact hk
    · rw [canTo_succ, ih q]; rfl
theorem canB_sub {p : Pool} (G : Good p) (s g : Nat) (hg : g < 1048576) : canI p s (g : Nat) = canB p s g := by
  rw [canI_sub G (by omega)]
  unfold subI canB
  rw [andNot_nat g _ hg (by have := able_32 G s; omega)]
  unfold subN
  by_cases h : diffN g (ableD p s) = 0
  · rw [decide_eq_true h, decide_eq_true (by omega)]
  · rw [decide_eq_false h, decide_eq_false (by omega)]

end Go.Proofs.Ytcgnibfcjadnjaa
