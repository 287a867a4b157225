/- WhyM: the choices that Why tries, and the first of the fewest. Before: slices.CompareFunc at rows of glosses that are as long, and which choice is before another one. Choose: the glosses of a set of positions, as both sides take them; written by wip/tools/choose02.py. -/
import Derived.Test.YtinlojealfbbfaaCopies
namespace Go.Proofs.Ytinlojealfbbfaa
open Go.RowKit

/-- the glosses of a set of positions -/
def subD : List GlossD → Nat → List GlossD
  | [], _ => []
  | x :: l, s => if s % 2 = 1 then x :: subD l (s / 2) else subD l (s / 2)
theorem subD_sub : ∀ (l : List GlossD) (s : Nat), (subD l s).Sublist l
  | [], _ => List.Sublist.slnil
  | x :: l, s => by
    unfold subD
    split
    · exact (subD_sub l _).cons_cons x
    · exact (subD_sub l _).cons x
theorem subD_full : ∀ (l : List GlossD), subD l (2 ^ l.length - 1) = l
  | [] => rfl
  | x :: l => by
    have hp : 0 < 2 ^ l.length := Nat.pow_pos (by omega)
    have e : 2 ^ (x :: l).length = 2 * 2 ^ l.length := by rw [List.length_cons, Nat.pow_succ]; omega
    have h1 : (2 ^ (x :: l).length - 1) % 2 = 1 := by omega
    have h2 : (2 ^ (x :: l).length - 1) / 2 = 2 ^ l.length - 1 := by omega
    unfold subD
    rw [if_pos h1, h2, subD_full l]
theorem subD_snoc (x : GlossD) : ∀ (l : List GlossD) (s : Nat), subD (l ++ [x]) s = subD l s ++ (if s / 2 ^ l.length % 2 = 1 then [x] else [])
  | [], s => by
    show (if s % 2 = 1 then x :: subD [] (s / 2) else subD [] (s / 2)) = _
    simp [subD]
  | y :: l, s => by
    have ih := subD_snoc x l (s / 2)
    have e : s / 2 / 2 ^ l.length = s / 2 ^ (y :: l).length := by rw [Nat.div_div_eq_div_mul, List.length_cons, Nat.pow_succ, Nat.mul_comm]
    rw [e] at ih
    show (if s % 2 = 1 then y :: subD (l ++ [x]) (s / 2) else subD (l ++ [x]) (s / 2)) = (if s % 2 = 1 then y :: subD l (s / 2) else subD l (s / 2)) ++ _
    split
    · rw [ih]; rfl
    · exact ih
/-- after k positions, as both programs go -/
theorem subTo_succ {l : List GlossD} {s k : Nat} {x : GlossD} (h : l[k]? = some x) : subD (l.take (k + 1)) s = subD (l.take k) s ++ (if s / 2 ^ k % 2 = 1 then [x] else []) := by
  obtain ⟨hk, rfl⟩ := List.getElem?_eq_some_iff.1 h
  have e : (l.take k).length = k := by rw [List.length_take]; omega
  have h1 := subD_snoc l[k] (l.take k) s
  rw [e] at h1
  rw [← h1, List.take_append_getElem hk]
/-- the order of two rows, as it is told gloss by gloss -/
def lexD : List GlossD → List GlossD → Int
  | [], [] => 0
  | [], _ :: _ => -1
  | _ :: _, [] => 1
  | x :: a, y :: b => if cmpG x y = 0 then lexD a b else cmpG x y
theorem lexD_same {x y : GlossD} (a b : List GlossD) (h : cmpG x y = 0) : lexD (x :: a) (y :: b) = lexD a b := by
  show (if cmpG x y = 0 then _ else _) = _
  rw [if_pos h]
theorem lexD_other {x y : GlossD} (a b : List GlossD) (h : cmpG x y ≠ 0) : lexD (x :: a) (y :: b) = cmpG x y := by
  show (if cmpG x y = 0 then _ else _) = _
  rw [if_neg h]
/-- of two sets of positions the first has the earlier one at the first at which they differ -/
def earlyD : Nat → Nat → Nat → Bool
  | 0, _, _ => false
  | n + 1, a, b => if a % 2 = b % 2 then earlyD n (a / 2) (b / 2) else decide (a % 2 = 1)
def beforeD (a b : List GlossD) : Bool := if a.length = b.length then decide (lexD a b < 0) else decide (a.length < b.length)
theorem lex_early : ∀ (l : List GlossD) (a b : Nat), l.Pairwise (fun x y => cmpG x y < 0) → (subD l a).length = (subD l b).length → decide (lexD (subD l a) (subD l b) < 0) = earlyD l.length a b
  | [], _, _, _, _ => by simp [subD, lexD, earlyD]
  | x :: l, a, b, hp, hl => by
    have hx : ∀ y ∈ l, cmpG x y < 0 := (List.pairwise_cons.1 hp).1
    have ih := lex_early l (a / 2) (b / 2) (List.pairwise_cons.1 hp).2
    have h0 : cmpG x x = 0 := by simp [cmpG, orL, cmpI_self]
    show _ = (if a % 2 = b % 2 then earlyD l.length (a / 2) (b / 2) else decide (a % 2 = 1))
    unfold subD at hl ⊢
    by_cases ha : a % 2 = 1
    · by_cases hb : b % 2 = 1
      · rw [if_pos ha, if_pos hb] at hl
        rw [if_pos ha, if_pos hb, if_pos (by omega), ← ih (by simpa using hl)]
        rw [lexD_same _ _ h0]
      · rw [if_pos ha, if_neg hb] at hl
        rw [if_pos ha, if_neg hb, if_neg (by omega)]
        have hs := subD_sub l (b / 2)
        cases hB : subD l (b / 2) with
        | nil => rw [hB] at hl; simp at hl
        | cons y B =>
          have hy := hx y (hs.subset (by rw [hB]; simp))
          rw [lexD_other _ _ (by omega)]
          simp [ha, hy]
    · by_cases hb : b % 2 = 1
      · rw [if_neg ha, if_pos hb] at hl
        rw [if_neg ha, if_pos hb, if_neg (by omega)]
        have hs := subD_sub l (a / 2)
        cases hA : subD l (a / 2) with
        | nil => rw [hA] at hl; simp at hl
        | cons y A =>
          have hy := hx y (hs.subset (by rw [hA]; simp))
          have hy' : 0 < cmpG y x := by
            have := cmp_cmpG.neg x y
            omega
          rw [lexD_other _ _ (by omega)]
          have h1 : ¬ cmpG y x < 0 := by omega
          simp [ha, h1]
      · rw [if_neg ha, if_neg hb] at hl
        rw [if_neg ha, if_neg hb, if_pos (by omega), ← ih hl]
/-- what the program holds after k choices -/
def bestP (l : List GlossD) (ok : Nat → Bool) : Nat → List GlossD
  | 0 => l
  | k + 1 => if (beforeD (subD l k) (bestP l ok k) && ok k) = true then subD l k else bestP l ok k
/-- what the specification holds after k choices; none: not one yet -/
def bestS (l : List GlossD) (ok : Nat → Bool) : Nat → Option Nat
  | 0 => none
  | k + 1 => if ok k = true then
      match bestS l ok k with
      | none => some k
      | some b => if (decide ((subD l k).length < (subD l b).length) || (decide ((subD l k).length = (subD l b).length) && earlyD l.length k b)) = true then some k else some b
    else bestS l ok k
theorem best_two {l : List GlossD} {ok : Nat → Bool} (hp : l.Pairwise (fun x y => cmpG x y < 0)) : ∀ k, (bestS l ok k = none ∧ bestP l ok k = l ∧ ∀ j, j < k → ok j = false) ∨ ∃ b, b < k ∧ bestS l ok k = some b ∧ bestP l ok k = subD l b
  | 0 => .inl ⟨rfl, rfl, fun j h => by omega⟩
  | k + 1 => by
    have ih := best_two (ok := ok) hp k
    unfold bestS bestP
    cases ho : ok k with
    | false =>
      rw [Bool.and_false, if_neg (by simp), if_neg (by simp)]
      rcases ih with ⟨h1, h2, h3⟩ | ⟨b, hb, h1, h2⟩
      · refine .inl ⟨h1, h2, fun j hj => ?_⟩
        rcases Nat.lt_or_ge j k with g | g
        · exact h3 j g
        · obtain rfl : j = k := by omega
          exact ho
      · exact .inr ⟨b, by omega, h1, h2⟩
    | true =>
      rw [Bool.and_true, if_pos rfl]
      rcases ih with ⟨h1, h2, h3⟩ | ⟨b, hb, h1, h2⟩
      · refine .inr ⟨k, by omega, by rw [h1], ?_⟩
        rw [h2]
        have hs := subD_sub l k
        by_cases hl : (subD l k).length = l.length
        · rw [hs.eq_of_length hl]; simp
        · have hlt : (subD l k).length < l.length := by have := hs.length_le; omega
          rw [if_pos (by unfold beforeD; rw [if_neg hl]; exact decide_eq_true hlt)]
      · rw [h1, h2]
        have e : beforeD (subD l k) (subD l b) = (decide ((subD l k).length < (subD l b).length) || (decide ((subD l k).length = (subD l b).length) && earlyD l.length k b)) := by
          unfold beforeD
          by_cases hl : (subD l k).length = (subD l b).length
          · rw [if_pos hl, lex_early l k b hp hl]
            have h4 : ¬ (subD l k).length < (subD l b).length := by omega
            simp [hl]
          · rw [if_neg hl]; simp [hl]
        obtain ⟨q, hq⟩ : ∃ q, (decide ((subD l k).length < (subD l b).length) || (decide ((subD l k).length = (subD l b).length) && earlyD l.length k b)) = q := ⟨_, rfl⟩
        rw [hq] at e
        dsimp only
        rw [e, hq]
        cases q
        · exact .inr ⟨b, by omega, rfl, rfl⟩
        · exact .inr ⟨k, by omega, rfl, rfl⟩
theorem best_all {l : List GlossD} {ok : Nat → Bool} (hp : l.Pairwise (fun x y => cmpG x y < 0)) (hf : ok (2 ^ l.length - 1) = true) : ∃ b, b < 2 ^ l.length ∧ bestS l ok (2 ^ l.length) = some b ∧ bestP l ok (2 ^ l.length) = subD l b := by
  have h2 : 0 < 2 ^ l.length := Nat.pow_pos (by omega)
  rcases best_two (ok := ok) hp (2 ^ l.length) with ⟨_, _, h⟩ | h
  · rw [h _ (by omega)] at hf; cases hf
  · exact h
/-- fewer glosses need no more signs -/
theorem size_mono {n : Nat} {l l' : List GlossD} (hn : n ≤ 10) (h : ∀ x ∈ l, x.signs.toNat ≠ 0 ∧ x.signs.toNat < 2 ^ n) (hs : ∀ x ∈ l', x ∈ l) : sizeD n l' ≤ sizeD n l := by
  obtain ⟨h1, h2, h3, _⟩ := firstD_facts (readD_ne hn h)
  rw [← h3]
  refine (readD_is n l').least _ h1 ?_
  unfold agreesD at h2 ⊢
  rw [List.all_eq_true] at h2 ⊢
  exact fun x hx => h2 x (hs x hx)

end Go.Proofs.Ytinlojealfbbfaa

namespace Go.Proofs.Ytinlojealfbbfaa
open Go.RowKit

theorem drop_cons {l : List GlossD} {i : Nat} {x : GlossD} (h : l[i]? = some x) : l.drop i = x :: l.drop (i + 1) := by
  obtain ⟨hi, rfl⟩ := List.getElem?_eq_some_iff.1 h
  exact List.drop_eq_getElem_cons hi

set_option maxRecDepth 100000 in
set_option maxHeartbeats 4000000 in
theorem compareGloss_any (a b : List GlossD) (A B : Option Addr) (c d n m : Nat) (w : World) (hA : GlossAt w n A a) (hB : GlossAt w m B b) (hn : n ≤ w.heap.size) (hm : m ≤ w.heap.size) (hl : b.length = a.length) (hl9 : a.length ≤ 1000) :
    Calls Try.prog 85 #[.slice A a.length c, .slice B a.length d, .func (.func 79) #[] #[]] w fun e w' => e = .returned (.int .i64 (lexD a b)) ∧ Below w.heap.size w w' := by
  have HA := Lib.hid (fun (w0 : World) (hw : Grow w w0) => ((hA.more hn).below hw).more hw.size)
  have HB := Lib.hid (fun (w0 : World) (hw : Grow w w0) => ((hB.more hm).below hw).more hw.size)
  have HLB := Lib.hid hl
  obtain ⟨la, hla⟩ : ∃ q, a.length = q := ⟨_, rfl⟩
  rw [hla] at HLB hl9 ⊢
  have HLA := Lib.hid hla
  clear hA hB hn hm hl hla
  go_enter Try.func85, Try.ntmps85
  go_wp2_with fail
  go_loopw [13] (fun iv wr => ∃ i : Nat, i ≤ la ∧ iv = .int .i64 i ∧ Hid (lexD (a.drop i) (b.drop i) = lexD a b) ∧ Grow w wr) (fun iv _ => la - (intOf iv).toNat)
  case atStart => exact ⟨0, Nat.zero_le _, rfl, rfl, Grow.refl _⟩
  case round =>
    obtain ⟨i, hi', rfl, HX0, hgr⟩ := hrel
    rename World => wr
    have HR : Hid (Grow w wr) := Lib.hid hgr
    clear hgr
    by_cases hlt : i < la
    · obtain ⟨g1, o1, x, hAe, hb1, hc1, HX⟩ := (HA.out wr HR.out).at_ (k := i) (by rw [HLA.out]; exact hlt)
      obtain ⟨g2, o2, y, hBe, hb2, hc2, HY⟩ := (HB.out wr HR.out).at_ (k := i) (by rw [HLB.out]; exact hlt)
      subst hAe hBe
      have HC2 := Lib.hid hc2
      have e0 := hc1 0 (by omega); have e1 := hc1 1 (by omega); have e2 := hc1 2 (by omega); have e3 := hc1 3 (by omega); have e4 := hc1 4 (by omega); have e5 := hc1 5 (by omega)
      rw [Nat.add_zero] at e0
      have hld : decide ((i : Int) < (la : Int)) = true := decide_eq_true (by omega)
      have hki : (i : Int) < (la : Int) := by omega
      have hk0 : (0 : Int) ≤ (i : Int) := by omega
      have hge : decide ((i : Int) ≥ (la : Int)) = false := decide_eq_false (by omega)
      have hge2 : decide ((la : Int) ≤ (i : Int)) = false := decide_eq_false (by omega)
      have HLT := Lib.hid hlt
      have HDX := Lib.hid (drop_cons HX.out)
      have HDY := Lib.hid (drop_cons HY.out)
      clear hc1 hc2 hlt
      go_upto_region 4 with fail
      obtain ⟨W1, hW1, hg1, hf1, hsz1⟩ := one_block wr 55 (cellsG x)
      rw [hW1]
      clear hW1 e0 e1 e2 e3 e4 e5
      have HG1 := Lib.hid hg1
      have HF1 := Lib.hid hf1
      have e0 := Grow.cell hg1 (HC2.out 0 (by omega)); have e1 := Grow.cell hg1 (HC2.out 1 (by omega)); have e2 := Grow.cell hg1 (HC2.out 2 (by omega)); have e3 := Grow.cell hg1 (HC2.out 3 (by omega)); have e4 := Grow.cell hg1 (HC2.out 4 (by omega)); have e5 := Grow.cell hg1 (HC2.out 5 (by omega))
      rw [Nat.add_zero] at e0
      clear hg1 hf1
      go_upto_region 7 with fail
      obtain ⟨W2, hW2, hg2, hf2, hsz2⟩ := one_block W1 55 (cellsG y)
      rw [hW2]
      clear hW2 e0 e1 e2 e3 e4 e5
      have hxc := (hg2.block HF1.out).cell
      have hyc := hf2.cell
      have HG2 : Hid (Grow w W2) := Lib.hid (HR.out.trans (HG1.out.trans hg2))
      clear hg2 hf2 HF1 HG1
      obtain ⟨cv, hcv⟩ : ∃ q, cmpG x y = q := ⟨_, rfl⟩
      have HCM := Lib.hid (inOrder_any x y W2)
      rw [hcv] at HCM
      have HCV := Lib.hid hcv
      clear hcv
      go_wp2_with fail
      refine HCM.out.mono ?_
      rintro e w5 ⟨rfl, hb5⟩
      have HG5 : Hid (Grow w w5) := Lib.hid (HG2.out.trans hb5.1)
      clear hb5 hxc hyc HCM
      by_cases h0 : cv = 0
      · subst h0
        have HNX : Hid (lexD (a.drop (i + 1)) (b.drop (i + 1)) = lexD a b) := Lib.hid (by rw [← HX0.out, HDX.out, HDY.out, lexD_same _ _ HCV.out])
        go_wp2
        go_roundw
        case rel => exact ⟨i + 1, HLT.out, by go_num, HNX.out, HG5.out⟩
        case measure => have := HLT.out; simp [intOf]; omega
      · have d1 : decide (cv = 0) = false := decide_eq_false h0
        have d2 : (cv != 0) = true := by simpa using h0
        have HNX : Hid (lexD a b = cv) := Lib.hid (by rw [← HX0.out, HDX.out, HDY.out, lexD_other _ _ (by rw [HCV.out]; exact h0), HCV.out])
        clear h0
        go_wp2
        go_ret
        exact ⟨congrArg (fun z => Ending.returned (Value.int .i64 z)) HNX.out.symm, HG5.out⟩
    · obtain rfl : i = la := by omega
      have HNX : Hid (lexD a b = 0) := Lib.hid (by
        rw [← HX0.out, List.drop_eq_nil_of_le (by rw [HLA.out]; exact Nat.le_refl _), List.drop_eq_nil_of_le (by rw [HLB.out]; exact Nat.le_refl _)]
        rfl)
      have hld : decide ((i : Int) < (i : Int)) = false := by simp
      clear hlt
      go_wp2
      go_ret
      exact ⟨congrArg (fun z => Ending.returned (Value.int .i64 z)) HNX.out.symm, HR.out⟩

set_option maxRecDepth 100000 in
set_option maxHeartbeats 4000000 in
theorem before_any (a b : List GlossD) (A B : Option Addr) (c d n m : Nat) (w : World) (hA : GlossAt w n A a) (hB : GlossAt w m B b) (hn : n ≤ w.heap.size) (hm : m ≤ w.heap.size) (ha9 : a.length ≤ 1000) (_hb9 : b.length ≤ 1000) :
    Calls Try.prog 71 #[.slice A a.length c, .slice B b.length d] w fun e w' => e = .returned (.bool (beforeD a b)) ∧ Below w.heap.size w w' := by
  by_cases hl : a.length = b.length
  · have HC := Lib.hid (fun (w0 : World) (hw : Grow w w0) => compareGloss_any a b A B c d w0.heap.size w0.heap.size w0 (((hA.more hn).below hw).more hw.size) (((hB.more hm).below hw).more hw.size) (Nat.le_refl _) (Nat.le_refl _) hl.symm ha9)
    have HBD : Hid (beforeD a b = decide (lexD a b < 0)) := Lib.hid (by unfold beforeD; rw [if_pos hl])
    rw [← hl, HBD.out]
    obtain ⟨la, hla⟩ : ∃ q, a.length = q := ⟨_, rfl⟩
    obtain ⟨r, hr⟩ : ∃ q, lexD a b = q := ⟨_, rfl⟩
    rw [hr] at HC ⊢
    rw [hla] at HC ⊢
    have d1 : decide ((la : Int) = (la : Int)) = true := decide_eq_true rfl
    have d2 : ((la : Int) != (la : Int)) = false := by simp
    clear hA hB hn hm hl hla hr ha9 _hb9 HBD
    go_enter Try.func71, Try.ntmps71
    go_wp2_with fail
    refine (HC.out w (Grow.refl _)).mono ?_
    rintro e w5 ⟨rfl, hb5⟩
    have HG5 : Hid (Grow w w5) := hb5
    clear hb5 HC
    go_wp2
    go_ret
    exact ⟨rfl, HG5.out⟩
  · have HBD : Hid (beforeD a b = decide (a.length < b.length)) := Lib.hid (by unfold beforeD; rw [if_neg hl])
    rw [HBD.out]
    obtain ⟨la, hla⟩ : ∃ q, a.length = q := ⟨_, rfl⟩
    obtain ⟨lb, hlb⟩ : ∃ q, b.length = q := ⟨_, rfl⟩
    rw [hla, hlb] at hl ⊢
    have d1 : decide ((la : Int) = (lb : Int)) = false := decide_eq_false (by omega)
    have d2 : ((la : Int) != (lb : Int)) = true := by rw [bne_iff_ne]; omega
    clear hA hB hn hm hl hla hlb ha9 _hb9 HBD
    go_enter Try.func71, Try.ntmps71
    go_wp2
    go_ret
    exact ⟨rfl, Grow.refl _⟩

end Go.Proofs.Ytinlojealfbbfaa

namespace Go.Proofs.Ytinlojealfbbfaa
open Go.RowKit

/-- what a test of the positions does to what is taken -/
def TakesD (s : Int) (l : List GlossD) (f : Nat → List GlossD) : Prop := f 0 = [] ∧ ∀ k x, l[k]? = some x → (bits .and .i64 (s / 2 ^ k) 1 = 1 ∧ f (k + 1) = f k ++ [x]) ∨ (bits .and .i64 (s / 2 ^ k) 1 = 0 ∧ f (k + 1) = f k)
theorem takes_sub (l : List GlossD) (s : Nat) (hs : s < 1048576) : TakesD s l (fun k => subD (l.take k) s) := by
  refine ⟨by simp [subD], fun k x hx => ?_⟩
  have h1 : ((s : Int) / 2 ^ k) = ((s / 2 ^ k : Nat) : Int) := by simp
  have h2 := and_i64 (s / 2 ^ k) 1 (by have := Nat.div_le_self s (2 ^ k); omega) (by omega)
  rw [Nat.and_one_is_mod] at h2
  have h2 : bits .and .i64 ((s / 2 ^ k : Nat) : Int) 1 = ((s / 2 ^ k % 2 : Nat) : Int) := h2
  dsimp only
  rw [h1, h2, subTo_succ hx]
  have h3 : s / 2 ^ k % 2 < 2 := Nat.mod_lt _ (by omega)
  by_cases h4 : s / 2 ^ k % 2 = 1
  · rw [if_pos h4, h4]; exact .inl ⟨rfl, rfl⟩
  · have h5 : s / 2 ^ k % 2 = 0 := by omega
    rw [if_neg h4, h5]; exact .inr ⟨rfl, by simp⟩
theorem takes_all (l : List GlossD) : TakesD (-1) l (fun k => l.take k) := by
  refine ⟨by simp, fun k x hx => .inl ⟨?_, take_snoc hx⟩⟩
  have h1 : ((-1 : Int) / 2 ^ k) = -1 := by
    have hp : (0 : Int) < 2 ^ k := Int.pow_pos (by omega)
    show Int.negSucc 0 / 2 ^ k = _
    rw [Int.negSucc_ediv 0 hp]
    show -((0 : Int) / 2 ^ k + 1) = -1
    rw [Int.zero_ediv]
    rfl
  rw [h1]
  decide
theorem takes_len {s : Int} {l : List GlossD} {f : Nat → List GlossD} (h : TakesD s l f) : ∀ k, k ≤ l.length → (f k).length ≤ k
  | 0, _ => by rw [h.1]; exact Nat.le_refl _
  | k + 1, hk => by
    have ih := takes_len h k (by omega)
    rcases h.2 k _ (List.getElem?_eq_getElem (by omega)) with ⟨_, e⟩ | ⟨_, e⟩
    · rw [e, List.length_append]; show (f k).length + 1 ≤ k + 1; omega
    · rw [e]; omega

set_option maxRecDepth 100000 in
set_option maxHeartbeats 4000000 in
theorem subset_any (s : Int) (l : List GlossD) (f : Nat → List GlossD) (A : Option Addr) (cap B : Nat) (w : World) (hA : GlossAt w B A l) (hl : l.length ≤ 60) (hB : B ≤ w.heap.size) (hf : TakesD s l f) :
    Calls Try.prog 70 #[.slice A l.length cap, .int .i64 s] w fun e w' => ∃ A' c', e = .returned (.slice A' (f l.length).length c') ∧ GlossT w' w.heap.size A' c' (f l.length) ∧ Below w.heap.size w w' := by
  obtain ⟨j0, hj, hy0, hy1, hy2⟩ := info_parts Try.infoGloss
  have HA := Lib.hid (hA.more hB)
  have HF := Lib.hid hf.2
  have HZ := Lib.hid hf.1
  clear hA hf
  go_enter Try.func70, Try.ntmps70
  go_wp2_with fail
  go_loopw [5, 10] (fun v iv wr => ∃ (k n : Nat) (A' : Option Addr) (c' : Nat), k ≤ l.length ∧ iv = .int .i64 k ∧ v = .slice A' n c' ∧ Hid (n = (f k).length) ∧ n ≤ k ∧ wr.ownsRow w.heap.size 55 6 (.slice A' n c') n ((f k).flatMap cellsGL) ∧ Grow w wr) (fun _ v _ => l.length - (intOf v).toNat)
  case atStart => exact ⟨0, 0, none, 0, Nat.zero_le _, rfl, rfl, by rw [HZ.out]; rfl, Nat.le_refl _, by rw [HZ.out]; exact own_nilG _ _, Grow.refl _⟩
  case round =>
    obtain ⟨k, n, A', c', hk, rfl, rfl, HN, hnk, hown, hgr⟩ := hrel
    rename World => wr
    have HOW := Lib.hid hown
    have HGR := Lib.hid hgr
    clear hown hgr
    by_cases hlt : k < l.length
    · have hld : decide ((k : Int) < (l.length : Int)) = true := decide_eq_true (by omega)
      have hldn : decide (k < l.length) = true := decide_eq_true hlt
      obtain ⟨b, off, x, rfl, hb, hc, HX⟩ := (HA.out.below HGR.out).at_ hlt
      have hki : (k : Int) < (l.length : Int) := by omega
      have hk0 : (0 : Int) ≤ (k : Int) := by omega
      have e0 := hc 0 (by omega); have e1 := hc 1 (by omega); have e2 := hc 2 (by omega); have e3 := hc 3 (by omega); have e4 := hc 4 (by omega); have e5 := hc 5 (by omega)
      rw [Nat.add_zero] at e0
      clear hc hb
      go_upto_region 5 with fail
      obtain ⟨W3, hW3, hg3, hf3, hsz3⟩ := one_block wr 55 (cellsG x)
      rw [hW3]
      clear hW3
      obtain ⟨b7, e7⟩ : ∃ z, wr.heap.size = z := ⟨_, rfl⟩
      rw [e7] at hf3 hsz3 ⊢
      have HG4 : Hid (Grow wr W3) := Lib.hid hg3
      have hgc4 := hf3.cell
      clear hg3 hf3 e0 e1 e2 e3 e4 e5
      have hm64 : min k 64 = k := by omega
      rcases HF.out k x HX.out with ⟨hbt, hfn⟩ | ⟨hbt, hfn⟩
      · have HFN := Lib.hid hfn
        have hbb : (bits .and .i64 (s / 2 ^ k) 1 == 1) = true := by rw [hbt]; rfl
        clear hfn hm64
        have HOA := Lib.hid (own_grow HOW.out (HG4.out.trans (Grow.alloc W3 (.cells (cellsG x) 55))))
        go_wp2_with (at_builtin; go_loud (refine wpList_append_gloss rfl _ _ 25 rfl w.heap.size 55 j0 (.agg #[.int .i64 0, .int .i64 0, .int .i64 0, .int .i64 0, .int .i64 0, .int .i64 0]) 48 Try.underlying25 hj hy0 hy1 hy2 rfl _ n ((f k).flatMap cellsGL) rfl HOA.out (some ⟨W3.heap.size, 0, none⟩) 1 1 _ [x] rfl rfl (news_gloss (BlockIs.new _ _ _)) ?c2 ?c3 ?c4 ?_))
        case c2 => unfold maxLen; omega
        case c3 => omega
        case c4 => have h1 := HGR.out.size; have h2 := HG4.out.size; simp; omega
        intro v' w5 hown hgr
        obtain ⟨An, cn, rfl⟩ := own_form hown
        have HOW3 : Hid (w5.ownsRow w.heap.size 55 6 (.slice An (n + 1) cn) (n + 1) ((f (k + 1)).flatMap cellsGL)) := Lib.hid (by
          rw [HFN.out, List.flatMap_append]
          exact hown)
        have HG5 : Hid (Grow w w5) := Lib.hid (below_grown (HGR.out.trans (HG4.out.trans (Grow.alloc _ _))) HOA.out hgr (by have h1 := HGR.out.size; have h2 := HG4.out.size; simp; omega))
        have HN3 : Hid (n + 1 = (f (k + 1)).length) := Lib.hid (by rw [HFN.out, List.length_append, ← HN.out]; rfl)
        clear hown hgr HOA hgc4
        go_wp2
        go_roundw
        case rel => exact ⟨k + 1, n + 1, An, cn, hlt, by go_num, rfl, HN3.out, by omega, HOW3.out, HG5.out⟩
        case measure => simp [intOf]; omega
      · have HFN := Lib.hid hfn
        have hbb : (bits .and .i64 (s / 2 ^ k) 1 == 1) = false := by rw [hbt]; rfl
        clear hfn hm64 hgc4
        go_wp2
        go_roundw
        case rel => exact ⟨k + 1, n, A', c', hlt, by go_num, rfl, by rw [HFN.out]; exact HN.out, by omega, by rw [HFN.out]; exact own_grow HOW.out HG4.out, HGR.out.trans HG4.out⟩
        case measure => simp [intOf]; omega
    · obtain rfl : k = l.length := by omega
      have hld : decide ((l.length : Int) < (l.length : Int)) = false := by simp
      have hldn : decide (l.length < l.length) = false := by simp
      have HO : Hid (GlossT wr w.heap.size A' c' (f l.length)) := Lib.hid (by
        unfold GlossT
        rw [← HN.out]
        exact HOW.out)
      clear hlt HOW
      go_wp2
      go_ret
      exact ⟨A', c', congrArg (fun z => Ending.returned (Value.slice A' z c')) HN.out, HO.out, HGR.out⟩

set_option maxRecDepth 100000 in
set_option maxHeartbeats 4000000 in
theorem chosen_any (s : Int) (l : List GlossD) (f : Nat → List GlossD) (A : Option Addr) (cap B : Nat) (w : World) (hA : GlossAt w B A l) (hl : l.length ≤ 60) (hB : B ≤ w.heap.size) (hf : TakesD s l f) :
    Calls Try.prog 58 #[.slice A l.length cap, .int .i64 s] w fun e w' => ∃ A' c', e = .returned (.slice A' (f l.length).length c') ∧ GlossT w' w.heap.size A' c' (f l.length) ∧ Below w.heap.size w w' := by
  obtain ⟨j0, hj, hy0, hy1, hy2⟩ := info_parts Try.infoGloss
  have HA := Lib.hid (hA.more hB)
  have HF := Lib.hid hf.2
  have HZ := Lib.hid hf.1
  clear hA hf
  go_enter Try.func58, Try.ntmps58
  go_wp2_with fail
  go_loopw [5, 6] (fun v iv wr => ∃ (k n : Nat) (A' : Option Addr) (c' : Nat), k ≤ l.length ∧ iv = .int .i64 k ∧ v = .slice A' n c' ∧ Hid (n = (f k).length) ∧ n ≤ k ∧ wr.ownsRow w.heap.size 55 6 (.slice A' n c') n ((f k).flatMap cellsGL) ∧ Grow w wr) (fun _ v _ => l.length - (intOf v).toNat)
  case atStart => exact ⟨0, 0, none, 0, Nat.zero_le _, rfl, rfl, by rw [HZ.out]; rfl, Nat.le_refl _, by rw [HZ.out]; exact own_nilG _ _, Grow.refl _⟩
  case round =>
    obtain ⟨k, n, A', c', hk, rfl, rfl, HN, hnk, hown, hgr⟩ := hrel
    rename World => wr
    have HOW := Lib.hid hown
    have HGR := Lib.hid hgr
    clear hown hgr
    by_cases hlt : k < l.length
    · have hld : decide ((k : Int) < (l.length : Int)) = true := decide_eq_true (by omega)
      have hldn : decide (k < l.length) = true := decide_eq_true hlt
      obtain ⟨b, off, x, rfl, hb, hc, HX⟩ := (HA.out.below HGR.out).at_ hlt
      have hki : (k : Int) < (l.length : Int) := by omega
      have hk0 : (0 : Int) ≤ (k : Int) := by omega
      have e0 := hc 0 (by omega); have e1 := hc 1 (by omega); have e2 := hc 2 (by omega); have e3 := hc 3 (by omega); have e4 := hc 4 (by omega); have e5 := hc 5 (by omega)
      rw [Nat.add_zero] at e0
      clear hc hb
      have HG4 : Hid (Grow wr wr) := Lib.hid (Grow.refl _)
      have hm64 : min k 64 = k := by omega
      rcases HF.out k x HX.out with ⟨hbt, hfn⟩ | ⟨hbt, hfn⟩
      · have HFN := Lib.hid hfn
        have hbb : (bits .and .i64 (s / 2 ^ k) 1 == 1) = true := by rw [hbt]; rfl
        clear hfn hm64
        have HOA := Lib.hid (own_grow HOW.out (HG4.out.trans (Grow.alloc wr (.cells (cellsG x) 55))))
        go_wp2_with (at_builtin; go_loud (refine wpList_append_gloss rfl _ _ 25 rfl w.heap.size 55 j0 (.agg #[.int .i64 0, .int .i64 0, .int .i64 0, .int .i64 0, .int .i64 0, .int .i64 0]) 48 Try.underlying25 hj hy0 hy1 hy2 rfl _ n ((f k).flatMap cellsGL) rfl HOA.out (some ⟨wr.heap.size, 0, none⟩) 1 1 _ [x] rfl rfl (news_gloss (BlockIs.new _ _ _)) ?c2 ?c3 ?c4 ?_))
        case c2 => unfold maxLen; omega
        case c3 => omega
        case c4 => have h1 := HGR.out.size; have h2 := HG4.out.size; simp; omega
        intro v' w5 hown hgr
        obtain ⟨An, cn, rfl⟩ := own_form hown
        have HOW3 : Hid (w5.ownsRow w.heap.size 55 6 (.slice An (n + 1) cn) (n + 1) ((f (k + 1)).flatMap cellsGL)) := Lib.hid (by
          rw [HFN.out, List.flatMap_append]
          exact hown)
        have HG5 : Hid (Grow w w5) := Lib.hid (below_grown (HGR.out.trans (HG4.out.trans (Grow.alloc _ _))) HOA.out hgr (by have h1 := HGR.out.size; have h2 := HG4.out.size; simp; omega))
        have HN3 : Hid (n + 1 = (f (k + 1)).length) := Lib.hid (by rw [HFN.out, List.length_append, ← HN.out]; rfl)
        clear hown hgr HOA e0 e1 e2 e3 e4 e5
        go_wp2
        go_roundw
        case rel => exact ⟨k + 1, n + 1, An, cn, hlt, by go_num, rfl, HN3.out, by omega, HOW3.out, HG5.out⟩
        case measure => simp [intOf]; omega
      · have HFN := Lib.hid hfn
        have hbb : (bits .and .i64 (s / 2 ^ k) 1 == 1) = false := by rw [hbt]; rfl
        clear hfn hm64 e0 e1 e2 e3 e4 e5
        go_wp2
        go_roundw
        case rel => exact ⟨k + 1, n, A', c', hlt, by go_num, rfl, by rw [HFN.out]; exact HN.out, by omega, by rw [HFN.out]; exact own_grow HOW.out HG4.out, HGR.out.trans HG4.out⟩
        case measure => simp [intOf]; omega
    · obtain rfl : k = l.length := by omega
      have hld : decide ((l.length : Int) < (l.length : Int)) = false := by simp
      have hldn : decide (l.length < l.length) = false := by simp
      have HO : Hid (GlossT wr w.heap.size A' c' (f l.length)) := Lib.hid (by
        unfold GlossT
        rw [← HN.out]
        exact HOW.out)
      clear hlt HOW
      go_wp2
      go_ret
      exact ⟨A', c', congrArg (fun z => Ending.returned (Value.slice A' z c')) HN.out, HO.out, HGR.out⟩

end Go.Proofs.Ytinlojealfbbfaa

