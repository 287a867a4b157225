/- EasierM: mathematics of TurnsEasier. -/
import Derived.Test.YthlihchndmbkaaaJoined
namespace Go.Proofs.Ythlihchndmbkaaa
open Go.RowKit

structure EaseD where
  hand : Int
  start : Int
  tire : Int
  ease : Int
  slip : Int
  limit : Int
  rest : Int
def okEase (x : EaseD) : Bool := inB x.start 0 100 && inB x.tire 0 20 && inB x.ease 0 20 && inB x.slip 0 100 && inB x.limit 0 10 && inB x.rest 0 10
def easeH (h : HandD) (x : EaseD) : HandD := ⟨max 0 (h.s0 - x.start), max 0 (h.s1 - x.start), max 0 (h.t0 - x.tire), max 0 (h.t1 - x.tire), min 20 (h.e0 + x.ease), min 20 (h.e1 + x.ease), max 0 (h.slip - x.slip)⟩
def easeHs (hs : List HandD) (x : EaseD) : List HandD := if 0 ≤ x.hand then match hs[x.hand.toNat]? with
    | some h => hs.set x.hand.toNat (easeH h x)
    | none => hs
  else hs
def easeT (t : TaskD) (x : EaseD) : TaskD := ⟨easeHs t.hands x, t.parts, min 10 (t.limit + x.limit), max 1 (t.rest - x.rest), t.swap⟩
theorem easeHs_len (hs : List HandD) (x : EaseD) : (easeHs hs x).length = hs.length := by
  unfold easeHs
  split
  · split
    · rw [List.length_set]
    · rfl
  · rfl
theorem easeHs_at {hs : List HandD} {x : EaseD} {k : Nat} {h : HandD} (hk : hs[k]? = some h) : (easeHs hs x)[k]? = some h ∨ (easeHs hs x)[k]? = some (easeH h x) := by
  unfold easeHs
  split
  · split
    · rename_i h' e
      by_cases g : x.hand.toNat = k
      · subst g
        rw [hk] at e
        obtain rfl := Option.some.inj e
        right
        rw [List.getElem?_set_self (lt_of_at hk)]
      · left
        rw [List.getElem?_set_ne g]
        exact hk
    · exact .inl hk
  · exact .inl hk
theorem okEase_parts {x : EaseD} (h : okEase x = true) : (0 ≤ x.start ∧ x.start ≤ 100) ∧ (0 ≤ x.tire ∧ x.tire ≤ 20) ∧ (0 ≤ x.ease ∧ x.ease ≤ 20) ∧ (0 ≤ x.slip ∧ x.slip ≤ 100) ∧ (0 ≤ x.limit ∧ x.limit ≤ 10) ∧ 0 ≤ x.rest ∧ x.rest ≤ 10 := by
  simp only [okEase, Bool.and_eq_true, inB_iff] at h
  omega
theorem easeH_ok {h : HandD} {x : EaseD} (hx : okEase x = true) (hh : okHand h = true) : okHand (easeH h x) = true := by
  have := okEase_parts hx
  have := okHand_parts hh
  unfold okHand okSpan easeH
  rw [Bool.and_eq_true, Bool.and_eq_true, Bool.and_eq_true, inB_iff]
  simp only [Bool.and_eq_true, decide_eq_true_eq]
  omega
theorem easeT_ok {t : TaskD} {x : EaseD} (hx : okEase x = true) (ht : okTask t = true) : okTask (easeT t x) = true := by
  have hp := okTask_parts ht
  have := okEase_parts hx
  simp only [okTask, easeT, Bool.and_eq_true, inB_iff, List.all_eq_true]
  refine ⟨⟨⟨⟨by rw [easeHs_len]; omega, fun y hy => ?_⟩, by omega, fun p hpp => hp.2.2.2.1 p hpp⟩, by omega, by omega⟩, by omega⟩
  obtain ⟨k, hk⟩ := List.getElem?_of_mem hy
  have hkl : k < t.hands.length := by have := lt_of_at hk; rwa [easeHs_len] at this
  have e : t.hands[k]? = some t.hands[k] := List.getElem?_eq_getElem hkl
  have ho := hp.2.1 _ (List.mem_of_getElem? e)
  rcases easeHs_at (x := x) e with g | g
  · rw [hk] at g; obtain rfl := Option.some.inj g; exact ho
  · rw [hk] at g; obtain rfl := Option.some.inj g; exact easeH_ok hx ho
theorem easeT_easy {t : TaskD} {x : EaseD} (hx : okEase x = true) (ht : okTask t = true) : Easy t.hands.length t (easeT t x) := by
  refine ⟨rfl, rfl, fun k hk => ?_⟩
  have e : t.hands[k]? = some t.hands[k] := List.getElem?_eq_getElem hk
  have ho := okHand_parts ((okTask_parts ht).2.1 _ (List.mem_of_getElem? e))
  have hxp := okEase_parts hx
  rcases easeHs_at (x := x) e with g | g
  · exact ⟨_, _, e, g, by omega⟩
  · refine ⟨_, _, e, g, ?_⟩
    simp only [easeH]
    omega
theorem maySign_mono {t u : TaskD} (h1 : t.limit ≤ u.limit) (h2 : u.rest ≤ t.rest) {xs : List Int} {h : Int} (hm : maySignD t xs h = true) : maySignD u xs h = true := by
  unfold maySignD at *
  split at hm
  · rename_i hr
    rw [if_pos hr]
    rw [Bool.or_eq_true, decide_eq_true_eq, decide_eq_true_eq] at hm ⊢
    omega
  · rename_i hr
    rw [if_neg hr]
    rw [Bool.or_eq_true, decide_eq_true_eq] at hm ⊢
    rcases hm with hm | hm
    · left; omega
    · right
      rw [List.any_eq_true] at hm ⊢
      obtain ⟨y, hy, hp⟩ := hm
      refine ⟨y, ?_, hp⟩
      obtain ⟨i, hi⟩ := List.getElem?_of_mem hy
      rw [List.getElem?_drop] at hi
      refine List.mem_of_getElem? (i := i + (xs.length - t.limit.toNat) - (xs.length - u.limit.toNat)) ?_
      rw [List.getElem?_drop]
      rw [← hi]
      congr 1
      omega
theorem rightD_mono {t u : TaskD} (h1 : t.limit ≤ u.limit) (h2 : u.rest ≤ t.rest) {xs : List Int} (hr : rightD t xs = true) : rightD u xs = true := by
  unfold rightD rightTo at *
  rw [List.all_eq_true] at *
  exact fun i hi => maySign_mono h1 h2 (hr i hi)
theorem easier_facts {t : TaskD} {x : EaseD} (hx : okEase x = true) (hk : okTask t = true) {xs : List Int} (ho : okRota t xs = true) :
    (∃ a b c d, mistD t xs = (a, b, 0) ∧ mistD (easeT t x) xs = (c, d, 0) ∧ c ≤ a ∧ d ≤ b) ∧ (∃ r s, rightApiD t xs = (r, 0) ∧ rightApiD (easeT t x) xs = (s, 0) ∧ (r = true → s = true)) ∧
    (∀ ys m, planD t = some (ys, m) → ∃ zs n, planD (easeT t x) = some (zs, n) ∧ n ≤ m) := by
  have hu := easeT_ok hx hk
  have hp := okTask_parts hk
  have hxp := okEase_parts hx
  have ho' : okRota (easeT t x) xs = true := by
    unfold okRota at *
    rw [show (easeT t x).hands.length = t.hands.length from easeHs_len _ _]
    exact ho
  have h0 : ∀ p ∈ t.parts, 0 ≤ p := fun p hpp => (hp.2.2.2.1 p hpp).1
  have hq := okRota_parts ho
  have hle : ∀ hi, (afterD hi (easeT t x) (natsOf xs)).mis ≤ (afterD hi t (natsOf xs)).mis := fun hi => easy_le (easeT_easy hx hk) hp.1.2 (okTask_parts hu).1.2 h0 hq.2.2 (by rw [natsOf_len, hq.1]; exact Nat.le_refl _) hi
  have hlim : t.limit ≤ (easeT t x).limit := by simp only [easeT]; omega
  have hrest : (easeT t x).rest ≤ t.rest := by simp only [easeT]; omega
  refine ⟨⟨_, _, _, _, mistD_ok hk ho, mistD_ok hu ho', hle false, hle true⟩, ⟨rightD t xs, rightD (easeT t x) xs, ?_, ?_, fun h => rightD_mono hlim hrest h⟩, fun ys m hpl => ?_⟩
  · unfold rightApiD; rw [if_pos hk, if_pos ho]
  · unfold rightApiD; rw [if_pos hu, if_pos ho']
  · obtain ⟨ms, rfl, rfl, hl, hf, _⟩ := planD_some hk hpl
    have hfu : Fit (easeT t x) ms := ⟨fun h hh => by rw [show (easeT t x).hands.length = t.hands.length from easeHs_len _ _]; exact hf.1 h hh, fun i y hy => maySign_mono hlim hrest (hf.2 i y hy)⟩
    cases hq : planD (easeT t x) with
    | none => exact absurd hfu (planD_none hu hq ms hl)
    | some p =>
      obtain ⟨zs, n⟩ := p
      obtain ⟨_, _, _, _, _, hb⟩ := planD_some hu hq
      refine ⟨zs, n, rfl, ?_⟩
      have e : misOf (easeT t x) ms ≤ misOf t ms := easy_le (easeT_easy hx hk) hp.1.2 (okTask_parts hu).1.2 h0 hf.1 (Nat.le_of_eq hl) true
      have := hb ms hl hfu
      omega

end Go.Proofs.Ythlihchndmbkaaa
