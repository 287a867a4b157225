/- MoreM: with more people no covered slot is uncovered; one person less in a safe watch. -/
import Derived.Test.YtcgnibfcjadnjaaWorksP
namespace Go.Proofs.Ytcgnibfcjadnjaa
open Go.RowKit

theorem covered_more {p : Pool} (G : Good p) {s g h : Nat} (hs : s < p.needs.length) (hh : h < 32) (hsub : subN g h = true) (hc : coveredD p s g = true) : coveredD p s h = true := by
  have hg : g < 32 := Nat.lt_of_le_of_lt (sub_le hsub) hh
  exact (covered_iff G hs hh).2 (((covered_iff G hs hg).1 hc).more G hh hsub)
theorem safe_at {p : Pool} {gs : List Nat} {s g : Nat} (h : safeD p gs = true) (hg : gs[s]? = some g) : coveredD p s g = true := by
  unfold safeD at h
  have := List.all_eq_true.1 h s (List.mem_range.2 (List.getElem?_eq_some_iff.1 hg).1)
  rwa [List.getD_eq_getElem?_getD, hg] at this
theorem safe_of {p : Pool} {gs : List Nat} (h : ∀ s g, gs[s]? = some g → coveredD p s g = true) : safeD p gs = true := by
  unfold safeD
  rw [List.all_eq_true]
  intro s hs
  have hlt := List.mem_range.1 hs
  rw [List.getD_eq_getElem?_getD, List.getElem?_eq_getElem hlt]
  exact h s _ (List.getElem?_eq_getElem hlt)
theorem safe_more {p : Pool} (G : Good p) {gs hs : List Nat} (hg : Watch p gs) (hh : Watch p hs) (hsub : ∀ (s g h : Nat), gs[s]? = some g → hs[s]? = some h → subN g h = true) (h : safeD p gs = true) : safeD p hs = true := by
  refine safe_of fun s x hx => ?_
  have hlt : s < gs.length := by
    have := (List.getElem?_eq_some_iff.1 hx).1
    rw [hg.len, ← hh.len]
    exact this
  have e := List.getElem?_eq_getElem hlt
  exact covered_more G (by rw [← hg.len]; exact hlt) (hh.g32 G hx) (hsub s _ x e hx) (safe_at h e)
theorem times_set : ∀ {l : List Nat} {s g x : Nat} (i : Nat), l[s]? = some g → subN x g = true → timesL (l.set s x) i ≤ timesL l i
  | [], s, g, x, i, h, _ => by simp at h
  | y :: l, 0, g, x, i, h, hx => by
    obtain rfl : y = g := by simpa using h
    rw [List.set_cons_zero, times_cons, times_cons]
    have := sub_iff.1 hx i
    cases h1 : hasN x i with
    | false => simp
    | true => rw [this h1]; simp
  | y :: l, s + 1, g, x, i, h, hx => by
    rw [List.set_cons_succ, times_cons, times_cons]
    have := times_set (l := l) i (by simpa using h) hx
    omega
theorem watch_less {p : Pool} {gs : List Nat} (h : Watch p gs) {s g x : Nat} (hg : gs[s]? = some g) (hx : subN x g = true) : Watch p (gs.set s x) := by
  refine ⟨by rw [List.length_set]; exact h.len, fun t y hy => ?_, fun i hi => Nat.le_trans (times_set i hg hx) (h.few i hi)⟩
  by_cases e : s = t
  · subst e
    rw [List.getElem?_set_self (List.getElem?_eq_some_iff.1 hg).1] at hy
    obtain rfl := Option.some.inj hy
    exact sub_trans hx (h.able s g hg)
  · rw [List.getElem?_set_ne e] at hy
    exact h.able t y hy
theorem safe_less {p : Pool} {gs : List Nat} {s x : Nat} (h : safeD p gs = true) (hs : s < gs.length) : safeD p (gs.set s x) = coveredD p s x := by
  cases hc : coveredD p s x with
  | true =>
    refine safe_of fun t y hy => ?_
    by_cases e : s = t
    · subst e
      rw [List.getElem?_set_self hs] at hy
      obtain rfl := Option.some.inj hy
      exact hc
    · rw [List.getElem?_set_ne e] at hy
      exact safe_at h hy
  | false =>
    cases hq : safeD p (gs.set s x) with
    | false => rfl
    | true =>
      have := safe_at hq (List.getElem?_set_self hs)
      rw [this] at hc
      cases hc
theorem diff_not : ∀ g < 32, ∀ i < 5, hasN g i = false → diffN g (2 ^ i) = g := by decide +kernel
theorem diff_has : ∀ g < 32, ∀ i < 5, hasN g i = true → diffN g (2 ^ i) + 2 ^ i = g := by decide +kernel
theorem has_bit : ∀ g < 32, ∀ i < 5, g / 2 ^ i % 2 = if hasN g i then 1 else 0 := by decide +kernel
theorem miss_step {p : Pool} (G : Good p) {gs : List Nat} (hw : Watch p gs) {s g i : Nat} (h : safeD p gs = true) (hg : gs[s]? = some g) (hi : i < p.folk.length) : missTo p gs (s + 1) i = missTo p gs s i + if hasN g i && !coveredD p s (diffN g (2 ^ i)) then 1 else 0 := by
  show missTo p gs s i + (if missOne p (gs.getD s 0) s i then 1 else 0) = _
  have h32 := hw.g32 G hg
  have hi5 : i < 5 := by have := G.f5; omega
  rw [List.getD_eq_getElem?_getD, hg, Option.getD_some]
  unfold missOne
  have hc := safe_at h hg
  rw [hc, Bool.true_and]
  cases hh : hasN g i with
  | true => rw [Bool.true_and]
  | false => rw [diff_not g h32 i hi5 hh, hc]; rfl
/-- how often a person is missed, as the law counts -/
def cntF (p : Pool) (gs : List Nat) (b : Bool) (s i : Nat) : Nat := if b then missTo p gs s i else 0
theorem cntF_le (p : Pool) (gs : List Nat) (b : Bool) (s i : Nat) : cntF p gs b s i ≤ s := by
  unfold cntF
  split
  · exact missTo_le p gs i s
  · omega
theorem missed_at {p : Pool} (gs : List Nat) {i : Nat} (h : i < p.folk.length) : (intCells (natsL (missedD p gs)))[i]? = some (.int .i64 (missTo p gs gs.length i : Nat)) := by
  simp [intCells, natsL, missedD, h]
/-- a row of integers of the call's own, as a block -/
theorem own_block {w : World} {base n cap : Nat} {A : Option Addr} {xs : List Int} (h : w.ownsRow base 3 1 (.slice A n cap) n (xs.map (Value.int .i64))) (h0 : 0 < n) : ∃ g cur, A = some ⟨g, 0, none⟩ ∧ base ≤ g ∧ BlockIs w g 3 cur ∧ ∀ (i : Nat) (x : Int), xs[i]? = some x → cur[i]? = some (Value.int .i64 x) := by
  have h' := h
  rcases h.2 with ⟨_, e2⟩ | ⟨g, c, cur, hv, hg, hh, _⟩
  · omega
  · injection hv with e1 e2 e3
    subst e1 e3
    have hB : BlockIs w g 3 cur := hh
    refine ⟨g, cur, rfl, hg, hB, fun i x hi => ?_⟩
    have hc := World.ownsRow.cells (g := g) h' rfl i (.int .i64 x) (by rw [List.getElem?_map, hi]; rfl)
    rwa [show (⟨g, 0, none⟩ : Addr).add i = ⟨g, i, none⟩ by (simp [Addr.add]; try omega), hB.cell] at hc
theorem own_mono {w : World} {base base' e size n : Nat} {v : Value} {xs : List Value} (h : w.ownsRow base e size v n xs) (hb : base' ≤ base) : w.ownsRow base' e size v n xs := by
  refine ⟨h.1, ?_⟩
  rcases h.2 with h2 | ⟨g, c, cur, hv, hg, r⟩
  · exact .inl h2
  · exact .inr ⟨g, c, cur, hv, Nat.le_trans hb hg, r⟩
theorem ints_news {w : World} {B : Nat} {ad : Addr} {xs : List Int} (h : Ints w B (some ad) xs) : ∀ (j : Nat) (v : Value), (xs.map (Value.int .i64))[j]? = some v → w.cell? (ad.add j) = some v := by
  intro j v hj
  rcases h with rfl | ⟨b, off, e, _, hc⟩
  · simp at hj
  · injection e with e
    subst e
    rw [List.getElem?_map] at hj
    cases hx : xs[j]? with
    | none => rw [hx] at hj; cases hj
    | some x =>
      rw [hx] at hj
      obtain rfl : Value.int .i64 x = v := by simpa using hj
      rw [show (⟨b, off, none⟩ : Addr).add j = ⟨b, off + j, none⟩ by (simp [Addr.add]; try omega)]
      exact hc j x hx
theorem set_ints {w : World} {g : Nat} {cur : Array Value} {xs : List Nat} {s v : Nat} (hb : BlockIs w g 3 cur) (hc : ∀ (i : Nat) (x : Int), (natsL xs)[i]? = some x → cur[i]? = some (Value.int .i64 x)) (hs : s < xs.length) : Ints (w.setCell ⟨g, s, none⟩ (.int .i64 (v : Nat))) (w.setCell ⟨g, s, none⟩ (.int .i64 (v : Nat))).heap.size (some ⟨g, 0, none⟩) (natsL (xs.set s v)) := by
  have hn := hb.near s (.int .i64 (v : Nat))
  refine .inr ⟨g, 0, rfl, hn.lt, fun j x hj => ?_⟩
  rw [Nat.zero_add, hn.cell]
  rw [← natsL_set] at hj
  by_cases e : s = j
  · subst e
    rw [List.getElem?_set_self (by rw [natsL_length]; exact hs)] at hj
    obtain rfl := Option.some.inj hj
    have := hc s _ (natsL_at (List.getElem?_eq_getElem hs))
    rw [Array.getElem?_setIfInBounds_self_of_lt (Array.getElem?_eq_some_iff.1 this).1]
  · rw [List.getElem?_set_ne e] at hj
    rw [Array.getElem?_setIfInBounds_ne e]
    exact hc j x hj

end Go.Proofs.Ytcgnibfcjadnjaa
