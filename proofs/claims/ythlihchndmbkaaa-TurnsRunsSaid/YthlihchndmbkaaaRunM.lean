/- RunM: what the specification's Run asks of a course, and what it leaves; rows of its own. -/
import Derived.Test.YthlihchndmbkaaaCourseM
namespace Go.Proofs.Ythlihchndmbkaaa
open Go.RowKit

/-- a course that Run can follow: as long as the rota, its numbers in bounds -/
structure RunOK (t : TaskD) (rota : List Nat) (st : List Int) (steps : List (List Int)) : Prop where
  ok : okTask t = true
  hands : ∀ h ∈ rota, h < t.hands.length
  len : rota.length ≤ t.parts.length
  l1 : st.length = t.hands.length
  l2 : steps.length = rota.length
  l3 : ∀ r ∈ steps, List.length r = t.hands.length
  b1 : ∀ v ∈ st, 0 ≤ v ∧ v ≤ 100
  b2 : ∀ r ∈ steps, ∀ v ∈ r, 0 ≤ v ∧ v ≤ 20
def stF (st : List Int) (k : Nat) : Int := st.getD k 0
def spF (steps : List (List Int)) (i k : Nat) : Int := (steps.getD i []).getD k 0
abbrev runF (rota : List Nat) (st : List Int) (steps : List (List Int)) : Nat → Nat → Int := runW (stF st) (spF steps) rota
theorem getD_mem {α : Type} {l : List α} {i : Nat} {d : α} (h : i < l.length) : l.getD i d ∈ l := by
  rw [getD_at (List.getElem?_eq_getElem h)]
  exact List.getElem_mem h
theorem RunOK.step {t : TaskD} {rota : List Nat} {st : List Int} {steps : List (List Int)} (h : RunOK t rota st steps) {i k : Nat} (hi : i < rota.length) (hk : k < t.hands.length) : 0 ≤ spF steps i k ∧ spF steps i k ≤ 20 := by
  have h1 := getD_mem (d := ([] : List Int)) (show i < steps.length by rw [h.l2]; exact hi)
  exact h.b2 _ h1 _ (getD_mem (by rw [h.l3 _ h1]; exact hk))
theorem RunOK.wear {t : TaskD} {rota : List Nat} {st : List Int} {steps : List (List Int)} (h : RunOK t rota st steps) : ∀ i, i ≤ rota.length → ∀ k, k < t.hands.length → 0 ≤ runF rota st steps i k ∧ runF rota st steps i k ≤ 100 + 20 * (i : Int)
  | 0, _, k, hk => by
    have := h.b1 _ (getD_mem (d := 0) (show k < st.length by rw [h.l1]; exact hk))
    show 0 ≤ stF st k ∧ stF st k ≤ 100 + 20 * ((0 : Nat) : Int)
    unfold stF
    omega
  | i + 1, hi, k, hk => by
    have ih := h.wear i (by omega) k hk
    have hs := h.step (show i < rota.length by omega) hk
    show 0 ≤ (if rota[i]? = some k then runF rota st steps i k + spF steps i k else max 0 (runF rota st steps i k - spF steps i k)) ∧ (if rota[i]? = some k then runF rota st steps i k + spF steps i k else max 0 (runF rota st steps i k - spF steps i k)) ≤ _
    split <;> omega
theorem RunOK.part {t : TaskD} {rota : List Nat} {st : List Int} {steps : List (List Int)} (h : RunOK t rota st steps) {i : Nat} (hi : i < rota.length) : 0 ≤ partM t (runF rota st steps) rota i ∧ partM t (runF rota st steps) rota i ≤ 5000 := by
  have hp := okTask_parts h.ok
  have hr : rota.getD i 0 < t.hands.length := h.hands _ (getD_mem hi)
  have hw := h.wear i (by omega) _ hr
  have hl : (i : Int) ≤ 9 := by have := h.len; omega
  have hpt := hp.2.2.2.1 _ (getD_mem (d := 0) (show i < t.parts.length by have := h.len; omega))
  have hsl : 0 ≤ slipAt t (rota.getD i 0) ∧ slipAt t (rota.getD i 0) ≤ 100 := by
    unfold slipAt
    rw [List.getElem?_eq_getElem hr]
    have := okHand_parts (hp.2.1 _ (List.getElem_mem hr))
    dsimp only
    omega
  unfold partM
  have := mul_le hpt.1 hpt.2 (a := slipAt t (rota.getD i 0) + runF rota st steps i (rota.getD i 0)) (by omega) (by omega)
  split <;> omega
theorem RunOK.mist {t : TaskD} {rota : List Nat} {st : List Int} {steps : List (List Int)} (h : RunOK t rota st steps) : ∀ i, i ≤ rota.length → 0 ≤ runM t (runF rota st steps) rota i ∧ runM t (runF rota st steps) rota i ≤ 5000 * (i : Int)
  | 0, _ => ⟨Int.le_refl _, by show (0 : Int) ≤ 5000 * ((0 : Nat) : Int); decide⟩
  | i + 1, hi => by
    have ih := h.mist i (by omega)
    have hp := h.part (show i < rota.length by omega)
    show 0 ≤ runM t _ rota i + partM t _ rota i ∧ runM t _ rota i + partM t _ rota i ≤ _
    omega
/-- the weariness of all hands before the part i -/
def wearRow (n : Nat) (W : Nat → Nat → Int) (i : Nat) : List Int := (List.range n).map (W i)
/-- and while the part i is worked off: the first h hands have gone on -/
def wearMid (n : Nat) (W : Nat → Nat → Int) (i h : Nat) : List Int := (List.range n).map fun k => if k < h then W (i + 1) k else W i k
theorem wearMid_zero (n : Nat) (W : Nat → Nat → Int) (i : Nat) : wearMid n W i 0 = wearRow n W i := by simp [wearMid, wearRow]
theorem wearMid_all (n : Nat) (W : Nat → Nat → Int) (i : Nat) : wearMid n W i n = wearRow n W (i + 1) := by
  unfold wearMid wearRow
  exact List.map_congr_left fun k hk => by rw [if_pos (List.mem_range.1 hk)]
theorem wearMid_len (n : Nat) (W : Nat → Nat → Int) (i h : Nat) : (wearMid n W i h).length = n := by simp [wearMid]
theorem wearMid_at {n : Nat} {W : Nat → Nat → Int} {i h k : Nat} (hk : k < n) : (wearMid n W i h)[k]? = some (if k < h then W (i + 1) k else W i k) := by simp [wearMid, hk]
theorem wearMid_set (n : Nat) (W : Nat → Nat → Int) (i h : Nat) (hh : h < n) : (wearMid n W i h).set h (W (i + 1) h) = wearMid n W i (h + 1) := by
  refine List.ext_getElem? fun k => ?_
  by_cases hk : k < n
  · by_cases e : h = k
    · subst e
      rw [List.getElem?_set_self (by rw [wearMid_len]; exact hh), wearMid_at hk, if_pos (by omega)]
    · rw [List.getElem?_set_ne e, wearMid_at hk, wearMid_at hk]
      by_cases g : k < h
      · rw [if_pos g, if_pos (by omega)]
      · rw [if_neg g, if_neg (by omega)]
  · rw [List.getElem?_eq_none (by rw [List.length_set, wearMid_len]; omega), List.getElem?_eq_none (by rw [wearMid_len]; omega)]

/-- integers in a block of integers that lies at lo or behind it -/
def IntsT (w : World) (lo : Nat) (A : Option Addr) (xs : List Int) : Prop :=
  xs = [] ∨ ∃ b cs, A = some ⟨b, 0, none⟩ ∧ lo ≤ b ∧ BlockIs w b 3 cs ∧ ∀ (i : Nat) (x : Int), xs[i]? = some x → cs[i]? = some (Value.int .i64 x)
theorem IntsT.grow {w w' : World} {lo : Nat} {A : Option Addr} {xs : List Int} (h : IntsT w lo A xs) (hg : Grow w w') : IntsT w' lo A xs := by
  rcases h with h | ⟨b, cs, e, h1, h2, h3⟩
  · exact .inl h
  · exact .inr ⟨b, cs, e, h1, hg.block h2, h3⟩
theorem IntsT.grown {w w' : World} {lo : Nat} {A : Option Addr} {xs : List Int} (h : IntsT w lo A xs) {base e size n : Nat} {v : Value} {ys : List Value} (ho : w.ownsRow base e size v n ys) (he : 3 ≠ e) (hg : w.grownBy w' v.ownBlock) : IntsT w' lo A xs := by
  rcases h with h | ⟨b, cs, e', h1, h2, h3⟩
  · exact .inl h
  · exact .inr ⟨b, cs, e', h1, h2.grown hg (fun q => own_type ho h2 he q.symm), h3⟩
theorem IntsT.far {w : World} {lo : Nat} {A : Option Addr} {xs : List Int} (h : IntsT w lo A xs) {p : Addr} (hp : p.block < lo) (v : Value) : IntsT (w.setCell p v) lo A xs := by
  rcases h with h | ⟨b, cs, e, h1, h2, h3⟩
  · exact .inl h
  · exact .inr ⟨b, cs, e, h1, h2.far (by omega) v, h3⟩
theorem IntsT.ints {w : World} {lo : Nat} {A : Option Addr} {xs : List Int} (h : IntsT w lo A xs) : Ints w w.heap.size A xs := by
  rcases h with h | ⟨b, cs, e, h1, h2, h3⟩
  · exact .inl h
  · exact .inr ⟨b, 0, e, h2.lt, fun i x hi => by rw [Nat.zero_add, h2.cell]; exact h3 i x hi⟩
theorem own_row {w : World} {base cap : Nat} {A : Option Addr} {xs : List Int} (h : w.ownsRow base 3 1 (.slice A xs.length cap) xs.length (xs.map (Value.int .i64))) (h0 : 0 < xs.length) : ∃ g, A = some ⟨g, 0, none⟩ ∧ base ≤ g ∧ RowAt w g cap xs ∧ xs.length ≤ cap := by
  have h' := h
  rcases h.2 with ⟨e, e2⟩ | ⟨g, c, cur, hv, hg, hh, h2, h3, h4, h5⟩
  · omega
  · injection hv with e1 e2 e3
    subst e1 e3
    refine ⟨g, rfl, hg, ⟨cur, hh, by omega, fun i x hi => ?_⟩, h2⟩
    have hc := World.ownsRow.cells (g := g) h' rfl i (.int .i64 x) (by rw [List.getElem?_map, hi]; rfl)
    have hB : BlockIs w g 3 cur := hh
    rw [show (⟨g, 0, none⟩ : Addr).add i = ⟨g, i, none⟩ by (simp [Addr.add]; try omega), hB.cell] at hc
    exact hc
theorem own_intsT {w : World} {base cap : Nat} {A : Option Addr} {xs : List Int} (h : w.ownsRow base 3 1 (.slice A xs.length cap) xs.length (xs.map (Value.int .i64))) (h0 : 0 < xs.length) : IntsT w base A xs := by
  obtain ⟨g, e, hg, ⟨cs, h1, _, h3⟩, _⟩ := own_row h h0
  exact .inr ⟨g, cs, e, hg, h1, h3⟩
abbrev rowV (r : RowR) : Value := .slice r.A r.xs.length r.c
theorem own_rows {w : World} {base cap : Nat} {A : Option Addr} {R : List RowR} (h : w.ownsRow base 23 1 (.slice A R.length cap) R.length (R.map rowV)) {lo : Nat} (hr : ∀ r ∈ R, IntsT w lo r.A r.xs) : RowsAt w w.heap.size A R := by
  refine ⟨?_, fun r hr' => (hr r hr').ints⟩
  have h' := h
  rcases h.2 with ⟨e, e2⟩ | ⟨g, c, cur, hv, hg, hh, h2, h3, h4, h5⟩
  · exact .inl (List.eq_nil_of_length_eq_zero e2)
  · injection hv with e1 e2 e3
    subst e1 e3
    refine .inr ⟨g, 0, rfl, (Array.getElem?_eq_some_iff.1 hh).1, fun i r hi => ?_⟩
    have hc := World.ownsRow.cells (g := g) h' rfl i (rowV r) (by rw [List.getElem?_map, hi]; rfl)
    rw [show (⟨g, 0, none⟩ : Addr).add i = ⟨g, 0 + i, none⟩ by (simp [Addr.add]; try omega)] at hc
    exact hc
theorem RowAt.set {w : World} {b r : Nat} {xs : List Int} (h : RowAt w b r xs) {k : Nat} (hk : k < xs.length) (hr : k < r) (x : Int) : RowAt (w.setCell ⟨b, k, none⟩ (.int .i64 x)) b r (xs.set k x) := by
  obtain ⟨cs, h1, h2, h3⟩ := h
  refine ⟨_, h1.near k (.int .i64 x), by rw [Array.size_setIfInBounds]; exact h2, fun i y hi => ?_⟩
  rw [Array.getElem?_setIfInBounds]
  by_cases e : k = i
  · subst e
    rw [List.getElem?_set_self hk] at hi
    obtain rfl := Option.some.inj hi
    rw [if_pos rfl, if_pos (by omega)]
  · rw [List.getElem?_set_ne e] at hi
    rw [if_neg e]
    exact h3 i y hi
theorem Try.infoInts : (Try.prog.info? 23).map (fun i => (i.zero, i.size, i.bytes)) = some (some (.slice none 0 0), 1, 24) := by kernel_rfl

end Go.Proofs.Ythlihchndmbkaaa
