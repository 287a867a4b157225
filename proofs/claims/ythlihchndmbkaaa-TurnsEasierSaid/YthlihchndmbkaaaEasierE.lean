/- EasierE: the memory of TurnsEasier. -/
import Derived.Test.YthlihchndmbkaaaEasierM
namespace Go.Proofs.Ythlihchndmbkaaa
open Go.RowKit

abbrev cellsZ (x : EaseD) : Array Value := #[.int .i64 x.hand, .int .i64 x.start, .int .i64 x.tire, .int .i64 x.ease, .int .i64 x.slip, .int .i64 x.limit, .int .i64 x.rest]
abbrev easeV (x : EaseD) : Value := .agg (cellsZ x)
/-- the law's memory: the task, how much easier, the copied task, its hands and its parts -/
structure EnvE (w0 w : World) (t : TaskR) (x : EaseD) (u : TaskR) (bt bx bu b lo : Nat) (cs : Array Value) : Prop where
  grow : Grow w0 w
  old : w0.heap.size ≤ bt ∧ w0.heap.size ≤ bx ∧ w0.heap.size ≤ bu ∧ w0.heap.size ≤ b
  ne : bt ≠ bx ∧ bt ≠ bu ∧ bt ≠ b ∧ bx ≠ bu ∧ bx ≠ b ∧ bu ≠ b
  tb : BlockIs w bt 25 (cellsT t)
  xb : BlockIs w bx 49 (cellsZ x)
  ub : BlockIs w bu 25 (cellsT u)
  hb : BlockIs w b 52 cs
  lt : b < lo ∧ lo ≤ bu
  ints : IntsL w lo bu u.B u.d.parts
theorem EnvE.go {w0 w w' : World} {t : TaskR} {x : EaseD} {u : TaskR} {bt bx bu b lo : Nat} {cs : Array Value} (h : EnvE w0 w t x u bt bx bu b lo cs) (g : Grow w w') : EnvE w0 w' t x u bt bx bu b lo cs :=
  ⟨h.grow.trans g, h.old, h.ne, g.block h.tb, g.block h.xb, g.block h.ub, g.block h.hb, h.lt, h.ints.below (Below.mono g (Nat.le_of_lt h.ub.lt))⟩
/-- a store in another block -/
theorem EnvE.far {w0 w : World} {t : TaskR} {x : EaseD} {u : TaskR} {bt bx bu b lo : Nat} {cs : Array Value} (h : EnvE w0 w t x u bt bx bu b lo cs) {q : Nat} (hq : bu < q) (h1 : q ≠ bt) (h2 : q ≠ bx) (j : Nat) (v : Value) : EnvE w0 (w.setCell ⟨q, j, none⟩ v) t x u bt bx bu b lo cs := by
  have hl := h.lt
  have ho := h.old
  refine ⟨h.grow.setC (p := ⟨q, j, none⟩) (by show w0.heap.size ≤ q; omega) v, h.old, h.ne, h.tb.far (p := ⟨q, j, none⟩) h1.symm v, h.xb.far (p := ⟨q, j, none⟩) h2.symm v, h.ub.far (p := ⟨q, j, none⟩) (by show bu ≠ q; omega) v, h.hb.far (p := ⟨q, j, none⟩) (by show b ≠ q; omega) v, h.lt, h.ints.setCell (p := ⟨q, j, none⟩) (.inr (Nat.le_of_lt hq)) v⟩
/-- a store among the hands -/
theorem EnvE.hand {w0 w : World} {t : TaskR} {x : EaseD} {u : TaskR} {bt bx bu b lo : Nat} {cs : Array Value} (h : EnvE w0 w t x u bt bx bu b lo cs) (j : Nat) (v : Value) : EnvE w0 (w.setCell ⟨b, j, none⟩ v) t x u bt bx bu b lo (cs.setIfInBounds j v) := by
  have hn := h.ne
  exact ⟨h.grow.setC (p := ⟨b, j, none⟩) h.old.2.2.2 v, h.old, h.ne, h.tb.far (p := ⟨b, j, none⟩) hn.2.2.1 v, h.xb.far (p := ⟨b, j, none⟩) hn.2.2.2.2.1 v, h.ub.far (p := ⟨b, j, none⟩) hn.2.2.2.2.2 v, h.hb.near j v, h.lt, h.ints.setCell (p := ⟨b, j, none⟩) (.inl h.lt.1) v⟩
/-- a store in the copied task -/
theorem EnvE.task {w0 w : World} {t : TaskR} {x : EaseD} {u : TaskR} {bt bx bu b lo : Nat} {cs : Array Value} (h : EnvE w0 w t x u bt bx bu b lo cs) (j : Nat) (v : Value) (u' : TaskR) (hu : (cellsT u).setIfInBounds j v = cellsT u') (e1 : u'.B = u.B) (e2 : u'.d.parts = u.d.parts) : EnvE w0 (w.setCell ⟨bu, j, none⟩ v) t x u' bt bx bu b lo cs := by
  have hn := h.ne
  have hub := h.ub.near j v
  rw [hu] at hub
  exact ⟨h.grow.setC (p := ⟨bu, j, none⟩) h.old.2.2.1 v, h.old, h.ne, h.tb.far (p := ⟨bu, j, none⟩) hn.2.1 v, h.xb.far (p := ⟨bu, j, none⟩) hn.2.2.2.1 v, hub, h.hb.far (p := ⟨bu, j, none⟩) hn.2.2.2.2.2.symm v, h.lt, by rw [e1, e2]; exact h.ints.setCell (p := ⟨bu, j, none⟩) (.inr (Nat.le_refl _)) v⟩
def HandsIn (cs : Array Value) (hs : List HandD) : Prop := ∀ i x, hs[i]? = some x → ∀ j, j < 7 → cs[i * 7 + j]? = (cellsH x)[j]?
theorem EnvE.taskAt {w0 w : World} {t : TaskR} {x : EaseD} {u : TaskR} {bt bx bu b lo : Nat} {cs : Array Value} (h : EnvE w0 w t x u bt bx bu b lo cs) (hA : u.A = some ⟨b, 0, none⟩) (hc : HandsIn cs u.d.hands) : TaskAt w w.heap.size u :=
  ⟨.inr ⟨b, 0, hA, h.hb.lt, fun i y hi j hj => by rw [h.hb.cell, Nat.zero_add]; exact hc i y hi j hj⟩, h.ints.ints (Nat.le_of_lt h.ub.lt)⟩
theorem handsIn_set {cs : Array Value} {hs : List HandD} (h : HandsIn cs hs) {k : Nat} (hk : k < hs.length) (y : HandD) :
    HandsIn (((((((cs.setIfInBounds (k * 7) (.int .i64 y.s0)).setIfInBounds (k * 7 + 1) (.int .i64 y.s1)).setIfInBounds (k * 7 + 2) (.int .i64 y.t0)).setIfInBounds (k * 7 + 3) (.int .i64 y.t1)).setIfInBounds (k * 7 + 4) (.int .i64 y.e0)).setIfInBounds (k * 7 + 5) (.int .i64 y.e1)).setIfInBounds (k * 7 + 6) (.int .i64 y.slip)) (hs.set k y) := by
  have hsz : k * 7 + 6 < cs.size := by
    have := h k _ (List.getElem?_eq_getElem hk) 6 (by omega)
    exact (Array.getElem?_eq_some_iff.1 (this.trans (show _ = some (.int .i64 hs[k].slip) from rfl))).1
  intro i z hi j hj
  by_cases e : i = k
  · subst e
    rw [List.getElem?_set_self hk] at hi
    obtain rfl := Option.some.inj hi
    match j, hj with
    | 0, _ | 1, _ | 2, _ | 3, _ | 4, _ | 5, _ | 6, _ =>
      simp only [Array.getElem?_setIfInBounds, Array.size_setIfInBounds]
      repeat (first | rw [if_pos trivial] | rw [if_pos (by omega)] | rw [if_neg (by omega)])
      rfl
  · rw [List.getElem?_set_ne (Ne.symm e)] at hi
    have hlt := lt_of_at hi
    rw [← h i z hi j hj]
    simp only [Array.getElem?_setIfInBounds]
    repeat rw [if_neg (by omega)]
/-- other hands in the place of those of the copied task, as many -/
theorem EnvE.hands {w0 w : World} {t : TaskR} {x : EaseD} {ps : List Int} {l1 : List HandD} {A B : Option Addr} {ca cb : Nat} {lim rest swap : Int} {bt bx bu b lo : Nat} {cs : Array Value} (h : EnvE w0 w t x ⟨⟨l1, ps, lim, rest, swap⟩, A, ca, B, cb⟩ bt bx bu b lo cs) {l2 : List HandD} (hl : l2.length = l1.length) : EnvE w0 w t x ⟨⟨l2, ps, lim, rest, swap⟩, A, ca, B, cb⟩ bt bx bu b lo cs :=
  ⟨h.grow, h.old, h.ne, h.tb, h.xb, (show BlockIs w bu 25 #[.slice A l2.length ca, .slice B ps.length cb, .int .i64 lim, .int .i64 rest, .int .i64 swap] by rw [hl]; exact h.ub), h.hb, h.lt, h.ints⟩
theorem hand_put0 {w : World} {b : Nat} {t : TypeId} {s0 s1 t0 t1 c0 c1 sl : Int} (h : BlockIs w b t (cellsH ⟨s0, s1, t0, t1, c0, c1, sl⟩)) {v0 v1 m0 m1 : Int} (e0 : v0 = m0) (e1 : v1 = m1) : BlockIs ((w.setCell ⟨b, 0, none⟩ (.int .i64 v0)).setCell ⟨b, 1, none⟩ (.int .i64 v1)) b t (cellsH ⟨m0, m1, t0, t1, c0, c1, sl⟩) := by
  subst e0; subst e1
  exact (h.near 0 _).near 1 _
theorem hand_put2 {w : World} {b : Nat} {t : TypeId} {s0 s1 t0 t1 c0 c1 sl : Int} (h : BlockIs w b t (cellsH ⟨s0, s1, t0, t1, c0, c1, sl⟩)) {v0 v1 m0 m1 : Int} (e0 : v0 = m0) (e1 : v1 = m1) : BlockIs ((w.setCell ⟨b, 2, none⟩ (.int .i64 v0)).setCell ⟨b, 3, none⟩ (.int .i64 v1)) b t (cellsH ⟨s0, s1, m0, m1, c0, c1, sl⟩) := by
  subst e0; subst e1
  exact (h.near 2 _).near 3 _
theorem hand_put4 {w : World} {b : Nat} {t : TypeId} {s0 s1 t0 t1 c0 c1 sl : Int} (h : BlockIs w b t (cellsH ⟨s0, s1, t0, t1, c0, c1, sl⟩)) {v0 v1 m0 m1 : Int} (e0 : v0 = m0) (e1 : v1 = m1) : BlockIs ((w.setCell ⟨b, 4, none⟩ (.int .i64 v0)).setCell ⟨b, 5, none⟩ (.int .i64 v1)) b t (cellsH ⟨s0, s1, t0, t1, m0, m1, sl⟩) := by
  subst e0; subst e1
  exact (h.near 4 _).near 5 _
theorem hand_put6 {w : World} {b : Nat} {t : TypeId} {s0 s1 t0 t1 c0 c1 sl : Int} (h : BlockIs w b t (cellsH ⟨s0, s1, t0, t1, c0, c1, sl⟩)) {v0 m0 : Int} (e0 : v0 = m0) : BlockIs (w.setCell ⟨b, 6, none⟩ (.int .i64 v0)) b t (cellsH ⟨s0, s1, t0, t1, c0, c1, m0⟩) := by
  subst e0
  exact h.near 6 _
theorem task_put2 {A B : Option Addr} {ca cb : Nat} {hs : List HandD} {ps : List Int} {lim rst swap v m : Int} (e : v = m) : (cellsT ⟨⟨hs, ps, lim, rst, swap⟩, A, ca, B, cb⟩).setIfInBounds 2 (.int .i64 v) = cellsT ⟨⟨hs, ps, m, rst, swap⟩, A, ca, B, cb⟩ := by
  subst e
  rfl
theorem task_put3 {A B : Option Addr} {ca cb : Nat} {hs : List HandD} {ps : List Int} {lim rst swap v m : Int} (e : v = m) : (cellsT ⟨⟨hs, ps, lim, rst, swap⟩, A, ca, B, cb⟩).setIfInBounds 3 (.int .i64 v) = cellsT ⟨⟨hs, ps, lim, m, swap⟩, A, ca, B, cb⟩ := by
  subst e
  rfl

end Go.Proofs.Ythlihchndmbkaaa
