/- Words for memory: slices of integers that read as lists. Draws and new blocks only. append onto a row of the call's own: a slice of integers that reads as a list, whether nil, empty or not. '==' on pairs. -/
import Derived.Test.YthehkgpnnndboaaDoorProg
import Derived.Test.YthehkgpnnndboaaDoorPlain
import Derived.WalkKit
import Derived.WalkSpells
import Derived.WalkLawsBesides
import Derived.Lib.Hide
import Derived.Sort.Grow
import Derived.Laws.AppendOwnNone
import Derived.ChangeKeysEq
namespace Go.Proofs.YthehkgpnnndboaaDoor
open Go.RowKit

/-- the address A is the head of the integers xs, in blocks below B -/
def Ints (w : World) (B : Nat) (A : Option Addr) (xs : List Int) : Prop :=
  xs = [] ∨ ∃ b off, A = some ⟨b, off, none⟩ ∧ b < B ∧ ∀ j x, xs[j]? = some x → w.cell? ⟨b, off + j, none⟩ = some (.int .i64 x)

theorem Ints.at_ {w : World} {B : Nat} {A : Option Addr} {xs : List Int} (h : Ints w B A xs) {k : Nat} (hk : k < xs.length) :
    ∃ b off x, A = some ⟨b, off, none⟩ ∧ b < B ∧ w.cell? ⟨b, off + k, none⟩ = some (.int .i64 x) ∧ Hid (xs[k]? = some x) := by
  rcases h with rfl | ⟨b, off, rfl, hb, hc⟩
  · simp at hk
  · exact ⟨b, off, xs[k], rfl, hb, hc k _ (List.getElem?_eq_getElem hk), List.getElem?_eq_getElem hk⟩
theorem Ints.below {w w' : World} {B : Nat} {A : Option Addr} {xs : List Int} (h : Ints w B A xs) (hb : Below B w w') : Ints w' B A xs := by
  rcases h with rfl | ⟨b, off, rfl, hl, hc⟩
  · exact .inl rfl
  · exact .inr ⟨b, off, rfl, hl, fun j x hj => (hb.cell (p := ⟨b, off + j, none⟩) hl).trans (hc j x hj)⟩
theorem Ints.more {w : World} {B B' : Nat} {A : Option Addr} {xs : List Int} (h : Ints w B A xs) (hb : B ≤ B') : Ints w B' A xs := by
  rcases h with rfl | ⟨b, off, rfl, hl, hc⟩
  · exact .inl rfl
  · exact .inr ⟨b, off, rfl, by omega, hc⟩
theorem Ints.nil {w : World} {B : Nat} {A : Option Addr} : Ints w B A [] := .inl rfl
theorem ret_int {k : IntKind} {a b : Int} (h : a = b) : Ending.returned (.int k a) = .returned (.int k b) := by rw [h]
theorem ret_bool {a b : Bool} (h : a = b) : Ending.returned (.bool a) = .returned (.bool b) := by rw [h]
theorem Below.drewN_ {B : Nat} {a w : World} (h : Below B a w) (n : Nat) : Below B a (w.drewN n) := ⟨h.os, h.tape, h.output, h.size, h.block⟩
/-- an index that is 0 or more just where some element is met -/
def IndexPost (b : Bool) (w : World) (e : Ending) (w' : World) : Prop := ∃ n : Int, decide (0 ≤ n) = b ∧ e = .returned (.int .i64 n) ∧ w = w'
theorem inB_iff {n lo hi : Int} : inB n lo hi = true ↔ lo ≤ n ∧ n ≤ hi := by simp [inB]

/-- an owned row of integers is a slice of them -/
theorem own_form {w : World} {base e size n : Nat} {v : Value} {xs : List Value} (h : w.ownsRow base e size v n xs) : ∃ A cap, v = .slice A n cap := by
  rcases h.2 with ⟨rfl, rfl⟩ | ⟨g, cap, cur, rfl, _⟩
  · exact ⟨none, 0, rfl⟩
  · exact ⟨_, cap, rfl⟩
theorem own_ints {w : World} {base e n cap : Nat} {A : Option Addr} {xs : List Int} (h : w.ownsRow base e 1 (.slice A n cap) n (xs.map (Value.int .i64))) : Ints w w.heap.size A xs ∧ n = xs.length ∧ n ≤ cap := by
  obtain ⟨hl, h⟩ := h
  rw [List.length_map, Nat.mul_one] at hl
  rcases h with ⟨h1, h2⟩ | ⟨g, cap', cur, hv, _, hh, hn, _, hsz, htake⟩
  · injection h1 with _ _ h3
    subst h2
    have : xs = [] := List.eq_nil_of_length_eq_zero hl
    exact ⟨.inl this, by omega, by omega⟩
  · injection hv with h1 _ h3
    subst h1 h3
    refine ⟨.inr ⟨g, 0, rfl, ?_, fun j x hx => ?_⟩, by omega, by omega⟩
    · rcases Nat.lt_or_ge g w.heap.size with hlt | hge
      · exact hlt
      · rw [Array.getElem?_eq_none hge] at hh; cases hh
    · have hj : j < n := by rw [← hl]; exact lt_of_at hx
      simp only [World.cell?, hh]
      have h2 : (cur.toList.take (n * 1))[j]? = some (.int .i64 x) := by rw [htake, List.getElem?_map, hx]; rfl
      rw [List.getElem?_take_of_lt (by omega)] at h2
      simpa using h2
theorem own_ge {w : World} {base e size n : Nat} {v : Value} {xs : List Value} (h : w.ownsRow base e size v n xs) (q : Nat) (hq : v.ownBlock = some q) : base ≤ q := by
  rcases h.2 with ⟨rfl, _⟩ | ⟨g, cap, cur, rfl, h, _⟩
  · simp [Value.ownBlock] at hq
  · simp [Value.ownBlock] at hq; omega
/-- the integers xs lie at A, in blocks from lo on: new memory -/
def IntsF (w : World) (lo : Nat) (A : Option Addr) (xs : List Int) : Prop :=
  xs = [] ∨ ∃ b off, A = some ⟨b, off, none⟩ ∧ lo ≤ b ∧ b < w.heap.size ∧ ∀ j x, xs[j]? = some x → w.cell? ⟨b, off + j, none⟩ = some (.int .i64 x)
theorem IntsF.ints {w : World} {lo : Nat} {A : Option Addr} {xs : List Int} (h : IntsF w lo A xs) : Ints w w.heap.size A xs := by
  rcases h with rfl | ⟨b, off, rfl, _, hl, hc⟩
  · exact .inl rfl
  · exact .inr ⟨b, off, rfl, hl, hc⟩
theorem IntsF.mono {w : World} {lo lo' : Nat} {A : Option Addr} {xs : List Int} (h : IntsF w lo A xs) (hl : lo' ≤ lo) : IntsF w lo' A xs := by
  rcases h with rfl | ⟨b, off, rfl, h1, h2, hc⟩
  · exact .inl rfl
  · exact .inr ⟨b, off, rfl, by omega, h2, hc⟩
theorem IntsF.grow {w w' : World} {lo : Nat} {A : Option Addr} {xs : List Int} (h : IntsF w lo A xs) (hb : Below w.heap.size w w') : IntsF w' lo A xs := by
  rcases h with rfl | ⟨b, off, rfl, h1, h2, hc⟩
  · exact .inl rfl
  · exact .inr ⟨b, off, rfl, h1, by have := hb.size; omega, fun j x hj => (hb.cell (p := ⟨b, off + j, none⟩) h2).trans (hc j x hj)⟩
theorem IntsF.setCell {w : World} {lo : Nat} {A : Option Addr} {xs : List Int} (h : IntsF w lo A xs) {p : Addr} (hp : p.block < lo) (u : Value) : IntsF (w.setCell p u) lo A xs := by
  rcases h with rfl | ⟨b, off, rfl, h1, h2, hc⟩
  · exact .inl rfl
  · exact .inr ⟨b, off, rfl, h1, by simpa [World.setCell] using h2, fun j x hj => by
      rw [World.cell?_setCell_other w p ⟨b, off + j, none⟩ u (fun e => by subst e; simp at hp; omega)]
      exact hc j x hj⟩
theorem own_intsF {w : World} {base e n cap : Nat} {A : Option Addr} {xs : List Int} (h : w.ownsRow base e 1 (.slice A n cap) n (xs.map (Value.int .i64))) : IntsF w base A xs := by
  have h0 := (own_ints h).1
  rcases h0 with h1 | ⟨b, off, rfl, hl, hc⟩
  · exact .inl h1
  · exact .inr ⟨b, off, rfl, by have := own_ge h b rfl; exact this, hl, hc⟩
theorem below_grown {w wr w1 : World} {base e size n : Nat} {v : Value} {xs : List Value} (hb : Below base w wr) (hown : wr.ownsRow base e size v n xs) (hg : wr.grownBy w1 v.ownBlock) (hB : base ≤ wr.heap.size) : Below base w w1 :=
  hb.grown hg hB (fun k hk => by
    rcases hown.2 with ⟨rfl, _⟩ | ⟨g, cap, cur, rfl, h, _⟩
    · simp [Value.ownBlock] at hk
    · simp [Value.ownBlock] at hk; omega)

/-- block b of w is just the cells cs of element type t, none of them frozen -/
def BlockIs (w : World) (b : Nat) (t : TypeId) (cs : Array Value) : Prop := w.heap[b]? = some (.cells cs t (0, 0))
section
variable {w w' : World} {b : Nat} {t : TypeId} {cs : Array Value}
theorem BlockIs.lt (h : BlockIs w b t cs) : b < w.heap.size := by
  rcases Nat.lt_or_ge b w.heap.size with hlt | hge
  · exact hlt
  · unfold BlockIs at h; rw [Array.getElem?_eq_none hge] at h; cases h
theorem BlockIs.cell (h : BlockIs w b t cs) (j : Nat) : w.cell? ⟨b, j, none⟩ = cs[j]? := by
  unfold BlockIs at h; simp [World.cell?, h]
theorem BlockIs.frozen (h : BlockIs w b t cs) (j : Nat) : w.frozen? ⟨b, j, none⟩ = false := by
  unfold BlockIs at h; simp [World.frozen?, h]
theorem BlockIs.new (w : World) (t : TypeId) (cs : Array Value) : BlockIs (w.alloc (.cells cs t)) w.heap.size t cs := heap_alloc_new w _
theorem BlockIs.old (h : BlockIs w b t cs) (o : Obj) : BlockIs (w.alloc o) b t cs := (Below.heap_alloc w o b h.lt).trans h
theorem BlockIs.below {B : Nat} (h : BlockIs w b t cs) (hb : Below B w w') (hB : b < B) : BlockIs w' b t cs := (hb.block b hB).trans h
theorem BlockIs.grown {row : Option Nat} (h : BlockIs w b t cs) (hb : w.grownBy w' row) (hB : some b ≠ row) : BlockIs w' b t cs := (hb.block b h.lt hB).trans h
theorem BlockIs.far (h : BlockIs w b t cs) {p : Addr} (hp : b ≠ p.block) (u : Value) : BlockIs (w.setCell p u) b t cs := (Below.heap_setCell w p u b hp).trans h
theorem BlockIs.near (h : BlockIs w b t cs) (j : Nat) (u : Value) : BlockIs (w.setCell ⟨b, j, none⟩ u) b t (cs.setIfInBounds j u) := by
  unfold BlockIs at *
  simp [World.setCell, Array.getElem?_modify, h]
theorem BlockIs.drewN (h : BlockIs w b t cs) (n : Nat) : BlockIs (w.drewN n) b t cs := h
end

theorem own_ne {w : World} {base e size n : Nat} {v : Value} {xs : List Value} (h : w.ownsRow base e size v n xs) {q : Nat} (hq : q < base) : v.ownBlock ≠ some q := by
  rcases h.2 with ⟨rfl, _⟩ | ⟨g, cap, cur, rfl, h, _⟩
  · simp [Value.ownBlock]
  · simp [Value.ownBlock]; omega

/-- nothing that was there has turned -/
def Grow (x y : World) : Prop := Below x.heap.size x y
theorem Grow.refl (x : World) : Grow x x := Below.refl _ _
theorem Grow.trans {x y z : World} (h : Grow x y) (k : Grow y z) : Grow x z := Below.trans h (Below.mono k h.size)
theorem Grow.trans' {x y z : World} (h : Grow x y) (k : Below x.heap.size y z) : Below x.heap.size x z := Below.trans h k
theorem Grow.setC {x y : World} (h : Grow x y) {p : Addr} (hp : x.heap.size ≤ p.block) (u : Value) : Grow x (y.setCell p u) := Below.setCell h hp u
theorem Grow.alloc (x : World) (o : Obj) : Grow x (x.alloc o) := (Below.refl _ _).alloc (Nat.le_refl _) _
theorem Grow.cell {x y : World} (h : Grow x y) {p : Addr} {v : Value} (hp : x.cell? p = some v) : y.cell? p = some v :=
  (Below.cell h (World.block_lt_of_cell? x _ hp)).trans hp
theorem Grow.block {x y : World} (h : Grow x y) {b : Nat} {t : TypeId} {cs : Array Value} (hp : BlockIs x b t cs) : BlockIs y b t cs := hp.below h hp.lt
theorem Grow.grown {x y : World} (h : Grow x y) : x.grownBy y none := ⟨h.os, h.tape, h.output, h.size, fun k hk _ => Below.block h k hk⟩
theorem Grow.of_drew {x y : World} (h : Grow x.drew y) : Grow x y := ⟨h.os, h.tape, h.output, h.size, fun k hk => Below.block h k hk⟩
theorem grown_none {x y : World} (h : x.grownBy y none) : Grow x y := ⟨h.os, h.tape, h.output, h.size, fun k hk => h.block k hk (by simp)⟩
theorem own_grow {x y : World} {base e size n : Nat} {v : Value} {xs : List Value} (h : x.ownsRow base e size v n xs) (g : Grow x y) : y.ownsRow base e size v n xs := by
  refine h.kept g.grown ?_
  cases hv : v.ownBlock
  · exact .inl rfl
  · exact .inr (by simp)
theorem Grow.frozen {x y : World} (h : Grow x y) {p : Addr} (hp : p.block < x.heap.size) : y.frozen? p = x.frozen? p := Below.frozen h hp
theorem news_one {w : World} {g : Nat} {t : TypeId} {u : Value} (h : BlockIs w g t #[u]) : ∀ j v, [u][j]? = some v → w.cell? ((⟨g, 0, none⟩ : Addr).add j) = some v := fun j v hv => by
  have : j = 0 ∧ v = u := by
    cases j with
    | zero => exact ⟨rfl, by simpa using hv.symm⟩
    | succ j => simp at hv
  obtain ⟨rfl, rfl⟩ := this
  simpa [Addr.add] using h.cell 0
theorem ints_block {w : World} {b : Nat} {t : TypeId} {xs : List Int} (h : BlockIs w b t (xs.map (Value.int .i64)).toArray) : Ints w w.heap.size (some ⟨b, 0, none⟩) xs := by
  refine .inr ⟨b, 0, rfl, h.lt, fun j x hx => ?_⟩
  rw [Nat.zero_add, h.cell j]
  simp [hx]
/-- a call that leaves the world alone, in a region behind other draws -/
theorem quiet_left_add {P : Program} {f : FuncId} {args : Array Value} {w : World} {a n : Nat} {v : Value} (h : Calls P f args (w.drewN (a + n)) fun e w' => e = .returned v ∧ w.drewN (a + n) = w') :
    Calls P f args (w.drewN (a + n)) fun e w'' => e = .returned v ∧ ∃ m, w'' = w.drewN (a + m) := h.mono fun _ _ ⟨he, hm⟩ => ⟨he, n, hm.symm⟩

theorem one_block (w : World) (t1 : TypeId) (c1 : Array Value) : ∃ W, w.alloc (.cells c1 t1) = W ∧ Grow w W ∧ BlockIs W w.heap.size t1 c1 ∧ w.heap.size < W.heap.size :=
  ⟨_, rfl, Grow.alloc _ _, BlockIs.new _ _ _, by simp⟩
theorem two_blocks (w : World) (t1 t2 : TypeId) (c1 c2 : Array Value) : ∃ W, (w.alloc (.cells c1 t1)).alloc (.cells c2 t2) = W ∧ Grow w W ∧ BlockIs W w.heap.size t1 c1 ∧ BlockIs W (w.heap.size + 1) t2 c2 ∧ w.heap.size + 1 < W.heap.size :=
  ⟨_, rfl, (Grow.alloc _ _).trans (Grow.alloc _ _), (BlockIs.new _ _ _).old _, by have := BlockIs.new (w.alloc (.cells c1 t1)) t2 c2; rwa [World.size_alloc] at this, by simp⟩
theorem three_blocks (w : World) (t1 t2 t3 : TypeId) (c1 c2 c3 : Array Value) : ∃ W, ((w.alloc (.cells c1 t1)).alloc (.cells c2 t2)).alloc (.cells c3 t3) = W ∧ Grow w W ∧ BlockIs W w.heap.size t1 c1 ∧ BlockIs W (w.heap.size + 1) t2 c2 ∧
    BlockIs W (w.heap.size + 1 + 1) t3 c3 ∧ w.heap.size + 1 + 1 < W.heap.size := by
  obtain ⟨W, rfl, h1, h2, h3, h4⟩ := two_blocks w t1 t2 c1 c2
  refine ⟨_, rfl, h1.trans (Grow.alloc _ _), h2.old _, h3.old _, ?_, by simp⟩
  have := BlockIs.new ((w.alloc (.cells c1 t1)).alloc (.cells c2 t2)) t3 c3
  simpa using this
abbrev cells0 : Array Value := #[.int .i64 0, .int .i64 0, .int .i64 0, .int .i64 0, .int .i64 0, .slice none 0 0]
/-- the six cells of a form written one behind the other -/
theorem six_stores {w : World} {b : Nat} {t : TypeId} {c0 c1 c2 c3 c4 c5 : Value} (h : BlockIs w b t #[c0, c1, c2, c3, c4, c5]) (v0 v1 v2 v3 v4 v5 : Value) :
    BlockIs ((((((w.setCell ⟨b, 0, none⟩ v0).setCell ⟨b, 1, none⟩ v1).setCell ⟨b, 2, none⟩ v2).setCell ⟨b, 3, none⟩ v3).setCell ⟨b, 4, none⟩ v4).setCell ⟨b, 5, none⟩ v5) b t #[v0, v1, v2, v3, v4, v5] :=
  (((((h.near 0 v0).near 1 v1).near 2 v2).near 3 v3).near 4 v4).near 5 v5
theorem six_ints {w : World} {lo b : Nat} {A : Option Addr} {xs : List Int} (h : IntsF w lo A xs) (hb : b < lo) (v0 v1 v2 v3 v4 v5 : Value) :
    IntsF ((((((w.setCell ⟨b, 0, none⟩ v0).setCell ⟨b, 1, none⟩ v1).setCell ⟨b, 2, none⟩ v2).setCell ⟨b, 3, none⟩ v3).setCell ⟨b, 4, none⟩ v4).setCell ⟨b, 5, none⟩ v5) lo A xs :=
  (((((h.setCell (p := ⟨b, 0, none⟩) hb v0).setCell (p := ⟨b, 1, none⟩) hb v1).setCell (p := ⟨b, 2, none⟩) hb v2).setCell (p := ⟨b, 3, none⟩) hb v3).setCell (p := ⟨b, 4, none⟩) hb v4).setCell (p := ⟨b, 5, none⟩) hb v5
theorem six_below {w : World} {B b : Nat} (hb : B ≤ b) (v0 v1 v2 v3 v4 v5 : Value) :
    Below B w ((((((w.setCell ⟨b, 0, none⟩ v0).setCell ⟨b, 1, none⟩ v1).setCell ⟨b, 2, none⟩ v2).setCell ⟨b, 3, none⟩ v3).setCell ⟨b, 4, none⟩ v4).setCell ⟨b, 5, none⟩ v5) :=
  (((((((Below.refl B w).setCell (p := ⟨b, 0, none⟩) hb v0).setCell (p := ⟨b, 1, none⟩) hb v1).setCell (p := ⟨b, 2, none⟩) hb v2).setCell (p := ⟨b, 3, none⟩) hb v3).setCell (p := ⟨b, 4, none⟩) hb v4).setCell (p := ⟨b, 5, none⟩) hb v5)
/-- the same, with new memory -/
def IndexPostB (b : Bool) (w : World) (e : Ending) (w' : World) : Prop := ∃ n : Int, decide (0 ≤ n) = b ∧ e = .returned (.int .i64 n) ∧ Below w.heap.size w w'

end Go.Proofs.YthehkgpnnndboaaDoor

namespace Go.Proofs.YthehkgpnnndboaaDoor
open Go.RowKit

/-- draws and new blocks, no more -/
def Grew (x y : World) : Prop := Grow x y ∧ x.drawn ≤ y.drawn
theorem Grew.refl (x : World) : Grew x x := ⟨Grow.refl _, Nat.le_refl _⟩
theorem Grew.trans {x y z : World} (h : Grew x y) (k : Grew y z) : Grew x z := ⟨h.1.trans k.1, Nat.le_trans h.2 k.2⟩
theorem Grew.alloc (x : World) (o : Obj) : Grew x (x.alloc o) := ⟨Grow.alloc _ _, Nat.le_refl _⟩
theorem Grew.of_drew {x y : World} (h : Grew x.drew y) : Grew x y := ⟨h.1.of_drew, Nat.le_trans (Nat.le_succ _) h.2⟩
theorem Grew.form {x y : World} (h : Grew x y) : ∃ q os, y = Go.Sort.grow (x.drewN q) os := by
  obtain ⟨⟨h1, h2, h3, h4, h5⟩, h6⟩ := h
  refine ⟨y.drawn - x.drawn, y.heap.extract x.heap.size y.heap.size, ?_⟩
  obtain ⟨xh, xt, xd, xo, xu⟩ := x
  obtain ⟨yh, yt, yd, yo, yu⟩ := y
  dsimp only at *
  subst h1 h2 h3
  simp only [Go.Sort.grow, World.drewN, World.mk.injEq, true_and, and_true]
  refine ⟨?_, by omega⟩
  refine Array.ext_getElem? fun k => ?_
  rcases Nat.lt_or_ge k xh.size with hk | hk
  · rw [Array.getElem?_append_left hk]; exact h5 k hk
  · rw [Array.getElem?_append_right hk, Array.getElem?_extract]
    by_cases hy : k < yh.size
    · rw [if_pos (by omega)]; congr 1; omega
    · rw [if_neg (by omega), Array.getElem?_eq_none (by omega)]
theorem Grew.of_form {x : World} (q : Nat) (os : Array Obj) : Grew x (Go.Sort.grow (x.drewN q) os) :=
  ⟨⟨rfl, rfl, rfl, by simp [World.drewN], fun k hk => by rw [Go.Sort.heap_grow_old]; rfl; exact hk⟩, Nat.le_add_right _ _⟩

end Go.Proofs.YthehkgpnnndboaaDoor

namespace Go.Proofs.YthehkgpnnndboaaDoor
open Go.RowKit
section
variable {P : Program}

theorem run_append_nothing (w : World) (base : Nat) (t ty e : TypeId) (i : TypeInfo) (size : Nat) (ht : P.underlying t = some (.slice e)) (hi : P.info? e = some i)
    (v : Value) (n : Nat) (xs : List Value) (hown : w.ownsRow base e size v n xs) (c : Nat) : (Builtin.append_ #[t, t] ty #[v, .slice none 0 c]).run P w = .ok v w := by
  obtain ⟨_, h | h⟩ := hown
  · obtain ⟨rfl, _⟩ := h
    simp [Builtin.append_, run_underlying ht, Builtin.lenOf, Builtin.firstCells, sizeOf, typeInfo, hi]
  · obtain ⟨g, k, cs, rfl, _, _, hle, _⟩ := h
    simp [Builtin.append_, run_underlying ht, Builtin.lenOf, Builtin.firstCells, sizeOf, typeInfo, hi, hle, storeCells]

theorem wpList_append_ints {w : World} {ops : Array Oper} {rest : List Oper} {o : Oper} {a : Act} {Q : Exit → Act → World → Prop} (hgd : o.guard = none) (s x : Operand) (t : TypeId)
    (ho : o.op = .call { callee := .builtin .append, args := #[s, x], argTypes := #[t, t] })
    (base : Nat) (e : TypeId) (i : TypeInfo) (z : Value) (bytes : Nat) (ht : P.underlying t = some (.slice e)) (hi : P.info? e = some i) (hz : i.zero = some z)
    (hsize : i.size = 1) (hby : i.bytes = bytes) (hzs : z.cells.size = 1)
    (v : Value) (n : Nat) (xs : List Value) (hs : a.eval s = v) (hown : w.ownsRow base e 1 v n xs)
    (A : Option Addr) (m c B : Nat) (ys : List Int) (hx : a.eval x = .slice A m c) (hm : m = ys.length) (hr : Ints w B A ys)
    (h63 : n + m ≤ maxLen) (hbytes : (n + m) * bytes ≤ 140737488355328) (hbase : base ≤ w.heap.size)
    (h : ∀ v' w', w'.ownsRow base e 1 v' (n + m) (xs ++ ys.map (Value.int .i64)) → w.grownBy w' v.ownBlock → wpList P ops Q rest (a.put o.dst v') w') : wpList P ops Q (o :: rest) a w := by
  subst hm
  cases A with
  | none =>
    have hn : ys = [] := by
      rcases hr with h | ⟨_, _, h, _⟩
      · exact h
      · cases h
    subst hn
    refine wpList_plain hgd fun K hK => ?_
    have hrun := run_append_nothing (P := P) w base t o.type e i 1 ht hi v n xs hown c
    have h1 := hK _ _ (h v w (by simpa using hown) (World.grownBy.refl w _))
    unfold Oper.wp
    simp at hx
    simp [execOp, ho, resolve, invoke, builtin, hs, hx, hrun, Result.andThen]
    exact h1
  | some ad =>
    refine wpList_append_own w hgd s x t ho base e i z 1 bytes ht hi hz hsize hby hzs (by omega) v n xs hs hown ad ys.length c (ys.map (Value.int .i64)) hx (by simp) ?_ (by simp [Value.oneCell']) h63 hbytes hbase
      (fun v' w' h1 h2 _ => h v' w' h1 h2)
    intro j u hu
    rcases hr with h | ⟨b, off, h1, _, h2⟩
    · subst h; simp at hu
    · injection h1 with h1
      subst h1
      rw [List.getElem?_map] at hu
      cases hy : ys[j]? with
      | none => rw [hy] at hu; cases hu
      | some y =>
        rw [hy] at hu
        have hu : Value.int .i64 y = u := by simpa using hu
        subst hu
        have := h2 j y hy
        unfold Addr.add
        by_cases h0 : j = 0
        · subst h0; simpa using this
        · rw [if_neg h0]; exact this
end
end Go.Proofs.YthehkgpnnndboaaDoor

namespace Go.Proofs.YthehkgpnnndboaaDoor
open Go.RowKit

theorem cellsOf_int : Tryd.prog.cellsOf 3 = 1 := by kernel_rfl
theorem infoInt_ : ∃ i, Tryd.prog.info? 3 = some i := by
  have : (Tryd.prog.info? 3).isSome = true := by kernel_rfl
  exact Option.isSome_iff_exists.1 this

end Go.Proofs.YthehkgpnnndboaaDoor

