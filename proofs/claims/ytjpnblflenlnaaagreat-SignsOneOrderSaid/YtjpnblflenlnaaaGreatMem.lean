/- Words for memory: slices of integers that read as lists. -/
import Derived.Test.YtjpnblflenlnaaaGreatProg
import Derived.Test.YtjpnblflenlnaaaGreatPlain
import Derived.WalkKit
import Derived.WalkSpells
import Derived.WalkLawsBesides
import Derived.Lib.Hide
namespace Go.Proofs.YtjpnblflenlnaaaGreat
open Go.RowKit

/-- the address A is the head of the integers xs, in blocks below B -/
def Ints (w : World) (B : Nat) (A : Option Addr) (xs : List Int) : Prop :=
  xs = [] ∨ ∃ b off, A = some ⟨b, off, none⟩ ∧ b < B ∧ ∀ j x, xs[j]? = some x → w.cell? ⟨b, off + j, none⟩ = some (.int .i64 x)

theorem Ints.at_ {w : World} {B : Nat} {A : Option Addr} {xs : List Int} (h : Ints w B A xs) {k : Nat} (hk : k < xs.length) :
    ∃ b off x, A = some ⟨b, off, none⟩ ∧ b < B ∧ w.cell? ⟨b, off + k, none⟩ = some (.int .i64 x) ∧ Hid (xs[k]? = some x) := by
  rcases h with rfl | ⟨b, off, rfl, hb, hc⟩
  · simp at hk
  · exact ⟨b, off, xs[k], rfl, hb, hc k _ (List.getElem?_eq_getElem hk), List.getElem?_eq_getElem hk⟩
theorem Ints.below {w w' : World} {B : Nat} {A : Option Addr} {xs : List Int} (h : Ints w B A xs) (hb : Below B w w') : Ints w' B A xs := by
  rcases h with rfl | ⟨b, off, rfl, hl, hc⟩
  · exact .inl rfl
  · exact .inr ⟨b, off, rfl, hl, fun j x hj => (hb.cell (p := ⟨b, off + j, none⟩) hl).trans (hc j x hj)⟩
theorem Ints.more {w : World} {B B' : Nat} {A : Option Addr} {xs : List Int} (h : Ints w B A xs) (hb : B ≤ B') : Ints w B' A xs := by
  rcases h with rfl | ⟨b, off, rfl, hl, hc⟩
  · exact .inl rfl
  · exact .inr ⟨b, off, rfl, by omega, hc⟩
theorem Ints.nil {w : World} {B : Nat} {A : Option Addr} : Ints w B A [] := .inl rfl
theorem ret_int {k : IntKind} {a b : Int} (h : a = b) : Ending.returned (.int k a) = .returned (.int k b) := by rw [h]
theorem ret_bool {a b : Bool} (h : a = b) : Ending.returned (.bool a) = .returned (.bool b) := by rw [h]
theorem Below.drewN_ {B : Nat} {a w : World} (h : Below B a w) (n : Nat) : Below B a (w.drewN n) := ⟨h.os, h.tape, h.output, h.size, h.block⟩
/-- an index that is 0 or more just where some element is met -/
def IndexPost (b : Bool) (w : World) (e : Ending) (w' : World) : Prop := ∃ n : Int, decide (0 ≤ n) = b ∧ e = .returned (.int .i64 n) ∧ w = w'
theorem inB_iff {n lo hi : Int} : inB n lo hi = true ↔ lo ≤ n ∧ n ≤ hi := by simp [inB]
theorem wrap_hands {r l : Int} (h : inB r (-1) 31 = true) (h' : inB l (-1) 31 = true) : wrap64 (r + l) = r + l := by
  rw [inB_iff] at h h'
  exact IntWalk.wrap64_in _ ⟨by omega, by omega⟩

/-- an owned row of integers is a slice of them -/
theorem own_form {w : World} {base e size n : Nat} {v : Value} {xs : List Value} (h : w.ownsRow base e size v n xs) : ∃ A cap, v = .slice A n cap := by
  rcases h.2 with ⟨rfl, rfl⟩ | ⟨g, cap, cur, rfl, _⟩
  · exact ⟨none, 0, rfl⟩
  · exact ⟨_, cap, rfl⟩
theorem own_ints {w : World} {base e n cap : Nat} {A : Option Addr} {xs : List Int} (h : w.ownsRow base e 1 (.slice A n cap) n (xs.map (Value.int .i64))) : Ints w w.heap.size A xs ∧ n = xs.length ∧ n ≤ cap := by
  obtain ⟨hl, h⟩ := h
  rw [List.length_map, Nat.mul_one] at hl
  rcases h with ⟨h1, h2⟩ | ⟨g, cap', cur, hv, _, hh, hn, _, hsz, htake⟩
  · injection h1 with _ _ h3
    subst h2
    have : xs = [] := List.eq_nil_of_length_eq_zero hl
    exact ⟨.inl this, by omega, by omega⟩
  · injection hv with h1 _ h3
    subst h1 h3
    refine ⟨.inr ⟨g, 0, rfl, ?_, fun j x hx => ?_⟩, by omega, by omega⟩
    · rcases Nat.lt_or_ge g w.heap.size with hlt | hge
      · exact hlt
      · rw [Array.getElem?_eq_none hge] at hh; cases hh
    · have hj : j < n := by rw [← hl]; exact lt_of_at hx
      simp only [World.cell?, hh]
      have h2 : (cur.toList.take (n * 1))[j]? = some (.int .i64 x) := by rw [htake, List.getElem?_map, hx]; rfl
      rw [List.getElem?_take_of_lt (by omega)] at h2
      simpa using h2
theorem own_ge {w : World} {base e size n : Nat} {v : Value} {xs : List Value} (h : w.ownsRow base e size v n xs) (q : Nat) (hq : v.ownBlock = some q) : base ≤ q := by
  rcases h.2 with ⟨rfl, _⟩ | ⟨g, cap, cur, rfl, h, _⟩
  · simp [Value.ownBlock] at hq
  · simp [Value.ownBlock] at hq; omega
/-- the integers xs lie at A, in blocks from lo on: new memory -/
def IntsF (w : World) (lo : Nat) (A : Option Addr) (xs : List Int) : Prop :=
  xs = [] ∨ ∃ b off, A = some ⟨b, off, none⟩ ∧ lo ≤ b ∧ b < w.heap.size ∧ ∀ j x, xs[j]? = some x → w.cell? ⟨b, off + j, none⟩ = some (.int .i64 x)
theorem IntsF.ints {w : World} {lo : Nat} {A : Option Addr} {xs : List Int} (h : IntsF w lo A xs) : Ints w w.heap.size A xs := by
  rcases h with rfl | ⟨b, off, rfl, _, hl, hc⟩
  · exact .inl rfl
  · exact .inr ⟨b, off, rfl, hl, hc⟩
theorem IntsF.mono {w : World} {lo lo' : Nat} {A : Option Addr} {xs : List Int} (h : IntsF w lo A xs) (hl : lo' ≤ lo) : IntsF w lo' A xs := by
  rcases h with rfl | ⟨b, off, rfl, h1, h2, hc⟩
  · exact .inl rfl
  · exact .inr ⟨b, off, rfl, by omega, h2, hc⟩
theorem IntsF.grow {w w' : World} {lo : Nat} {A : Option Addr} {xs : List Int} (h : IntsF w lo A xs) (hb : Below w.heap.size w w') : IntsF w' lo A xs := by
  rcases h with rfl | ⟨b, off, rfl, h1, h2, hc⟩
  · exact .inl rfl
  · exact .inr ⟨b, off, rfl, h1, by have := hb.size; omega, fun j x hj => (hb.cell (p := ⟨b, off + j, none⟩) h2).trans (hc j x hj)⟩
theorem IntsF.setCell {w : World} {lo : Nat} {A : Option Addr} {xs : List Int} (h : IntsF w lo A xs) {p : Addr} (hp : p.block < lo) (u : Value) : IntsF (w.setCell p u) lo A xs := by
  rcases h with rfl | ⟨b, off, rfl, h1, h2, hc⟩
  · exact .inl rfl
  · exact .inr ⟨b, off, rfl, h1, by simpa [World.setCell] using h2, fun j x hj => by
      rw [World.cell?_setCell_other w p ⟨b, off + j, none⟩ u (fun e => by subst e; simp at hp; omega)]
      exact hc j x hj⟩
theorem own_intsF {w : World} {base e n cap : Nat} {A : Option Addr} {xs : List Int} (h : w.ownsRow base e 1 (.slice A n cap) n (xs.map (Value.int .i64))) : IntsF w base A xs := by
  have h0 := (own_ints h).1
  rcases h0 with h1 | ⟨b, off, rfl, hl, hc⟩
  · exact .inl h1
  · exact .inr ⟨b, off, rfl, by have := own_ge h b rfl; exact this, hl, hc⟩
theorem below_grown {w wr w1 : World} {base e size n : Nat} {v : Value} {xs : List Value} (hb : Below base w wr) (hown : wr.ownsRow base e size v n xs) (hg : wr.grownBy w1 v.ownBlock) (hB : base ≤ wr.heap.size) : Below base w w1 :=
  hb.grown hg hB (fun k hk => by
    rcases hown.2 with ⟨rfl, _⟩ | ⟨g, cap, cur, rfl, h, _⟩
    · simp [Value.ownBlock] at hk
    · simp [Value.ownBlock] at hk; omega)

/-- block b of w is just the cells cs of element type t, none of them frozen -/
def BlockIs (w : World) (b : Nat) (t : TypeId) (cs : Array Value) : Prop := w.heap[b]? = some (.cells cs t (0, 0))
section
variable {w w' : World} {b : Nat} {t : TypeId} {cs : Array Value}
theorem BlockIs.lt (h : BlockIs w b t cs) : b < w.heap.size := by
  rcases Nat.lt_or_ge b w.heap.size with hlt | hge
  · exact hlt
  · unfold BlockIs at h; rw [Array.getElem?_eq_none hge] at h; cases h
theorem BlockIs.cell (h : BlockIs w b t cs) (j : Nat) : w.cell? ⟨b, j, none⟩ = cs[j]? := by
  unfold BlockIs at h; simp [World.cell?, h]
theorem BlockIs.frozen (h : BlockIs w b t cs) (j : Nat) : w.frozen? ⟨b, j, none⟩ = false := by
  unfold BlockIs at h; simp [World.frozen?, h]
theorem BlockIs.new (w : World) (t : TypeId) (cs : Array Value) : BlockIs (w.alloc (.cells cs t)) w.heap.size t cs := heap_alloc_new w _
theorem BlockIs.old (h : BlockIs w b t cs) (o : Obj) : BlockIs (w.alloc o) b t cs := (Below.heap_alloc w o b h.lt).trans h
theorem BlockIs.below {B : Nat} (h : BlockIs w b t cs) (hb : Below B w w') (hB : b < B) : BlockIs w' b t cs := (hb.block b hB).trans h
theorem BlockIs.grown {row : Option Nat} (h : BlockIs w b t cs) (hb : w.grownBy w' row) (hB : some b ≠ row) : BlockIs w' b t cs := (hb.block b h.lt hB).trans h
theorem BlockIs.far (h : BlockIs w b t cs) {p : Addr} (hp : b ≠ p.block) (u : Value) : BlockIs (w.setCell p u) b t cs := (Below.heap_setCell w p u b hp).trans h
theorem BlockIs.near (h : BlockIs w b t cs) (j : Nat) (u : Value) : BlockIs (w.setCell ⟨b, j, none⟩ u) b t (cs.setIfInBounds j u) := by
  unfold BlockIs at *
  simp [World.setCell, Array.getElem?_modify, h]
theorem BlockIs.drewN (h : BlockIs w b t cs) (n : Nat) : BlockIs (w.drewN n) b t cs := h
end

theorem results_form {fn : Func} (h : fn.results = #[.cell 2 24]) (t : Array Value) (W : World) (b : Nat) (v0 v1 v2 v3 v4 v5 : Value)
    (hb : BlockIs W b 24 #[v0, v1, v2, v3, v4, v5]) (ht : t.getD 2 undef = .pointer (some ⟨b, 0, none⟩)) :
    (results fn t).run Tryz.prog W = .ok (.agg #[v0, v1, v2, v3, v4, v5]) W := by
  have hc := hb.cell
  simp only [results, h]
  simp at ht
  simp [go_sem, ht, hc]
theorem results_form_tmp {fn : Func} (h : fn.results = #[.cell 2 24, .tmp 3]) (t : Array Value) (W : World) (b : Nat) (v0 v1 v2 v3 v4 v5 u : Value)
    (hb : BlockIs W b 24 #[v0, v1, v2, v3, v4, v5]) (ht : t.getD 2 undef = .pointer (some ⟨b, 0, none⟩)) (hu : t.getD 3 undef = u) :
    (results fn t).run Tryz.prog W = .ok (.tuple #[.agg #[v0, v1, v2, v3, v4, v5], u]) W := by
  have hc := hb.cell
  simp only [results, h]
  simp at ht hu
  simp [go_sem, ht, hc, hu]
theorem own_ne {w : World} {base e size n : Nat} {v : Value} {xs : List Value} (h : w.ownsRow base e size v n xs) {q : Nat} (hq : q < base) : v.ownBlock ≠ some q := by
  rcases h.2 with ⟨rfl, _⟩ | ⟨g, cap, cur, rfl, h, _⟩
  · simp [Value.ownBlock]
  · simp [Value.ownBlock]; omega

/-- nothing that was there has turned -/
def Grow (x y : World) : Prop := Below x.heap.size x y
theorem Grow.refl (x : World) : Grow x x := Below.refl _ _
theorem Grow.trans {x y z : World} (h : Grow x y) (k : Grow y z) : Grow x z := Below.trans h (Below.mono k h.size)
theorem Grow.trans' {x y z : World} (h : Grow x y) (k : Below x.heap.size y z) : Below x.heap.size x z := Below.trans h k
theorem Grow.setC {x y : World} (h : Grow x y) {p : Addr} (hp : x.heap.size ≤ p.block) (u : Value) : Grow x (y.setCell p u) := Below.setCell h hp u
theorem Grow.alloc (x : World) (o : Obj) : Grow x (x.alloc o) := (Below.refl _ _).alloc (Nat.le_refl _) _
theorem Grow.cell {x y : World} (h : Grow x y) {p : Addr} {v : Value} (hp : x.cell? p = some v) : y.cell? p = some v :=
  (Below.cell h (World.block_lt_of_cell? x _ hp)).trans hp
theorem Grow.block {x y : World} (h : Grow x y) {b : Nat} {t : TypeId} {cs : Array Value} (hp : BlockIs x b t cs) : BlockIs y b t cs := hp.below h hp.lt
theorem Grow.grown {x y : World} (h : Grow x y) : x.grownBy y none := ⟨h.os, h.tape, h.output, h.size, fun k hk _ => Below.block h k hk⟩
theorem Grow.of_drew {x y : World} (h : Grow x.drew y) : Grow x y := ⟨h.os, h.tape, h.output, h.size, fun k hk => Below.block h k hk⟩
theorem grown_none {x y : World} (h : x.grownBy y none) : Grow x y := ⟨h.os, h.tape, h.output, h.size, fun k hk => h.block k hk (by simp)⟩
theorem own_grow {x y : World} {base e size n : Nat} {v : Value} {xs : List Value} (h : x.ownsRow base e size v n xs) (g : Grow x y) : y.ownsRow base e size v n xs := by
  refine h.kept g.grown ?_
  cases hv : v.ownBlock
  · exact .inl rfl
  · exact .inr (by simp)
theorem Grow.frozen {x y : World} (h : Grow x y) {p : Addr} (hp : p.block < x.heap.size) : y.frozen? p = x.frozen? p := Below.frozen h hp
theorem news_one {w : World} {g : Nat} {t : TypeId} {u : Value} (h : BlockIs w g t #[u]) : ∀ j v, [u][j]? = some v → w.cell? ((⟨g, 0, none⟩ : Addr).add j) = some v := fun j v hv => by
  have : j = 0 ∧ v = u := by
    cases j with
    | zero => exact ⟨rfl, by simpa using hv.symm⟩
    | succ j => simp at hv
  obtain ⟨rfl, rfl⟩ := this
  simpa [Addr.add] using h.cell 0
theorem ints_block {w : World} {b : Nat} {t : TypeId} {xs : List Int} (h : BlockIs w b t (xs.map (Value.int .i64)).toArray) : Ints w w.heap.size (some ⟨b, 0, none⟩) xs := by
  refine .inr ⟨b, 0, rfl, h.lt, fun j x hx => ?_⟩
  rw [Nat.zero_add, h.cell j]
  simp [hx]
theorem okForm_move {f : FormD} (h : okForm f = true) (j : Nat) (x : Int) (hx : f.moves[j]? = some x) : 0 ≤ x ∧ x ≤ 7 := by
  simp only [okForm, Bool.and_eq_true] at h
  have h1 := h.2.2.2.2.2.2.2
  rw [movesOk, List.all_eq_true] at h1
  exact inB_iff.1 (h1 x (List.mem_of_getElem? hx))
theorem okForm_len {f : FormD} (h : okForm f = true) : f.moves.length ≤ 6 := by
  simp only [okForm, Bool.and_eq_true] at h
  simpa using h.2.2.2.2.2.2.1
theorem okForm_field {f : FormD} (h : okForm f = true) (j : Nat) (x : Int) (hx : (fieldsL f)[j]? = some x) : -31 ≤ x ∧ x ≤ 31 := by
  simp only [okForm, inB, Bool.and_eq_true, decide_eq_true_eq] at h
  match j, hx with
  | 0, hx | 1, hx | 2, hx | 3, hx | 4, hx => simp [fieldsL] at hx; omega
  | j + 5, hx => simp [fieldsL] at hx
/-- a call that leaves the world alone, in a region behind other draws -/
theorem quiet_left_add {P : Program} {f : FuncId} {args : Array Value} {w : World} {a n : Nat} {v : Value} (h : Calls P f args (w.drewN (a + n)) fun e w' => e = .returned v ∧ w.drewN (a + n) = w') :
    Calls P f args (w.drewN (a + n)) fun e w'' => e = .returned v ∧ ∃ m, w'' = w.drewN (a + m) := h.mono fun _ _ ⟨he, hm⟩ => ⟨he, n, hm.symm⟩

theorem one_block (w : World) (t1 : TypeId) (c1 : Array Value) : ∃ W, w.alloc (.cells c1 t1) = W ∧ Grow w W ∧ BlockIs W w.heap.size t1 c1 ∧ w.heap.size < W.heap.size :=
  ⟨_, rfl, Grow.alloc _ _, BlockIs.new _ _ _, by simp⟩
theorem two_blocks (w : World) (t1 t2 : TypeId) (c1 c2 : Array Value) : ∃ W, (w.alloc (.cells c1 t1)).alloc (.cells c2 t2) = W ∧ Grow w W ∧ BlockIs W w.heap.size t1 c1 ∧ BlockIs W (w.heap.size + 1) t2 c2 ∧ w.heap.size + 1 < W.heap.size :=
  ⟨_, rfl, (Grow.alloc _ _).trans (Grow.alloc _ _), (BlockIs.new _ _ _).old _, by have := BlockIs.new (w.alloc (.cells c1 t1)) t2 c2; rwa [World.size_alloc] at this, by simp⟩
theorem three_blocks (w : World) (t1 t2 t3 : TypeId) (c1 c2 c3 : Array Value) : ∃ W, ((w.alloc (.cells c1 t1)).alloc (.cells c2 t2)).alloc (.cells c3 t3) = W ∧ Grow w W ∧ BlockIs W w.heap.size t1 c1 ∧ BlockIs W (w.heap.size + 1) t2 c2 ∧
    BlockIs W (w.heap.size + 1 + 1) t3 c3 ∧ w.heap.size + 1 + 1 < W.heap.size := by
  obtain ⟨W, rfl, h1, h2, h3, h4⟩ := two_blocks w t1 t2 c1 c2
  refine ⟨_, rfl, h1.trans (Grow.alloc _ _), h2.old _, h3.old _, ?_, by simp⟩
  have := BlockIs.new ((w.alloc (.cells c1 t1)).alloc (.cells c2 t2)) t3 c3
  simpa using this
abbrev cellsF (f : FormD) (A : Option Addr) (cap : Nat) : Array Value := #[.int .i64 f.right, .int .i64 f.left, .int .i64 f.column, .int .i64 f.row, .int .i64 f.face, .slice A f.moves.length cap]
abbrev cells0 : Array Value := #[.int .i64 0, .int .i64 0, .int .i64 0, .int .i64 0, .int .i64 0, .slice none 0 0]
/-- the six cells of a form written one behind the other -/
theorem six_stores {w : World} {b : Nat} {t : TypeId} {c0 c1 c2 c3 c4 c5 : Value} (h : BlockIs w b t #[c0, c1, c2, c3, c4, c5]) (v0 v1 v2 v3 v4 v5 : Value) :
    BlockIs ((((((w.setCell ⟨b, 0, none⟩ v0).setCell ⟨b, 1, none⟩ v1).setCell ⟨b, 2, none⟩ v2).setCell ⟨b, 3, none⟩ v3).setCell ⟨b, 4, none⟩ v4).setCell ⟨b, 5, none⟩ v5) b t #[v0, v1, v2, v3, v4, v5] :=
  (((((h.near 0 v0).near 1 v1).near 2 v2).near 3 v3).near 4 v4).near 5 v5
theorem six_ints {w : World} {lo b : Nat} {A : Option Addr} {xs : List Int} (h : IntsF w lo A xs) (hb : b < lo) (v0 v1 v2 v3 v4 v5 : Value) :
    IntsF ((((((w.setCell ⟨b, 0, none⟩ v0).setCell ⟨b, 1, none⟩ v1).setCell ⟨b, 2, none⟩ v2).setCell ⟨b, 3, none⟩ v3).setCell ⟨b, 4, none⟩ v4).setCell ⟨b, 5, none⟩ v5) lo A xs :=
  (((((h.setCell (p := ⟨b, 0, none⟩) hb v0).setCell (p := ⟨b, 1, none⟩) hb v1).setCell (p := ⟨b, 2, none⟩) hb v2).setCell (p := ⟨b, 3, none⟩) hb v3).setCell (p := ⟨b, 4, none⟩) hb v4).setCell (p := ⟨b, 5, none⟩) hb v5
theorem six_below {w : World} {B b : Nat} (hb : B ≤ b) (v0 v1 v2 v3 v4 v5 : Value) :
    Below B w ((((((w.setCell ⟨b, 0, none⟩ v0).setCell ⟨b, 1, none⟩ v1).setCell ⟨b, 2, none⟩ v2).setCell ⟨b, 3, none⟩ v3).setCell ⟨b, 4, none⟩ v4).setCell ⟨b, 5, none⟩ v5) :=
  (((((((Below.refl B w).setCell (p := ⟨b, 0, none⟩) hb v0).setCell (p := ⟨b, 1, none⟩) hb v1).setCell (p := ⟨b, 2, none⟩) hb v2).setCell (p := ⟨b, 3, none⟩) hb v3).setCell (p := ⟨b, 4, none⟩) hb v4).setCell (p := ⟨b, 5, none⟩) hb v5)
/-- the same, with new memory -/
def IndexPostB (b : Bool) (w : World) (e : Ending) (w' : World) : Prop := ∃ n : Int, decide (0 ≤ n) = b ∧ e = .returned (.int .i64 n) ∧ Below w.heap.size w w'

end Go.Proofs.YtjpnblflenlnaaaGreat
