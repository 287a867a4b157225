/- Keeps: what the search of turns.task.plan changes in memory. BuildR: the relations between the worlds of plan$1's two regions that draw their order. -/
import Derived.Test.YthlihchndmbkaaaClone
import Derived.Test.YthlihchndmbkaaaPlanD
namespace Go.Proofs.Ythlihchndmbkaaa
open Go.RowKit

/-- nothing below lo has changed but the blocks x, y, z -/
structure Keeps (lo x y z : Nat) (w w' : World) : Prop where
  os : w'.os = w.os
  tape : w'.tape = w.tape
  output : w'.output = w.output
  size : w.heap.size ≤ w'.heap.size
  block : ∀ k, k < lo → k ≠ x → k ≠ y → k ≠ z → w'.heap[k]? = w.heap[k]?
theorem Keeps.refl (lo x y z : Nat) (w : World) : Keeps lo x y z w w := ⟨rfl, rfl, rfl, Nat.le_refl _, fun _ _ _ _ _ => rfl⟩
theorem Keeps.trans {lo x y z : Nat} {a b c : World} (h : Keeps lo x y z a b) (k : Keeps lo x y z b c) : Keeps lo x y z a c :=
  ⟨k.os.trans h.os, k.tape.trans h.tape, k.output.trans h.output, Nat.le_trans h.size k.size, fun i hi h1 h2 h3 => (k.block i hi h1 h2 h3).trans (h.block i hi h1 h2 h3)⟩
theorem Keeps.of_below {lo x y z : Nat} {w w' : World} (h : Below lo w w') : Keeps lo x y z w w' := ⟨h.os, h.tape, h.output, h.size, fun k hk _ _ _ => h.block k hk⟩
theorem Keeps.of_grow {lo x y z : Nat} {w w' : World} (h : Grow w w') (hl : lo ≤ w.heap.size) : Keeps lo x y z w w' := .of_below (Below.mono h hl)
theorem Keeps.is {lo x y z : Nat} {w w' : World} (h : Keeps lo x y z w w') {b : Nat} {t : TypeId} {cs : Array Value} (hb : BlockIs w b t cs) (hl : b < lo) (h1 : b ≠ x) (h2 : b ≠ y) (h3 : b ≠ z) : BlockIs w' b t cs :=
  (h.block b hl h1 h2 h3).trans hb
theorem Keeps.setCell {lo x y z : Nat} {w w' : World} (h : Keeps lo x y z w w') {p : Addr} (hp : p.block = x ∨ p.block = y ∨ p.block = z ∨ lo ≤ p.block) (v : Value) : Keeps lo x y z w (w'.setCell p v) :=
  ⟨h.os, h.tape, h.output, by simpa using h.size, fun k hk h1 h2 h3 => (Below.heap_setCell w' p v k (by omega)).trans (h.block k hk h1 h2 h3)⟩
theorem Keeps.below {lo x y z n : Nat} {w w' : World} (h : Keeps lo x y z w w') (hn : n ≤ lo) (h1 : n ≤ x) (h2 : n ≤ y) (h3 : n ≤ z) : Below n w w' :=
  ⟨h.os, h.tape, h.output, h.size, fun k hk => h.block k (by omega) (by omega) (by omega) (by omega)⟩

/-- the row of a beginning: room for r numbers, of which the first are xs -/
def RowAt (w : World) (b r : Nat) (xs : List Int) : Prop := ∃ cs : Array Value, BlockIs w b 3 cs ∧ cs.size = r ∧ ∀ (i : Nat) (x : Int), xs[i]? = some x → cs[i]? = some (Value.int .i64 x)
theorem RowAt.keep {w w' : World} {b r : Nat} {xs : List Int} (h : RowAt w b r xs) (e : w'.heap[b]? = w.heap[b]?) : RowAt w' b r xs := by
  obtain ⟨cs, h1, h2, h3⟩ := h
  exact ⟨cs, e.trans h1, h2, h3⟩
theorem RowAt.lt {w : World} {b r : Nat} {xs : List Int} (h : RowAt w b r xs) : b < w.heap.size := h.choose_spec.1.lt
theorem RowAt.ints {w : World} {b r n : Nat} {xs : List Int} (h : RowAt w b r xs) (hb : b < n) : Ints w n (some ⟨b, 0, none⟩) xs := by
  obtain ⟨cs, h1, _, h3⟩ := h
  exact .inr ⟨b, 0, rfl, hb, fun i x hi => by rw [Nat.zero_add, h1.cell]; exact h3 i x hi⟩
theorem RowAt.back {w : World} {b r : Nat} {xs ys : List Int} (h : RowAt w b r (xs ++ ys)) : RowAt w b r xs := by
  obtain ⟨cs, h1, h2, h3⟩ := h
  refine ⟨cs, h1, h2, fun i x hi => h3 i x ?_⟩
  rw [List.getElem?_append_left (lt_of_at hi)]
  exact hi
theorem RowAt.put {w : World} {b r : Nat} {xs : List Int} (h : RowAt w b r xs) (hl : xs.length < r) (x : Int) : RowAt (w.setCell ⟨b, xs.length, none⟩ (.int .i64 x)) b r (xs ++ [x]) := by
  obtain ⟨cs, h1, h2, h3⟩ := h
  refine ⟨_, h1.near xs.length (.int .i64 x), by rw [Array.size_setIfInBounds]; exact h2, fun i y hi => ?_⟩
  rw [Array.getElem?_setIfInBounds]
  by_cases e : xs.length = i
  · subst e
    rw [if_pos rfl, if_pos (by omega)]
    simp at hi
    rw [hi]
  · rw [if_neg e]
    have hlt := lt_of_at hi
    rw [List.length_append] at hlt
    simp at hlt
    rw [List.getElem?_append_left (by omega)] at hi
    exact h3 i y hi

/-- the best rota so far, in the two variables of plan -/
def BestAt (w : World) (lo br bw : Nat) : BestD → Prop
  | none => BlockIs w br 23 #[.slice none 0 0] ∧ ∃ v, BlockIs w bw 3 #[.int .i64 v]
  | some (xs, m) => (∃ b off cap, BlockIs w br 23 #[.slice (some ⟨b, off, none⟩) xs.length cap] ∧ IntsFc w lo (some ⟨b, off, none⟩) cap xs) ∧ BlockIs w bw 3 #[.int .i64 m]
theorem BestAt.grow {w w' : World} {lo br bw : Nat} {best : BestD} (h : BestAt w lo br bw best) (hg : Grow w w') : BestAt w' lo br bw best := by
  match best, h with
  | none, ⟨h1, v, h2⟩ => exact ⟨hg.block h1, v, hg.block h2⟩
  | some (xs, m), ⟨⟨b, off, cap, h1, h2⟩, h3⟩ => exact ⟨⟨b, off, cap, hg.block h1, h2.grow hg⟩, hg.block h3⟩
theorem BestAt.setCell {w : World} {lo br bw : Nat} {best : BestD} (h : BestAt w lo br bw best) {p : Addr} (hp : p.block < lo) (h1' : br ≠ p.block) (h2' : bw ≠ p.block) (v : Value) : BestAt (w.setCell p v) lo br bw best := by
  match best, h with
  | none, ⟨h1, u, h2⟩ => exact ⟨h1.far h1' v, u, h2.far h2' v⟩
  | some (xs, m), ⟨⟨b, off, cap, h1, h2⟩, h3⟩ => exact ⟨⟨b, off, cap, h1.far h1' v, h2.setCell hp v⟩, h3.far h2' v⟩

/-- one hand tried after the others -/
def tryD (t : TaskD) (n : Nat) (first : List Int) (s : StD) (b : BestD) (h : Nat) : BestD := if maySignD t first h = true then buildD t n (first ++ [(h : Int)]) (signD true t s h) b else b
def triedD (t : TaskD) (n : Nat) (first : List Int) (s : StD) (b : BestD) (k : Nat) : BestD := (List.range k).foldl (tryD t n first s) b
theorem triedD_succ (t : TaskD) (n : Nat) (first : List Int) (s : StD) (b : BestD) (k : Nat) : triedD t n first s b (k + 1) = tryD t n first s (triedD t n first s b k) k := by
  unfold triedD
  rw [List.range_succ, List.foldl_append]
  rfl
/-- whether a beginning is given up: it is no better than the best rota so far -/
def overD (best : BestD) (s : StD) : Bool := match best with
  | some (_, m) => decide (m ≤ s.mis)
  | none => false
theorem buildD_over {t : TaskD} {n : Nat} {first : List Int} {s : StD} {best : BestD} (h : overD best s = true) : buildD t n first s best = best := by
  match best, h with
  | some (r, m), h =>
    have h' : m ≤ s.mis := of_decide_eq_true h
    cases n with
    | zero => unfold buildD; dsimp only; rw [if_pos h']
    | succ n => unfold buildD; dsimp only; rw [if_pos h']
theorem buildD_zero {t : TaskD} {first : List Int} {s : StD} {best : BestD} (h : overD best s = false) : buildD t 0 first s best = some (first, s.mis) := by
  match best, h with
  | none, _ => rfl
  | some (r, m), h =>
    have h' : ¬ m ≤ s.mis := of_decide_eq_false h
    unfold buildD; dsimp only; rw [if_neg h']
theorem buildD_succ {t : TaskD} {n : Nat} {first : List Int} {s : StD} {best : BestD} (h : overD best s = false) : buildD t (n + 1) first s best = triedD t n first s best t.hands.length := by
  match best, h with
  | none, _ => rfl
  | some (r, m), h =>
    have h' : ¬ m ≤ s.mis := of_decide_eq_false h
    unfold buildD; dsimp only; rw [if_neg h']
    rfl

end Go.Proofs.Ythlihchndmbkaaa

namespace Go.Proofs.Ythlihchndmbkaaa
open Go.RowKit

/-- region 8 up to the closure's call: new blocks, and one number more behind the beginning -/
structure R8 (bf r : Nat) (xs ys : List Int) (x y : World) : Prop where
  grown : x.grownBy y (some bf)
  row : RowAt x bf r xs → RowAt y bf r xs
  more : RowAt x bf r ys → RowAt y bf r ys
theorem R8.refl (bf r : Nat) (xs ys : List Int) (x : World) : R8 bf r xs ys x x := ⟨World.grownBy.refl x _, id, id⟩
theorem R8.trans {bf r : Nat} {xs ys : List Int} {x y z : World} (h : R8 bf r xs ys x y) (k : R8 bf r xs ys y z) : R8 bf r xs ys x z :=
  ⟨⟨k.grown.os.trans h.grown.os, k.grown.tape.trans h.grown.tape, k.grown.output.trans h.grown.output, Nat.le_trans h.grown.size k.grown.size, fun i hi hn => (k.grown.block i (Nat.lt_of_lt_of_le hi h.grown.size) hn).trans (h.grown.block i hi hn)⟩, fun g => k.row (h.row g), fun g => k.more (h.more g)⟩
theorem R8.of_grow {bf r : Nat} {xs ys : List Int} {x y : World} (h : Grow x y) (hb : bf < x.heap.size) : R8 bf r xs ys x y :=
  ⟨⟨h.os, h.tape, h.output, h.size, fun i hi _ => Below.block h i hi⟩, fun g => g.keep (Below.block h bf hb), fun g => g.keep (Below.block h bf hb)⟩
theorem R8.append {bf r : Nat} {xs : List Int} {x : World} (k : Int) (h : RowAt x bf r xs) (hl : xs.length < r) : R8 bf r xs (xs ++ [k]) x (x.setCell ⟨bf, xs.length, none⟩ (.int .i64 k)) ∧ RowAt (x.setCell ⟨bf, xs.length, none⟩ (.int .i64 k)) bf r (xs ++ [k]) := by
  have h1 := h.put hl k
  refine ⟨⟨⟨rfl, rfl, rfl, by simp, fun i _ hn => Below.heap_setCell x _ _ i (fun e => hn (by rw [e]))⟩, fun _ => h1.back, fun _ => h1⟩, h1⟩
theorem R8.is {bf r : Nat} {xs ys : List Int} {x y : World} (h : R8 bf r xs ys x y) {b : Nat} {t : TypeId} {cs : Array Value} (hb : BlockIs x b t cs) (hn : b ≠ bf) : BlockIs y b t cs :=
  (h.grown.block b hb.lt (fun e => hn (Option.some.inj e))).trans hb
theorem R8.keeps {bf r lo br bw : Nat} {xs ys : List Int} {x y : World} (h : R8 bf r xs ys x y) (hl : lo ≤ x.heap.size) : Keeps lo br bw bf x y :=
  ⟨h.grown.os, h.grown.tape, h.grown.output, h.grown.size, fun i hi _ _ h3 => h.grown.block i (Nat.lt_of_lt_of_le hi hl) (fun e => h3 (Option.some.inj e))⟩

/-- the two variables of plan are there -/
def VarAt (w : World) (b : Nat) (t : TypeId) : Prop := ∃ v, BlockIs w b t #[v]
theorem VarAt.put {w : World} {b : Nat} {t : TypeId} (h : VarAt w b t) (v : Value) : BlockIs (w.setCell ⟨b, 0, none⟩ v) b t #[v] := by
  obtain ⟨u, h⟩ := h
  exact h.near 0 v
/-- region 3: a new row, and the two variables turned -/
structure R3 (lo br bw : Nat) (xs : List Int) (m : Int) (x y : World) : Prop where
  keeps : Keeps x.heap.size br bw bw x y
  hasR : VarAt x br 23 → VarAt y br 23
  hasW : VarAt x bw 3 → VarAt y bw 3
  doneR : (∃ b off cap, BlockIs x br 23 #[.slice (some ⟨b, off, none⟩) xs.length cap] ∧ IntsFc x lo (some ⟨b, off, none⟩) cap xs) → ∃ b off cap, BlockIs y br 23 #[.slice (some ⟨b, off, none⟩) xs.length cap] ∧ IntsFc y lo (some ⟨b, off, none⟩) cap xs
  doneW : BlockIs x bw 3 #[.int .i64 m] → BlockIs y bw 3 #[.int .i64 m]
theorem R3.refl (lo br bw : Nat) (xs : List Int) (m : Int) (x : World) : R3 lo br bw xs m x x := ⟨Keeps.refl _ _ _ _ _, id, id, id, id⟩
theorem R3.trans {lo br bw : Nat} {xs : List Int} {m : Int} {x y z : World} (h : R3 lo br bw xs m x y) (k : R3 lo br bw xs m y z) : R3 lo br bw xs m x z :=
  ⟨⟨k.keeps.os.trans h.keeps.os, k.keeps.tape.trans h.keeps.tape, k.keeps.output.trans h.keeps.output, Nat.le_trans h.keeps.size k.keeps.size, fun i hi h1 h2 h3 => (k.keeps.block i (Nat.lt_of_lt_of_le hi h.keeps.size) h1 h2 h3).trans (h.keeps.block i hi h1 h2 h3)⟩,
    fun g => k.hasR (h.hasR g), fun g => k.hasW (h.hasW g), fun g => k.doneR (h.doneR g), fun g => k.doneW (h.doneW g)⟩
theorem R3.of_grow {lo br bw : Nat} {xs : List Int} {m : Int} {x y : World} (h : Grow x y) : R3 lo br bw xs m x y :=
  ⟨.of_below h, fun ⟨v, g⟩ => ⟨v, h.block g⟩, fun ⟨v, g⟩ => ⟨v, h.block g⟩, fun ⟨b, off, cap, g1, g2⟩ => ⟨b, off, cap, h.block g1, g2.grow h⟩, fun g => h.block g⟩
theorem R3.putR {lo br bw : Nat} {xs : List Int} {m : Int} {x : World} {b off cap : Nat} (hne : bw ≠ br) (hl : br < lo) (hv : VarAt x br 23) (hi : IntsFc x lo (some ⟨b, off, none⟩) cap xs) :
    R3 lo br bw xs m x (x.setCell ⟨br, 0, none⟩ (.slice (some ⟨b, off, none⟩) xs.length cap)) ∧ BlockIs (x.setCell ⟨br, 0, none⟩ (.slice (some ⟨b, off, none⟩) xs.length cap)) br 23 #[.slice (some ⟨b, off, none⟩) xs.length cap] ∧ IntsFc (x.setCell ⟨br, 0, none⟩ (.slice (some ⟨b, off, none⟩) xs.length cap)) lo (some ⟨b, off, none⟩) cap xs := by
  have h1 := hv.put (.slice (some ⟨b, off, none⟩) xs.length cap)
  have h2 := hi.setCell (p := ⟨br, 0, none⟩) hl (.slice (some ⟨b, off, none⟩) xs.length cap)
  exact ⟨⟨(Keeps.refl _ br _ _ _).setCell (p := ⟨br, 0, none⟩) (.inl rfl) _, fun _ => ⟨_, h1⟩, fun ⟨v, g⟩ => ⟨v, g.far (p := ⟨br, 0, none⟩) hne _⟩, fun _ => ⟨b, off, cap, h1, h2⟩, fun g => g.far (p := ⟨br, 0, none⟩) hne _⟩, h1, h2⟩
theorem R3.putW {lo br bw : Nat} {xs : List Int} {m : Int} {x : World} (hne : br ≠ bw) (hl : bw < lo) (hv : VarAt x bw 3) :
    R3 lo br bw xs m x (x.setCell ⟨bw, 0, none⟩ (.int .i64 m)) ∧ BlockIs (x.setCell ⟨bw, 0, none⟩ (.int .i64 m)) bw 3 #[.int .i64 m] := by
  have h1 := hv.put (.int .i64 m)
  exact ⟨⟨(Keeps.refl _ _ bw _ _).setCell (p := ⟨bw, 0, none⟩) (.inr (.inl rfl)) _, fun ⟨v, g⟩ => ⟨v, g.far (p := ⟨bw, 0, none⟩) hne _⟩, fun _ => ⟨_, h1⟩, fun ⟨b, off, cap, g1, g2⟩ => ⟨b, off, cap, g1.far (p := ⟨bw, 0, none⟩) hne _, g2.setCell (p := ⟨bw, 0, none⟩) hl _⟩, fun _ => h1⟩, h1⟩
theorem R3.intsF {lo br bw : Nat} {xs ys : List Int} {m : Int} {x y : World} (h : R3 lo br bw xs m x y) (h1 : br < lo) (h2 : bw < lo) {A : Option Addr} (hi : IntsF x lo A ys) : IntsF y lo A ys := by
  rcases hi with rfl | ⟨b, off, rfl, hb, hl, hc⟩
  · exact .inl rfl
  · refine .inr ⟨b, off, rfl, hb, Nat.lt_of_lt_of_le hl h.keeps.size, fun j u hj => ?_⟩
    rw [World.cell?_of_block (w := x) (w' := y) (a := ⟨b, off + j, none⟩) (h.keeps.block b hl (by omega) (by omega) (by omega))]
    exact hc j u hj
theorem R3.is {lo br bw : Nat} {xs : List Int} {m : Int} {x y : World} (h : R3 lo br bw xs m x y) {b : Nat} {t : TypeId} {cs : Array Value} (hb : BlockIs x b t cs) (h1 : b ≠ br) (h2 : b ≠ bw) : BlockIs y b t cs :=
  (h.keeps.block b hb.lt h1 h2 h2).trans hb

theorem R3.intsFc {lo br bw : Nat} {xs ys : List Int} {m : Int} {x y : World} (h : R3 lo br bw xs m x y) (h1 : br < lo) (h2 : bw < lo) {A : Option Addr} {cap : Nat} (hi : IntsFc x lo A cap ys) : IntsFc y lo A cap ys := ⟨h.intsF h1 h2 hi.1, hi.2⟩

end Go.Proofs.Ythlihchndmbkaaa

