/- Keeps: what the search of turns.task.plan changes in memory. -/
import Derived.Test.YthlihchndmbkaaaClone
import Derived.Test.YthlihchndmbkaaaPlanD
namespace Go.Proofs.Ythlihchndmbkaaa
open Go.RowKit

/-- nothing below lo has changed but the blocks x, y, z -/
structure Keeps (lo x y z : Nat) (w w' : World) : Prop where
  os : w'.os = w.os
  tape : w'.tape = w.tape
  output : w'.output = w.output
  size : w.heap.size ≤ w'.heap.size
  block : ∀ k, k < lo → k ≠ x → k ≠ y → k ≠ z → w'.heap[k]? = w.heap[k]?
theorem Keeps.refl (lo x y z : Nat) (w : World) : Keeps lo x y z w w := ⟨rfl, rfl, rfl, Nat.le_refl _, fun _ _ _ _ _ => rfl⟩
theorem Keeps.trans {lo x y z : Nat} {a b c : World} (h : Keeps lo x y z a b) (k : Keeps lo x y z b c) : Keeps lo x y z a c :=
  ⟨k.os.trans h.os, k.tape.trans h.tape, k.output.trans h.output, Nat.le_trans h.size k.size, fun i hi h1 h2 h3 => (k.block i hi h1 h2 h3).trans (h.block i hi h1 h2 h3)⟩
theorem Keeps.of_below {lo x y z : Nat} {w w' : World} (h : Below lo w w') : Keeps lo x y z w w' := ⟨h.os, h.tape, h.output, h.size, fun k hk _ _ _ => h.block k hk⟩
theorem Keeps.of_grow {lo x y z : Nat} {w w' : World} (h : Grow w w') (hl : lo ≤ w.heap.size) : Keeps lo x y z w w' := .of_below (Below.mono h hl)
theorem Keeps.is {lo x y z : Nat} {w w' : World} (h : Keeps lo x y z w w') {b : Nat} {t : TypeId} {cs : Array Value} (hb : BlockIs w b t cs) (hl : b < lo) (h1 : b ≠ x) (h2 : b ≠ y) (h3 : b ≠ z) : BlockIs w' b t cs :=
  (h.block b hl h1 h2 h3).trans hb
theorem Keeps.setCell {lo x y z : Nat} {w w' : World} (h : Keeps lo x y z w w') {p : Addr} (hp : p.block = x ∨ p.block = y ∨ p.block = z ∨ lo ≤ p.block) (v : Value) : Keeps lo x y z w (w'.setCell p v) :=
  ⟨h.os, h.tape, h.output, by simpa using h.size, fun k hk h1 h2 h3 => (Below.heap_setCell w' p v k (by omega)).trans (h.block k hk h1 h2 h3)⟩
theorem Keeps.below {lo x y z n : Nat} {w w' : World} (h : Keeps lo x y z w w') (hn : n ≤ lo) (h1 : n ≤ x) (h2 : n ≤ y) (h3 : n ≤ z) : Below n w w' :=
  ⟨h.os, h.tape, h.output, h.size, fun k hk => h.block k (by omega) (by omega) (by omega) (by omega)⟩

/-- the row of a beginning: room for r numbers, of which the first are xs -/
def RowAt (w : World) (b r : Nat) (xs : List Int) : Prop := ∃ cs : Array Value, BlockIs w b 3 cs ∧ cs.size = r ∧ ∀ (i : Nat) (x : Int), xs[i]? = some x → cs[i]? = some (Value.int .i64 x)
theorem RowAt.keep {w w' : World} {b r : Nat} {xs : List Int} (h : RowAt w b r xs) (e : w'.heap[b]? = w.heap[b]?) : RowAt w' b r xs := by
  obtain ⟨cs, h1, h2, h3⟩ := h
  exact ⟨cs, e.trans h1, h2, h3⟩
theorem RowAt.lt {w : World} {b r : Nat} {xs : List Int} (h : RowAt w b r xs) : b < w.heap.size := h.choose_spec.1.lt
theorem RowAt.ints {w : World} {b r n : Nat} {xs : List Int} (h : RowAt w b r xs) (hb : b < n) : Ints w n (some ⟨b, 0, none⟩) xs := by
  obtain ⟨cs, h1, _, h3⟩ := h
  exact .inr ⟨b, 0, rfl, hb, fun i x hi => by rw [Nat.zero_add, h1.cell]; exact h3 i x hi⟩
theorem RowAt.back {w : World} {b r : Nat} {xs ys : List Int} (h : RowAt w b r (xs ++ ys)) : RowAt w b r xs := by
  obtain ⟨cs, h1, h2, h3⟩ := h
  refine ⟨cs, h1, h2, fun i x hi => h3 i x ?_⟩
  rw [List.getElem?_append_left (lt_of_at hi)]
  exact hi
theorem RowAt.put {w : World} {b r : Nat} {xs : List Int} (h : RowAt w b r xs) (hl : xs.length < r) (x : Int) : RowAt (w.setCell ⟨b, xs.length, none⟩ (.int .i64 x)) b r (xs ++ [x]) := by
  obtain ⟨cs, h1, h2, h3⟩ := h
  refine ⟨_, h1.near xs.length (.int .i64 x), by rw [Array.size_setIfInBounds]; exact h2, fun i y hi => ?_⟩
  rw [Array.getElem?_setIfInBounds]
  by_cases e : xs.length = i
  · subst e
    rw [if_pos rfl, if_pos (by omega)]
    simp at hi
    rw [hi]
  · rw [if_neg e]
    have hlt := lt_of_at hi
    rw [List.length_append] at hlt
    simp at hlt
    rw [List.getElem?_append_left (by omega)] at hi
    exact h3 i y hi

/-- the best rota so far, in the two variables of plan -/
def BestAt (w : World) (lo br bw : Nat) : BestD → Prop
  | none => BlockIs w br 23 #[.slice none 0 0] ∧ ∃ v, BlockIs w bw 3 #[.int .i64 v]
  | some (xs, m) => (∃ b off cap, BlockIs w br 23 #[.slice (some ⟨b, off, none⟩) xs.length cap] ∧ IntsFc w lo (some ⟨b, off, none⟩) cap xs) ∧ BlockIs w bw 3 #[.int .i64 m]
theorem BestAt.grow {w w' : World} {lo br bw : Nat} {best : BestD} (h : BestAt w lo br bw best) (hg : Grow w w') : BestAt w' lo br bw best := by
  match best, h with
  | none, ⟨h1, v, h2⟩ => exact ⟨hg.block h1, v, hg.block h2⟩
  | some (xs, m), ⟨⟨b, off, cap, h1, h2⟩, h3⟩ => exact ⟨⟨b, off, cap, hg.block h1, h2.grow hg⟩, hg.block h3⟩
theorem BestAt.setCell {w : World} {lo br bw : Nat} {best : BestD} (h : BestAt w lo br bw best) {p : Addr} (hp : p.block < lo) (h1' : br ≠ p.block) (h2' : bw ≠ p.block) (v : Value) : BestAt (w.setCell p v) lo br bw best := by
  match best, h with
  | none, ⟨h1, u, h2⟩ => exact ⟨h1.far h1' v, u, h2.far h2' v⟩
  | some (xs, m), ⟨⟨b, off, cap, h1, h2⟩, h3⟩ => exact ⟨⟨b, off, cap, h1.far h1' v, h2.setCell hp v⟩, h3.far h2' v⟩

/-- one hand tried after the others -/
def tryD (t : TaskD) (n : Nat) (first : List Int) (s : StD) (b : BestD) (h : Nat) : BestD := if maySignD t first h = true then buildD t n (first ++ [(h : Int)]) (signD true t s h) b else b
def triedD (t : TaskD) (n : Nat) (first : List Int) (s : StD) (b : BestD) (k : Nat) : BestD := (List.range k).foldl (tryD t n first s) b
theorem triedD_succ (t : TaskD) (n : Nat) (first : List Int) (s : StD) (b : BestD) (k : Nat) : triedD t n first s b (k + 1) = tryD t n first s (triedD t n first s b k) k := by
  unfold triedD
  rw [List.range_succ, List.foldl_append]
  rfl
/-- whether a beginning is given up: it is no better than the best rota so far -/
def overD (best : BestD) (s : StD) : Bool := match best with
  | some (_, m) => decide (m ≤ s.mis)
  | none => false
theorem buildD_over {t : TaskD} {n : Nat} {first : List Int} {s : StD} {best : BestD} (h : overD best s = true) : buildD t n first s best = best := by
  match best, h with
  | some (r, m), h =>
    have h' : m ≤ s.mis := of_decide_eq_true h
    cases n with
    | zero => unfold buildD; dsimp only; rw [if_pos h']
    | succ n => unfold buildD; dsimp only; rw [if_pos h']
theorem buildD_zero {t : TaskD} {first : List Int} {s : StD} {best : BestD} (h : overD best s = false) : buildD t 0 first s best = some (first, s.mis) := by
  match best, h with
  | none, _ => rfl
  | some (r, m), h =>
    have h' : ¬ m ≤ s.mis := of_decide_eq_false h
    unfold buildD; dsimp only; rw [if_neg h']
theorem buildD_succ {t : TaskD} {n : Nat} {first : List Int} {s : StD} {best : BestD} (h : overD best s = false) : buildD t (n + 1) first s best = triedD t n first s best t.hands.length := by
  match best, h with
  | none, _ => rfl
  | some (r, m), h =>
    have h' : ¬ m ≤ s.mis := of_decide_eq_false h
    unfold buildD; dsimp only; rw [if_neg h']
    rfl

end Go.Proofs.Ythlihchndmbkaaa
