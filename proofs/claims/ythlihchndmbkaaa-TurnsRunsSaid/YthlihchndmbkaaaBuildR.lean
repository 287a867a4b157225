/- BuildR: the relations between the worlds of plan$1's two regions that draw their order. -/
import Derived.Test.YthlihchndmbkaaaKeeps
namespace Go.Proofs.Ythlihchndmbkaaa
open Go.RowKit

/-- region 8 up to the closure's call: new blocks, and one number more behind the beginning -/
structure R8 (bf r : Nat) (xs ys : List Int) (x y : World) : Prop where
  grown : x.grownBy y (some bf)
  row : RowAt x bf r xs → RowAt y bf r xs
  more : RowAt x bf r ys → RowAt y bf r ys
theorem R8.refl (bf r : Nat) (xs ys : List Int) (x : World) : R8 bf r xs ys x x := ⟨World.grownBy.refl x _, id, id⟩
theorem R8.trans {bf r : Nat} {xs ys : List Int} {x y z : World} (h : R8 bf r xs ys x y) (k : R8 bf r xs ys y z) : R8 bf r xs ys x z :=
  ⟨⟨k.grown.os.trans h.grown.os, k.grown.tape.trans h.grown.tape, k.grown.output.trans h.grown.output, Nat.le_trans h.grown.size k.grown.size, fun i hi hn => (k.grown.block i (Nat.lt_of_lt_of_le hi h.grown.size) hn).trans (h.grown.block i hi hn)⟩, fun g => k.row (h.row g), fun g => k.more (h.more g)⟩
theorem R8.of_grow {bf r : Nat} {xs ys : List Int} {x y : World} (h : Grow x y) (hb : bf < x.heap.size) : R8 bf r xs ys x y :=
  ⟨⟨h.os, h.tape, h.output, h.size, fun i hi _ => Below.block h i hi⟩, fun g => g.keep (Below.block h bf hb), fun g => g.keep (Below.block h bf hb)⟩
theorem R8.append {bf r : Nat} {xs : List Int} {x : World} (k : Int) (h : RowAt x bf r xs) (hl : xs.length < r) : R8 bf r xs (xs ++ [k]) x (x.setCell ⟨bf, xs.length, none⟩ (.int .i64 k)) ∧ RowAt (x.setCell ⟨bf, xs.length, none⟩ (.int .i64 k)) bf r (xs ++ [k]) := by
  have h1 := h.put hl k
  refine ⟨⟨⟨rfl, rfl, rfl, by simp, fun i _ hn => Below.heap_setCell x _ _ i (fun e => hn (by rw [e]))⟩, fun _ => h1.back, fun _ => h1⟩, h1⟩
theorem R8.is {bf r : Nat} {xs ys : List Int} {x y : World} (h : R8 bf r xs ys x y) {b : Nat} {t : TypeId} {cs : Array Value} (hb : BlockIs x b t cs) (hn : b ≠ bf) : BlockIs y b t cs :=
  (h.grown.block b hb.lt (fun e => hn (Option.some.inj e))).trans hb
theorem R8.keeps {bf r lo br bw : Nat} {xs ys : List Int} {x y : World} (h : R8 bf r xs ys x y) (hl : lo ≤ x.heap.size) : Keeps lo br bw bf x y :=
  ⟨h.grown.os, h.grown.tape, h.grown.output, h.grown.size, fun i hi _ _ h3 => h.grown.block i (Nat.lt_of_lt_of_le hi hl) (fun e => h3 (Option.some.inj e))⟩

/-- the two variables of plan are there -/
def VarAt (w : World) (b : Nat) (t : TypeId) : Prop := ∃ v, BlockIs w b t #[v]
theorem VarAt.put {w : World} {b : Nat} {t : TypeId} (h : VarAt w b t) (v : Value) : BlockIs (w.setCell ⟨b, 0, none⟩ v) b t #[v] := by
  obtain ⟨u, h⟩ := h
  exact h.near 0 v
/-- region 3: a new row, and the two variables turned -/
structure R3 (lo br bw : Nat) (xs : List Int) (m : Int) (x y : World) : Prop where
  keeps : Keeps x.heap.size br bw bw x y
  hasR : VarAt x br 23 → VarAt y br 23
  hasW : VarAt x bw 3 → VarAt y bw 3
  doneR : (∃ b off cap, BlockIs x br 23 #[.slice (some ⟨b, off, none⟩) xs.length cap] ∧ IntsFc x lo (some ⟨b, off, none⟩) cap xs) → ∃ b off cap, BlockIs y br 23 #[.slice (some ⟨b, off, none⟩) xs.length cap] ∧ IntsFc y lo (some ⟨b, off, none⟩) cap xs
  doneW : BlockIs x bw 3 #[.int .i64 m] → BlockIs y bw 3 #[.int .i64 m]
theorem R3.refl (lo br bw : Nat) (xs : List Int) (m : Int) (x : World) : R3 lo br bw xs m x x := ⟨Keeps.refl _ _ _ _ _, id, id, id, id⟩
theorem R3.trans {lo br bw : Nat} {xs : List Int} {m : Int} {x y z : World} (h : R3 lo br bw xs m x y) (k : R3 lo br bw xs m y z) : R3 lo br bw xs m x z :=
  ⟨⟨k.keeps.os.trans h.keeps.os, k.keeps.tape.trans h.keeps.tape, k.keeps.output.trans h.keeps.output, Nat.le_trans h.keeps.size k.keeps.size, fun i hi h1 h2 h3 => (k.keeps.block i (Nat.lt_of_lt_of_le hi h.keeps.size) h1 h2 h3).trans (h.keeps.block i hi h1 h2 h3)⟩,
    fun g => k.hasR (h.hasR g), fun g => k.hasW (h.hasW g), fun g => k.doneR (h.doneR g), fun g => k.doneW (h.doneW g)⟩
theorem R3.of_grow {lo br bw : Nat} {xs : List Int} {m : Int} {x y : World} (h : Grow x y) : R3 lo br bw xs m x y :=
  ⟨.of_below h, fun ⟨v, g⟩ => ⟨v, h.block g⟩, fun ⟨v, g⟩ => ⟨v, h.block g⟩, fun ⟨b, off, cap, g1, g2⟩ => ⟨b, off, cap, h.block g1, g2.grow h⟩, fun g => h.block g⟩
theorem R3.putR {lo br bw : Nat} {xs : List Int} {m : Int} {x : World} {b off cap : Nat} (hne : bw ≠ br) (hl : br < lo) (hv : VarAt x br 23) (hi : IntsFc x lo (some ⟨b, off, none⟩) cap xs) :
    R3 lo br bw xs m x (x.setCell ⟨br, 0, none⟩ (.slice (some ⟨b, off, none⟩) xs.length cap)) ∧ BlockIs (x.setCell ⟨br, 0, none⟩ (.slice (some ⟨b, off, none⟩) xs.length cap)) br 23 #[.slice (some ⟨b, off, none⟩) xs.length cap] ∧ IntsFc (x.setCell ⟨br, 0, none⟩ (.slice (some ⟨b, off, none⟩) xs.length cap)) lo (some ⟨b, off, none⟩) cap xs := by
  have h1 := hv.put (.slice (some ⟨b, off, none⟩) xs.length cap)
  have h2 := hi.setCell (p := ⟨br, 0, none⟩) hl (.slice (some ⟨b, off, none⟩) xs.length cap)
  exact ⟨⟨(Keeps.refl _ br _ _ _).setCell (p := ⟨br, 0, none⟩) (.inl rfl) _, fun _ => ⟨_, h1⟩, fun ⟨v, g⟩ => ⟨v, g.far (p := ⟨br, 0, none⟩) hne _⟩, fun _ => ⟨b, off, cap, h1, h2⟩, fun g => g.far (p := ⟨br, 0, none⟩) hne _⟩, h1, h2⟩
theorem R3.putW {lo br bw : Nat} {xs : List Int} {m : Int} {x : World} (hne : br ≠ bw) (hl : bw < lo) (hv : VarAt x bw 3) :
    R3 lo br bw xs m x (x.setCell ⟨bw, 0, none⟩ (.int .i64 m)) ∧ BlockIs (x.setCell ⟨bw, 0, none⟩ (.int .i64 m)) bw 3 #[.int .i64 m] := by
  have h1 := hv.put (.int .i64 m)
  exact ⟨⟨(Keeps.refl _ _ bw _ _).setCell (p := ⟨bw, 0, none⟩) (.inr (.inl rfl)) _, fun ⟨v, g⟩ => ⟨v, g.far (p := ⟨bw, 0, none⟩) hne _⟩, fun _ => ⟨_, h1⟩, fun ⟨b, off, cap, g1, g2⟩ => ⟨b, off, cap, g1.far (p := ⟨bw, 0, none⟩) hne _, g2.setCell (p := ⟨bw, 0, none⟩) hl _⟩, fun _ => h1⟩, h1⟩
theorem R3.intsF {lo br bw : Nat} {xs ys : List Int} {m : Int} {x y : World} (h : R3 lo br bw xs m x y) (h1 : br < lo) (h2 : bw < lo) {A : Option Addr} (hi : IntsF x lo A ys) : IntsF y lo A ys := by
  rcases hi with rfl | ⟨b, off, rfl, hb, hl, hc⟩
  · exact .inl rfl
  · refine .inr ⟨b, off, rfl, hb, Nat.lt_of_lt_of_le hl h.keeps.size, fun j u hj => ?_⟩
    rw [World.cell?_of_block (w := x) (w' := y) (a := ⟨b, off + j, none⟩) (h.keeps.block b hl (by omega) (by omega) (by omega))]
    exact hc j u hj
theorem R3.is {lo br bw : Nat} {xs : List Int} {m : Int} {x y : World} (h : R3 lo br bw xs m x y) {b : Nat} {t : TypeId} {cs : Array Value} (hb : BlockIs x b t cs) (h1 : b ≠ br) (h2 : b ≠ bw) : BlockIs y b t cs :=
  (h.keeps.block b hb.lt h1 h2 h2).trans hb

theorem R3.intsFc {lo br bw : Nat} {xs ys : List Int} {m : Int} {x y : World} (h : R3 lo br bw xs m x y) (h1 : br < lo) (h2 : bw < lo) {A : Option Addr} {cap : Nat} (hi : IntsFc x lo A cap ys) : IntsFc y lo A cap ys := ⟨h.intsF h1 h2 hi.1, hi.2⟩

end Go.Proofs.Ythlihchndmbkaaa
