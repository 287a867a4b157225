/- Draws and new blocks only. -/
import Derived.Test.YtjpnblflenlnaaaGreatMem
import Derived.Sort.Grow
namespace Go.Proofs.YtjpnblflenlnaaaGreat
open Go.RowKit

/-- draws and new blocks, no more -/
def Grew (x y : World) : Prop := Grow x y ∧ x.drawn ≤ y.drawn
theorem Grew.refl (x : World) : Grew x x := ⟨Grow.refl _, Nat.le_refl _⟩
theorem Grew.trans {x y z : World} (h : Grew x y) (k : Grew y z) : Grew x z := ⟨h.1.trans k.1, Nat.le_trans h.2 k.2⟩
theorem Grew.alloc (x : World) (o : Obj) : Grew x (x.alloc o) := ⟨Grow.alloc _ _, Nat.le_refl _⟩
theorem Grew.of_drew {x y : World} (h : Grew x.drew y) : Grew x y := ⟨h.1.of_drew, Nat.le_trans (Nat.le_succ _) h.2⟩
theorem Grew.form {x y : World} (h : Grew x y) : ∃ q os, y = Go.Sort.grow (x.drewN q) os := by
  obtain ⟨⟨h1, h2, h3, h4, h5⟩, h6⟩ := h
  refine ⟨y.drawn - x.drawn, y.heap.extract x.heap.size y.heap.size, ?_⟩
  obtain ⟨xh, xt, xd, xo, xu⟩ := x
  obtain ⟨yh, yt, yd, yo, yu⟩ := y
  dsimp only at *
  subst h1 h2 h3
  simp only [Go.Sort.grow, World.drewN, World.mk.injEq, true_and, and_true]
  refine ⟨?_, by omega⟩
  refine Array.ext_getElem? fun k => ?_
  rcases Nat.lt_or_ge k xh.size with hk | hk
  · rw [Array.getElem?_append_left hk]; exact h5 k hk
  · rw [Array.getElem?_append_right hk, Array.getElem?_extract]
    by_cases hy : k < yh.size
    · rw [if_pos (by omega)]; congr 1; omega
    · rw [if_neg (by omega), Array.getElem?_eq_none (by omega)]
theorem Grew.of_form {x : World} (q : Nat) (os : Array Obj) : Grew x (Go.Sort.grow (x.drewN q) os) :=
  ⟨⟨rfl, rfl, rfl, by simp [World.drewN], fun k hk => by rw [Go.Sort.heap_grow_old]; rfl; exact hk⟩, Nat.le_add_right _ _⟩

end Go.Proofs.YtjpnblflenlnaaaGreat
