/- MoreMem: a copy with one more judge, a copy with a judge changed, in memory; written by wip/tools/morelaw9.py. -/
import Derived.Test.YthehkgpnnndboaaDoorRCopy
import Derived.Test.YthehkgpnnndboaaDoorLawM
namespace Go.Proofs.YthehkgpnnndboaaDoor
open Go.RowKit

theorem at_own {w : World} {lo : Nat} {p : PaperR} (h1 : w.ownsRow lo 78 2 (.slice p.ia p.items.length p.ic) p.items.length (p.items.flatMap cellsIL)) (h2 : w.ownsRow lo 60 4 (.slice p.ja p.judges.length p.jc) p.judges.length (p.judges.flatMap cellsJL))
    (h3 : ∀ x ∈ p.judges, Ints w w.heap.size x.a x.d.marks) (h4 : w.ownsRow lo 3 1 (.slice p.ga p.grades.length p.gc) p.grades.length (p.grades.map (Value.int .i64))) : PaperAt w w.heap.size p := by
  refine ⟨?_, ?_, h3, (own_ints h4).1⟩
  · rcases own_flat (enc := cellsIL) (fun _ => rfl) h1 rfl with e | ⟨b, cs, e, _, hB, _, _, hc⟩
    · exact .inl e
    · exact .inr ⟨b, 0, e, hB.lt, fun i x hi j hj => by rw [hB.cell, Nat.zero_add, hc i x hi j hj]; exact Array.getElem?_toList⟩
  · rcases own_flat (enc := cellsJL) (fun _ => rfl) h2 rfl with e | ⟨b, cs, e, _, hB, _, _, hc⟩
    · exact .inl e
    · exact .inr ⟨b, 0, e, hB.lt, fun i x hi j hj => by rw [hB.cell, Nat.zero_add, hc i x hi j hj]; exact Array.getElem?_toList⟩
/-- four cells of a row stored -/
def setJ (cs : Array Value) (k : Nat) (x : JudgeR) : Array Value := (((cs.setIfInBounds (k * 4) (.int .i64 x.d.lo)).setIfInBounds (k * 4 + 1) (.int .i64 x.d.hi)).setIfInBounds (k * 4 + 2) (.int .i64 x.d.err)).setIfInBounds (k * 4 + 3) (.slice x.a x.d.marks.length x.c)
theorem setJ_get {cs : Array Value} {l : List JudgeR} {k : Nat} (hk : k < l.length) (hs : l.length * 4 ≤ cs.size) (h : ∀ i x, l[i]? = some x → ∀ j, j < 4 → cs[i * 4 + j]? = (cellsJL x)[j]?) (y : JudgeR) :
    ∀ i x, (l.set k y)[i]? = some x → ∀ j, j < 4 → (setJ cs k y)[i * 4 + j]? = (cellsJL x)[j]? := by
  intro i x hi j hj
  unfold setJ
  simp only [Array.getElem?_setIfInBounds, Array.size_setIfInBounds]
  by_cases hik : i = k
  · subst hik
    rw [List.getElem?_set_self hk] at hi
    obtain rfl := Option.some.inj hi
    match j, hj with
    | 0, _ =>
      rw [if_neg (by omega), if_neg (by omega), if_neg (by omega), if_pos (by omega), if_pos (by omega)]
      rfl
    | 1, _ =>
      rw [if_neg (by omega), if_neg (by omega), if_pos (by omega), if_pos (by omega)]
      rfl
    | 2, _ =>
      rw [if_neg (by omega), if_pos (by omega), if_pos (by omega)]
      rfl
    | 3, _ =>
      rw [if_pos (by omega), if_pos (by omega)]
      rfl
  · rw [List.getElem?_set_ne (by omega)] at hi
    rw [if_neg (by omega), if_neg (by omega), if_neg (by omega), if_neg (by omega)]
    exact h i x hi j hj
/-- a paper of a call's own, one of its judges stored anew -/
theorem at_set {w : World} {lo hi k b : Nat} {p : PaperR} {cs : Array Value} {x y : JudgeR} (h1 : w.ownsRow lo 78 2 (.slice p.ia p.items.length p.ic) p.items.length (p.items.flatMap cellsIL))
    (hB : BlockIs w b 60 cs) (hja : p.ja = some ⟨b, 0, none⟩) (hs : p.judges.length * 4 ≤ cs.size) (hc : ∀ i x, p.judges[i]? = some x → ∀ j, j < 4 → cs[i * 4 + j]? = (cellsJL x)[j]?) (hk : k < p.judges.length)
    (h3 : NewJs w lo hi p.judges) (hx : p.judges[k]? = some x) (hya : y.a = x.a) (hym : y.d.marks = x.d.marks) (h4 : w.ownsRow lo 3 1 (.slice p.ga p.grades.length p.gc) p.grades.length (p.grades.map (Value.int .i64)))
    (v : Int) (W : World) (hW : ((((w.setCell ⟨b, k * 4, none⟩ (.int .i64 y.d.lo)).setCell ⟨b, k * 4 + 1, none⟩ (.int .i64 y.d.hi)).setCell ⟨b, k * 4 + 2, none⟩ (.int .i64 y.d.err)).setCell ⟨b, k * 4 + 3, none⟩ (.slice y.a y.d.marks.length y.c)) = W) :
    PaperAt W W.heap.size { p with judges := p.judges.set k y, wrong := v } := by
  have KI : KeepTy 3 w W := by
    rw [← hW]
    exact (((KeepTy.store hB (by decide) _ _).trans (KeepTy.store (hB.near _ _) (by decide) _ _)).trans (KeepTy.store ((hB.near _ _).near _ _) (by decide) _ _)).trans (KeepTy.store (((hB.near _ _).near _ _).near _ _) (by decide) _ _)
  have KT : KeepTy 78 w W := by
    rw [← hW]
    exact (((KeepTy.store hB (by decide) _ _).trans (KeepTy.store (hB.near _ _) (by decide) _ _)).trans (KeepTy.store ((hB.near _ _).near _ _) (by decide) _ _)).trans (KeepTy.store (((hB.near _ _).near _ _).near _ _) (by decide) _ _)
  have hB4 : BlockIs W b 60 (setJ cs k y) := by
    rw [← hW]
    exact (((hB.near (k * 4) (.int .i64 y.d.lo)).near (k * 4 + 1) (.int .i64 y.d.hi)).near (k * 4 + 2) (.int .i64 y.d.err)).near (k * 4 + 3) (.slice y.a y.d.marks.length y.c)
  have hG4 := setJ_get hk hs hc y
  clear hW hB hc
  have k1 := own_keep h1 KT
  have k4 := own_keep h4 KI
  refine ⟨?_, ?_, ?_, (own_ints k4).1⟩
  · rcases own_flat (enc := cellsIL) (fun _ => rfl) k1 rfl with e | ⟨b, cs, e, _, hB, _, _, hc⟩
    · exact .inl e
    · exact .inr ⟨b, 0, e, hB.lt, fun i x hi j hj => by rw [hB.cell, Nat.zero_add, hc i x hi j hj]; exact Array.getElem?_toList⟩
  · refine .inr ⟨b, 0, hja, hB4.lt, ?_⟩
    intro i z hi j hj
    have h := hG4 i z hi j hj
    rw [hB4.cell, Nat.zero_add]
    exact h.trans Array.getElem?_toList
  · intro z hz
    have k3 := h3.keep KI
    rcases List.mem_or_eq_of_mem_set hz with h | rfl
    · exact k3.mem h
    · rw [hya, hym]
      exact k3.mem (List.mem_of_getElem? hx)

end Go.Proofs.YthehkgpnnndboaaDoor
