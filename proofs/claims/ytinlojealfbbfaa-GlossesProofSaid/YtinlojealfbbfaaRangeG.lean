/- RangeG: a range over the map of groups. -/
import Derived.Test.YtinlojealfbbfaaMapG
import Derived.Maps.RangeRun
import Derived.Laws.IdiomRangeMap
namespace Go.Proofs.Ytinlojealfbbfaa
open Go.RowKit
open Go.ChangeMaps (setBlock)

theorem entG_mem {l : List GrpR} {e : MapEntry} (h : e ∈ (entsG l).toList) : ∃ k x, l[k]? = some x ∧ e = entG (x, k) := by
  simp only [entsG, List.mem_map] at h
  obtain ⟨⟨x, k⟩, hm, rfl⟩ := h
  exact ⟨k, x, (List.mem_zipIdx_iff_getElem?.1 hm), rfl⟩
theorem entG_in {l : List GrpR} {k : Nat} {x : GrpR} (h : l[k]? = some x) : entG (x, k) ∈ (entsG l).toList := by
  simp only [entsG, List.mem_map]
  exact ⟨(x, k), List.mem_zipIdx_iff_getElem?.2 h, rfl⟩
theorem entG_born {l : List GrpR} {e : MapEntry} (h : e ∈ (entsG l).toList) : e.born < l.length := by
  obtain ⟨k, x, hx, rfl⟩ := entG_mem h
  exact (List.getElem?_eq_some_iff.1 hx).1
theorem entG_nodup (l : List GrpR) : ((entsG l).toList.map (·.born)).Nodup := by
  have : (entsG l).toList.map (·.born) = List.range' 0 l.length := by
    simp only [entsG, List.map_map]
    rw [show ((fun x : MapEntry => x.born) ∘ entG) = Prod.snd from rfl, List.zipIdx_map_snd]
  rw [this]
  exact List.nodup_range'
/-- the range r over the book at m, with the places that were handed out -/
def IterAt (w : World) (r m n : Nat) (seen : Array Nat) : Prop := w.heap[r]? = some (.mapIter (some m) n seen n)
theorem next_grps {w : World} {r m : Nat} {l : List GrpR} {seen : Array Nat} (ty : TypeId) (hr : IterAt w r m l.length seen) (hb : GrpsAt w m l) :
    ((∀ k x, l[k]? = some x → k ∈ seen) ∧ (Instr.next (.pointer (some ⟨r, 0, none⟩)) false ty).run Try.prog w = .ok (.tuple #[.bool false]) w) ∨
    ∃ k x, l[k]? = some x ∧ k ∉ seen ∧ ∃ w1 : World, (w1 = w ∨ w1 = w.drew) ∧
      (Instr.next (.pointer (some ⟨r, 0, none⟩)) false ty).run Try.prog w = .ok (.tuple #[.bool true, keyV x.au x.st, grpV x]) (setBlock w1 r (.mapIter (some m) l.length (seen.push k) l.length)) := by
  rcases run_next_at (P := Try.prog) w ty r m l.length l.length seen (entsG l) l.length hr hb (fun e he => entG_born he) (Nat.le_refl _) with ⟨h0, hn⟩ | ⟨e, he, w1, hw, hn⟩
  · refine .inl ⟨fun k x hx => ?_, hn⟩
    by_cases hk : k ∈ seen
    · exact hk
    · have : entG (x, k) ∈ (leftOf (entsG l) seen).toList := by
        simp only [leftOf, Array.toList_filter, List.mem_filter]
        exact ⟨entG_in hx, by simpa [entG] using hk⟩
      have h1 : (leftOf (entsG l) seen).toList.length = 0 := by simpa using h0
      rw [List.length_eq_zero_iff.1 h1] at this
      simp at this
  · simp only [leftOf, Array.toList_filter, List.mem_filter] at he
    obtain ⟨k, x, hx, rfl⟩ := entG_mem he.1
    exact .inr ⟨k, x, hx, by simpa [entG] using he.2, w1, hw, hn⟩

theorem IterAt.lt {w : World} {r m n : Nat} {seen : Array Nat} (h : IterAt w r m n seen) : r < w.heap.size := by
  rcases Nat.lt_or_ge r w.heap.size with hlt | hge
  · exact hlt
  · unfold IterAt at h; rw [Array.getElem?_eq_none hge] at h; cases h
theorem IterAt.grow {w w' : World} {r m n : Nat} {seen : Array Nat} (h : IterAt w r m n seen) (g : Grow w w') : IterAt w' r m n seen := (Below.block g r h.lt).trans h
theorem IterAt.setCell {w : World} {r m n : Nat} {seen : Array Nat} (h : IterAt w r m n seen) {p : Addr} (hp : r ≠ p.block) (u : Value) : IterAt (w.setCell p u) r m n seen := (Below.heap_setCell w p u r hp).trans h
theorem IterAt.seen {w : World} {r m n : Nat} {seen : Array Nat} (h : IterAt w r m n seen) : w.iterSeen r = seen := by
  unfold World.iterSeen; rw [h]
theorem range_grps {w : World} {m : Nat} {l : List GrpR} (h : GrpsAt w m l) :
    (Instr.range 93 (.map (some m))).run Try.prog w = .ok (.pointer (some ⟨w.heap.size, 0, none⟩)) (w.alloc (.mapIter (some m) l.length #[] l.length)) :=
  run_range_map (P := Try.prog) w 93 _ _ m (entsG l) l.length Try.underlying93 h
theorem IterAt.new (w : World) (m n : Nat) : IterAt (w.alloc (.mapIter (some m) n #[] n)) w.heap.size m n #[] := by
  exact heap_alloc_new w _
theorem entry_grps {w : World} {r m k : Nat} {l : List GrpR} {seen : Array Nat} {x : GrpR} (hr : IterAt w r m l.length (seen.push k)) (hb : GrpsAt w m l) (hx : l[k]? = some x) :
    (Instr.entry (.pointer (some ⟨r, 0, none⟩))).run Try.prog w = .ok (.tuple #[keyV x.au x.st, grpV x]) w :=
  run_entry_at (P := Try.prog) w r m l.length seen (entsG l) l.length (entG (x, k)) hr hb (entG_in hx) (entG_nodup l)
/-- the world behind a step of the range: only the range itself has turned -/
theorem step_grps {w w1 : World} {r m n k : Nat} {seen : Array Nat} (hr : IterAt w r m n seen) (hw : w1 = w ∨ w1 = w.drew) :
    IterAt (setBlock w1 r (.mapIter (some m) n (seen.push k) n)) r m n (seen.push k) ∧ Below r w (setBlock w1 r (.mapIter (some m) n (seen.push k) n)) ∧
    (setBlock w1 r (.mapIter (some m) n (seen.push k) n)).heap.size = w.heap.size ∧ ∀ b, b ≠ r → (setBlock w1 r (.mapIter (some m) n (seen.push k) n)).heap[b]? = w.heap[b]? := by
  have hr1 : w1.heap[r]? = some (.mapIter (some m) n seen n) := by rcases hw with rfl | rfl <;> exact hr
  have hs := MapKept.heap_set (o' := .mapIter (some m) n (seen.push k) n) hr1
  have hoth : ∀ b, b ≠ r → (setBlock w1 r (.mapIter (some m) n (seen.push k) n)).heap[b]? = w.heap[b]? := fun b hb => (hs.2 b hb).trans (by rcases hw with rfl | rfl <;> rfl)
  have hz : (setBlock w1 r (.mapIter (some m) n (seen.push k) n)).heap.size = w.heap.size := by rcases hw with rfl | rfl <;> simp [setBlock]
  refine ⟨hs.1, ⟨?_, ?_, ?_, ?_, fun b hb => hoth b (by omega)⟩, hz, hoth⟩
  · rcases hw with rfl | rfl <;> rfl
  · rcases hw with rfl | rfl <;> rfl
  · rcases hw with rfl | rfl <;> rfl
  · omega
theorem left_grps {l : List GrpR} {k : Nat} {x : GrpR} {seen : Array Nat} (hx : l[k]? = some x) (hk : k ∉ seen) : (leftOf (entsG l) (seen.push k)).size < (leftOf (entsG l) seen).size := by
  refine left_shrinks (entsG l) seen (entG (x, k)) ?_
  simp only [leftOf, Array.toList_filter, List.mem_filter]
  exact ⟨entG_in hx, by simpa [entG] using hk⟩

end Go.Proofs.Ytinlojealfbbfaa
