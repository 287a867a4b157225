/- Grades: the map from grades to truths in memory; written by wip/tools/grades9.py out of chapter 1's texts. -/
import Derived.Test.YthehkgpnnndboaaDoorPoints
import Derived.MapKept
namespace Go.Proofs.YthehkgpnnndboaaDoor
open Go.RowKit Go.Shelf
open Go.ChangeMaps (setBlock)

/-- a grade and a truth that has it -/
abbrev GT := Int × List Int
def entM (p : GT × Nat) : MapEntry := { key := .int .i64 p.1.1, val := .agg (cellsT p.1.2), born := p.2 }
def entsM (l : List GT) : Array MapEntry := (l.zipIdx.map entM).toArray
/-- block m is a map by Ids that holds just the entries l, in the order in which they came -/
def BookAt (w : World) (m : Nat) (l : List GT) : Prop := w.heap[m]? = some (.map (entsM l) l.length)
theorem BookAt.lt {w : World} {m : Nat} {l : List GT} (h : BookAt w m l) : m < w.heap.size := by
  rcases Nat.lt_or_ge m w.heap.size with hlt | hge
  · exact hlt
  · unfold BookAt at h; rw [Array.getElem?_eq_none hge] at h; cases h
theorem BookAt.grow {w w' : World} {m : Nat} {l : List GT} (h : BookAt w m l) (g : Grow w w') : BookAt w' m l := (Below.block g m h.lt).trans h
theorem BookAt.setCell {w : World} {m : Nat} {l : List GT} (h : BookAt w m l) {p : Addr} (hp : m ≠ p.block) (u : Value) : BookAt (w.setCell p u) m l := (Below.heap_setCell w p u m hp).trans h

def findE (l : List GT) (id : Int) : Option GT := l.find? fun y => y.1 == id
theorem findNow_book (id : Int) : ∀ (l : List GT) (s i : Nat), ∃ k, Instr.findNow (.int .i64) (.int .i64 id) ((l.zipIdx s).map entM) i = some ((findE l id).map fun y => (k, .agg (cellsT y.2)))
  | [], s, i => ⟨0, rfl⟩
  | y :: l, s, i => by
    simp only [List.zipIdx_cons, List.map_cons, Instr.findNow, entM, Instr.sameNow, if_true, findE, List.find?_cons]
    by_cases h : y.1 = id
    · subst h
      exact ⟨i, by simp⟩
    · have h1 : (id == y.1) = false := by simp; omega
      have h2 : (y.1 == id) = false := by simp; omega
      obtain ⟨k, hk⟩ := findNow_book id l (s + 1) (i + 1)
      exact ⟨k, by rw [h1, h2]; exact hk⟩

abbrev zeroT : Array Value := #[.int .i64 0, .int .i64 0, .int .i64 0, .int .i64 0]
theorem zeroValueT (w : World) : (zeroValue 81).run Tryd.prog w = .ok (.agg zeroT) w := by kernel_rfl

def foundV (l : List GT) (id : Int) : Value := match findE l id with
  | some y => .agg (cellsT y.2)
  | none => .agg zeroT
theorem run_lookup_book {w : World} {m : Nat} {l : List GT} (h : BookAt w m l) (id : Int) :
    (Instr.lookup 91 (.map (some m)) (.int .i64 id) true).run Tryd.prog w = .ok (.tuple #[foundV l id, .bool (findE l id).isSome]) w := by
  obtain ⟨k, hk⟩ := findNow_book id l 0 0
  have hf : (Instr.findKey 3 (.int .i64 id) ((l.zipIdx).map entM)).run Tryd.prog w = .ok ((findE l id).map fun y => (k, .agg (cellsT y.2))) w := MapKept.run_findKey Tryd.underlying3 hk
  have hc : ∀ e, (Instr.checkKey e 10000 3 (.int .i64 id)).run Tryd.prog w = .ok () w := fun e => MapKept.run_checkKey Tryd.underlying3 (by simp [MapKept.IsKey]) e 9999
  simp only [Instr.lookup, Sem.run_bind, run_underlying Tryd.underlying91, Result.andThen, MapKept.run_getObj_map h, entsM]
  cases hy : findE l id with
  | none => rw [hy] at hf; simp [hc, hf, hy, foundV, Result.andThen]
  | some y => rw [hy] at hf; simp [hc, hf, hy, foundV]

theorem setBlock_at {w : World} {r : Nat} {o o' : Obj} (h : w.heap[r]? = some o) : (setBlock w r o').heap[r]? = some o' := by
  have hlt : r < w.heap.size := (Array.getElem?_eq_some_iff.1 h).1
  simp [setBlock, hlt]
theorem setBlock_grown (w : World) (r : Nat) (o : Obj) : w.grownBy (setBlock w r o) (some r) :=
  ⟨rfl, rfl, rfl, by simp [setBlock], fun k _ hne => by
    have h : r ≠ k := fun e => hne (by rw [e])
    simp [setBlock, Array.getElem?_setIfInBounds_ne h]⟩
theorem entsM_push (l : List GT) (x : GT) : (entsM l).push { key := .int .i64 x.1, val := .agg (cellsT x.2), born := l.length } = entsM (l ++ [x]) := by
  simp [entsM, List.zipIdx_append, entM]
theorem run_update_book {w : World} {m : Nat} {l : List GT} (h : BookAt w m l) (x : GT) (hn : findE l x.1 = none) :
    (Instr.mapUpdate 91 (.map (some m)) (.int .i64 x.1) (.agg (cellsT x.2))).run Tryd.prog w = .ok () (setBlock w m (.map (entsM (l ++ [x])) (l.length + 1))) := by
  obtain ⟨k, hk⟩ := findNow_book x.1 l 0 0
  have hf : (Instr.findKey 3 (.int .i64 x.1) ((l.zipIdx).map entM)).run Tryd.prog w = .ok ((findE l x.1).map fun y => (k, .agg (cellsT y.2))) w := MapKept.run_findKey Tryd.underlying3 hk
  have hc : ∀ e, (Instr.checkKey e 10000 3 (.int .i64 x.1)).run Tryd.prog w = .ok () w := fun e => MapKept.run_checkKey Tryd.underlying3 (by simp [MapKept.IsKey]) e 9999
  rw [hn] at hf
  have hs : ∀ o, (setObj m o).run Tryd.prog w = .ok () (setBlock w m o) := fun o => MapKept.run_setObj_map o h
  have hp := entsM_push l x
  unfold entsM at hp
  simp only [Instr.mapUpdate, Sem.run_bind, run_underlying Tryd.underlying91, Result.andThen, MapKept.run_getObj_map h, hc, entsM, hf, Option.map_none, hs, hp]
theorem BookAt.push {w : World} {m : Nat} {l : List GT} (h : BookAt w m l) (x : GT) : BookAt (setBlock w m (.map (entsM (l ++ [x])) (l.length + 1))) m (l ++ [x]) := by
  unfold BookAt
  rw [setBlock_at h]
  simp

theorem entM_mem {l : List GT} {e : MapEntry} (h : e ∈ (entsM l).toList) : ∃ k x, l[k]? = some x ∧ e = entM (x, k) := by
  simp only [entsM, List.mem_map] at h
  obtain ⟨⟨x, k⟩, hm, rfl⟩ := h
  exact ⟨k, x, (List.mem_zipIdx_iff_getElem?.1 hm), rfl⟩
theorem entM_in {l : List GT} {k : Nat} {x : GT} (h : l[k]? = some x) : entM (x, k) ∈ (entsM l).toList := by
  simp only [entsM, List.mem_map]
  exact ⟨(x, k), List.mem_zipIdx_iff_getElem?.2 h, rfl⟩
theorem entM_born {l : List GT} {e : MapEntry} (h : e ∈ (entsM l).toList) : e.born < l.length := by
  obtain ⟨k, x, hx, rfl⟩ := entM_mem h
  exact (List.getElem?_eq_some_iff.1 hx).1
theorem entM_nodup (l : List GT) : ((entsM l).toList.map (·.born)).Nodup := by
  have : (entsM l).toList.map (·.born) = List.range' 0 l.length := by
    simp only [entsM, List.map_map]
    rw [show ((fun x : MapEntry => x.born) ∘ entM) = Prod.snd from rfl, List.zipIdx_map_snd]
  rw [this]
  exact List.nodup_range'
/-- the range r over the book at m, with the places that were handed out -/
def IterAt (w : World) (r m n : Nat) (seen : Array Nat) : Prop := w.heap[r]? = some (.mapIter (some m) n seen n)
theorem next_book {w : World} {r m : Nat} {l : List GT} {seen : Array Nat} (ty : TypeId) (hr : IterAt w r m l.length seen) (hb : BookAt w m l) :
    ((∀ k x, l[k]? = some x → k ∈ seen) ∧ (Instr.next (.pointer (some ⟨r, 0, none⟩)) false ty).run Tryd.prog w = .ok (.tuple #[.bool false]) w) ∨
    ∃ k x, l[k]? = some x ∧ k ∉ seen ∧ ∃ w1 : World, (w1 = w ∨ w1 = w.drew) ∧
      (Instr.next (.pointer (some ⟨r, 0, none⟩)) false ty).run Tryd.prog w = .ok (.tuple #[.bool true, .int .i64 x.1, .agg (cellsT x.2)]) (setBlock w1 r (.mapIter (some m) l.length (seen.push k) l.length)) := by
  rcases run_next_at (P := Tryd.prog) w ty r m l.length l.length seen (entsM l) l.length hr hb (fun e he => entM_born he) (Nat.le_refl _) with ⟨h0, hn⟩ | ⟨e, he, w1, hw, hn⟩
  · refine .inl ⟨fun k x hx => ?_, hn⟩
    by_cases hk : k ∈ seen
    · exact hk
    · have : entM (x, k) ∈ (leftOf (entsM l) seen).toList := by
        simp only [leftOf, Array.toList_filter, List.mem_filter]
        exact ⟨entM_in hx, by simpa [entM] using hk⟩
      have h1 : (leftOf (entsM l) seen).toList.length = 0 := by simpa using h0
      rw [List.length_eq_zero_iff.1 h1] at this
      simp at this
  · simp only [leftOf, Array.toList_filter, List.mem_filter] at he
    obtain ⟨k, x, hx, rfl⟩ := entM_mem he.1
    exact .inr ⟨k, x, hx, by simpa [entM] using he.2, w1, hw, hn⟩

theorem IterAt.lt {w : World} {r m n : Nat} {seen : Array Nat} (h : IterAt w r m n seen) : r < w.heap.size := by
  rcases Nat.lt_or_ge r w.heap.size with hlt | hge
  · exact hlt
  · unfold IterAt at h; rw [Array.getElem?_eq_none hge] at h; cases h
theorem IterAt.grow {w w' : World} {r m n : Nat} {seen : Array Nat} (h : IterAt w r m n seen) (g : Grow w w') : IterAt w' r m n seen := (Below.block g r h.lt).trans h
theorem IterAt.setCell {w : World} {r m n : Nat} {seen : Array Nat} (h : IterAt w r m n seen) {p : Addr} (hp : r ≠ p.block) (u : Value) : IterAt (w.setCell p u) r m n seen := (Below.heap_setCell w p u r hp).trans h
theorem IterAt.seen {w : World} {r m n : Nat} {seen : Array Nat} (h : IterAt w r m n seen) : w.iterSeen r = seen := by
  unfold World.iterSeen; rw [h]
theorem range_book {w : World} {m : Nat} {l : List GT} (h : BookAt w m l) :
    (Instr.range 91 (.map (some m))).run Tryd.prog w = .ok (.pointer (some ⟨w.heap.size, 0, none⟩)) (w.alloc (.mapIter (some m) l.length #[] l.length)) :=
  run_range_map (P := Tryd.prog) w 91 _ _ m (entsM l) l.length Tryd.underlying91 h
theorem IterAt.new (w : World) (m n : Nat) : IterAt (w.alloc (.mapIter (some m) n #[] n)) w.heap.size m n #[] := by
  exact heap_alloc_new w _
theorem entry_book {w : World} {r m k : Nat} {l : List GT} {seen : Array Nat} {x : GT} (hr : IterAt w r m l.length (seen.push k)) (hb : BookAt w m l) (hx : l[k]? = some x) :
    (Instr.entry (.pointer (some ⟨r, 0, none⟩))).run Tryd.prog w = .ok (.tuple #[.int .i64 x.1, .agg (cellsT x.2)]) w :=
  run_entry_at (P := Tryd.prog) w r m l.length seen (entsM l) l.length (entM (x, k)) hr hb (entM_in hx) (entM_nodup l)
/-- the world behind a step of the range: only the range itself has turned -/
theorem step_book {w w1 : World} {r m n k : Nat} {seen : Array Nat} (hr : IterAt w r m n seen) (hw : w1 = w ∨ w1 = w.drew) :
    IterAt (setBlock w1 r (.mapIter (some m) n (seen.push k) n)) r m n (seen.push k) ∧ Below r w (setBlock w1 r (.mapIter (some m) n (seen.push k) n)) ∧
    (setBlock w1 r (.mapIter (some m) n (seen.push k) n)).heap.size = w.heap.size ∧ ∀ b, b ≠ r → (setBlock w1 r (.mapIter (some m) n (seen.push k) n)).heap[b]? = w.heap[b]? := by
  have hr1 : w1.heap[r]? = some (.mapIter (some m) n seen n) := by rcases hw with rfl | rfl <;> exact hr
  have hs := MapKept.heap_set (o' := .mapIter (some m) n (seen.push k) n) hr1
  have hoth : ∀ b, b ≠ r → (setBlock w1 r (.mapIter (some m) n (seen.push k) n)).heap[b]? = w.heap[b]? := fun b hb => (hs.2 b hb).trans (by rcases hw with rfl | rfl <;> rfl)
  have hz : (setBlock w1 r (.mapIter (some m) n (seen.push k) n)).heap.size = w.heap.size := by rcases hw with rfl | rfl <;> simp [setBlock]
  refine ⟨hs.1, ⟨?_, ?_, ?_, ?_, fun b hb => hoth b (by omega)⟩, hz, hoth⟩
  · rcases hw with rfl | rfl <;> rfl
  · rcases hw with rfl | rfl <;> rfl
  · rcases hw with rfl | rfl <;> rfl
  · omega
theorem left_book {l : List GT} {k : Nat} {x : GT} {seen : Array Nat} (hx : l[k]? = some x) (hk : k ∉ seen) : (leftOf (entsM l) (seen.push k)).size < (leftOf (entsM l) seen).size := by
  refine left_shrinks (entsM l) seen (entM (x, k)) ?_
  simp only [leftOf, Array.toList_filter, List.mem_filter]
  exact ⟨entM_in hx, by simpa [entM] using hk⟩

end Go.Proofs.YthehkgpnnndboaaDoor

namespace Go.Proofs.YthehkgpnnndboaaDoor
open Go.RowKit
open Go.ChangeMaps (setBlock)

/-- ss are the entries at the places that were handed out -/
def Taken (bk : List GT) (seen : Array Nat) (ss : List GT) : Prop := seen.toList.Nodup ∧ ss.length = seen.size ∧ ∀ i k : Nat, seen[i]? = some k → bk[k]? = ss[i]? ∧ k < bk.length
theorem Taken.start (bk : List GT) : Taken bk #[] [] := ⟨by simp, by simp, by simp⟩
theorem Taken.push {bk : List GT} {seen : Array Nat} {ss : List GT} (h : Taken bk seen ss) {k : Nat} {x : GT} (hx : bk[k]? = some x) (hk : k ∉ seen) : Taken bk (seen.push k) (ss ++ [x]) := by
  obtain ⟨h1, h2, h3⟩ := h
  refine ⟨?_, by simp [h2], fun i j hj => ?_⟩
  · rw [Array.toList_push, List.nodup_append]
    refine ⟨h1, by simp, fun a ha b hb => ?_⟩
    have : b = k := by simpa using hb
    subst this
    rintro rfl
    exact hk (by simpa using ha)
  · rw [Array.getElem?_push] at hj
    by_cases hi : i = seen.size
    · rw [if_pos hi] at hj
      obtain rfl := Option.some.inj hj
      subst hi
      exact ⟨by rw [hx, ← h2]; simp, lt_of_at hx⟩
    · rw [if_neg hi] at hj
      obtain ⟨e1, e2⟩ := h3 i j hj
      have : i < seen.size := by
        rcases Nat.lt_or_ge i seen.size with h | h
        · exact h
        · rw [Array.getElem?_eq_none h] at hj; cases hj
      exact ⟨by rw [e1, List.getElem?_append_left (by omega)], e2⟩
theorem Taken.length_le {bk : List GT} {seen : Array Nat} {ss : List GT} (h : Taken bk seen ss) : ss.length ≤ bk.length := by
  obtain ⟨h1, h2, h3⟩ := h
  have : seen.toList.length ≤ (List.range bk.length).length := by
    refine List.Nodup.length_le_of_subset h1 fun k hk => ?_
    obtain ⟨i, hi⟩ := List.getElem?_of_mem hk
    exact List.mem_range.2 (h3 i k (by simpa using hi)).2
  simp at this
  omega
theorem Taken.lt {bk : List GT} {seen : Array Nat} {ss : List GT} (h : Taken bk seen ss) {k : Nat} {x : GT} (hx : bk[k]? = some x) (hk : k ∉ seen) : ss.length < bk.length := by
  have := (h.push hx hk).length_le
  simp at this
  omega
theorem Taken.all {bk : List GT} {seen : Array Nat} {ss : List GT} (h : Taken bk seen ss) (hall : ∀ k x, bk[k]? = some x → k ∈ seen) : ss.Perm bk := by
  obtain ⟨h1, h2, h3⟩ := h
  have hp : seen.toList.Perm (List.range bk.length) := by
    refine (List.perm_ext_iff_of_nodup h1 List.nodup_range).2 fun k => ?_
    rw [List.mem_range]
    constructor
    · intro hk
      obtain ⟨i, hi⟩ := List.getElem?_of_mem hk
      exact (h3 i k (by simpa using hi)).2
    · intro hk
      simpa using hall k bk[k] (List.getElem?_eq_getElem hk)
  have e1 : ss.map some = seen.toList.map fun k => bk[k]? := by
    refine List.ext_getElem? fun i => ?_
    rw [List.getElem?_map, List.getElem?_map]
    by_cases hi : i < seen.size
    · have hk : seen[i]? = some seen[i] := Array.getElem?_eq_getElem hi
      have hs : ss[i]? = some ss[i] := List.getElem?_eq_getElem (by omega)
      have hk' : seen.toList[i]? = some seen[i] := by rw [Array.getElem?_toList]; exact hk
      rw [hk', hs, Option.map_some, Option.map_some, (h3 i _ hk).1, hs]
    · rw [List.getElem?_eq_none (by omega), List.getElem?_eq_none (by simp; omega)]
      rfl
  have e2 : bk.map some = (List.range bk.length).map fun k => bk[k]? := by
    refine List.ext_getElem? fun i => ?_
    rw [List.getElem?_map, List.getElem?_map]
    by_cases hi : i < bk.length
    · rw [List.getElem?_eq_getElem hi, List.getElem?_range hi, Option.map_some, Option.map_some, List.getElem?_eq_getElem hi]
    · rw [List.getElem?_eq_none (by omega), List.getElem?_eq_none (by simp; omega)]
      rfl
  have h4 : (ss.map some).Perm (bk.map some) := by rw [e1, e2]; exact hp.map _
  have := h4.filterMap id
  simpa [List.filterMap_map] using this

theorem step_grown {w w1 : World} {r : Nat} {o : Obj} (hw : w1 = w ∨ w1 = w.drew) : w.grownBy (setBlock w1 r o) (some r) := by
  rcases hw with rfl | rfl
  · exact setBlock_grown _ _ _
  · have := setBlock_grown w r o
    exact ⟨this.os, this.tape, this.output, this.size, this.block⟩


/-- what the map holds behind one more truth: for each grade the first that has it -/
def stepL (d : PaperI) (L : List GT) (ps : List Int) : List GT := match findE L (gradeOf d ps : Int) with
  | some _ => L
  | none => L ++ [((gradeOf d ps : Int), ps)]
theorem findE_step (d : PaperI) (L : List GT) (ps : List Int) (g : Int) : findE (stepL d L ps) g = match findE L g with
    | some y => some y
    | none => if (gradeOf d ps : Int) = g then some ((gradeOf d ps : Int), ps) else none := by
  unfold stepL
  by_cases h : (gradeOf d ps : Int) = g
  · rw [h]
    cases hf : findE L g with
    | some y => exact hf
    | none =>
      dsimp only
      unfold findE at hf ⊢
      rw [List.find?_append, hf, if_pos rfl]
      simp
  · rw [if_neg h]
    cases hf : findE L (gradeOf d ps : Int) with
    | some y =>
      dsimp only
      cases findE L g <;> rfl
    | none =>
      dsimp only
      unfold findE
      rw [List.find?_append]
      cases hg : L.find? fun y => y.1 == g with
      | some y => rfl
      | none =>
        have h2 : ((gradeOf d ps : Int) == g) = false := beq_eq_false_iff_ne.2 h
        simp [h2]
theorem findE_fold (d : PaperI) (g : Int) : ∀ (l : List (List Int)) (L : List GT), findE (l.foldl (stepL d) L) g = match findE L g with
    | some y => some y
    | none => (l.find? fun ps => decide ((gradeOf d ps : Int) = g)).map fun ps => ((gradeOf d ps : Int), ps)
  | [], L => by
    rw [List.foldl_nil]
    cases findE L g <;> rfl
  | ps :: l, L => by
    rw [List.foldl_cons, findE_fold d g l, findE_step]
    cases hf : findE L g with
    | some y => rfl
    | none =>
      dsimp only
      by_cases h : (gradeOf d ps : Int) = g
      · rw [if_pos h, List.find?_cons_of_pos (by rw [decide_eq_true_iff]; exact h)]
        rfl
      · rw [if_neg h, List.find?_cons_of_neg (by rw [decide_eq_true_iff]; exact h)]
/-- what the map holds: the grades of the possible truths, each with the first that has it -/
def shownL (d : PaperI) : List GT := (truthsL d).foldl (stepL d) []
theorem find_shown (d : PaperI) (g : Int) : findE (shownL d) g = (showD d g).map fun ps => (g, ps) := by
  unfold shownL
  rw [findE_fold]
  show Option.map _ (showD d g) = _
  cases h : showD d g with
  | none => rfl
  | some ps =>
    show some ((gradeOf d ps : Int), ps) = some (g, ps)
    rw [(show_some h).2]
theorem step_keys {d : PaperI} {ps : List Int} {L : List GT} {g : Int} (h : g ∈ (stepL d L ps).map (·.1)) : g ∈ L.map (·.1) ∨ g = (gradeOf d ps : Int) := by
  unfold stepL at h
  cases hf : findE L (gradeOf d ps : Int) with
  | some y =>
    rw [hf] at h
    exact .inl h
  | none =>
    rw [hf] at h
    dsimp only at h
    rw [List.map_append, List.mem_append] at h
    rcases h with h | h
    · exact .inl h
    · right
      simpa using h
theorem fold_keys {d : PaperI} {g : Int} : ∀ {l : List (List Int)} {L : List GT}, g ∈ (l.foldl (stepL d) L).map (·.1) → g ∈ L.map (·.1) ∨ ∃ ps ∈ l, g = (gradeOf d ps : Int)
  | [], _, h => .inl h
  | ps :: l, L, h => by
    rcases fold_keys (l := l) h with h | ⟨qs, hq, e⟩
    · rcases step_keys h with h | h
      · exact .inl h
      · exact .inr ⟨ps, List.mem_cons_self, h⟩
    · exact .inr ⟨qs, List.mem_cons_of_mem _ hq, e⟩
/-- the keys of the map are the grades of the possible truths -/
theorem shown_keys (d : PaperI) (g : Int) : g ∈ (shownL d).map (·.1) ↔ g ∈ gradesL d := by
  constructor
  · intro h
    rcases fold_keys h with h | ⟨ps, hp, rfl⟩
    · simp at h
    · exact List.mem_map.2 ⟨ps, hp, rfl⟩
  · intro h
    have h2 := show_is.2 h
    have h3 := find_shown d g
    cases hq : showD d g with
    | none => rw [hq] at h2; cases h2
    | some ps =>
      rw [hq] at h3
      unfold findE at h3
      exact List.mem_map.2 ⟨_, List.mem_of_find?_eq_some h3, rfl⟩
theorem shown_span (d : PaperI) : spanS ((shownL d).map (·.1)) = gradeS d := span_mem fun n => shown_keys d n

end Go.Proofs.YthehkgpnnndboaaDoor
