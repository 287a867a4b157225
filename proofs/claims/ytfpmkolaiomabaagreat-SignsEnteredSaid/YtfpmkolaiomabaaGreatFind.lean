/- The signs of a book that agree with what was seen: as mathematics. The signs of a book that agree with what was seen: the walk. Sorting and compacting a row of the call's own. A sorted list, compacted, ascends and has the same members. The signs of a book that agree with what was seen: the walk. A book and what was seen, read. Find: the program's. -/
import Derived.Test.YtfpmkolaiomabaaGreatNarrow
import Derived.Test.YtfpmkolaiomabaaGreatEntry
import Derived.Test.YtfpmkolaiomabaaGreatMem
import Derived.Test.YtfpmkolaiomabaaGreatMirror
import Derived.Test.YtfpmkolaiomabaaGreatShelf
import Derived.Sort.OwnSortedInts
namespace Go.Proofs.YtfpmkolaiomabaaGreat
open Go.RowKit
open Go.ChangeMaps (setBlock)

/-- r holds just the signs of those entries that agree, each once, in ascending order -/
def SignsOf (s : SeenD) (l : List EntryR) (r : List Int) : Prop := r.Pairwise (· < ·) ∧ ∀ x, x ∈ r ↔ ∃ y ∈ l, agreesD s y.d = true ∧ y.d.sign = x

theorem ascending_eq : ∀ {a b : List Int}, a.Pairwise (· < ·) → b.Pairwise (· < ·) → (∀ x, x ∈ a ↔ x ∈ b) → a = b
  | [], [], _, _, _ => rfl
  | [], y :: b, _, _, h => by have := (h y).2 List.mem_cons_self; simp at this
  | x :: a, [], _, _, h => by have := (h x).1 List.mem_cons_self; simp at this
  | x :: a, y :: b, ha, hb, h => by
    obtain ⟨hx, ha'⟩ := List.pairwise_cons.1 ha
    obtain ⟨hy, hb'⟩ := List.pairwise_cons.1 hb
    have hxy : x = y := by
      have h1 := (h x).1 List.mem_cons_self
      have h2 := (h y).2 List.mem_cons_self
      rcases List.mem_cons.1 h1 with h1 | h1
      · exact h1
      · rcases List.mem_cons.1 h2 with h2 | h2
        · exact h2.symm
        · have h3 := hx _ h2
          have h4 := hy _ h1
          omega
    subst hxy
    suffices hab : a = b by rw [hab]
    refine ascending_eq ha' hb' fun z => ?_
    have hz := h z
    simp only [List.mem_cons] at hz
    constructor
    · intro hm
      rcases hz.1 (.inr hm) with rfl | h5
      · exact absurd (hx _ hm) (by omega)
      · exact h5
    · intro hm
      rcases hz.2 (.inr hm) with rfl | h5
      · exact absurd (hy _ hm) (by omega)
      · exact h5
/-- there is just one such list -/
theorem SignsOf.unique {s : SeenD} {l : List EntryR} {a b : List Int} (ha : SignsOf s l a) (hb : SignsOf s l b) : a = b :=
  ascending_eq ha.1 hb.1 fun x => (ha.2 x).trans (hb.2 x).symm

/-! ### A range over the book -/
theorem entM_mem {l : List EntryR} {e : MapEntry} (h : e ∈ (entsM l).toList) : ∃ k x, l[k]? = some x ∧ e = entM (x, k) := by
  simp only [entsM, List.mem_map] at h
  obtain ⟨⟨x, k⟩, hm, rfl⟩ := h
  exact ⟨k, x, (List.mem_zipIdx_iff_getElem?.1 hm), rfl⟩
theorem entM_in {l : List EntryR} {k : Nat} {x : EntryR} (h : l[k]? = some x) : entM (x, k) ∈ (entsM l).toList := by
  simp only [entsM, List.mem_map]
  exact ⟨(x, k), List.mem_zipIdx_iff_getElem?.2 h, rfl⟩
theorem entM_born {l : List EntryR} {e : MapEntry} (h : e ∈ (entsM l).toList) : e.born < l.length := by
  obtain ⟨k, x, hx, rfl⟩ := entM_mem h
  exact (List.getElem?_eq_some_iff.1 hx).1
theorem entM_nodup (l : List EntryR) : ((entsM l).toList.map (·.born)).Nodup := by
  have : (entsM l).toList.map (·.born) = List.range' 0 l.length := by
    simp only [entsM, List.map_map]
    rw [show ((fun x : MapEntry => x.born) ∘ entM) = Prod.snd from rfl, List.zipIdx_map_snd]
  rw [this]
  exact List.nodup_range'
/-- the range r over the book at m, with the places that were handed out -/
def IterAt (w : World) (r m n : Nat) (seen : Array Nat) : Prop := w.heap[r]? = some (.mapIter (some m) n seen n)
theorem next_book {w : World} {r m : Nat} {l : List EntryR} {seen : Array Nat} (ty : TypeId) (hr : IterAt w r m l.length seen) (hb : BookAt w m l) :
    ((∀ k x, l[k]? = some x → k ∈ seen) ∧ (Instr.next (.pointer (some ⟨r, 0, none⟩)) false ty).run Tryz.prog w = .ok (.tuple #[.bool false]) w) ∨
    ∃ k x, l[k]? = some x ∧ k ∉ seen ∧ ∃ w1 : World, (w1 = w ∨ w1 = w.drew) ∧
      (Instr.next (.pointer (some ⟨r, 0, none⟩)) false ty).run Tryz.prog w = .ok (.tuple #[.bool true, .int .i64 x.d.id, entryV x]) (setBlock w1 r (.mapIter (some m) l.length (seen.push k) l.length)) := by
  rcases run_next_at (P := Tryz.prog) w ty r m l.length l.length seen (entsM l) l.length hr hb (fun e he => entM_born he) (Nat.le_refl _) with ⟨h0, hn⟩ | ⟨e, he, w1, hw, hn⟩
  · refine .inl ⟨fun k x hx => ?_, hn⟩
    by_cases hk : k ∈ seen
    · exact hk
    · have : entM (x, k) ∈ (leftOf (entsM l) seen).toList := by
        simp only [leftOf, Array.toList_filter, List.mem_filter]
        exact ⟨entM_in hx, by simpa [entM] using hk⟩
      have h1 : (leftOf (entsM l) seen).toList.length = 0 := by simpa using h0
      rw [List.length_eq_zero_iff.1 h1] at this
      simp at this
  · simp only [leftOf, Array.toList_filter, List.mem_filter] at he
    obtain ⟨k, x, hx, rfl⟩ := entM_mem he.1
    exact .inr ⟨k, x, hx, by simpa [entM] using he.2, w1, hw, hn⟩

theorem IterAt.lt {w : World} {r m n : Nat} {seen : Array Nat} (h : IterAt w r m n seen) : r < w.heap.size := by
  rcases Nat.lt_or_ge r w.heap.size with hlt | hge
  · exact hlt
  · unfold IterAt at h; rw [Array.getElem?_eq_none hge] at h; cases h
theorem IterAt.grow {w w' : World} {r m n : Nat} {seen : Array Nat} (h : IterAt w r m n seen) (g : Grow w w') : IterAt w' r m n seen := (Below.block g r h.lt).trans h
theorem IterAt.setCell {w : World} {r m n : Nat} {seen : Array Nat} (h : IterAt w r m n seen) {p : Addr} (hp : r ≠ p.block) (u : Value) : IterAt (w.setCell p u) r m n seen := (Below.heap_setCell w p u r hp).trans h
theorem IterAt.seen {w : World} {r m n : Nat} {seen : Array Nat} (h : IterAt w r m n seen) : w.iterSeen r = seen := by
  unfold World.iterSeen; rw [h]
theorem range_book {w : World} {m : Nat} {l : List EntryR} (h : BookAt w m l) :
    (Instr.range 82 (.map (some m))).run Tryz.prog w = .ok (.pointer (some ⟨w.heap.size, 0, none⟩)) (w.alloc (.mapIter (some m) l.length #[] l.length)) :=
  run_range_map (P := Tryz.prog) w 82 _ _ m (entsM l) l.length Tryz.underlying82 h
theorem IterAt.new (w : World) (m n : Nat) : IterAt (w.alloc (.mapIter (some m) n #[] n)) w.heap.size m n #[] := by
  exact heap_alloc_new w _
theorem entry_book {w : World} {r m k : Nat} {l : List EntryR} {seen : Array Nat} {x : EntryR} (hr : IterAt w r m l.length (seen.push k)) (hb : BookAt w m l) (hx : l[k]? = some x) :
    (Instr.entry (.pointer (some ⟨r, 0, none⟩))).run Tryz.prog w = .ok (.tuple #[.int .i64 x.d.id, entryV x]) w :=
  run_entry_at (P := Tryz.prog) w r m l.length seen (entsM l) l.length (entM (x, k)) hr hb (entM_in hx) (entM_nodup l)
/-- the world behind a step of the range: only the range itself has turned -/
theorem step_book {w w1 : World} {r m n k : Nat} {seen : Array Nat} (hr : IterAt w r m n seen) (hw : w1 = w ∨ w1 = w.drew) :
    IterAt (setBlock w1 r (.mapIter (some m) n (seen.push k) n)) r m n (seen.push k) ∧ Below r w (setBlock w1 r (.mapIter (some m) n (seen.push k) n)) ∧
    (setBlock w1 r (.mapIter (some m) n (seen.push k) n)).heap.size = w.heap.size ∧ ∀ b, b ≠ r → (setBlock w1 r (.mapIter (some m) n (seen.push k) n)).heap[b]? = w.heap[b]? := by
  have hr1 : w1.heap[r]? = some (.mapIter (some m) n seen n) := by rcases hw with rfl | rfl <;> exact hr
  have hs := MapKept.heap_set (o' := .mapIter (some m) n (seen.push k) n) hr1
  have hoth : ∀ b, b ≠ r → (setBlock w1 r (.mapIter (some m) n (seen.push k) n)).heap[b]? = w.heap[b]? := fun b hb => (hs.2 b hb).trans (by rcases hw with rfl | rfl <;> rfl)
  have hz : (setBlock w1 r (.mapIter (some m) n (seen.push k) n)).heap.size = w.heap.size := by rcases hw with rfl | rfl <;> simp [setBlock]
  refine ⟨hs.1, ⟨?_, ?_, ?_, ?_, fun b hb => hoth b (by omega)⟩, hz, hoth⟩
  · rcases hw with rfl | rfl <;> rfl
  · rcases hw with rfl | rfl <;> rfl
  · rcases hw with rfl | rfl <;> rfl
  · omega
theorem left_book {l : List EntryR} {k : Nat} {x : EntryR} {seen : Array Nat} (hx : l[k]? = some x) (hk : k ∉ seen) : (leftOf (entsM l) (seen.push k)).size < (leftOf (entsM l) seen).size := by
  refine left_shrinks (entsM l) seen (entM (x, k)) ?_
  simp only [leftOf, Array.toList_filter, List.mem_filter]
  exact ⟨entM_in hx, by simpa [entM] using hk⟩

end Go.Proofs.YtfpmkolaiomabaaGreat

namespace Go.Proofs.YtfpmkolaiomabaaGreat
open Go.RowKit
open Go.ChangeMaps (setBlock)

/-- what the loop keeps: xs holds just the signs of the entries that were handed out and agree -/
def Gathered (s : SeenD) (l : List EntryR) (seen : Array Nat) (xs : List Int) : Prop := xs.length + (leftOf (entsM l) seen).size ≤ l.length ∧
  ∀ x, x ∈ xs ↔ ∃ k y, k ∈ seen ∧ l[k]? = some y ∧ agreesD s y.d = true ∧ y.d.sign = x
theorem Gathered.start (s : SeenD) (l : List EntryR) : Gathered s l #[] [] := by
  refine ⟨?_, fun x => by simp⟩
  have : (leftOf (entsM l) #[]).size ≤ (entsM l).size := by unfold leftOf; exact Array.size_filter_le
  simpa [entsM] using this
theorem Gathered.take {s : SeenD} {l : List EntryR} {seen : Array Nat} {xs : List Int} (h : Gathered s l seen xs) {k : Nat} {y : EntryR} (hy : l[k]? = some y) (hk : k ∉ seen) (ha : agreesD s y.d = true) : Gathered s l (seen.push k) (xs ++ [y.d.sign]) := by
  refine ⟨?_, fun x => ?_⟩
  · have := left_book hy hk
    have := h.1
    simp
    omega
  · rw [List.mem_append, h.2 x]
    constructor
    · rintro (⟨j, z, hj, hz⟩ | hx)
      · exact ⟨j, z, by simp [hj], hz⟩
      · exact ⟨k, y, by simp, hy, ha, (List.mem_singleton.1 hx).symm⟩
    · rintro ⟨j, z, hj, hz, h1, h2⟩
      rcases Array.mem_push.1 hj with hj | rfl
      · exact .inl ⟨j, z, hj, hz, h1, h2⟩
      · rw [hy] at hz
        obtain rfl := Option.some.inj hz
        exact .inr (by simp [h2])
theorem Gathered.skip {s : SeenD} {l : List EntryR} {seen : Array Nat} {xs : List Int} (h : Gathered s l seen xs) {k : Nat} {y : EntryR} (hy : l[k]? = some y) (hk : k ∉ seen) (ha : ¬agreesD s y.d = true) : Gathered s l (seen.push k) xs := by
  refine ⟨?_, fun x => ?_⟩
  · have := left_book hy hk
    have := h.1
    omega
  · rw [h.2 x]
    constructor
    · rintro ⟨j, z, hj, hz⟩
      exact ⟨j, z, by simp [hj], hz⟩
    · rintro ⟨j, z, hj, hz, h1, h2⟩
      rcases Array.mem_push.1 hj with hj | rfl
      · exact ⟨j, z, hj, hz, h1, h2⟩
      · rw [hy] at hz
        obtain rfl := Option.some.inj hz
        exact absurd h1 ha
theorem Gathered.all {s : SeenD} {l : List EntryR} {seen : Array Nat} {xs : List Int} (h : Gathered s l seen xs) (hall : ∀ k x, l[k]? = some x → k ∈ seen) (x : Int) : x ∈ xs ↔ ∃ y ∈ l, agreesD s y.d = true ∧ y.d.sign = x := by
  rw [h.2 x]
  constructor
  · rintro ⟨k, y, _, hy, h1, h2⟩
    exact ⟨y, List.mem_of_getElem? hy, h1, h2⟩
  · rintro ⟨y, hy, h1, h2⟩
    obtain ⟨k, hk⟩ := List.getElem?_of_mem hy
    exact ⟨k, y, hall k y hk, hk, h1, h2⟩

end Go.Proofs.YtfpmkolaiomabaaGreat

namespace Go.Proofs.YtfpmkolaiomabaaGreat
open Go.RowKit

abbrev sortedL (xs : List Int) : List Int := xs.mergeSort fun x y => decide (x ≤ y)
theorem own_sort {w : World} {base n cap : Nat} {A : Option Addr} {xs : List Int} (h : w.ownsRow base 3 1 (.slice A n cap) n (xs.map (Value.int .i64))) (hn : xs.length ≤ 1000000) :
    Calls Tryz.prog 99 #[.slice A n cap] w fun e w' => e = .returned (.tuple #[]) ∧ w'.ownsRow base 3 1 (.slice A n cap) n ((sortedL xs).map (Value.int .i64)) ∧ w.grownBy w' (Value.ownBlock (.slice A n cap)) := by
  have hlen : n = xs.length := by simpa using h.1.symm
  subst hlen
  rcases h.2 with ⟨h0, h1⟩ | ⟨g, c, cur, hv, hg, hh, h1, h2, h3, h4⟩
  · injection h0 with e1 e2 e3
    subst e1 e3
    have hx : xs = [] := by simpa using e2
    subst hx
    refine (Tryz.slices_Sort_int_none none 0 w).mono ?_
    rintro e w' ⟨rfl, rfl⟩
    exact ⟨rfl, by simpa [sortedL] using h, World.grownBy.refl _ _⟩
  · injection hv with e1 e2 e3
    subst e1 e3
    have hH := holds_of_blockI (w := w) (ss := xs) hh (by simpa using h4)
    refine (Tryz.slices_Sort_int g 0 cap xs w hH (Array.getElem?_eq_some_iff.1 hh).1 (by omega)).mono ?_
    rintro e w' ⟨rfl, m, os, rfl⟩
    exact ⟨rfl, ownsRow_sortedI (by simp) hg hh h1 h2 h3, grownBy_sortedI _⟩

theorem own_compact {w : World} {base n cap : Nat} {A : Option Addr} {xs : List Int} (h : w.ownsRow base 3 1 (.slice A n cap) n (xs.map (Value.int .i64))) (hn : xs.length ≤ 1000000) (hc : (Lib.compact xs).length ≤ xs.length) :
    Calls Tryz.prog 100 #[.slice A n cap] w fun e w' => e = .returned (.slice A (Lib.compact xs).length cap) ∧ w'.ownsRow base 3 1 (.slice A (Lib.compact xs).length cap) (Lib.compact xs).length ((Lib.compact xs).map (Value.int .i64)) ∧ w.grownBy w' (Value.ownBlock (.slice A n cap)) := by
  have hlen : n = xs.length := by simpa using h.1.symm
  subst hlen
  rcases h.2 with ⟨h0, h1⟩ | ⟨g, c, cur, hv, hg, hh, h1, h2, h3, h4⟩
  · injection h0 with e1 e2 e3
    subst e1 e3
    have hx : xs = [] := by simpa using e2
    subst hx
    refine (Tryz.slices_Compact_int_empty none 0 w).mono ?_
    rintro e w' ⟨rfl, rfl⟩
    exact ⟨rfl, by simpa [Lib.compact, Lib.compactUpTo] using h, World.grownBy.refl _ _⟩
  · injection hv with e1 e2 e3
    subst e1 e3
    have hH := holds_of_blockI (w := w) (ss := xs) hh (by simpa using h4)
    refine (Tryz.slices_Compact_int g 0 cap xs w hH (by omega) (by omega)).mono ?_
    rintro e w' ⟨rfl, m, rfl⟩
    have hl : (Lib.compact xs ++ List.replicate (xs.length - (Lib.compact xs).length) 0).length = xs.length := by simp; omega
    have h5 := ownsRow_sortedI (n := m) (os := #[]) hl hg hh h1 h2 h3
    have h6 := grownBy_sortedI (w := w) (g := g) (n := m) (os := #[]) (Lib.compact xs ++ List.replicate (xs.length - (Lib.compact xs).length) 0).toArray
    rw [Sort.grow_empty] at h5 h6
    refine ⟨rfl, ⟨by simp, ?_⟩, h6⟩
    rcases h5.2 with ⟨h0, _⟩ | ⟨g', c', cur', hv', hg', hh', k1, k2, k3, k4⟩
    · cases h0
    · injection hv' with f1 f2 f3
      injection f1 with f1
      injection f1 with f1
      subst f1 f3
      refine .inr ⟨g, cap, cur', rfl, hg', hh', by omega, k2, k3, ?_⟩
      have := congrArg (List.take (Lib.compact xs).length) k4
      rw [List.take_take, List.map_append, List.take_left' (by simp)] at this
      rw [← this]
      congr 1
      omega
end Go.Proofs.YtfpmkolaiomabaaGreat

namespace Go.Proofs.YtfpmkolaiomabaaGreat
open Go.RowKit

theorem compactUpTo_spec (d : Array Int) (hm : ∀ i j, i ≤ j → j < d.size → d[i]! ≤ d[j]!) : ∀ m, m ≤ d.size →
    (Lib.compactUpTo d m).Pairwise (· < ·) ∧ (Lib.compactUpTo d m).length ≤ m ∧ (∀ x, x ∈ Lib.compactUpTo d m ↔ ∃ j, j < m ∧ d[j]! = x)
  | 0, _ => ⟨by simp [Lib.compactUpTo], by simp [Lib.compactUpTo], by simp [Lib.compactUpTo]⟩
  | m + 1, hle => by
    obtain ⟨h1, h2, h3⟩ := compactUpTo_spec d hm m (by omega)
    rw [Lib.compactUpTo_succ]
    by_cases hk : Lib.keeps d m = true
    · rw [if_pos hk]
      refine ⟨List.pairwise_append.2 ⟨h1, by simp, ?_⟩, by simp; exact h2, fun x => ?_⟩
      · intro a ha b hb
        have hb : b = d[m]! := by simpa using hb
        obtain ⟨j, hj, rfl⟩ := (h3 a).1 ha
        subst hb
        have hk' : m = 0 ∨ d[m]! ≠ d[m - 1]! := by simpa [Lib.keeps] using hk
        have e1 := hm j (m - 1) (by omega) (by omega)
        have e2 := hm (m - 1) m (by omega) (by omega)
        rcases hk' with hk' | hk' <;> omega
      · rw [List.mem_append, h3 x]
        constructor
        · rintro (⟨j, hj, hx⟩ | hx)
          · exact ⟨j, by omega, hx⟩
          · exact ⟨m, by omega, (List.mem_singleton.1 hx).symm⟩
        · rintro ⟨j, hj, hx⟩
          by_cases hjm : j = m
          · subst hjm
            exact .inr (List.mem_singleton.2 hx.symm)
          · exact .inl ⟨j, by omega, hx⟩
    · rw [if_neg hk, List.append_nil]
      refine ⟨h1, by omega, fun x => ?_⟩
      rw [h3 x]
      have hk' : ¬(m = 0 ∨ d[m]! ≠ d[m - 1]!) := by simpa [Lib.keeps] using hk
      have hk1 : m ≠ 0 := fun h => hk' (.inl h)
      have hk2 : d[m]! = d[m - 1]! := Classical.byContradiction fun h => hk' (.inr h)
      constructor
      · rintro ⟨j, hj, hx⟩
        exact ⟨j, by omega, hx⟩
      · rintro ⟨j, hj, hx⟩
        by_cases hjm : j = m
        · subst hjm
          exact ⟨j - 1, by omega, by rw [← hk2]; exact hx⟩
        · exact ⟨j, by omega, hx⟩
theorem mono_of_sorted (zs : List Int) (h : zs.Pairwise (· ≤ ·)) : ∀ i j, i ≤ j → j < zs.toArray.size → zs.toArray[i]! ≤ zs.toArray[j]! := by
  intro i j hij hj
  have hj' : j < zs.length := by simpa using hj
  by_cases e : i = j
  · subst e; exact Int.le_refl _
  · have := List.pairwise_iff_getElem.1 h i j (by omega) hj' (by omega)
    simpa [getElem!_pos, hj', show i < zs.length by omega] using this
theorem compact_len (zs : List Int) : (Lib.compact zs).length ≤ zs.length := by
  simp only [Lib.compact, Lib.compactUpTo, List.length_map]
  exact Nat.le_trans (List.length_filter_le _ _) (by simp)
/-- sorted, then compacted: ascending, with the members of before -/
theorem sorted_compact (xs : List Int) : (Lib.compact (sortedL xs)).Pairwise (· < ·) ∧ ∀ x, x ∈ Lib.compact (sortedL xs) ↔ x ∈ xs := by
  have hs : (sortedL xs).Pairwise (· ≤ ·) := by
    have := List.pairwise_mergeSort (le := fun x y : Int => decide (x ≤ y)) (by simp; omega) (by simp; omega) xs
    exact this.imp (fun h => by simpa using h)
  obtain ⟨h1, _, h3⟩ := compactUpTo_spec (sortedL xs).toArray (mono_of_sorted _ hs) (sortedL xs).length (by simp)
  have hp := List.mergeSort_perm xs fun x y => decide (x ≤ y)
  refine ⟨h1, fun x => (h3 x).trans ((show (∃ j, j < (sortedL xs).length ∧ (sortedL xs).toArray[j]! = x) ↔ x ∈ sortedL xs from ?_).trans hp.mem_iff)⟩
  clear hp h3 h1 hs
  generalize sortedL xs = ys
  constructor
  · rintro ⟨j, hj, rfl⟩
    rw [getElem!_pos ys.toArray j (by simpa using hj)]
    simp
  · intro hx
    obtain ⟨j, hj, rfl⟩ := List.getElem_of_mem hx
    exact ⟨j, hj, by rw [getElem!_pos ys.toArray j (by simpa using hj)]; simp⟩

end Go.Proofs.YtfpmkolaiomabaaGreat

namespace Go.Proofs.YtfpmkolaiomabaaGreat
open Go.RowKit
open Go.ChangeMaps (setBlock)

theorem own_other {w w' : World} {base e size n : Nat} {v : Value} {xs : List Value} (h : w.ownsRow base e size v n xs) (g : ∀ b, base ≤ b → w'.heap[b]? = w.heap[b]?) : w'.ownsRow base e size v n xs := by
  obtain ⟨h1, h2⟩ := h
  refine ⟨h1, ?_⟩
  rcases h2 with h2 | ⟨g1, cap, cur, hv, hg, hh, r⟩
  · exact .inl h2
  · exact .inr ⟨g1, cap, cur, hv, hg, (g g1 hg).trans hh, r⟩

set_option maxRecDepth 100000 in
set_option maxHeartbeats 4000000 in
theorem signs_any (s : SeenD) (A : Option Addr) (cap B m : Nat) (l : List EntryR) (w : World) (hA : Ints w B A s.moves) (hB : B ≤ w.heap.size) (hs : SeenIn s) (hb : BookAt w m l) (hmv : ∀ y ∈ l, Ints w w.heap.size y.A y.d.form.moves) (hok : ∀ y ∈ l, okForm y.d.form = true) (hl : l.length ≤ 1000000) :
    Calls Tryz.prog 74 #[seenV s A cap, .map (some m)] w fun e w' => ∃ A' cap' r, e = .returned (.slice A' r.length cap') ∧ SignsOf s l r ∧ IntsF w' w.heap.size A' r ∧ Below w.heap.size w w' := by
  obtain ⟨i0, hi, hz0, hz1, hz2⟩ := info_parts Tryz.infoInt
  go_enter Tryz.func74, Tryz.ntmps74
  go_upto_region 1 with fail
  obtain ⟨W, hW, hg, hf, hsz⟩ := one_block w 100 (cellsS s A cap)
  rw [hW]
  clear hW
  have hrg := range_book (hb.grow hg)
  go_wp2
  go_loopw [5] (fun v wr => ∃ (seen : Array Nat) (A' : Option Addr) (cap' : Nat) (xs : List Int), v = .slice A' xs.length cap' ∧ IterAt wr W.heap.size m l.length seen ∧ Below W.heap.size W wr ∧ W.heap.size < wr.heap.size ∧
      wr.ownsRow (W.heap.size + 1) 3 1 (.slice A' xs.length cap') xs.length (xs.map (Value.int .i64)) ∧ Gathered s l seen xs) (fun _ wr => (leftOf (entsM l) (wr.iterSeen W.heap.size)).size)
  case atStart => exact ⟨#[], none, 0, [], rfl, IterAt.new W m l.length, (Below.refl _ _).alloc (Nat.le_refl _) _, by simp, by simp [World.ownsRow], Gathered.start s l⟩
  case round =>
    obtain ⟨seen, A', cap', xs, rfl, hit, hbw, hlt, hown, hga⟩ := hrel
    have hbk := hb.grow (hg.trans hbw)
    rcases next_book 0 hit hbk with ⟨hall, hn⟩ | ⟨k, y, hy, hk, w1, hw, hn⟩
    · have hnx : ∀ ty, (Instr.next (.pointer (some ⟨W.heap.size, 0, none⟩)) false ty).run Tryz.prog wr = _ := fun _ => hn
      have hlen : xs.length ≤ 1000000 := by have := hga.1; omega
      have HS := Lib.hid (own_sort hown hlen)
      have HBW := Lib.hid hbw
      have HGA := Lib.hid hga
      have hsw : w.heap.size < W.heap.size := hsz
      have hge : ∀ q, Value.ownBlock (.slice A' xs.length cap') = some q → W.heap.size + 1 ≤ q := fun q hq => own_ge hown q hq
      clear hown hbk hit hga hb hA hmv hok hf hn hbw
      go_wp2_with fail
      refine HS.out.mono ?_
      rintro e w4 ⟨rfl, hown4, hgr4⟩
      have hb4 : Below W.heap.size W w4 := HBW.out.grown hgr4 (by omega) (fun q hq => by have := hge q hq; omega)
      have hz4 := hgr4.size
      have hlen4 : (sortedL xs).length ≤ 1000000 := by simpa [sortedL] using hlen
      have HC := Lib.hid (own_compact hown4 hlen4 (compact_len _))
      have HB4 := Lib.hid hb4
      clear hown4 hgr4 hb4 HS
      go_wp2_with fail
      refine HC.out.mono ?_
      rintro e w5 ⟨rfl, hown5, hgr5⟩
      have hb5 : Below W.heap.size W w5 := HB4.out.grown hgr5 (by omega) (fun q hq => by have := hge q hq; omega)
      obtain ⟨hp, hm⟩ := sorted_compact xs
      have HR : Hid (∃ A2 cap2 r, Ending.returned (Value.slice A' (Lib.compact (sortedL xs)).length cap') = .returned (.slice A2 r.length cap2) ∧ SignsOf s l r ∧ IntsF w5 w.heap.size A2 r ∧ Below w.heap.size w w5) :=
        ⟨A', cap', Lib.compact (sortedL xs), rfl, ⟨hp, fun x => (hm x).trans (HGA.out.all hall x)⟩, (own_intsF hown5).mono (by omega), hg.trans hb5⟩
      clear hown5 hgr5 hb5 hp hm HC
      go_wp2
      go_ret
      exact HR.out
    · obtain ⟨hit2, hb2, hz2', hoth⟩ := step_book hit hw
      generalize setBlock w1 W.heap.size (.mapIter (some m) l.length (seen.push k) l.length) = w2 at hn hit2 hb2 hz2' hoth
      have hnx : ∀ ty, (Instr.next (.pointer (some ⟨W.heap.size, 0, none⟩)) false ty).run Tryz.prog wr = _ := fun _ => hn
      have hbk2 : BookAt w2 m l := (hoth m (by have := hb.lt; omega)).trans hbk
      have hen := entry_book hit2 hbk2 hy
      have hown2 := own_other hown (w' := w2) (fun b h => hoth b (by omega)) 
      have HI0 := Lib.hid hit
      clear hn hoth hw hown hit hbk
      go_upto_region 5 with fail
      obtain ⟨W3, hW3, hg3, hf3, hsz3⟩ := one_block w2 62 (cellsE y)
      rw [hz2'] at hf3 hsz3
      rw [hW3]
      clear hW3
      have hsw : w.heap.size < W.heap.size := hsz
      have hbW2 : Below W.heap.size W w2 := hbw.trans hb2
      have hbW3 : Below W.heap.size W W3 := hbW2.trans (Below.mono (show Below w2.heap.size w2 W3 from hg3) (by omega))
      have hgw3 : Grow w W3 := hg.trans hbW3
      have hfv3 := hf.below hbW3 hsw
      have hit3 := hit2.grow hg3
      have hown3 := own_grow hown2 hg3
      have hin := List.mem_of_getElem? hy
      have HAG := Lib.hid (agrees_any s y A cap w.heap.size w.heap.size W3 ((hA.more hB).below hgw3) ((hmv y hin).below hgw3) hgw3.size hgw3.size hs (hok y hin))
      have hcv := hfv3.cell
      have hce := hf3.cell
      have HF3 := Lib.hid hf3
      have HIT := Lib.hid hit3
      have HOWN := Lib.hid hown3
      have HBW := Lib.hid hbW3
      have HGA := Lib.hid hga
      have HX := Lib.hid hy
      have HK := Lib.hid hk
      have HITW := Lib.hid hit2
      have hmeas := left_book hy hk
      clear hA hb hmv hok hf hbw hbk2 hown2 hen hnx hit2 hb2 hg3 hf3 hbW2 hbW3 hgw3 hfv3 hit3 hown3 hga hy hk hin hg
      go_wp2_with fail
      refine HAG.out.mono ?_
      rintro e W4 ⟨rfl, hb4⟩
      have hg4 : Grow W3 W4 := hb4
      have hce4 := (hg4.block HF3.out).cell
      have hit4 := HIT.out.grow hg4
      have hown4 := own_grow HOWN.out hg4
      have hbW4 : Below W.heap.size W W4 := HBW.out.trans (hg4.mono (by omega))
      have hz4 : W3.heap.size ≤ W4.heap.size := hg4.size
      clear hb4 HAG hcv hce
      by_cases hag : agreesD s y.d = true
      · have HAD := Lib.hid hag
        rw [hag]
        clear hag
        have HIT4 := Lib.hid hit4
        have HBW4 := Lib.hid hbW4
        have hlen : xs.length ≤ 1000000 := by have := HGA.out.1; omega
        clear hbW4 hit4
        go_wp2_with (at_builtin; refine wpList_append_own _ rfl _ _ 22 rfl (W.heap.size + 1) 3 i0 (.int .i64 0) 1 8 Tryz.underlying22 hi hz0 hz1 hz2 rfl (by decide) _ _ _ rfl (hown4.alloc _) ⟨W4.heap.size, 0, none⟩ 1 1 [.int .i64 y.d.sign] rfl rfl ?c1 ?c2 ?c3 ?c4 ?c5 ?_)
        case c1 => exact cell_one_new _ _ _
        case c2 => simp [Value.oneCell']
        case c3 => unfold maxLen; omega
        case c4 => omega
        case c5 => simp; omega
        intro v' w5 hown5 hgrow _
        obtain ⟨A2, cap2, rfl⟩ := own_form hown5
        have hit5 : IterAt w5 W.heap.size m l.length (seen.push k) := (hgrow.block W.heap.size (by simp; omega) (fun e => by have := own_ge hown4 W.heap.size e.symm; omega)).trans (HIT4.out.grow (Grow.alloc _ _))
        have hb5 : Below W.heap.size W w5 := (HBW4.out.alloc (by omega) _).grown hgrow (by simp; omega) (fun q hq => by have := own_ge hown4 q hq; omega)
        have HO5 := Lib.hid hown5
        have HI5 := Lib.hid hit5
        have HB5 := Lib.hid hb5
        have hz5 : W.heap.size < w5.heap.size := hit5.lt
        clear hown5 hgrow hit5 hb5 hown4 hce4
        go_wp2
        go_roundw
        case rel => exact ⟨seen.push k, A2, cap2, xs ++ [y.d.sign], by simp, HI5.out, HB5.out, hz5, by simpa using HO5.out, HGA.out.take HX.out HK.out HAD.out⟩
        case measure => rw [HI5.out.seen, HI0.out.seen]; exact hmeas
      · have HAD := Lib.hid hag
        rw [Bool.not_eq_true] at hag
        rw [hag]
        clear hag
        have HIT4 := Lib.hid hit4
        have HBW4 := Lib.hid hbW4
        have HO4 := Lib.hid hown4
        have hz5 : W.heap.size < W4.heap.size := hit4.lt
        clear hbW4 hit4 hown4
        go_wp2
        go_roundw
        case rel => exact ⟨seen.push k, A', cap', xs, rfl, HIT4.out, HBW4.out, hz5, HO4.out, HGA.out.skip HX.out HK.out HAD.out⟩
        case measure => rw [HIT4.out.seen, HI0.out.seen]; exact hmeas

end Go.Proofs.YtfpmkolaiomabaaGreat

namespace Go.Proofs.YtfpmkolaiomabaaGreat
open Go.RowKit

theorem BlockIs.drew {w : World} {b : Nat} {t : TypeId} {cs : Array Value} (h : BlockIs w b t cs) : BlockIs w.drew b t cs := h
theorem BookAt.drew {w : World} {m : Nat} {l : List EntryR} (h : BookAt w m l) : BookAt w.drew m l := h
theorem MovesAll.drew {w : World} {bk : List EntryR} (h : MovesAll w bk) : MovesAll w.drew bk := h
theorem Grow.drew {x y : World} (h : Grow x y) : Grow x y.drew := Below.drew h
theorem results_seen3 {fn : Func} (h : fn.results = #[.tmp 4, .cell 5 100, .tmp 6]) (t : Array Value) (W : World) (b : Nat) (v0 v1 v2 v3 v4 v5 v6 v7 v8 v9 v10 v11 u1 u2 : Value)
    (hb : BlockIs W b 100 #[v0, v1, v2, v3, v4, v5, v6, v7, v8, v9, v10, v11]) (ht : t.getD 5 undef = .pointer (some ⟨b, 0, none⟩)) (hu1 : t.getD 4 undef = u1) (hu2 : t.getD 6 undef = u2) :
    (results fn t).run Tryz.prog W = .ok (.tuple #[u1, .agg #[v0, v1, v2, v3, v4, v5, v6, v7, v8, v9, v10, v11], u2]) W := by
  have hc := hb.cell
  simp only [results, h]
  simp at ht hu1 hu2
  simp [go_sem, ht, hc, hu1, hu2]

abbrev zeroS : Array Value := #[.int .i64 0, .int .i64 0, .int .i64 0, .int .i64 0, .int .i64 0, .int .i64 0, .int .i64 0, .int .i64 0, .int .i64 0, .int .i64 0, .int .i64 0, .slice none 0 0]
/-- what readSeen leaves -/
def SeenPost (l : List EntryD) (s : SeenD) (A : Option Addr) (cap : Nat) (w : World) (e : Ending) (w' : World) : Prop :=
  Below w.heap.size w w' ∧ ((bookErr l ≠ 0 ∧ e = .returned (.tuple #[.map none, .agg zeroS, .int .i64 (bookErr l)])) ∨ (bookErr l = 0 ∧ okSeen s = false ∧ e = .returned (.tuple #[.map none, .agg zeroS, .int .i64 13])) ∨
    (bookErr l = 0 ∧ okSeen s = true ∧ ∃ m bk, e = .returned (.tuple #[.map (some m), seenV s A cap, .int .i64 0]) ∧ w.heap.size ≤ m ∧ BookAt w' m bk ∧ MovesAll w' bk ∧ FarAll w.heap.size bk ∧ readD [] l = some (bk.map (·.d))))

set_option maxRecDepth 100000 in
set_option maxHeartbeats 4000000 in
theorem readSeen_any (A A' : Option Addr) (cap cap' B : Nat) (l : List EntryR) (s : SeenD) (w : World) (hA : Ents w B A l) (hl : l.length ≤ 1000000) (hA' : Ints w B A' s.moves) (hl' : s.moves.length ≤ 1000000) (hB : B ≤ w.heap.size) :
    Calls Tryz.prog 73 #[.slice A l.length cap, seenV s A' cap'] w (SeenPost (l.map (·.d)) s A' cap' w) := by
  have HR := Lib.hid (fun w0 (h : Grow w w0) => read_any A cap w.heap.size l w0 ((hA.more hB).below h) hl h.size)
  have HS := Lib.hid (fun w0 (h : Grow w w0) => seenValid_any s A' cap' w.heap.size w0 ((hA'.more hB).below h) hl' h.size)
  clear hA hA'
  go_enter Tryz.func73, Tryz.ntmps73
  go_upto_region 1 with fail
  obtain ⟨W, hW, hg, hf, hf', hsz⟩ := two_blocks w 50 100 (cellsS s A' cap') zeroS
  rw [hW]
  clear hW
  have HF := Lib.hid hf
  have HF' := Lib.hid hf'
  have HG := Lib.hid hg
  clear hf hf' hg
  go_wp2_with fail
  refine (HR.out _ HG.out).mono ?_
  rintro e w2 ⟨hb2, hcase⟩
  have hg2 : Grow W w2 := hb2
  have hfc := (hg2.block HF.out).cell
  have hfc' := (hg2.block HF'.out).cell
  have hff' := (hg2.block HF'.out).frozen
  have HG2 := Lib.hid hg2
  clear hb2 hg2
  rcases hcase with ⟨hne, rfl⟩ | ⟨heq, m, bk, rfl, hm, hbk, hmv, hfar, hrd⟩
  · have HNE : Hid (bookErr (l.map (·.d)) ≠ 0) := hne
    generalize hbe : bookErr (l.map (·.d)) = be at hne
    go_wp2
    refine bodyPost_ret (results_seen3 Tryz.results73 _ _ _ _ _ _ _ _ _ _ _ _ _ _ _ _ _ (twelve_stores (HG2.out.block HF'.out) _ _ _ _ _ _ _ _ _ _ _ _) rfl rfl rfl) rfl ⟨?_, .inl ⟨HNE.out, by rw [hbe]; rfl⟩⟩
    have hb := HG.out.trans HG2.out
    show Grow w _
    repeat (refine Grow.setC ?_ (by simp) _)
    exact hb
  · have HB := Lib.hid (And.intro heq (And.intro hm (And.intro hbk (And.intro hmv (And.intro hfar hrd)))))
    clear heq hm hbk hmv hfar hrd
    go_upto_region 5 with fail
    obtain ⟨W3, hW3, hg3, hf3, hsz3⟩ := one_block w2 100 (cellsS s A' cap')
    rw [hW3]
    clear hW3
    have hgw3 : Grow w W3 := (HG.out.trans HG2.out).trans hg3
    have HGW3 := Lib.hid hgw3
    have HG3 := Lib.hid hg3
    have HF3 := Lib.hid hf3
    have hce := hf3.cell
    clear hg3 hf3 hgw3 hfc hfc' hff'
    go_wp2_with fail
    refine (HS.out _ HGW3.out).mono ?_
    rintro e W4 ⟨rfl, hb4⟩
    have hg4 : Grow W3 W4 := hb4
    have hF4 := hg4.block (HG3.out.block (HG2.out.block HF'.out))
    have HF4 := Lib.hid hF4
    have hfc4 := hF4.cell
    have hff4 := hF4.frozen
    have hce4 := (hg4.block HF3.out).cell
    have HG4 := Lib.hid hg4
    clear hce hF4 hg4 hb4
    cases hok : okSeen s with
    | false =>
      have HOK := Lib.hid hok
      clear hok
      go_wp2
      refine bodyPost_ret (results_seen3 Tryz.results73 _ _ _ _ _ _ _ _ _ _ _ _ _ _ _ _ _ (twelve_stores HF4.out _ _ _ _ _ _ _ _ _ _ _ _) rfl rfl rfl) rfl ⟨?_, .inr (.inl ⟨HB.out.1, HOK.out, rfl⟩)⟩
      have hb := HGW3.out.trans HG4.out
      show Grow w _
      repeat (refine Grow.setC ?_ (by simp) _)
      exact hb
    | true =>
      have HOK := Lib.hid hok
      clear hok
      go_upto_region 7 with fail
      go_region
      obtain ⟨w5, hw5, hb5, hg5⟩ : ∃ w5, ((((((((((((W4.setCell ⟨w.heap.size + 1, 0, none⟩ (.int .i64 s.rights)).setCell ⟨w.heap.size + 1, 1, none⟩ (.int .i64 s.lefts)).setCell ⟨w.heap.size + 1, 2, none⟩ (.int .i64 s.faces)).setCell ⟨w.heap.size + 1, 3, none⟩ (.int .i64 s.regions)).setCell ⟨w.heap.size + 1, 4, none⟩ (.int .i64 s.lost)).setCell ⟨w.heap.size + 1, 5, none⟩ (.int .i64 s.cl)).setCell ⟨w.heap.size + 1, 6, none⟩ (.int .i64 s.ch)).setCell ⟨w.heap.size + 1, 7, none⟩ (.int .i64 s.rl)).setCell ⟨w.heap.size + 1, 8, none⟩ (.int .i64 s.rh)).setCell ⟨w.heap.size + 1, 9, none⟩ (.int .i64 s.al)).setCell ⟨w.heap.size + 1, 10, none⟩ (.int .i64 s.ah)).setCell ⟨w.heap.size + 1, 11, none⟩ (.slice A' s.moves.length cap')).drew = w5 ∧ BlockIs w5 (w.heap.size + 1) 100 (cellsS s A' cap') ∧ Grow w w5 := by
        refine ⟨_, rfl, BlockIs.drew (twelve_stores HF4.out _ _ _ _ _ _ _ _ _ _ _ _), Grow.drew ?_⟩
        have hb := HGW3.out.trans HG4.out
        repeat (refine Grow.setC ?_ (by simp) _)
        exact hb
      have HR5 : Hid (w.heap.size ≤ m ∧ BookAt w5 m bk ∧ MovesAll w5 bk ∧ FarAll w.heap.size bk) := by
        obtain ⟨-, hm, hbk, hmv, hfar, -⟩ := HB.out
        have hg24 : Grow w2 W4 := HG3.out.trans HG4.out
        have hbk4 := hbk.grow hg24
        have hmv4 := hmv.grow hg24
        have hne : m ≠ w.heap.size + 1 := by omega
        have hz : w.heap.size + 1 < W.heap.size := hsz
        refine ⟨by omega, ?_, ?_, hfar.mono (by omega)⟩
        · rw [← hw5]
          refine BookAt.drew ?_
          repeat (refine BookAt.setCell ?_ hne _)
          exact hbk4
        · rw [← hw5]
          refine MovesAll.drew ?_
          repeat (refine MovesAll.farCell ?_ hfar hz _)
          exact hmv4
      rw [hw5]
      clear hw5
      have HB5 := Lib.hid hb5
      have HG5 := Lib.hid hg5
      clear hb5 hg5 hfc4 hff4 hce4
      go_wp2
      refine bodyPost_ret (results_seen3 Tryz.results73 _ w5 (w.heap.size + 1) _ _ _ _ _ _ _ _ _ _ _ _ (.map (some m)) (.int .i64 0) HB5.out rfl rfl rfl) rfl ⟨HG5.out, .inr (.inr ⟨HB.out.1, HOK.out, m, bk, rfl, HR5.out.1, HR5.out.2.1, HR5.out.2.2.1, HR5.out.2.2.2, HB.out.2.2.2.2.2⟩)⟩

end Go.Proofs.YtfpmkolaiomabaaGreat

namespace Go.Proofs.YtfpmkolaiomabaaGreat
open Go.RowKit

def findErr (l : List EntryD) (s : SeenD) : Int := if bookErr l = 0 then (if okSeen s = true then 0 else 13) else bookErr l
/-- r holds just the signs of the entries that agree, in ascending order -/
def FoundD (s : SeenD) (l : List EntryD) (r : List Int) : Prop := r.Pairwise (· < ·) ∧ ∀ x, x ∈ r ↔ ∃ y ∈ l, agreesD s (canonE y) = true ∧ y.sign = x
theorem FoundD.unique {s : SeenD} {l : List EntryD} {a b : List Int} (ha : FoundD s l a) (hb : FoundD s l b) : a = b :=
  ascending_eq ha.1 hb.1 fun x => (ha.2 x).trans (hb.2 x).symm
theorem FoundD.of_book {s : SeenD} {l : List EntryD} {bk : List EntryR} {r : List Int} (h : SignsOf s bk r) (hb : IsBookOf l (bk.map (·.d))) : FoundD s l r := by
  refine ⟨h.1, fun x => (h.2 x).trans ?_⟩
  constructor
  · rintro ⟨y, hy, ha, rfl⟩
    obtain ⟨z, hz, e⟩ := (hb.mem y.d).1 (List.mem_map.2 ⟨y, hy, rfl⟩)
    exact ⟨z, hz, by rw [e]; exact ha, by rw [← e]; rfl⟩
  · rintro ⟨z, hz, ha, rfl⟩
    obtain ⟨y, hy, e⟩ := List.mem_map.1 ((hb.mem _).2 ⟨z, hz, rfl⟩)
    exact ⟨y, hy, by rw [e]; exact ha, by rw [e]; rfl⟩
/-- what Find leaves -/
def FindPost (l : List EntryD) (s : SeenD) (w : World) (e : Ending) (w' : World) : Prop :=
  Below w.heap.size w w' ∧ ∃ A cap r, e = .returned (.tuple #[.slice A (List.length r) cap, .int .i64 (findErr l s)]) ∧ IntsF w' w.heap.size A r ∧ (findErr l s ≠ 0 → A = none ∧ r = []) ∧ (findErr l s = 0 → FoundD s l r)
theorem okEntry_form {x : EntryD} (h : okEntry x = true) : okForm x.form = true := by
  simp only [okEntry, Bool.and_eq_true] at h
  exact h.2.2.2.2.2.2
theorem bookErr_ok {l : List EntryD} (h : bookErr l = 0) : l.length ≤ 40 ∧ (∀ x ∈ l, okEntry x = true) ∧ Agreed l := by
  unfold bookErr at h
  by_cases h1 : (decide (l.length ≤ 40) && l.all okEntry) = true
  · rw [if_pos h1] at h
    by_cases h2 : (readD [] l).isSome = true
    · rw [Bool.and_eq_true, decide_eq_true_eq, List.all_eq_true] at h1
      exact ⟨h1.1, h1.2, readD_isSome.1 h2⟩
    · rw [if_neg h2] at h; omega
  · rw [if_neg h1] at h; omega
/-- the entries of a book that was read have valid forms -/
theorem book_forms {l : List EntryD} {bk : List EntryR} (h : bookErr l = 0) (hb : IsBookOf l (bk.map (·.d))) : ∀ y ∈ bk, okForm y.d.form = true := fun y hy => by
  obtain ⟨z, hz, e⟩ := (hb.mem y.d).1 (List.mem_map.2 ⟨y, hy, rfl⟩)
  rw [← e]
  exact okForm_canon (okEntry_form ((bookErr_ok h).2.1 z hz))
set_option maxRecDepth 100000 in
set_option maxHeartbeats 4000000 in
theorem Find_any (A A' : Option Addr) (cap cap' B : Nat) (l : List EntryR) (s : SeenD) (w : World) (hA : Ents w B A l) (hl : l.length ≤ 1000000) (hA' : Ints w B A' s.moves) (hl' : s.moves.length ≤ 1000000) (hB : B ≤ w.heap.size) :
    Calls Tryz.prog 36 #[.slice A l.length cap, seenV s A' cap'] w (FindPost (l.map (·.d)) s w) := by
  have HR := Lib.hid (fun w0 (h : Grow w w0) => readSeen_any A A' cap cap' w.heap.size l s w0 ((hA.more hB).below h) hl ((hA'.more hB).below h) hl' h.size)
  have HA' := Lib.hid (hA'.more hB)
  clear hA hA'
  go_enter Tryz.func36, Tryz.ntmps36
  go_upto_region 1 with fail
  obtain ⟨W, hW, hg, hf, hsz⟩ := one_block w 50 (cellsS s A' cap')
  rw [hW]
  clear hW
  have HG := Lib.hid hg
  have hfc := hf.cell
  clear hf hg
  go_wp2_with fail
  refine (HR.out _ HG.out).mono ?_
  rintro e w2 ⟨hb2, hcase⟩
  have HG2 : Hid (Grow W w2) := hb2
  clear hb2 hfc
  rcases hcase with ⟨hne, rfl⟩ | ⟨heq, hok, rfl⟩ | ⟨heq, hok, m, bk, rfl, hm, hbk, hmv, hfar, hrd⟩
  · have HNE : Hid (bookErr (l.map (·.d)) ≠ 0) := hne
    generalize hbe : bookErr (l.map (·.d)) = be at hne
    have HBE := Lib.hid hbe
    clear hbe
    go_wp2
    go_ret2
    have hfe : findErr (l.map (·.d)) s = be := by unfold findErr; rw [HBE.out, if_neg hne]
    refine ⟨(HG.out.trans HG2.out).trans (Grow.alloc _ _), none, 0, [], by rw [hfe]; rfl, .inl rfl, fun _ => ⟨rfl, rfl⟩, fun h => absurd h (by rw [hfe]; exact hne)⟩
  · have hfe : findErr (l.map (·.d)) s = 13 := by unfold findErr; rw [if_pos heq, hok]; rfl
    have HFE := Lib.hid hfe
    clear heq hok hfe
    go_wp2
    go_ret2
    refine ⟨(HG.out.trans HG2.out).trans (Grow.alloc _ _), none, 0, [], by rw [HFE.out]; rfl, .inl rfl, fun _ => ⟨rfl, rfl⟩, fun h => absurd h (by rw [HFE.out]; decide)⟩
  · have hfe : findErr (l.map (·.d)) s = 0 := by unfold findErr; rw [if_pos heq, if_pos hok]
    have hbo := readD_book hrd
    have hlen : bk.length ≤ 1000000 := by have := hbo.length; simp at this; omega
    have hg3 : Grow w2 (w2.alloc (.cells (cellsS s A' cap') 100)) := Grow.alloc _ _
    have HS := Lib.hid (signs_any s A' cap' w.heap.size m bk (w2.alloc (.cells (cellsS s A' cap') 100)) (HA'.out.below ((HG.out.trans HG2.out).trans hg3)) ((HG.out.trans HG2.out).trans hg3).size (SeenIn.of_ok hok) (hbk.grow hg3)
      (fun y hy => ((hmv.grow hg3) y hy).1.1) (book_forms heq hbo) hlen)
    have HFE := Lib.hid hfe
    have HBO := Lib.hid hbo
    clear heq hok hm hbk hmv hfar hrd hfe hbo hg3
    go_wp2_with fail
    refine HS.out.mono ?_
    rintro e w3 ⟨A3, cap3, r, rfl, hsi, hri, hb3⟩
    have HSI := Lib.hid hsi
    have HRI := Lib.hid hri
    have HG3 : Hid (Grow _ w3) := hb3
    clear hsi hri hb3
    go_wp2
    go_ret2
    have hgw := ((HG.out.trans HG2.out).trans (Grow.alloc _ _)).trans HG3.out
    refine ⟨hgw, A3, cap3, r, by rw [HFE.out]; rfl, HRI.out.mono (by have := (HG.out.trans HG2.out).size; simp; omega), fun h => absurd HFE.out h, fun _ => FoundD.of_book HSI.out HBO.out⟩

end Go.Proofs.YtfpmkolaiomabaaGreat

