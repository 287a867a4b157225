/- The signs of a book that agree with what was seen: as mathematics. -/
import Derived.Test.YtjpnblflenlnaaaGreatNarrow
import Derived.Test.YtjpnblflenlnaaaGreatBook
namespace Go.Proofs.YtjpnblflenlnaaaGreat
open Go.RowKit
open Go.ChangeMaps (setBlock)

/-- r holds just the signs of those entries that agree, each once, in ascending order -/
def SignsOf (s : SeenD) (l : List EntryR) (r : List Int) : Prop := r.Pairwise (· < ·) ∧ ∀ x, x ∈ r ↔ ∃ y ∈ l, agreesD s y.d = true ∧ y.d.sign = x

theorem ascending_eq : ∀ {a b : List Int}, a.Pairwise (· < ·) → b.Pairwise (· < ·) → (∀ x, x ∈ a ↔ x ∈ b) → a = b
  | [], [], _, _, _ => rfl
  | [], y :: b, _, _, h => by have := (h y).2 List.mem_cons_self; simp at this
  | x :: a, [], _, _, h => by have := (h x).1 List.mem_cons_self; simp at this
  | x :: a, y :: b, ha, hb, h => by
    obtain ⟨hx, ha'⟩ := List.pairwise_cons.1 ha
    obtain ⟨hy, hb'⟩ := List.pairwise_cons.1 hb
    have hxy : x = y := by
      have h1 := (h x).1 List.mem_cons_self
      have h2 := (h y).2 List.mem_cons_self
      rcases List.mem_cons.1 h1 with h1 | h1
      · exact h1
      · rcases List.mem_cons.1 h2 with h2 | h2
        · exact h2.symm
        · have h3 := hx _ h2
          have h4 := hy _ h1
          omega
    subst hxy
    suffices hab : a = b by rw [hab]
    refine ascending_eq ha' hb' fun z => ?_
    have hz := h z
    simp only [List.mem_cons] at hz
    constructor
    · intro hm
      rcases hz.1 (.inr hm) with rfl | h5
      · exact absurd (hx _ hm) (by omega)
      · exact h5
    · intro hm
      rcases hz.2 (.inr hm) with rfl | h5
      · exact absurd (hy _ hm) (by omega)
      · exact h5
/-- there is just one such list -/
theorem SignsOf.unique {s : SeenD} {l : List EntryR} {a b : List Int} (ha : SignsOf s l a) (hb : SignsOf s l b) : a = b :=
  ascending_eq ha.1 hb.1 fun x => (ha.2 x).trans (hb.2 x).symm

/-! ### A range over the book -/
theorem entM_mem {l : List EntryR} {e : MapEntry} (h : e ∈ (entsM l).toList) : ∃ k x, l[k]? = some x ∧ e = entM (x, k) := by
  simp only [entsM, List.mem_map] at h
  obtain ⟨⟨x, k⟩, hm, rfl⟩ := h
  exact ⟨k, x, (List.mem_zipIdx_iff_getElem?.1 hm), rfl⟩
theorem entM_in {l : List EntryR} {k : Nat} {x : EntryR} (h : l[k]? = some x) : entM (x, k) ∈ (entsM l).toList := by
  simp only [entsM, List.mem_map]
  exact ⟨(x, k), List.mem_zipIdx_iff_getElem?.2 h, rfl⟩
theorem entM_born {l : List EntryR} {e : MapEntry} (h : e ∈ (entsM l).toList) : e.born < l.length := by
  obtain ⟨k, x, hx, rfl⟩ := entM_mem h
  exact (List.getElem?_eq_some_iff.1 hx).1
theorem entM_nodup (l : List EntryR) : ((entsM l).toList.map (·.born)).Nodup := by
  have : (entsM l).toList.map (·.born) = List.range' 0 l.length := by
    simp only [entsM, List.map_map]
    rw [show ((fun x : MapEntry => x.born) ∘ entM) = Prod.snd from rfl, List.zipIdx_map_snd]
  rw [this]
  exact List.nodup_range'
/-- the range r over the book at m, with the places that were handed out -/
def IterAt (w : World) (r m n : Nat) (seen : Array Nat) : Prop := w.heap[r]? = some (.mapIter (some m) n seen n)
theorem next_book {w : World} {r m : Nat} {l : List EntryR} {seen : Array Nat} (ty : TypeId) (hr : IterAt w r m l.length seen) (hb : BookAt w m l) :
    ((∀ k x, l[k]? = some x → k ∈ seen) ∧ (Instr.next (.pointer (some ⟨r, 0, none⟩)) false ty).run Tryz.prog w = .ok (.tuple #[.bool false]) w) ∨
    ∃ k x, l[k]? = some x ∧ k ∉ seen ∧ ∃ w1 : World, (w1 = w ∨ w1 = w.drew) ∧
      (Instr.next (.pointer (some ⟨r, 0, none⟩)) false ty).run Tryz.prog w = .ok (.tuple #[.bool true, .int .i64 x.d.id, entryV x]) (setBlock w1 r (.mapIter (some m) l.length (seen.push k) l.length)) := by
  rcases run_next_at (P := Tryz.prog) w ty r m l.length l.length seen (entsM l) l.length hr hb (fun e he => entM_born he) (Nat.le_refl _) with ⟨h0, hn⟩ | ⟨e, he, w1, hw, hn⟩
  · refine .inl ⟨fun k x hx => ?_, hn⟩
    by_cases hk : k ∈ seen
    · exact hk
    · have : entM (x, k) ∈ (leftOf (entsM l) seen).toList := by
        simp only [leftOf, Array.toList_filter, List.mem_filter]
        exact ⟨entM_in hx, by simpa [entM] using hk⟩
      have h1 : (leftOf (entsM l) seen).toList.length = 0 := by simpa using h0
      rw [List.length_eq_zero_iff.1 h1] at this
      simp at this
  · simp only [leftOf, Array.toList_filter, List.mem_filter] at he
    obtain ⟨k, x, hx, rfl⟩ := entM_mem he.1
    exact .inr ⟨k, x, hx, by simpa [entM] using he.2, w1, hw, hn⟩

theorem IterAt.lt {w : World} {r m n : Nat} {seen : Array Nat} (h : IterAt w r m n seen) : r < w.heap.size := by
  rcases Nat.lt_or_ge r w.heap.size with hlt | hge
  · exact hlt
  · unfold IterAt at h; rw [Array.getElem?_eq_none hge] at h; cases h
theorem IterAt.grow {w w' : World} {r m n : Nat} {seen : Array Nat} (h : IterAt w r m n seen) (g : Grow w w') : IterAt w' r m n seen := (Below.block g r h.lt).trans h
theorem IterAt.setCell {w : World} {r m n : Nat} {seen : Array Nat} (h : IterAt w r m n seen) {p : Addr} (hp : r ≠ p.block) (u : Value) : IterAt (w.setCell p u) r m n seen := (Below.heap_setCell w p u r hp).trans h
theorem IterAt.seen {w : World} {r m n : Nat} {seen : Array Nat} (h : IterAt w r m n seen) : w.iterSeen r = seen := by
  unfold World.iterSeen; rw [h]
theorem range_book {w : World} {m : Nat} {l : List EntryR} (h : BookAt w m l) :
    (Instr.range 82 (.map (some m))).run Tryz.prog w = .ok (.pointer (some ⟨w.heap.size, 0, none⟩)) (w.alloc (.mapIter (some m) l.length #[] l.length)) :=
  run_range_map (P := Tryz.prog) w 82 _ _ m (entsM l) l.length Tryz.underlying82 h
theorem IterAt.new (w : World) (m n : Nat) : IterAt (w.alloc (.mapIter (some m) n #[] n)) w.heap.size m n #[] := by
  exact heap_alloc_new w _
theorem entry_book {w : World} {r m k : Nat} {l : List EntryR} {seen : Array Nat} {x : EntryR} (hr : IterAt w r m l.length (seen.push k)) (hb : BookAt w m l) (hx : l[k]? = some x) :
    (Instr.entry (.pointer (some ⟨r, 0, none⟩))).run Tryz.prog w = .ok (.tuple #[.int .i64 x.d.id, entryV x]) w :=
  run_entry_at (P := Tryz.prog) w r m l.length seen (entsM l) l.length (entM (x, k)) hr hb (entM_in hx) (entM_nodup l)
/-- the world behind a step of the range: only the range itself has turned -/
theorem step_book {w w1 : World} {r m n k : Nat} {seen : Array Nat} (hr : IterAt w r m n seen) (hw : w1 = w ∨ w1 = w.drew) :
    IterAt (setBlock w1 r (.mapIter (some m) n (seen.push k) n)) r m n (seen.push k) ∧ Below r w (setBlock w1 r (.mapIter (some m) n (seen.push k) n)) ∧
    (setBlock w1 r (.mapIter (some m) n (seen.push k) n)).heap.size = w.heap.size ∧ ∀ b, b ≠ r → (setBlock w1 r (.mapIter (some m) n (seen.push k) n)).heap[b]? = w.heap[b]? := by
  have hr1 : w1.heap[r]? = some (.mapIter (some m) n seen n) := by rcases hw with rfl | rfl <;> exact hr
  have hs := MapKept.heap_set (o' := .mapIter (some m) n (seen.push k) n) hr1
  have hoth : ∀ b, b ≠ r → (setBlock w1 r (.mapIter (some m) n (seen.push k) n)).heap[b]? = w.heap[b]? := fun b hb => (hs.2 b hb).trans (by rcases hw with rfl | rfl <;> rfl)
  have hz : (setBlock w1 r (.mapIter (some m) n (seen.push k) n)).heap.size = w.heap.size := by rcases hw with rfl | rfl <;> simp [setBlock]
  refine ⟨hs.1, ⟨?_, ?_, ?_, ?_, fun b hb => hoth b (by omega)⟩, hz, hoth⟩
  · rcases hw with rfl | rfl <;> rfl
  · rcases hw with rfl | rfl <;> rfl
  · rcases hw with rfl | rfl <;> rfl
  · omega
theorem left_book {l : List EntryR} {k : Nat} {x : EntryR} {seen : Array Nat} (hx : l[k]? = some x) (hk : k ∉ seen) : (leftOf (entsM l) (seen.push k)).size < (leftOf (entsM l) seen).size := by
  refine left_shrinks (entsM l) seen (entM (x, k)) ?_
  simp only [leftOf, Array.toList_filter, List.mem_filter]
  exact ⟨entM_in hx, by simpa [entM] using hk⟩

end Go.Proofs.YtjpnblflenlnaaaGreat
