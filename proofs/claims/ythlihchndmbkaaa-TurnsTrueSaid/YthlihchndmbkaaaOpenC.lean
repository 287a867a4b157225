/- OpenC: an argument of the type Course, opened. -/
import Derived.Test.YthlihchndmbkaaaOpens
import Derived.Test.YthlihchndmbkaaaCourseM
namespace Go.Proofs.Ythlihchndmbkaaa
open Go.RowKit Go.ChangeShapes Go.WideShapes Go.ChangeAt Go.Joins Go.Deep

theorem cellsRows : Try.prog.cellsOf 37 = 1 := by kernel_rfl
theorem cellsCourse : Try.prog.cellsOf 39 = 2 := by kernel_rfl
section
variable {H : Type} {enc : TypeId × Value → H} {w : World} {base : Nat} {spare : Nat → Bool} {held : Bool}
set_option maxRecDepth 100000 in
/-- a slice of slices of integers -/
theorem rows_open {n : Nat} {v : Value} {y : DataW H × List MemPlace} (hf : DataW.trod enc Try.prog w base spare held n 37 [v] = some y) :
    ∃ B cap R, v = .slice B (List.length R) cap ∧ RowsAt w w.heap.size B R := by
  rcases open_slice Try.underlying37 hf with ⟨hcs, _⟩ | ⟨a, len, cap, m, n, D, Pl, hcs, _, hl, hm, hmm, _, hi⟩
  · obtain rfl : v = .slice none 0 0 := by simpa using hcs
    exact ⟨none, 0, [], rfl, .inl rfl, fun r hr => by simp at hr⟩
  · obtain rfl : v = .slice (some a) len cap := by simpa using hcs
    have hlm : len ≤ m := by rw [hmm]; split <;> omega
    rw [cellsMoves] at hi
    obtain ⟨l, hll, hp⟩ := list_of (P := fun i (r : RowR) => w.cell? (a.add i) = some (.slice r.A r.xs.length r.c) ∧ Ints w w.heap.size r.A r.xs) len fun i hil => by
      obtain ⟨cs', hc, ht⟩ := hi i (by omega)
      obtain ⟨_, hone, hat⟩ := World.cells?_some hc
      have h0 := hat 0 (by omega)
      obtain ⟨v0, rfl⟩ := List.length_eq_one_iff.1 hone
      obtain ⟨A, c, xs, rfl, hI, _⟩ := ints_open_cap ht
      refine ⟨⟨A, c, xs⟩, ?_, hI⟩
      simpa [Addr.add] using h0
    refine ⟨some a, cap, l, by rw [hll], ?_, fun r hr => ?_⟩
    · by_cases h0 : len = 0
      · exact .inl (List.eq_nil_of_length_eq_zero (hll.trans h0))
      · obtain ⟨b, off, spot⟩ := a
        have c0 := (hp 0 _ (List.getElem?_eq_getElem (by omega))).1
        have hspot : spot = none := by simpa [Addr.add] using World.cell?_spot c0
        subst hspot
        have hb : b < w.heap.size := by
          have := World.block_lt_of_cell? w _ c0
          simpa [Addr.add] using this
        refine .inr ⟨b, off, rfl, hb, fun i x hx => ?_⟩
        have := (hp i x hx).1
        rw [add_plain] at this
        exact this
    · obtain ⟨i, hi'⟩ := List.getElem?_of_mem hr
      exact (hp i r hi').2
set_option maxRecDepth 100000 in
/-- a course, as an argument -/
theorem course_open {r : Reach} {b0 : Nat} {v : Value} {d : DataW H} {p : List MemPlace} (hv : Value.okWide Try.prog w r b0 39 v) (h : DataW.Trod enc Try.prog w base spare held 39 v d p) :
    ∃ x : CourseR, v = courseKV x ∧ CourseAt w w.heap.size x := by
  obtain ⟨cs, rfl, hsz⟩ := okWide_struct Try.underlying39 hv
  obtain ⟨l⟩ := cs
  match l, hsz.trans cellsCourse with
  | [c0, c1], _ =>
    obtain ⟨fuel, hf⟩ := h
    obtain ⟨xs, m, _, _, _, hlen, hg⟩ := DataW.trod_struct Try.underlying39 hf
    have h0 := trod_field hg 0 23 0 _ _ rfl rfl rfl cellsMoves
    have h1 := trod_field hg 1 37 1 _ _ rfl rfl rfl cellsRows
    simp only [Value.cells, List.drop_succ_cons, List.drop_zero, List.take_succ_cons, List.take_zero] at h0 h1
    have hl : xs.length = 2 := hlen
    rw [List.getElem?_eq_getElem (by omega)] at h0 h1
    obtain ⟨A, ca, st, rfl, hA, _⟩ := ints_open_cap h0
    obtain ⟨B, cb, R, rfl, hB⟩ := rows_open h1
    exact ⟨⟨st, A, ca, R, B, cb⟩, rfl, hA, hB⟩
end

end Go.Proofs.Ythlihchndmbkaaa
