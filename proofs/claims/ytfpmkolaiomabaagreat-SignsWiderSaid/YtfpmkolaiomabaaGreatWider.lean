/- Wider: an argument handshapelaw01.Wider, opened. -/
import Derived.Test.YtfpmkolaiomabaaGreatOpens2
namespace Go.Proofs.YtfpmkolaiomabaaGreat
open Go.RowKit Go.ChangeShapes Go.WideShapes Go.ChangeAt Go.Joins Go.Deep

structure WiderD where
  rights : Int
  lefts : Int
  faces : Int
  regions : Int
  lost : Int
  spans : Int
  e : EntryR
abbrev cellsWd (x : WiderD) : Array Value := #[.int .i64 x.rights, .int .i64 x.lefts, .int .i64 x.faces, .int .i64 x.regions, .int .i64 x.lost, .int .i64 x.spans, .int .i64 x.e.d.id, .int .i64 x.e.d.sign, .int .i64 x.e.d.regions, .int .i64 x.e.d.form.right, .int .i64 x.e.d.form.left, .int .i64 x.e.d.form.column, .int .i64 x.e.d.form.row, .int .i64 x.e.d.form.face,
  .slice x.e.A x.e.d.form.moves.length x.e.cap, .int .i64 x.e.d.low, .int .i64 x.e.d.high]
abbrev widerV (x : WiderD) : Value := .agg (cellsWd x)

section
variable {H : Type} {enc : TypeId × Value → H} {w : World} {base : Nat} {spare : Nat → Bool} {held : Bool}
theorem cellsWider : Tryz.prog.cellsOf 68 = 17 := by kernel_rfl
set_option maxRecDepth 100000 in
/-- by which sets and numbers a sight is less sure, and one more entry -/
theorem wider_open {r : Reach} {b0 : Nat} {v : Value} {d : DataW H} {p : List MemPlace} (hv : Value.okWide Tryz.prog w r b0 68 v) (h : DataW.Trod enc Tryz.prog w base spare held 68 v d p) :
    ∃ x, v = widerV x ∧ Ints w w.heap.size x.e.A x.e.d.form.moves ∧ x.e.d.form.moves.length ≤ x.e.cap ∧ (Lit.wf (.int .i64 x.rights) = true ∧ Lit.wf (.int .i64 x.lefts) = true ∧ Lit.wf (.int .i64 x.faces) = true ∧ Lit.wf (.int .i64 x.regions) = true) := by
  obtain ⟨cs, rfl, hsz⟩ := okWide_struct Tryz.underlying68 hv
  obtain ⟨l⟩ := cs
  match l, hsz.trans cellsWider with
  | [c0, c1, c2, c3, c4, c5, c6, c7, c8, c9, c10, c11, c12, c13, c14, c15, c16], _ =>
    obtain ⟨fuel, hf⟩ := h
    obtain ⟨xs, m, _, _, _, hlen, hg⟩ := DataW.trod_struct Tryz.underlying68 hf
    have h0 := trod_field hg 0 3 0 _ _ rfl rfl rfl cellsInt
    have h1 := trod_field hg 1 3 1 _ _ rfl rfl rfl cellsInt
    have h2 := trod_field hg 2 3 2 _ _ rfl rfl rfl cellsInt
    have h3 := trod_field hg 3 3 3 _ _ rfl rfl rfl cellsInt
    have h4 := trod_field hg 4 3 4 _ _ rfl rfl rfl cellsInt
    have h5 := trod_field hg 5 3 5 _ _ rfl rfl rfl cellsInt
    have h6 := trod_field hg 6 62 6 _ _ rfl rfl rfl cellsEntry
    simp only [Value.cells, List.drop_succ_cons, List.drop_zero, List.take_succ_cons, List.take_zero] at h0 h1 h2 h3 h4 h5 h6
    have hl : xs.length = 7 := hlen
    obtain ⟨n0, rfl, w0⟩ := int_open h0 (isSome_of hl (by omega))
    obtain ⟨n1, rfl, w1⟩ := int_open h1 (isSome_of hl (by omega))
    obtain ⟨n2, rfl, w2⟩ := int_open h2 (isSome_of hl (by omega))
    obtain ⟨n3, rfl, w3⟩ := int_open h3 (isSome_of hl (by omega))
    obtain ⟨n4, rfl, _⟩ := int_open h4 (isSome_of hl (by omega))
    obtain ⟨n5, rfl, _⟩ := int_open h5 (isSome_of hl (by omega))
    obtain ⟨x, e, hi, hc⟩ := entry_cells h6 (isSome_of hl (by omega))
    simp only [List.cons.injEq, and_true] at e
    obtain ⟨rfl, rfl, rfl, rfl, rfl, rfl, rfl, rfl, rfl, rfl, rfl⟩ := e
    exact ⟨⟨n0, n1, n2, n3, n4, n5, x⟩, rfl, hi, hc, w0, w1, w2, w3⟩
end

end Go.Proofs.YtfpmkolaiomabaaGreat
