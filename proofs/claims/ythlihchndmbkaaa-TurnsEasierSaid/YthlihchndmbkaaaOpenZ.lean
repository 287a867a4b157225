/- OpenZ: an argument of the type Ease, opened. -/
import Derived.Test.YthlihchndmbkaaaOpens
import Derived.Test.YthlihchndmbkaaaEasierE
namespace Go.Proofs.Ythlihchndmbkaaa
open Go.RowKit Go.ChangeShapes Go.WideShapes Go.ChangeAt Go.Joins Go.Deep

theorem cellsEase : Try.prog.cellsOf 49 = 7 := by kernel_rfl
section
variable {H : Type} {enc : TypeId × Value → H} {w : World} {base : Nat} {spare : Nat → Bool} {held : Bool}
set_option maxRecDepth 100000 in
theorem ease_open {r : Reach} {b0 : Nat} {v : Value} {d : DataW H} {p : List MemPlace} (hv : Value.okWide Try.prog w r b0 49 v) (h : DataW.Trod enc Try.prog w base spare held 49 v d p) :
    ∃ x : EaseD, v = easeV x ∧ True := by
  obtain ⟨cs, rfl, hsz⟩ := okWide_struct Try.underlying49 hv
  obtain ⟨l⟩ := cs
  match l, hsz.trans cellsEase with
  | [c0, c1, c2, c3, c4, c5, c6], _ =>
    obtain ⟨fuel, hf⟩ := h
    obtain ⟨xs, m, _, _, _, hlen, hg⟩ := DataW.trod_struct Try.underlying49 hf
    have h0 := trod_field hg 0 3 0 _ _ rfl rfl rfl cellsInt
    have h1 := trod_field hg 1 3 1 _ _ rfl rfl rfl cellsInt
    have h2 := trod_field hg 2 3 2 _ _ rfl rfl rfl cellsInt
    have h3 := trod_field hg 3 3 3 _ _ rfl rfl rfl cellsInt
    have h4 := trod_field hg 4 3 4 _ _ rfl rfl rfl cellsInt
    have h5 := trod_field hg 5 3 5 _ _ rfl rfl rfl cellsInt
    have h6 := trod_field hg 6 3 6 _ _ rfl rfl rfl cellsInt
    simp only [Value.cells, List.drop_succ_cons, List.drop_zero, List.take_succ_cons, List.take_zero] at h0 h1 h2 h3 h4 h5 h6
    have hl : xs.length = 7 := hlen
    obtain ⟨n0, rfl, _⟩ := int_open h0 (isSome_of hl (by omega))
    obtain ⟨n1, rfl, _⟩ := int_open h1 (isSome_of hl (by omega))
    obtain ⟨n2, rfl, _⟩ := int_open h2 (isSome_of hl (by omega))
    obtain ⟨n3, rfl, _⟩ := int_open h3 (isSome_of hl (by omega))
    obtain ⟨n4, rfl, _⟩ := int_open h4 (isSome_of hl (by omega))
    obtain ⟨n5, rfl, _⟩ := int_open h5 (isSome_of hl (by omega))
    obtain ⟨n6, rfl, _⟩ := int_open h6 (isSome_of hl (by omega))
    exact ⟨⟨n0, n1, n2, n3, n4, n5, n6⟩, rfl, trivial⟩
end

end Go.Proofs.Ythlihchndmbkaaa
