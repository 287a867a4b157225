/- Opens2: arguments opened: a slot with who is ill, a slot with what languages are given. -/
import Derived.Test.YtcgnibfcjadnjaaOpens
namespace Go.Proofs.Ytcgnibfcjadnjaa
open Go.ChangeShapes Go.WideShapes Go.ChangeAt Go.RowKit

theorem cellsSick : Try.prog.cellsOf 28 = 2 := by kernel_rfl
theorem cellsGiven : Try.prog.cellsOf 47 = 2 := by kernel_rfl
theorem wf_of {z : Int} (h : Lit.wf (.int .i64 z) = true) : -9223372036854775808 ≤ z ∧ z < 9223372036854775808 := wf_range h

section
variable {H : Type} {enc : TypeId × Value → H} {w : World} {base : Nat} {spare : Nat → Bool} {held : Bool}

set_option maxRecDepth 100000 in
theorem sick_open {r : Reach} {b0 : Nat} {v : Value} {d : DataW H} {p : List MemPlace} (hv : Value.okWide Try.prog w r b0 28 v) (h : DataW.Trod enc Try.prog w base spare held 28 v d p) :
    ∃ s x : Int, v = .agg #[.int .i64 s, .int .i64 x] ∧ -9223372036854775808 ≤ x ∧ x < 9223372036854775808 := by
  obtain ⟨cs, rfl, hsz⟩ := okWide_struct Try.underlying28 hv
  obtain ⟨l⟩ := cs
  match l, hsz.trans cellsSick with
  | [c0, c1], _ =>
    obtain ⟨fuel, hf⟩ := h
    obtain ⟨xs, m, _, _, _, hlen, hg⟩ := DataW.trod_struct Try.underlying28 hf
    have h0 := trod_field hg 0 3 0 _ _ rfl rfl rfl cellsInt
    have h1 := trod_field hg 1 3 1 _ _ rfl rfl rfl cellsInt
    simp only [Value.cells, List.drop_succ_cons, List.drop_zero, List.take_succ_cons, List.take_zero] at h0 h1
    have hl : xs.length = 2 := hlen
    obtain ⟨n0, rfl, _⟩ := int_open h0 (isSome_of hl (by omega))
    obtain ⟨n1, rfl, hw⟩ := int_open h1 (isSome_of hl (by omega))
    exact ⟨n0, n1, rfl, wf_of hw⟩
set_option maxRecDepth 100000 in
theorem given_open {r : Reach} {b0 : Nat} {v : Value} {d : DataW H} {p : List MemPlace} (hv : Value.okWide Try.prog w r b0 47 v) (h : DataW.Trod enc Try.prog w base spare held 47 v d p) :
    ∃ (s : Int) (A : Option Addr) (cap : Nat) (xs : List Int), v = .agg #[.int .i64 s, .slice A xs.length cap] ∧ Ints w w.heap.size A xs := by
  obtain ⟨cs, rfl, hsz⟩ := okWide_struct Try.underlying47 hv
  obtain ⟨l⟩ := cs
  match l, hsz.trans cellsGiven with
  | [c0, c1], _ =>
    obtain ⟨fuel, hf⟩ := h
    obtain ⟨xs, m, _, _, _, hlen, hg⟩ := DataW.trod_struct Try.underlying47 hf
    have h0 := trod_field hg 0 3 0 _ _ rfl rfl rfl cellsInt
    have h1 := trod_field hg 1 26 1 _ _ rfl rfl rfl cellsInts
    simp only [Value.cells, List.drop_succ_cons, List.drop_zero, List.take_succ_cons, List.take_zero] at h0 h1
    have hl : xs.length = 2 := hlen
    obtain ⟨n0, rfl, _⟩ := int_open h0 (isSome_of hl (by omega))
    rw [List.getElem?_eq_getElem (by omega)] at h1
    obtain ⟨A, cap, ys, rfl, hA, _⟩ := ints_open h1
    exact ⟨n0, A, cap, ys, rfl, hA⟩
end

end Go.Proofs.Ytcgnibfcjadnjaa
