/- Opens3: an argument opened: how a pool is eased. -/
import Derived.Test.YtcgnibfcjadnjaaOpens
namespace Go.Proofs.Ytcgnibfcjadnjaa
open Go.ChangeShapes Go.WideShapes Go.ChangeAt Go.RowKit

/-- how a pool is eased, as it comes -/
structure EaseI where
  who : Int
  a : Int
  b : Int
  c : Int
  sl : Int
  la : Int
  n : Int
  i : Int
  m : Int
  j : FolkI
abbrev cellsX (x : EaseI) : Array Value := #[.int .i64 x.who, .int .i64 x.a, .int .i64 x.b, .int .i64 x.c, .int .i64 x.sl, .int .i64 x.la, .int .i64 x.n, .int .i64 x.i, .int .i64 x.m, .int .i64 x.j.t, .int .i64 x.j.s, .int .i64 x.j.y]
theorem cellsEase : Try.prog.cellsOf 64 = 12 := by kernel_rfl

section
variable {H : Type} {enc : TypeId × Value → H} {w : World} {base : Nat} {spare : Nat → Bool} {held : Bool}

set_option maxRecDepth 100000 in
theorem ease_open {r : Reach} {b0 : Nat} {v : Value} {d : DataW H} {p : List MemPlace} (hv : Value.okWide Try.prog w r b0 64 v) (h : DataW.Trod enc Try.prog w base spare held 64 v d p) :
    ∃ x : EaseI, v = .agg (cellsX x) := by
  obtain ⟨cs, rfl, hsz⟩ := okWide_struct Try.underlying64 hv
  obtain ⟨l⟩ := cs
  match l, hsz.trans cellsEase with
  | [c0, c1, c2, c3, c4, c5, c6, c7, c8, c9, c10, c11], _ =>
    obtain ⟨fuel, hf⟩ := h
    obtain ⟨xs, m, _, _, _, hlen, hg⟩ := DataW.trod_struct Try.underlying64 hf
    have h0 := trod_field hg 0 3 0 _ _ rfl rfl rfl cellsInt
    have h1 := trod_field hg 1 3 1 _ _ rfl rfl rfl cellsInt
    have h2 := trod_field hg 2 3 2 _ _ rfl rfl rfl cellsInt
    have h3 := trod_field hg 3 3 3 _ _ rfl rfl rfl cellsInt
    have h4 := trod_field hg 4 3 4 _ _ rfl rfl rfl cellsInt
    have h5 := trod_field hg 5 3 5 _ _ rfl rfl rfl cellsInt
    have h6 := trod_field hg 6 3 6 _ _ rfl rfl rfl cellsInt
    have h7 := trod_field hg 7 3 7 _ _ rfl rfl rfl cellsInt
    have h8 := trod_field hg 8 3 8 _ _ rfl rfl rfl cellsInt
    have h9 := trod_field hg 9 62 9 _ _ rfl rfl rfl cellsFolk
    simp only [Value.cells, List.drop_succ_cons, List.drop_zero, List.take_succ_cons, List.take_zero] at h0 h1 h2 h3 h4 h5 h6 h7 h8 h9
    have hl : xs.length = 10 := hlen
    obtain ⟨n0, rfl, _⟩ := int_open h0 (isSome_of hl (by omega))
    obtain ⟨n1, rfl, _⟩ := int_open h1 (isSome_of hl (by omega))
    obtain ⟨n2, rfl, _⟩ := int_open h2 (isSome_of hl (by omega))
    obtain ⟨n3, rfl, _⟩ := int_open h3 (isSome_of hl (by omega))
    obtain ⟨n4, rfl, _⟩ := int_open h4 (isSome_of hl (by omega))
    obtain ⟨n5, rfl, _⟩ := int_open h5 (isSome_of hl (by omega))
    obtain ⟨n6, rfl, _⟩ := int_open h6 (isSome_of hl (by omega))
    obtain ⟨n7, rfl, _⟩ := int_open h7 (isSome_of hl (by omega))
    obtain ⟨n8, rfl, _⟩ := int_open h8 (isSome_of hl (by omega))
    obtain ⟨y, hy⟩ := folk_cells h9 (isSome_of hl (by omega))
    simp only [List.cons.injEq, and_true] at hy
    obtain ⟨rfl, rfl, rfl⟩ := hy
    exact ⟨⟨n0, n1, n2, n3, n4, n5, n6, n7, n8, y⟩, rfl⟩
end

end Go.Proofs.Ytcgnibfcjadnjaa
