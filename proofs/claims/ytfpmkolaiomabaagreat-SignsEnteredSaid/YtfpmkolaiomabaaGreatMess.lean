/- Mess: an argument handshapelaw01.Mess, opened. -/
import Derived.Test.YtfpmkolaiomabaaGreatOpens2
namespace Go.Proofs.YtfpmkolaiomabaaGreat
open Go.RowKit Go.ChangeShapes Go.WideShapes Go.ChangeAt Go.Joins Go.Deep

structure MessD where
  turn : Int
  twice : Int
  mirrored : Int
abbrev cellsM (x : MessD) : Array Value := #[.int .i64 x.turn, .int .i64 x.twice, .int .i64 x.mirrored]
abbrev messV (x : MessD) : Value := .agg (cellsM x)

section
variable {H : Type} {enc : TypeId × Value → H} {w : World} {base : Nat} {spare : Nat → Bool} {held : Bool}
theorem cellsMess : Tryz.prog.cellsOf 59 = 3 := by kernel_rfl
set_option maxRecDepth 100000 in
/-- how entries are entered -/
theorem mess_open {r : Reach} {b0 : Nat} {v : Value} {d : DataW H} {p : List MemPlace} (hv : Value.okWide Tryz.prog w r b0 59 v) (h : DataW.Trod enc Tryz.prog w base spare held 59 v d p) :
    ∃ x, v = messV x ∧ Lit.wf (.int .i64 x.mirrored) = true := by
  obtain ⟨cs, rfl, hsz⟩ := okWide_struct Tryz.underlying59 hv
  obtain ⟨l⟩ := cs
  match l, hsz.trans cellsMess with
  | [c0, c1, c2], _ =>
    obtain ⟨fuel, hf⟩ := h
    obtain ⟨xs, m, _, _, _, hlen, hg⟩ := DataW.trod_struct Tryz.underlying59 hf
    have h0 := trod_field hg 0 3 0 _ _ rfl rfl rfl cellsInt
    have h1 := trod_field hg 1 3 1 _ _ rfl rfl rfl cellsInt
    have h2 := trod_field hg 2 3 2 _ _ rfl rfl rfl cellsInt
    simp only [Value.cells, List.drop_succ_cons, List.drop_zero, List.take_succ_cons, List.take_zero] at h0 h1 h2
    have hl : xs.length = 3 := hlen
    obtain ⟨n0, rfl, _⟩ := int_open h0 (isSome_of hl (by omega))
    obtain ⟨n1, rfl, _⟩ := int_open h1 (isSome_of hl (by omega))
    obtain ⟨n2, rfl, w2⟩ := int_open h2 (isSome_of hl (by omega))
    exact ⟨⟨n0, n1, n2⟩, rfl, w2⟩
end

end Go.Proofs.YtfpmkolaiomabaaGreat
