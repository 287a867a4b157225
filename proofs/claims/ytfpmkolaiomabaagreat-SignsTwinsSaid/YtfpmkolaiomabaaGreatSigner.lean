/- Signer: an argument handshapelaw01.Signer, opened. -/
import Derived.Test.YtfpmkolaiomabaaGreatOpens2
namespace Go.Proofs.YtfpmkolaiomabaaGreat
open Go.RowKit Go.ChangeShapes Go.WideShapes Go.ChangeAt Go.Joins Go.Deep

structure SignerD where
  entry : Int
  region : Int
  age : Int
  missed : Int
  other : Bool
abbrev cellsX (x : SignerD) : Array Value := #[.int .i64 x.entry, .int .i64 x.region, .int .i64 x.age, .int .i64 x.missed, .bool x.other]
abbrev signerV (x : SignerD) : Value := .agg (cellsX x)

section
variable {H : Type} {enc : TypeId × Value → H} {w : World} {base : Nat} {spare : Nat → Bool} {held : Bool}
theorem cellsSigner : Tryz.prog.cellsOf 72 = 5 := by kernel_rfl
theorem cellsBool : Tryz.prog.cellsOf 4 = 1 := by kernel_rfl
set_option maxRecDepth 100000 in
/-- a signer -/
theorem signer_open {r : Reach} {b0 : Nat} {v : Value} {d : DataW H} {p : List MemPlace} (hv : Value.okWide Tryz.prog w r b0 72 v) (h : DataW.Trod enc Tryz.prog w base spare held 72 v d p) :
    ∃ x, v = signerV x ∧ Lit.wf (.int .i64 x.missed) = true := by
  obtain ⟨cs, rfl, hsz⟩ := okWide_struct Tryz.underlying72 hv
  obtain ⟨l⟩ := cs
  match l, hsz.trans cellsSigner with
  | [c0, c1, c2, c3, c4], _ =>
    obtain ⟨fuel, hf⟩ := h
    obtain ⟨xs, m, _, _, _, hlen, hg⟩ := DataW.trod_struct Tryz.underlying72 hf
    have h0 := trod_field hg 0 3 0 _ _ rfl rfl rfl cellsInt
    have h1 := trod_field hg 1 3 1 _ _ rfl rfl rfl cellsInt
    have h2 := trod_field hg 2 3 2 _ _ rfl rfl rfl cellsInt
    have h3 := trod_field hg 3 3 3 _ _ rfl rfl rfl cellsInt
    have h4 := trod_field hg 4 4 4 _ _ rfl rfl rfl cellsBool
    simp only [Value.cells, List.drop_succ_cons, List.drop_zero, List.take_succ_cons, List.take_zero] at h0 h1 h2 h3 h4
    have hl : xs.length = 5 := hlen
    obtain ⟨n0, rfl, _⟩ := int_open h0 (isSome_of hl (by omega))
    obtain ⟨n1, rfl, _⟩ := int_open h1 (isSome_of hl (by omega))
    obtain ⟨n2, rfl, _⟩ := int_open h2 (isSome_of hl (by omega))
    obtain ⟨n3, rfl, w3⟩ := int_open h3 (isSome_of hl (by omega))
    rw [List.getElem?_eq_getElem (by omega)] at h4
    obtain ⟨bb, e, _⟩ := DataW.trod_bool Tryz.underlying4 h4
    simp only [List.cons.injEq, and_true] at e
    subst e
    exact ⟨⟨n0, n1, n2, n3, bb⟩, rfl, w3⟩
end

end Go.Proofs.YtfpmkolaiomabaaGreat
