/- Laid: what the laid variable gives a walk; a start that meets the condition. -/
import Derived.Test.YthehkgpnnndboaaDoorOpens
import Derived.Test.YthehkgpnnndboaaDoorRange
import Derived.LaidMore
import Derived.Stop.Joined
namespace Go.Proofs.YthehkgpnnndboaaDoor
open Go.ChangeShapes Go.WideShapes Go.ChangeAt Go.RowKit

abbrev laidL : List (String × DataW Unit) := [("handshape/exams.nothing", Rows.laid_handshape_exams_nothing)]
theorem gNothing : Tryd.prog.globalNamed "handshape/exams.nothing" = some 0 := by kernel_rfl
theorem tNothing : (Tryd.prog.globals[0]?).map (·.type) = some 33 := by kernel_rfl
/-- the door's own heap meets the condition -/
theorem door_met (os : Os) (args : Array Value) : laidMetH Tryd.prog laidL ((World.doorLaid Tryd.prog 14 os).forCall (fun _ _ => 0) ⟨#[], args, []⟩).memory :=
  laidMetH_of_parts (laidMet_of_run' 8 (by kernel_rfl) (by kernel_rfl)) (by kernel_rfl)
set_option maxRecDepth 100000 in
theorem glob_of_laid {W : World} (h : laidMetH Tryd.prog laidL W) : Glob W := by
  rw [MakeChecks.laidMetH_plain _ _ _ (by kernel_rfl)] at h
  obtain ⟨ps, ⟨g0, t0, cs0, f0, p0, q0, hg0, ht0, hv0, hd0, _⟩, _, _⟩ := h
  obtain rfl := Option.some.inj (gNothing.symm.trans hg0)
  obtain rfl := Option.some.inj (tNothing.symm.trans ht0)
  obtain ⟨xs, m, _, hx, hc, hlen, hg⟩ := DataW.trod_struct Tryd.underlying33 hd0
  have hc2 := hc.trans cellsSpan
  obtain ⟨l⟩ := cs0
  clear hc
  match l, hc2 with
  | [c0, c1], _ =>
    have hl : xs.length = 2 := hlen
    have h0 := hg 0 _ rfl
    have h1 := hg 1 _ rfl
    match xs, hl with
    | [x0, x1], _ =>
      have e : [x0.1, x1.1] = [DataW.lit (.int .i64 1201), DataW.lit (.int .i64 (-1))] := by
        have := congrArg Prod.fst hx
        simpa [Rows.laid_handshape_exams_nothing] using this.symm
      obtain ⟨n0, a0, b0, _⟩ := DataW.trod_int Tryd.underlying3 (show DataW.trod _ Tryd.prog W 0 _ false m 3 [c0] = some x0 from h0)
      obtain ⟨n1, a1, b1, _⟩ := DataW.trod_int Tryd.underlying3 (show DataW.trod _ Tryd.prog W 0 _ false m 3 [c1] = some x1 from h1)
      subst b0 b1
      simp only [List.cons.injEq, DataW.lit.injEq, Lit.int.injEq, true_and, and_true] at e
      obtain ⟨rfl, rfl⟩ := e
      simp only [List.cons.injEq, and_true] at a0 a1
      subst a0 a1
      have k0 := World.var?_cell hg0 hv0 0
      have k1 := World.var?_cell hg0 hv0 1
      have k0' : W.cell? ⟨0, 0, none⟩ = some (.int .i64 1201) := by simpa using k0
      have k1' : W.cell? ⟨0, 1, none⟩ = some (.int .i64 (-1)) := by simpa using k1
      exact ⟨k0', k1', World.block_lt_of_cell? W _ k0'⟩

end Go.Proofs.YthehkgpnnndboaaDoor
