/- WiderOffC: SignsWider where there is nothing to find: some of the ways. -/
import Derived.Test.YtfpmkolaiomabaaGreatClash
import Derived.Test.YtfpmkolaiomabaaGreatRSeen
import Derived.Test.YtfpmkolaiomabaaGreatWorks
import Derived.Test.YtfpmkolaiomabaaGreatWider
import Derived.Test.YtfpmkolaiomabaaGreatSigner
namespace Go.Proofs.YtfpmkolaiomabaaGreat
open Go.RowKit

set_option maxRecDepth 100000 in
set_option maxHeartbeats 16000000 in
theorem signsWider_offC (A A' : Option Addr) (cap cap' : Nat) (l : List EntryR) (s : SeenD) (x : WiderD) (w : World) (hA : EntsO w w.heap.size A l) (hl : l.length ≤ 9223372036854775807) (hA' : Ints w w.heap.size A' s.moves)
    (hr : readyD (l.map (·.d)) = true) (hs : okSeen s = true) (hl11 : l.length ≤ 11)
    (hcase : (¬ (x.lost < 0) ∧ ¬ (6 < x.lost) ∧ ¬ (x.spans < 0) ∧ ¬ (100 < x.spans) ∧ ¬ (20 < (x.e.d.form.moves.length : Int)) ∧ ¬ (s.cl < -1000) ∧ ¬ (1000 < s.ch) ∧ ¬ (s.rl < -1000) ∧ 1000 < s.rh) ∨ (¬ (x.lost < 0) ∧ ¬ (6 < x.lost) ∧ ¬ (x.spans < 0) ∧ ¬ (100 < x.spans) ∧ ¬ (20 < (x.e.d.form.moves.length : Int)) ∧ ¬ (s.cl < -1000) ∧ ¬ (1000 < s.ch) ∧ ¬ (s.rl < -1000) ∧ ¬ (1000 < s.rh) ∧ s.al < -1000) ∨ (¬ (x.lost < 0) ∧ ¬ (6 < x.lost) ∧ ¬ (x.spans < 0) ∧ ¬ (100 < x.spans) ∧ ¬ (20 < (x.e.d.form.moves.length : Int)) ∧ ¬ (s.cl < -1000) ∧ ¬ (1000 < s.ch) ∧ ¬ (s.rl < -1000) ∧ ¬ (1000 < s.rh) ∧ ¬ (s.al < -1000) ∧ 1000 < s.ah)) :
    Calls Tryz.prog 10 #[.slice A l.length cap, seenV s A' cap', widerV x] w fun e w' => e = .returned (.bool true) ∧ Below w.heap.size w w' := by
  have HWK := Lib.hid works_any
  have hml : s.moves.length ≤ 6 := (SeenIn.of_ok hs).len
  have HRD := Lib.hid (fun (w0 : World) (h : Grow w w0) => by have k := ready_any A cap w.heap.size l w0 (hA.below h) hl h.size; rw [hr] at k; exact k)
  have HSN := Lib.hid (fun (w0 : World) (h : Grow w w0) => by have k := rIsSeen_any s A' cap' w.heap.size w0 (hA'.below h) (by omega) h.size; rw [hs] at k; exact k)
  have d1 : decide (20 < (s.moves.length : Int)) = false := by simp; omega
  have d2 : decide (11 < (l.length : Int)) = false := by simp; omega
  clear hs hr hA hA'
  go_enter Tryz.func10, Tryz.ntmps10
  go_wp2_with fail
  obtain ⟨W, hW, hg, hS, hX, hsz⟩ := two_blocks w 50 68 (cellsS s A' cap') (cellsWd x)
  rw [hW]
  clear hW
  have HG := Lib.hid hg
  have HS := Lib.hid hS
  have HX := Lib.hid hX
  clear hg hS hX
  refine (HRD.out _ HG.out).mono ?_
  rintro e w2 ⟨rfl, hb2⟩
  have HG2 : Hid (Grow w w2) := HG.out.trans hb2
  have HS2 := Lib.hid (Grow.block hb2 HS.out)
  have HX2 := Lib.hid (Grow.block hb2 HX.out)
  have hsc := HS2.out.cell
  clear hb2
  go_wp2_with fail
  refine (HSN.out _ HG2.out).mono ?_
  rintro e w3 ⟨rfl, hb3⟩
  have HG3 : Hid (Grow w w3) := HG2.out.trans hb3
  have HS3 := Lib.hid (Grow.block hb3 HS2.out)
  have HX3 := Lib.hid (Grow.block hb3 HX2.out)
  clear hsc hb3
  have hsc := HS3.out.cell
  have hxc := HX3.out.cell
  rcases hcase with ⟨g0, g1, g2, g3, g4, g5, g6, g7, g8⟩ | ⟨g0, g1, g2, g3, g4, g5, g6, g7, g8, g9⟩ | ⟨g0, g1, g2, g3, g4, g5, g6, g7, g8, g9, g10⟩
  · have q0 : decide (x.lost < 0) = false := decide_eq_false (by omega)
    have q1 : decide (6 < x.lost) = false := decide_eq_false (by omega)
    have q2 : decide (x.spans < 0) = false := decide_eq_false (by omega)
    have q3 : decide (100 < x.spans) = false := decide_eq_false (by omega)
    have q4 : decide (20 < (x.e.d.form.moves.length : Int)) = false := decide_eq_false (by omega)
    have q5 : decide (s.cl < -1000) = false := decide_eq_false (by omega)
    have q6 : decide (1000 < s.ch) = false := decide_eq_false (by omega)
    have q7 : decide (s.rl < -1000) = false := decide_eq_false (by omega)
    have q8 : decide (1000 < s.rh) = true := decide_eq_true (by omega)
    clear g0 g1 g2 g3 g4 g5 g6 g7 g8
    go_wp2_with fail
    refine (HWK.out _).mono ?_
    rintro e w13 ⟨rfl, hb13⟩
    have HG13 : Hid (Grow w w13) := HG3.out.trans hb13
    clear hb13
    go_wp2
    go_ret
    exact ⟨rfl, HG13.out⟩
  · have q0 : decide (x.lost < 0) = false := decide_eq_false (by omega)
    have q1 : decide (6 < x.lost) = false := decide_eq_false (by omega)
    have q2 : decide (x.spans < 0) = false := decide_eq_false (by omega)
    have q3 : decide (100 < x.spans) = false := decide_eq_false (by omega)
    have q4 : decide (20 < (x.e.d.form.moves.length : Int)) = false := decide_eq_false (by omega)
    have q5 : decide (s.cl < -1000) = false := decide_eq_false (by omega)
    have q6 : decide (1000 < s.ch) = false := decide_eq_false (by omega)
    have q7 : decide (s.rl < -1000) = false := decide_eq_false (by omega)
    have q8 : decide (1000 < s.rh) = false := decide_eq_false (by omega)
    have q9 : decide (s.al < -1000) = true := decide_eq_true (by omega)
    clear g0 g1 g2 g3 g4 g5 g6 g7 g8 g9
    go_wp2_with fail
    refine (HWK.out _).mono ?_
    rintro e w13 ⟨rfl, hb13⟩
    have HG13 : Hid (Grow w w13) := HG3.out.trans hb13
    clear hb13
    go_wp2
    go_ret
    exact ⟨rfl, HG13.out⟩
  · have q0 : decide (x.lost < 0) = false := decide_eq_false (by omega)
    have q1 : decide (6 < x.lost) = false := decide_eq_false (by omega)
    have q2 : decide (x.spans < 0) = false := decide_eq_false (by omega)
    have q3 : decide (100 < x.spans) = false := decide_eq_false (by omega)
    have q4 : decide (20 < (x.e.d.form.moves.length : Int)) = false := decide_eq_false (by omega)
    have q5 : decide (s.cl < -1000) = false := decide_eq_false (by omega)
    have q6 : decide (1000 < s.ch) = false := decide_eq_false (by omega)
    have q7 : decide (s.rl < -1000) = false := decide_eq_false (by omega)
    have q8 : decide (1000 < s.rh) = false := decide_eq_false (by omega)
    have q9 : decide (s.al < -1000) = false := decide_eq_false (by omega)
    have q10 : decide (1000 < s.ah) = true := decide_eq_true (by omega)
    clear g0 g1 g2 g3 g4 g5 g6 g7 g8 g9 g10
    go_wp2_with fail
    refine (HWK.out _).mono ?_
    rintro e w13 ⟨rfl, hb13⟩
    have HG13 : Hid (Grow w w13) := HG3.out.trans hb13
    clear hb13
    go_wp2
    go_ret
    exact ⟨rfl, HG13.out⟩

end Go.Proofs.YtfpmkolaiomabaaGreat
