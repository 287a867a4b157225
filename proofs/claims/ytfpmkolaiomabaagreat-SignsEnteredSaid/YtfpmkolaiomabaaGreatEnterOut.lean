/- EnterOut: SignsEntered where there is nothing to look at. -/
import Derived.Test.YtfpmkolaiomabaaGreatClash
import Derived.Test.YtfpmkolaiomabaaGreatRSeen
import Derived.Test.YtfpmkolaiomabaaGreatWorks
import Derived.Test.YtfpmkolaiomabaaGreatMess
namespace Go.Proofs.YtfpmkolaiomabaaGreat
open Go.RowKit

set_option maxRecDepth 100000 in
set_option maxHeartbeats 16000000 in
theorem signsEntered_out (A A' : Option Addr) (cap cap' : Nat) (l : List EntryR) (s : SeenD) (x : MessD) (w : World) (hA : EntsO w w.heap.size A l) (hl : l.length ≤ 9223372036854775807) (hA' : Ints w w.heap.size A' s.moves)
    (hP : ¬(readyD (l.map (·.d)) = true ∧ l.length ≤ 11 ∧ s.moves.length ≤ 20 ∧ okSeen s = true ∧ 0 ≤ x.turn ∧ x.turn ≤ 1000 ∧ 0 ≤ x.twice ∧ 0 ≤ x.mirrored)) :
    Calls Tryz.prog 8 #[.slice A l.length cap, seenV s A' cap', messV x] w fun e w' => e = .returned (.bool true) ∧ Below w.heap.size w w' := by
  have HWK := Lib.hid works_any
  have HP := Lib.hid hP
  have HRD := Lib.hid (fun (w0 : World) (h : Grow w w0) => ready_any A cap w.heap.size l w0 (hA.below h) hl h.size)
  have HSN := Lib.hid (fun (hm : s.moves.length ≤ 20) (w0 : World) (h : Grow w w0) => rIsSeen_any s A' cap' w.heap.size w0 (hA'.below h) (by omega) h.size)
  clear hA hA' hP
  generalize readyD (l.map (·.d)) = rd at HP HRD
  generalize okSeen s = ok at HP HSN
  go_enter Tryz.func8, Tryz.ntmps8
  go_upto_region 1 with fail
  obtain ⟨W, hW, hg, hS, hX, hsz⟩ := two_blocks w 50 59 (cellsS s A' cap') (cellsM x)
  rw [hW]
  clear hW
  have HG := Lib.hid hg
  have HS := Lib.hid hS
  have HX := Lib.hid hX
  clear hg hS hX
  go_wp2_with fail
  refine (HRD.out _ HG.out).mono ?_
  rintro e w2 ⟨rfl, hb2⟩
  have HG2 : Hid (Grow w w2) := HG.out.trans hb2
  have HS2 := Lib.hid (Grow.block hb2 HS.out)
  have HX2 := Lib.hid (Grow.block hb2 HX.out)
  have hsc := HS2.out.cell
  clear hb2
  cases rd with
  | false =>
    go_wp2_with fail
    refine (HWK.out _).mono ?_
    rintro e w13 ⟨rfl, hb13⟩
    have HG13 : Hid (Grow w w13) := HG2.out.trans hb13
    clear hb13
    go_wp2
    go_ret
    exact ⟨rfl, HG13.out⟩
  | true =>
    by_cases c1 : (11 : Int) < l.length
    · have e1 : decide ((11 : Int) < l.length) = true := decide_eq_true c1
      go_wp2_with fail
      refine (HWK.out _).mono ?_
      rintro e w13 ⟨rfl, hb13⟩
      have HG13 : Hid (Grow w w13) := HG2.out.trans hb13
      clear hb13
      go_wp2
      go_ret
      exact ⟨rfl, HG13.out⟩
    · have e1 : decide ((11 : Int) < l.length) = false := decide_eq_false c1
      by_cases c2 : (20 : Int) < s.moves.length
      · have e2 : decide ((20 : Int) < s.moves.length) = true := decide_eq_true c2
        go_wp2_with fail
        refine (HWK.out _).mono ?_
        rintro e w13 ⟨rfl, hb13⟩
        have HG13 : Hid (Grow w w13) := HG2.out.trans hb13
        clear hb13
        go_wp2
        go_ret
        exact ⟨rfl, HG13.out⟩
      · have e2 : decide ((20 : Int) < s.moves.length) = false := decide_eq_false c2
        go_wp2_with fail
        refine (HSN.out (by omega) _ HG2.out).mono ?_
        rintro e w3 ⟨rfl, hb3⟩
        have HG3 : Hid (Grow w w3) := HG2.out.trans hb3
        have HX3 := Lib.hid (Grow.block hb3 HX2.out)
        clear hsc
        have hxc := HX3.out.cell
        clear hb3
        cases ok with
        | false =>
          go_wp2_with fail
          refine (HWK.out _).mono ?_
          rintro e w13 ⟨rfl, hb13⟩
          have HG13 : Hid (Grow w w13) := HG3.out.trans hb13
          clear hb13
          go_wp2
          go_ret
          exact ⟨rfl, HG13.out⟩
        | true =>
          by_cases c3 : x.turn < 0
          · have ec3 : decide (x.turn < 0) = true := decide_eq_true c3
            go_wp2_with fail
            refine (HWK.out _).mono ?_
            rintro e w13 ⟨rfl, hb13⟩
            have HG13 : Hid (Grow w w13) := HG3.out.trans hb13
            clear hb13
            go_wp2
            go_ret
            exact ⟨rfl, HG13.out⟩
          · have ec3 : decide (x.turn < 0) = false := decide_eq_false c3
            by_cases c4 : (1000 : Int) < x.turn
            · have ec4 : decide ((1000 : Int) < x.turn) = true := decide_eq_true c4
              go_wp2_with fail
              refine (HWK.out _).mono ?_
              rintro e w13 ⟨rfl, hb13⟩
              have HG13 : Hid (Grow w w13) := HG3.out.trans hb13
              clear hb13
              go_wp2
              go_ret
              exact ⟨rfl, HG13.out⟩
            · have ec4 : decide ((1000 : Int) < x.turn) = false := decide_eq_false c4
              by_cases c5 : x.twice < 0
              · have ec5 : decide (x.twice < 0) = true := decide_eq_true c5
                go_wp2_with fail
                refine (HWK.out _).mono ?_
                rintro e w13 ⟨rfl, hb13⟩
                have HG13 : Hid (Grow w w13) := HG3.out.trans hb13
                clear hb13
                go_wp2
                go_ret
                exact ⟨rfl, HG13.out⟩
              · have ec5 : decide (x.twice < 0) = false := decide_eq_false c5
                by_cases c6 : x.mirrored < 0
                · have ec6 : decide (x.mirrored < 0) = true := decide_eq_true c6
                  go_wp2_with fail
                  refine (HWK.out _).mono ?_
                  rintro e w13 ⟨rfl, hb13⟩
                  have HG13 : Hid (Grow w w13) := HG3.out.trans hb13
                  clear hb13
                  go_wp2
                  go_ret
                  exact ⟨rfl, HG13.out⟩
                · have ec6 : decide (x.mirrored < 0) = false := decide_eq_false c6
                  exact absurd ⟨by simp, by omega, by omega, by simp, by omega, by omega, by omega, by omega⟩ HP.out

end Go.Proofs.YtfpmkolaiomabaaGreat
