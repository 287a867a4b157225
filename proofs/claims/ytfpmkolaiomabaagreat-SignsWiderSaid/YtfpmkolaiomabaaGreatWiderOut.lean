/- WiderOut: SignsWider where the book or the sight is not examined. -/
import Derived.Test.YtfpmkolaiomabaaGreatClash
import Derived.Test.YtfpmkolaiomabaaGreatRSeen
import Derived.Test.YtfpmkolaiomabaaGreatWorks
import Derived.Test.YtfpmkolaiomabaaGreatWider
import Derived.Test.YtfpmkolaiomabaaGreatSigner
namespace Go.Proofs.YtfpmkolaiomabaaGreat
open Go.RowKit


set_option maxRecDepth 100000 in
set_option maxHeartbeats 16000000 in
theorem signsWider_out (A A' : Option Addr) (cap cap' : Nat) (l : List EntryR) (s : SeenD) (x : WiderD) (w : World) (hA : EntsO w w.heap.size A l) (hl : l.length ≤ 9223372036854775807) (hA' : Ints w w.heap.size A' s.moves)
    (hP : ¬(readyD (l.map (·.d)) = true ∧ l.length ≤ 11 ∧ s.moves.length ≤ 20 ∧ okSeen s = true)) :
    Calls Tryz.prog 10 #[.slice A l.length cap, seenV s A' cap', widerV x] w fun e w' => e = .returned (.bool true) ∧ Below w.heap.size w w' := by
  have HWK := Lib.hid works_any
  have HRD := Lib.hid (fun (w0 : World) (h : Grow w w0) => ready_any A cap w.heap.size l w0 (hA.below h) hl h.size)
  have HSN0 := Lib.hid (fun (w0 : World) (h : Grow w w0) (hm : s.moves.length ≤ 20) => rIsSeen_any s A' cap' w.heap.size w0 (hA'.below h) (by omega) h.size)
  have HP := Lib.hid hP
  clear hA hA' hP
  go_enter Tryz.func10, Tryz.ntmps10
  go_wp2_with fail
  obtain ⟨W, hW, hg, hS, hX, hsz⟩ := two_blocks w 50 68 (cellsS s A' cap') (cellsWd x)
  rw [hW]
  clear hW
  have HG := Lib.hid hg
  have HS := Lib.hid hS
  have HX := Lib.hid hX
  clear hg hS hX
  refine (HRD.out _ HG.out).mono ?_
  rintro e w2 ⟨rfl, hb2⟩
  have HG2 : Hid (Grow w w2) := HG.out.trans hb2
  have HS2 := Lib.hid (Grow.block hb2 HS.out)
  have HX2 := Lib.hid (Grow.block hb2 HX.out)
  have hsc := HS2.out.cell
  clear hb2
  generalize readyD (l.map (·.d)) = rd at HP ⊢
  cases rd with
  | false =>
    go_wp2_with fail
    refine (HWK.out _).mono ?_
    rintro e w13 ⟨rfl, hb13⟩
    have HG13 : Hid (Grow w w13) := HG2.out.trans hb13
    clear hb13
    go_wp2
    go_ret
    exact ⟨rfl, HG13.out⟩
  | true =>
    by_cases h11 : 11 < l.length
    · have d2 : decide (11 < (l.length : Int)) = true := by simp; omega
      go_wp2_with fail
      refine (HWK.out _).mono ?_
      rintro e w13 ⟨rfl, hb13⟩
      have HG13 : Hid (Grow w w13) := HG2.out.trans hb13
      clear hb13
      go_wp2
      go_ret
      exact ⟨rfl, HG13.out⟩
    · have d2 : decide (11 < (l.length : Int)) = false := by simp; omega
      by_cases hm : s.moves.length ≤ 20
      · have d1 : decide (20 < (s.moves.length : Int)) = false := by simp; omega
        have hos : okSeen s = false := by
          cases h : okSeen s with
          | false => rfl
          | true => exact absurd ⟨rfl, by omega, hm, h⟩ HP.out
        have HSN := Lib.hid (fun (w0 : World) (h : Grow w w0) => HSN0.out w0 h hm)
        rw [hos] at HSN
        clear hos HSN0 HP
        go_wp2_with fail
        refine (HSN.out _ HG2.out).mono ?_
        rintro e w3 ⟨rfl, hb3⟩
        have HG3 : Hid (Grow w w3) := HG2.out.trans hb3
        clear hb3
        go_wp2_with fail
        refine (HWK.out _).mono ?_
        rintro e w13 ⟨rfl, hb13⟩
        have HG13 : Hid (Grow w w13) := HG3.out.trans hb13
        clear hb13
        go_wp2
        go_ret
        exact ⟨rfl, HG13.out⟩
      · have d1 : decide (20 < (s.moves.length : Int)) = true := by simp; omega
        clear HP
        go_wp2_with fail
        refine (HWK.out _).mono ?_
        rintro e w13 ⟨rfl, hb13⟩
        have HG13 : Hid (Grow w w13) := HG2.out.trans hb13
        clear hb13
        go_wp2
        go_ret
        exact ⟨rfl, HG13.out⟩

end Go.Proofs.YtfpmkolaiomabaaGreat
