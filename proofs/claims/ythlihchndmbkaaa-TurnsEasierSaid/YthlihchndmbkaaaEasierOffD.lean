/- EasierOffD: TurnsEasier where it answers works() early. -/
import Derived.Test.YthlihchndmbkaaaEasierE
namespace Go.Proofs.Ythlihchndmbkaaa
open Go.RowKit

set_option maxRecDepth 100000 in
set_option maxHeartbeats 16000000 in
theorem easier_off12 (t : TaskR) (xs : List Int) (A1 : Option Addr) (c1 : Nat) (xh xs0 xt xe xsl xl xr : Int) (w : World) (ht : TaskAt w w.heap.size t) (h1 : Ints w w.heap.size A1 xs) (hv : validD t.d = true) (hl : xs.length ≤ 20) (hr : okRota t.d xs = true) (n0 : ¬ xs0 < 0) (n1 : ¬ 100 < xs0) (n2 : ¬ xt < 0) (n3 : ¬ 20 < xt) (n4 : ¬ xe < 0) (n5 : ¬ 20 < xe) (n6 : ¬ xsl < 0) (n7 : ¬ 100 < xsl) (n8 : ¬ xl < 0) (n9 : 10 < xl) :
    Calls Try.prog 5 #[taskV t, .slice A1 xs.length c1, easeV ⟨xh, xs0, xt, xe, xsl, xl, xr⟩] w fun e w' => e = .returned (.bool true) ∧ Below w.heap.size w w' := by
  have HWK := Lib.hid works_any
  have HVA := Lib.hid (fun (w0 : World) (hw : Grow w w0) => valid_any t w.heap.size w0 (ht.below hw) hw.size)
  rw [hv] at HVA
  have hgt : decide ((20 : Int) < (xs.length : Int)) = false := decide_eq_false (by omega)
  have hgn : decide (20 < xs.length) = false := decide_eq_false (by omega)
  have HIR := Lib.hid (fun (w0 : World) (hw : Grow w w0) => isRota_any t xs A1 c1 w.heap.size w0 (h1.below hw) hw.size hl (okTask_parts (validD_iff.1 hv).1).1.2)
  rw [hr] at HIR
  have d0 : decide (xs0 < 0) = false := decide_eq_false n0
  have d1 : decide (100 < xs0) = false := decide_eq_false n1
  have d2 : decide (xt < 0) = false := decide_eq_false n2
  have d3 : decide (20 < xt) = false := decide_eq_false n3
  have d4 : decide (xe < 0) = false := decide_eq_false n4
  have d5 : decide (20 < xe) = false := decide_eq_false n5
  have d6 : decide (xsl < 0) = false := decide_eq_false n6
  have d7 : decide (100 < xsl) = false := decide_eq_false n7
  have d8 : decide (xl < 0) = false := decide_eq_false n8
  have d9 : decide (10 < xl) = true := decide_eq_true n9
  clear ht h1 hv hl hr n0 n1 n2 n3 n4 n5 n6 n7 n8 n9
  go_enter Try.func5, Try.ntmps5
  go_upto_region 1 with fail
  obtain ⟨W, hW, hg, hf, hx, hsz⟩ := two_blocks w 25 49 (cellsT t) (cellsZ ⟨xh, xs0, xt, xe, xsl, xl, xr⟩)
  rw [hW]
  clear hW
  have hcc := hf.cell
  have HG := Lib.hid hg
  have HF := Lib.hid hf
  have HX := Lib.hid hx
  clear hg hf hx
  go_wp2_with fail
  refine (HVA.out _ HG.out).mono ?_
  rintro e w2 ⟨rfl, hb2⟩
  have HG2 : Hid (Grow W w2) := hb2
  clear hcc hb2
  have hcc := (HG2.out.block HF.out).cell
  go_wp2_with fail
  refine (HIR.out _ (HG.out.trans HG2.out)).mono ?_
  rintro e w4 ⟨rfl, hb4⟩
  have HG4 : Hid (Grow W w4) := HG2.out.trans hb4
  clear hcc hb4
  have HGL := HG4
  have hxc := (HG4.out.block HX.out).cell
  go_wp2_with fail
  refine (HWK.out _).mono ?_
  rintro e w6 ⟨rfl, hb6⟩
  have HG6 : Hid (Grow W w6) := HGL.out.trans hb6
  clear hb6
  go_wp2
  go_ret
  exact ⟨rfl, HG.out.trans HG6.out⟩

set_option maxRecDepth 100000 in
set_option maxHeartbeats 16000000 in
theorem easier_off13 (t : TaskR) (xs : List Int) (A1 : Option Addr) (c1 : Nat) (xh xs0 xt xe xsl xl xr : Int) (w : World) (ht : TaskAt w w.heap.size t) (h1 : Ints w w.heap.size A1 xs) (hv : validD t.d = true) (hl : xs.length ≤ 20) (hr : okRota t.d xs = true) (n0 : ¬ xs0 < 0) (n1 : ¬ 100 < xs0) (n2 : ¬ xt < 0) (n3 : ¬ 20 < xt) (n4 : ¬ xe < 0) (n5 : ¬ 20 < xe) (n6 : ¬ xsl < 0) (n7 : ¬ 100 < xsl) (n8 : ¬ xl < 0) (n9 : ¬ 10 < xl) (n10 : xr < 0) :
    Calls Try.prog 5 #[taskV t, .slice A1 xs.length c1, easeV ⟨xh, xs0, xt, xe, xsl, xl, xr⟩] w fun e w' => e = .returned (.bool true) ∧ Below w.heap.size w w' := by
  have HWK := Lib.hid works_any
  have HVA := Lib.hid (fun (w0 : World) (hw : Grow w w0) => valid_any t w.heap.size w0 (ht.below hw) hw.size)
  rw [hv] at HVA
  have hgt : decide ((20 : Int) < (xs.length : Int)) = false := decide_eq_false (by omega)
  have hgn : decide (20 < xs.length) = false := decide_eq_false (by omega)
  have HIR := Lib.hid (fun (w0 : World) (hw : Grow w w0) => isRota_any t xs A1 c1 w.heap.size w0 (h1.below hw) hw.size hl (okTask_parts (validD_iff.1 hv).1).1.2)
  rw [hr] at HIR
  have d0 : decide (xs0 < 0) = false := decide_eq_false n0
  have d1 : decide (100 < xs0) = false := decide_eq_false n1
  have d2 : decide (xt < 0) = false := decide_eq_false n2
  have d3 : decide (20 < xt) = false := decide_eq_false n3
  have d4 : decide (xe < 0) = false := decide_eq_false n4
  have d5 : decide (20 < xe) = false := decide_eq_false n5
  have d6 : decide (xsl < 0) = false := decide_eq_false n6
  have d7 : decide (100 < xsl) = false := decide_eq_false n7
  have d8 : decide (xl < 0) = false := decide_eq_false n8
  have d9 : decide (10 < xl) = false := decide_eq_false n9
  have d10 : decide (xr < 0) = true := decide_eq_true n10
  clear ht h1 hv hl hr n0 n1 n2 n3 n4 n5 n6 n7 n8 n9 n10
  go_enter Try.func5, Try.ntmps5
  go_upto_region 1 with fail
  obtain ⟨W, hW, hg, hf, hx, hsz⟩ := two_blocks w 25 49 (cellsT t) (cellsZ ⟨xh, xs0, xt, xe, xsl, xl, xr⟩)
  rw [hW]
  clear hW
  have hcc := hf.cell
  have HG := Lib.hid hg
  have HF := Lib.hid hf
  have HX := Lib.hid hx
  clear hg hf hx
  go_wp2_with fail
  refine (HVA.out _ HG.out).mono ?_
  rintro e w2 ⟨rfl, hb2⟩
  have HG2 : Hid (Grow W w2) := hb2
  clear hcc hb2
  have hcc := (HG2.out.block HF.out).cell
  go_wp2_with fail
  refine (HIR.out _ (HG.out.trans HG2.out)).mono ?_
  rintro e w4 ⟨rfl, hb4⟩
  have HG4 : Hid (Grow W w4) := HG2.out.trans hb4
  clear hcc hb4
  have HGL := HG4
  have hxc := (HG4.out.block HX.out).cell
  go_wp2_with fail
  refine (HWK.out _).mono ?_
  rintro e w6 ⟨rfl, hb6⟩
  have HG6 : Hid (Grow W w6) := HGL.out.trans hb6
  clear hb6
  go_wp2
  go_ret
  exact ⟨rfl, HG.out.trans HG6.out⟩

set_option maxRecDepth 100000 in
set_option maxHeartbeats 16000000 in
theorem easier_off14 (t : TaskR) (xs : List Int) (A1 : Option Addr) (c1 : Nat) (xh xs0 xt xe xsl xl xr : Int) (w : World) (ht : TaskAt w w.heap.size t) (h1 : Ints w w.heap.size A1 xs) (hv : validD t.d = true) (hl : xs.length ≤ 20) (hr : okRota t.d xs = true) (n0 : ¬ xs0 < 0) (n1 : ¬ 100 < xs0) (n2 : ¬ xt < 0) (n3 : ¬ 20 < xt) (n4 : ¬ xe < 0) (n5 : ¬ 20 < xe) (n6 : ¬ xsl < 0) (n7 : ¬ 100 < xsl) (n8 : ¬ xl < 0) (n9 : ¬ 10 < xl) (n10 : ¬ xr < 0) (n11 : 10 < xr) :
    Calls Try.prog 5 #[taskV t, .slice A1 xs.length c1, easeV ⟨xh, xs0, xt, xe, xsl, xl, xr⟩] w fun e w' => e = .returned (.bool true) ∧ Below w.heap.size w w' := by
  have HWK := Lib.hid works_any
  have HVA := Lib.hid (fun (w0 : World) (hw : Grow w w0) => valid_any t w.heap.size w0 (ht.below hw) hw.size)
  rw [hv] at HVA
  have hgt : decide ((20 : Int) < (xs.length : Int)) = false := decide_eq_false (by omega)
  have hgn : decide (20 < xs.length) = false := decide_eq_false (by omega)
  have HIR := Lib.hid (fun (w0 : World) (hw : Grow w w0) => isRota_any t xs A1 c1 w.heap.size w0 (h1.below hw) hw.size hl (okTask_parts (validD_iff.1 hv).1).1.2)
  rw [hr] at HIR
  have d0 : decide (xs0 < 0) = false := decide_eq_false n0
  have d1 : decide (100 < xs0) = false := decide_eq_false n1
  have d2 : decide (xt < 0) = false := decide_eq_false n2
  have d3 : decide (20 < xt) = false := decide_eq_false n3
  have d4 : decide (xe < 0) = false := decide_eq_false n4
  have d5 : decide (20 < xe) = false := decide_eq_false n5
  have d6 : decide (xsl < 0) = false := decide_eq_false n6
  have d7 : decide (100 < xsl) = false := decide_eq_false n7
  have d8 : decide (xl < 0) = false := decide_eq_false n8
  have d9 : decide (10 < xl) = false := decide_eq_false n9
  have d10 : decide (xr < 0) = false := decide_eq_false n10
  have d11 : decide (10 < xr) = true := decide_eq_true n11
  clear ht h1 hv hl hr n0 n1 n2 n3 n4 n5 n6 n7 n8 n9 n10 n11
  go_enter Try.func5, Try.ntmps5
  go_upto_region 1 with fail
  obtain ⟨W, hW, hg, hf, hx, hsz⟩ := two_blocks w 25 49 (cellsT t) (cellsZ ⟨xh, xs0, xt, xe, xsl, xl, xr⟩)
  rw [hW]
  clear hW
  have hcc := hf.cell
  have HG := Lib.hid hg
  have HF := Lib.hid hf
  have HX := Lib.hid hx
  clear hg hf hx
  go_wp2_with fail
  refine (HVA.out _ HG.out).mono ?_
  rintro e w2 ⟨rfl, hb2⟩
  have HG2 : Hid (Grow W w2) := hb2
  clear hcc hb2
  have hcc := (HG2.out.block HF.out).cell
  go_wp2_with fail
  refine (HIR.out _ (HG.out.trans HG2.out)).mono ?_
  rintro e w4 ⟨rfl, hb4⟩
  have HG4 : Hid (Grow W w4) := HG2.out.trans hb4
  clear hcc hb4
  have HGL := HG4
  have hxc := (HG4.out.block HX.out).cell
  go_wp2_with fail
  refine (HWK.out _).mono ?_
  rintro e w6 ⟨rfl, hb6⟩
  have HG6 : Hid (Grow W w6) := HGL.out.trans hb6
  clear hb6
  go_wp2
  go_ret
  exact ⟨rfl, HG.out.trans HG6.out⟩

end Go.Proofs.Ythlihchndmbkaaa
