/- TrueOff: TurnsTrue where it answers works() early. -/
import Derived.Test.YthlihchndmbkaaaTrueM
import Derived.Test.YthlihchndmbkaaaLawFar
import Derived.Test.YthlihchndmbkaaaWorks
import Derived.Test.YthlihchndmbkaaaIsRota
namespace Go.Proofs.Ythlihchndmbkaaa
open Go.RowKit

set_option maxRecDepth 100000 in
set_option maxHeartbeats 16000000 in
theorem true_off0 (t : TaskR) (xs : List Int) (A1 : Option Addr) (c1 : Nat) (st : List Int) (Ast : Option Addr) (cast : Nat) (rows : List RowR) (Brw : Option Addr) (cbrw : Nat) (w : World) (ht : TaskAt w w.heap.size t) (_h1 : Ints w w.heap.size A1 xs) (_hx : CourseAt w w.heap.size ⟨st, Ast, cast, rows, Brw, cbrw⟩) (hv : validD t.d = false) :
    Calls Try.prog 4 #[taskV t, .slice A1 xs.length c1, courseKV ⟨st, Ast, cast, rows, Brw, cbrw⟩] w fun e w' => e = .returned (.bool true) ∧ Below w.heap.size w w' := by
  have HWK := Lib.hid works_any
  have HVA := Lib.hid (fun (w0 : World) (hw : Grow w w0) => valid_any t w.heap.size w0 (ht.below hw) hw.size)
  rw [hv] at HVA
  clear ht hv
  go_enter Try.func4, Try.ntmps4
  go_upto_region 1 with fail
  obtain ⟨W, hW, hg, hf, hx, hsz⟩ := two_blocks w 25 39 (cellsT t) (cellsK ⟨st, Ast, cast, rows, Brw, cbrw⟩)
  rw [hW]
  clear hW
  have hcc := hf.cell
  have HG := Lib.hid hg
  have HF := Lib.hid hf
  have HX := Lib.hid hx
  clear hg hf hx
  go_wp2_with fail
  refine (HVA.out _ HG.out).mono ?_
  rintro e w2 ⟨rfl, hb2⟩
  have HG2 : Hid (Grow W w2) := hb2
  clear hcc hb2
  go_wp2_with fail
  refine (HWK.out _).mono ?_
  rintro e w6 ⟨rfl, hb6⟩
  have HG6 : Hid (Grow W w6) := HG2.out.trans hb6
  clear hb6
  go_wp2
  go_ret
  exact ⟨rfl, HG.out.trans HG6.out⟩

set_option maxRecDepth 100000 in
set_option maxHeartbeats 16000000 in
theorem true_off1 (t : TaskR) (xs : List Int) (A1 : Option Addr) (c1 : Nat) (st : List Int) (Ast : Option Addr) (cast : Nat) (rows : List RowR) (Brw : Option Addr) (cbrw : Nat) (w : World) (ht : TaskAt w w.heap.size t) (_h1 : Ints w w.heap.size A1 xs) (_hx : CourseAt w w.heap.size ⟨st, Ast, cast, rows, Brw, cbrw⟩) (hv : validD t.d = true) (hl : ¬ xs.length ≤ 20) :
    Calls Try.prog 4 #[taskV t, .slice A1 xs.length c1, courseKV ⟨st, Ast, cast, rows, Brw, cbrw⟩] w fun e w' => e = .returned (.bool true) ∧ Below w.heap.size w w' := by
  have HWK := Lib.hid works_any
  have HVA := Lib.hid (fun (w0 : World) (hw : Grow w w0) => valid_any t w.heap.size w0 (ht.below hw) hw.size)
  rw [hv] at HVA
  have g0a : decide ((20 : Int) < (xs.length : Int)) = true := decide_eq_true (by omega)
  have g0b : decide (20 < xs.length) = true := decide_eq_true (by omega)
  clear ht hv hl
  go_enter Try.func4, Try.ntmps4
  go_upto_region 1 with fail
  obtain ⟨W, hW, hg, hf, hx, hsz⟩ := two_blocks w 25 39 (cellsT t) (cellsK ⟨st, Ast, cast, rows, Brw, cbrw⟩)
  rw [hW]
  clear hW
  have hcc := hf.cell
  have HG := Lib.hid hg
  have HF := Lib.hid hf
  have HX := Lib.hid hx
  clear hg hf hx
  go_wp2_with fail
  refine (HVA.out _ HG.out).mono ?_
  rintro e w2 ⟨rfl, hb2⟩
  have HG2 : Hid (Grow W w2) := hb2
  clear hcc hb2
  go_wp2_with fail
  refine (HWK.out _).mono ?_
  rintro e w6 ⟨rfl, hb6⟩
  have HG6 : Hid (Grow W w6) := HG2.out.trans hb6
  clear hb6
  go_wp2
  go_ret
  exact ⟨rfl, HG.out.trans HG6.out⟩

set_option maxRecDepth 100000 in
set_option maxHeartbeats 16000000 in
theorem true_off2 (t : TaskR) (xs : List Int) (A1 : Option Addr) (c1 : Nat) (st : List Int) (Ast : Option Addr) (cast : Nat) (rows : List RowR) (Brw : Option Addr) (cbrw : Nat) (w : World) (ht : TaskAt w w.heap.size t) (h1 : Ints w w.heap.size A1 xs) (_hx : CourseAt w w.heap.size ⟨st, Ast, cast, rows, Brw, cbrw⟩) (hv : validD t.d = true) (hl : xs.length ≤ 20) (hr : okRota t.d xs = false) :
    Calls Try.prog 4 #[taskV t, .slice A1 xs.length c1, courseKV ⟨st, Ast, cast, rows, Brw, cbrw⟩] w fun e w' => e = .returned (.bool true) ∧ Below w.heap.size w w' := by
  have HWK := Lib.hid works_any
  have HVA := Lib.hid (fun (w0 : World) (hw : Grow w w0) => valid_any t w.heap.size w0 (ht.below hw) hw.size)
  rw [hv] at HVA
  have g0a : decide ((20 : Int) < (xs.length : Int)) = false := decide_eq_false (by omega)
  have g0b : decide (20 < xs.length) = false := decide_eq_false (by omega)
  have HIR := Lib.hid (fun (w0 : World) (hw : Grow w w0) => isRota_any t xs A1 c1 w.heap.size w0 (h1.below hw) hw.size hl (okTask_parts (validD_iff.1 hv).1).1.2)
  rw [hr] at HIR
  clear ht hv h1 hl hr
  go_enter Try.func4, Try.ntmps4
  go_upto_region 1 with fail
  obtain ⟨W, hW, hg, hf, hx, hsz⟩ := two_blocks w 25 39 (cellsT t) (cellsK ⟨st, Ast, cast, rows, Brw, cbrw⟩)
  rw [hW]
  clear hW
  have hcc := hf.cell
  have HG := Lib.hid hg
  have HF := Lib.hid hf
  have HX := Lib.hid hx
  clear hg hf hx
  go_wp2_with fail
  refine (HVA.out _ HG.out).mono ?_
  rintro e w2 ⟨rfl, hb2⟩
  have HG2 : Hid (Grow W w2) := hb2
  clear hcc hb2
  have hcc := (HG2.out.block HF.out).cell
  go_wp2_with fail
  refine (HIR.out _ (HG.out.trans HG2.out)).mono ?_
  rintro e w3 ⟨rfl, hb3⟩
  have HG3 : Hid (Grow W w3) := HG2.out.trans hb3
  clear hcc hb3
  go_wp2_with fail
  refine (HWK.out _).mono ?_
  rintro e w6 ⟨rfl, hb6⟩
  have HG6 : Hid (Grow W w6) := HG3.out.trans hb6
  clear hb6
  go_wp2
  go_ret
  exact ⟨rfl, HG.out.trans HG6.out⟩

set_option maxRecDepth 100000 in
set_option maxHeartbeats 16000000 in
theorem true_off3 (t : TaskR) (xs : List Int) (A1 : Option Addr) (c1 : Nat) (st : List Int) (Ast : Option Addr) (cast : Nat) (rows : List RowR) (Brw : Option Addr) (cbrw : Nat) (w : World) (ht : TaskAt w w.heap.size t) (h1 : Ints w w.heap.size A1 xs) (_hx : CourseAt w w.heap.size ⟨st, Ast, cast, rows, Brw, cbrw⟩) (hv : validD t.d = true) (hl : xs.length ≤ 20) (hr : okRota t.d xs = true) (hl1 : ¬ st.length ≤ 20) :
    Calls Try.prog 4 #[taskV t, .slice A1 xs.length c1, courseKV ⟨st, Ast, cast, rows, Brw, cbrw⟩] w fun e w' => e = .returned (.bool true) ∧ Below w.heap.size w w' := by
  have HWK := Lib.hid works_any
  have HVA := Lib.hid (fun (w0 : World) (hw : Grow w w0) => valid_any t w.heap.size w0 (ht.below hw) hw.size)
  rw [hv] at HVA
  have g0a : decide ((20 : Int) < (xs.length : Int)) = false := decide_eq_false (by omega)
  have g0b : decide (20 < xs.length) = false := decide_eq_false (by omega)
  have HIR := Lib.hid (fun (w0 : World) (hw : Grow w w0) => isRota_any t xs A1 c1 w.heap.size w0 (h1.below hw) hw.size hl (okTask_parts (validD_iff.1 hv).1).1.2)
  rw [hr] at HIR
  have g1a : decide ((20 : Int) < (st.length : Int)) = true := decide_eq_true (by omega)
  have g1b : decide (20 < st.length) = true := decide_eq_true (by omega)
  clear ht hv h1 hl hr hl1
  go_enter Try.func4, Try.ntmps4
  go_upto_region 1 with fail
  obtain ⟨W, hW, hg, hf, hx, hsz⟩ := two_blocks w 25 39 (cellsT t) (cellsK ⟨st, Ast, cast, rows, Brw, cbrw⟩)
  rw [hW]
  clear hW
  have hcc := hf.cell
  have HG := Lib.hid hg
  have HF := Lib.hid hf
  have HX := Lib.hid hx
  clear hg hf hx
  go_wp2_with fail
  refine (HVA.out _ HG.out).mono ?_
  rintro e w2 ⟨rfl, hb2⟩
  have HG2 : Hid (Grow W w2) := hb2
  clear hcc hb2
  have hcc := (HG2.out.block HF.out).cell
  go_wp2_with fail
  refine (HIR.out _ (HG.out.trans HG2.out)).mono ?_
  rintro e w3 ⟨rfl, hb3⟩
  have HG3 : Hid (Grow W w3) := HG2.out.trans hb3
  clear hcc hb3
  have hxc := (HG3.out.block HX.out).cell
  go_wp2_with fail
  refine (HWK.out _).mono ?_
  rintro e w6 ⟨rfl, hb6⟩
  have HG6 : Hid (Grow W w6) := HG3.out.trans hb6
  clear hb6
  go_wp2
  go_ret
  exact ⟨rfl, HG.out.trans HG6.out⟩

set_option maxRecDepth 100000 in
set_option maxHeartbeats 16000000 in
theorem true_off4 (t : TaskR) (xs : List Int) (A1 : Option Addr) (c1 : Nat) (st : List Int) (Ast : Option Addr) (cast : Nat) (rows : List RowR) (Brw : Option Addr) (cbrw : Nat) (w : World) (ht : TaskAt w w.heap.size t) (h1 : Ints w w.heap.size A1 xs) (_hx : CourseAt w w.heap.size ⟨st, Ast, cast, rows, Brw, cbrw⟩) (hv : validD t.d = true) (hl : xs.length ≤ 20) (hr : okRota t.d xs = true) (hl1 : st.length ≤ 20) (hl2 : ¬ rows.length ≤ 20) :
    Calls Try.prog 4 #[taskV t, .slice A1 xs.length c1, courseKV ⟨st, Ast, cast, rows, Brw, cbrw⟩] w fun e w' => e = .returned (.bool true) ∧ Below w.heap.size w w' := by
  have HWK := Lib.hid works_any
  have HVA := Lib.hid (fun (w0 : World) (hw : Grow w w0) => valid_any t w.heap.size w0 (ht.below hw) hw.size)
  rw [hv] at HVA
  have g0a : decide ((20 : Int) < (xs.length : Int)) = false := decide_eq_false (by omega)
  have g0b : decide (20 < xs.length) = false := decide_eq_false (by omega)
  have HIR := Lib.hid (fun (w0 : World) (hw : Grow w w0) => isRota_any t xs A1 c1 w.heap.size w0 (h1.below hw) hw.size hl (okTask_parts (validD_iff.1 hv).1).1.2)
  rw [hr] at HIR
  have g1a : decide ((20 : Int) < (st.length : Int)) = false := decide_eq_false (by omega)
  have g1b : decide (20 < st.length) = false := decide_eq_false (by omega)
  have g2a : decide ((20 : Int) < (rows.length : Int)) = true := decide_eq_true (by omega)
  have g2b : decide (20 < rows.length) = true := decide_eq_true (by omega)
  clear ht hv h1 hl hr hl1 hl2
  go_enter Try.func4, Try.ntmps4
  go_upto_region 1 with fail
  obtain ⟨W, hW, hg, hf, hx, hsz⟩ := two_blocks w 25 39 (cellsT t) (cellsK ⟨st, Ast, cast, rows, Brw, cbrw⟩)
  rw [hW]
  clear hW
  have hcc := hf.cell
  have HG := Lib.hid hg
  have HF := Lib.hid hf
  have HX := Lib.hid hx
  clear hg hf hx
  go_wp2_with fail
  refine (HVA.out _ HG.out).mono ?_
  rintro e w2 ⟨rfl, hb2⟩
  have HG2 : Hid (Grow W w2) := hb2
  clear hcc hb2
  have hcc := (HG2.out.block HF.out).cell
  go_wp2_with fail
  refine (HIR.out _ (HG.out.trans HG2.out)).mono ?_
  rintro e w3 ⟨rfl, hb3⟩
  have HG3 : Hid (Grow W w3) := HG2.out.trans hb3
  clear hcc hb3
  have hxc := (HG3.out.block HX.out).cell
  go_wp2_with fail
  refine (HWK.out _).mono ?_
  rintro e w6 ⟨rfl, hb6⟩
  have HG6 : Hid (Grow W w6) := HG3.out.trans hb6
  clear hb6
  go_wp2
  go_ret
  exact ⟨rfl, HG.out.trans HG6.out⟩

set_option maxRecDepth 100000 in
set_option maxHeartbeats 16000000 in
theorem true_off5 (t : TaskR) (xs : List Int) (A1 : Option Addr) (c1 : Nat) (st : List Int) (Ast : Option Addr) (cast : Nat) (rows : List RowR) (Brw : Option Addr) (cbrw : Nat) (w : World) (ht : TaskAt w w.heap.size t) (h1 : Ints w w.heap.size A1 xs) (hx : CourseAt w w.heap.size ⟨st, Ast, cast, rows, Brw, cbrw⟩) (hv : validD t.d = true) (hl : xs.length ≤ 20) (hr : okRota t.d xs = true) (hl1 : st.length ≤ 20) (hl2 : rows.length ≤ 20) (hc : isCourseD t.d xs st (rows.map (·.xs)) = false) :
    Calls Try.prog 4 #[taskV t, .slice A1 xs.length c1, courseKV ⟨st, Ast, cast, rows, Brw, cbrw⟩] w fun e w' => e = .returned (.bool true) ∧ Below w.heap.size w w' := by
  have HWK := Lib.hid works_any
  have HVA := Lib.hid (fun (w0 : World) (hw : Grow w w0) => valid_any t w.heap.size w0 (ht.below hw) hw.size)
  rw [hv] at HVA
  have g0a : decide ((20 : Int) < (xs.length : Int)) = false := decide_eq_false (by omega)
  have g0b : decide (20 < xs.length) = false := decide_eq_false (by omega)
  have HIR := Lib.hid (fun (w0 : World) (hw : Grow w w0) => isRota_any t xs A1 c1 w.heap.size w0 (h1.below hw) hw.size hl (okTask_parts (validD_iff.1 hv).1).1.2)
  rw [hr] at HIR
  have g1a : decide ((20 : Int) < (st.length : Int)) = false := decide_eq_false (by omega)
  have g1b : decide (20 < st.length) = false := decide_eq_false (by omega)
  have g2a : decide ((20 : Int) < (rows.length : Int)) = false := decide_eq_false (by omega)
  have g2b : decide (20 < rows.length) = false := decide_eq_false (by omega)
  have HIC := Lib.hid (fun (w0 : World) (hw : Grow w w0) => isCourse_any t xs A1 c1 ⟨st, Ast, cast, rows, Brw, cbrw⟩ w.heap.size w0 (ht.below hw) (h1.below hw) (hx.below hw) hw.size hl (okTask_parts (validD_iff.1 hv).1).1.2)
  dsimp only at HIC
  rw [hc] at HIC
  clear ht hv h1 hx hl hr hl1 hl2 hc
  go_enter Try.func4, Try.ntmps4
  go_upto_region 1 with fail
  obtain ⟨W, hW, hg, hf, hx, hsz⟩ := two_blocks w 25 39 (cellsT t) (cellsK ⟨st, Ast, cast, rows, Brw, cbrw⟩)
  rw [hW]
  clear hW
  have hcc := hf.cell
  have HG := Lib.hid hg
  have HF := Lib.hid hf
  have HX := Lib.hid hx
  clear hg hf hx
  go_wp2_with fail
  refine (HVA.out _ HG.out).mono ?_
  rintro e w2 ⟨rfl, hb2⟩
  have HG2 : Hid (Grow W w2) := hb2
  clear hcc hb2
  have hcc := (HG2.out.block HF.out).cell
  go_wp2_with fail
  refine (HIR.out _ (HG.out.trans HG2.out)).mono ?_
  rintro e w3 ⟨rfl, hb3⟩
  have HG3 : Hid (Grow W w3) := HG2.out.trans hb3
  clear hcc hb3
  have hxc := (HG3.out.block HX.out).cell
  have hcc := (HG3.out.block HF.out).cell
  go_wp2_with fail
  refine (HIC.out _ (HG.out.trans HG3.out)).mono ?_
  rintro e w4 ⟨rfl, hb4⟩
  have HG4 : Hid (Grow W w4) := HG3.out.trans hb4
  clear hcc hxc hb4
  go_wp2_with fail
  refine (HWK.out _).mono ?_
  rintro e w6 ⟨rfl, hb6⟩
  have HG6 : Hid (Grow W w6) := HG4.out.trans hb6
  clear hb6
  go_wp2
  go_ret
  exact ⟨rfl, HG.out.trans HG6.out⟩

end Go.Proofs.Ythlihchndmbkaaa
