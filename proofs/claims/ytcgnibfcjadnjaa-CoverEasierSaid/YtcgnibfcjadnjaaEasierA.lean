/- EasierA: the statement on pools made easier, of what it does not look at; written by wip/tools/easierlaw10.py. -/
import Derived.Test.YtcgnibfcjadnjaaWorksP
import Derived.Test.YtcgnibfcjadnjaaFar
namespace Go.Proofs.Ytcgnibfcjadnjaa
open Go.RowKit

set_option maxRecDepth 100000 in
set_option maxHeartbeats 16000000 in
theorem coverEasier_bad (h : PoolH) (d : PoolI) (who a b c sl la nn ii mm jt js jy : Int) (w : World) (hA : PoolAt w w.heap.size h d) (hv : validI d = false) :
    Calls Try.prog 6 #[poolV h d, .agg #[.int .i64 who, .int .i64 a, .int .i64 b, .int .i64 c, .int .i64 sl, .int .i64 la, .int .i64 nn, .int .i64 ii, .int .i64 mm, .int .i64 jt, .int .i64 js, .int .i64 jy]] w fun e w' => e = .returned (.bool true) ∧ Below w.heap.size w w' := by
  have HV := Lib.hid (fun (w0 : World) (hw : Grow w w0) => valid_any h d w0 (hA.grow hw))
  rw [hv] at HV
  clear hA hv
  obtain ⟨fa, fc, na, nc⟩ := h
  go_enter Try.func6, Try.ntmps6
  go_upto_region 1 with fail
  obtain ⟨W, hW, hg, hf, hx, hsz⟩ := two_blocks w 25 64 (cellsP ⟨fa, fc, na, nc⟩ d) #[.int .i64 who, .int .i64 a, .int .i64 b, .int .i64 c, .int .i64 sl, .int .i64 la, .int .i64 nn, .int .i64 ii, .int .i64 mm, .int .i64 jt, .int .i64 js, .int .i64 jy]
  rw [hW]
  clear hW
  have hcc := hf.cell
  have hxc := hx.cell
  have HG0 := Lib.hid hg
  have HF0 := Lib.hid hf
  have HX0 := Lib.hid hx
  clear hf hg hx
  go_wp2_with fail
  refine (HV.out W HG0.out).mono ?_
  rintro e w1 ⟨rfl, hb1⟩
  have HG1 : Hid (Grow w w1) := Lib.hid (HG0.out.trans hb1)
  have HF1 := Lib.hid ((show Grow W w1 from hb1).block HF0.out)
  have HX1 := Lib.hid ((show Grow W w1 from hb1).block HX0.out)
  have hcc := HF1.out.cell
  have hxc := HX1.out.cell
  clear hb1 HF0 HX0
  go_wp2_with fail
  refine (works_any _).mono ?_
  rintro e w9 ⟨rfl, hb9⟩
  have HGZ : Hid (Grow w w9) := Lib.hid (HG1.out.trans hb9)
  clear hb9
  go_wp2
  go_ret
  exact ⟨by simp, HGZ.out⟩

set_option maxRecDepth 100000 in
set_option maxHeartbeats 16000000 in
theorem coverEasier_out0 (h : PoolH) (p : Pool) (who a b c sl la nn ii mm jt js jy : Int) (w : World) (hA : PoolAt w w.heap.size h p.i) (hv : validI p.i = true)  (hn0 : (4 : Int) < (p.folk.length : Int)) :
    Calls Try.prog 6 #[poolN h p, .agg #[.int .i64 who, .int .i64 a, .int .i64 b, .int .i64 c, .int .i64 sl, .int .i64 la, .int .i64 nn, .int .i64 ii, .int .i64 mm, .int .i64 jt, .int .i64 js, .int .i64 jy]] w fun e w' => e = .returned (.bool true) ∧ Below w.heap.size w w' := by
  have HV := Lib.hid (fun (w0 : World) (hw : Grow w w0) => valid_any h p.i w0 (hA.grow hw))
  rw [hv, pool_i] at HV
  have hd0 : decide ((4 : Int) < (p.folk.length : Int)) = true := decide_eq_true hn0
  clear hA hv hn0
  obtain ⟨fa, fc, na, nc⟩ := h
  go_enter Try.func6, Try.ntmps6
  go_upto_region 1 with fail
  obtain ⟨W, hW, hg, hf, hx, hsz⟩ := two_blocks w 25 64 (cellsN ⟨fa, fc, na, nc⟩ p) #[.int .i64 who, .int .i64 a, .int .i64 b, .int .i64 c, .int .i64 sl, .int .i64 la, .int .i64 nn, .int .i64 ii, .int .i64 mm, .int .i64 jt, .int .i64 js, .int .i64 jy]
  rw [hW]
  clear hW
  have hcc := hf.cell
  have hxc := hx.cell
  have HG0 := Lib.hid hg
  have HF0 := Lib.hid hf
  have HX0 := Lib.hid hx
  clear hf hg hx
  go_wp2_with fail
  refine (HV.out W HG0.out).mono ?_
  rintro e w1 ⟨rfl, hb1⟩
  have HG1 : Hid (Grow w w1) := Lib.hid (HG0.out.trans hb1)
  have HF1 := Lib.hid ((show Grow W w1 from hb1).block HF0.out)
  have HX1 := Lib.hid ((show Grow W w1 from hb1).block HX0.out)
  have hcc := HF1.out.cell
  have hxc := HX1.out.cell
  clear hb1 HF0 HX0
  go_wp2_with fail
  refine (works_any _).mono ?_
  rintro e w9 ⟨rfl, hb9⟩
  have HGZ : Hid (Grow w w9) := Lib.hid (HG1.out.trans hb9)
  clear hb9
  go_wp2
  go_ret
  exact ⟨by simp, HGZ.out⟩

set_option maxRecDepth 100000 in
set_option maxHeartbeats 16000000 in
theorem coverEasier_out1 (h : PoolH) (p : Pool) (who a b c sl la nn ii mm jt js jy : Int) (w : World) (hA : PoolAt w w.heap.size h p.i) (hv : validI p.i = true) (hn0 : ¬ (4 : Int) < (p.folk.length : Int)) (hn1 : a < (0 : Int)) :
    Calls Try.prog 6 #[poolN h p, .agg #[.int .i64 who, .int .i64 a, .int .i64 b, .int .i64 c, .int .i64 sl, .int .i64 la, .int .i64 nn, .int .i64 ii, .int .i64 mm, .int .i64 jt, .int .i64 js, .int .i64 jy]] w fun e w' => e = .returned (.bool true) ∧ Below w.heap.size w w' := by
  have HV := Lib.hid (fun (w0 : World) (hw : Grow w w0) => valid_any h p.i w0 (hA.grow hw))
  rw [hv, pool_i] at HV
  have hd0 : decide ((4 : Int) < (p.folk.length : Int)) = false := decide_eq_false hn0
  have hd1 : decide (a < (0 : Int)) = true := decide_eq_true hn1
  clear hA hv hn0 hn1
  obtain ⟨fa, fc, na, nc⟩ := h
  go_enter Try.func6, Try.ntmps6
  go_upto_region 1 with fail
  obtain ⟨W, hW, hg, hf, hx, hsz⟩ := two_blocks w 25 64 (cellsN ⟨fa, fc, na, nc⟩ p) #[.int .i64 who, .int .i64 a, .int .i64 b, .int .i64 c, .int .i64 sl, .int .i64 la, .int .i64 nn, .int .i64 ii, .int .i64 mm, .int .i64 jt, .int .i64 js, .int .i64 jy]
  rw [hW]
  clear hW
  have hcc := hf.cell
  have hxc := hx.cell
  have HG0 := Lib.hid hg
  have HF0 := Lib.hid hf
  have HX0 := Lib.hid hx
  clear hf hg hx
  go_wp2_with fail
  refine (HV.out W HG0.out).mono ?_
  rintro e w1 ⟨rfl, hb1⟩
  have HG1 : Hid (Grow w w1) := Lib.hid (HG0.out.trans hb1)
  have HF1 := Lib.hid ((show Grow W w1 from hb1).block HF0.out)
  have HX1 := Lib.hid ((show Grow W w1 from hb1).block HX0.out)
  have hcc := HF1.out.cell
  have hxc := HX1.out.cell
  clear hb1 HF0 HX0
  go_wp2_with fail
  refine (works_any _).mono ?_
  rintro e w9 ⟨rfl, hb9⟩
  have HGZ : Hid (Grow w w9) := Lib.hid (HG1.out.trans hb9)
  clear hb9
  go_wp2
  go_ret
  exact ⟨by simp, HGZ.out⟩

set_option maxRecDepth 100000 in
set_option maxHeartbeats 16000000 in
theorem coverEasier_out2 (h : PoolH) (p : Pool) (who a b c sl la nn ii mm jt js jy : Int) (w : World) (hA : PoolAt w w.heap.size h p.i) (hv : validI p.i = true) (hn0 : ¬ (4 : Int) < (p.folk.length : Int)) (hn1 : ¬ a < (0 : Int)) (hn2 : (31 : Int) < a) :
    Calls Try.prog 6 #[poolN h p, .agg #[.int .i64 who, .int .i64 a, .int .i64 b, .int .i64 c, .int .i64 sl, .int .i64 la, .int .i64 nn, .int .i64 ii, .int .i64 mm, .int .i64 jt, .int .i64 js, .int .i64 jy]] w fun e w' => e = .returned (.bool true) ∧ Below w.heap.size w w' := by
  have HV := Lib.hid (fun (w0 : World) (hw : Grow w w0) => valid_any h p.i w0 (hA.grow hw))
  rw [hv, pool_i] at HV
  have hd0 : decide ((4 : Int) < (p.folk.length : Int)) = false := decide_eq_false hn0
  have hd1 : decide (a < (0 : Int)) = false := decide_eq_false hn1
  have hd2 : decide ((31 : Int) < a) = true := decide_eq_true hn2
  clear hA hv hn0 hn1 hn2
  obtain ⟨fa, fc, na, nc⟩ := h
  go_enter Try.func6, Try.ntmps6
  go_upto_region 1 with fail
  obtain ⟨W, hW, hg, hf, hx, hsz⟩ := two_blocks w 25 64 (cellsN ⟨fa, fc, na, nc⟩ p) #[.int .i64 who, .int .i64 a, .int .i64 b, .int .i64 c, .int .i64 sl, .int .i64 la, .int .i64 nn, .int .i64 ii, .int .i64 mm, .int .i64 jt, .int .i64 js, .int .i64 jy]
  rw [hW]
  clear hW
  have hcc := hf.cell
  have hxc := hx.cell
  have HG0 := Lib.hid hg
  have HF0 := Lib.hid hf
  have HX0 := Lib.hid hx
  clear hf hg hx
  go_wp2_with fail
  refine (HV.out W HG0.out).mono ?_
  rintro e w1 ⟨rfl, hb1⟩
  have HG1 : Hid (Grow w w1) := Lib.hid (HG0.out.trans hb1)
  have HF1 := Lib.hid ((show Grow W w1 from hb1).block HF0.out)
  have HX1 := Lib.hid ((show Grow W w1 from hb1).block HX0.out)
  have hcc := HF1.out.cell
  have hxc := HX1.out.cell
  clear hb1 HF0 HX0
  go_wp2_with fail
  refine (works_any _).mono ?_
  rintro e w9 ⟨rfl, hb9⟩
  have HGZ : Hid (Grow w w9) := Lib.hid (HG1.out.trans hb9)
  clear hb9
  go_wp2
  go_ret
  exact ⟨by simp, HGZ.out⟩

set_option maxRecDepth 100000 in
set_option maxHeartbeats 16000000 in
theorem coverEasier_out3 (h : PoolH) (p : Pool) (who a b c sl la nn ii mm jt js jy : Int) (w : World) (hA : PoolAt w w.heap.size h p.i) (hv : validI p.i = true) (hn0 : ¬ (4 : Int) < (p.folk.length : Int)) (hn1 : ¬ a < (0 : Int)) (hn2 : ¬ (31 : Int) < a) (hn3 : b < (0 : Int)) :
    Calls Try.prog 6 #[poolN h p, .agg #[.int .i64 who, .int .i64 a, .int .i64 b, .int .i64 c, .int .i64 sl, .int .i64 la, .int .i64 nn, .int .i64 ii, .int .i64 mm, .int .i64 jt, .int .i64 js, .int .i64 jy]] w fun e w' => e = .returned (.bool true) ∧ Below w.heap.size w w' := by
  have HV := Lib.hid (fun (w0 : World) (hw : Grow w w0) => valid_any h p.i w0 (hA.grow hw))
  rw [hv, pool_i] at HV
  have hd0 : decide ((4 : Int) < (p.folk.length : Int)) = false := decide_eq_false hn0
  have hd1 : decide (a < (0 : Int)) = false := decide_eq_false hn1
  have hd2 : decide ((31 : Int) < a) = false := decide_eq_false hn2
  have hd3 : decide (b < (0 : Int)) = true := decide_eq_true hn3
  clear hA hv hn0 hn1 hn2 hn3
  obtain ⟨fa, fc, na, nc⟩ := h
  go_enter Try.func6, Try.ntmps6
  go_upto_region 1 with fail
  obtain ⟨W, hW, hg, hf, hx, hsz⟩ := two_blocks w 25 64 (cellsN ⟨fa, fc, na, nc⟩ p) #[.int .i64 who, .int .i64 a, .int .i64 b, .int .i64 c, .int .i64 sl, .int .i64 la, .int .i64 nn, .int .i64 ii, .int .i64 mm, .int .i64 jt, .int .i64 js, .int .i64 jy]
  rw [hW]
  clear hW
  have hcc := hf.cell
  have hxc := hx.cell
  have HG0 := Lib.hid hg
  have HF0 := Lib.hid hf
  have HX0 := Lib.hid hx
  clear hf hg hx
  go_wp2_with fail
  refine (HV.out W HG0.out).mono ?_
  rintro e w1 ⟨rfl, hb1⟩
  have HG1 : Hid (Grow w w1) := Lib.hid (HG0.out.trans hb1)
  have HF1 := Lib.hid ((show Grow W w1 from hb1).block HF0.out)
  have HX1 := Lib.hid ((show Grow W w1 from hb1).block HX0.out)
  have hcc := HF1.out.cell
  have hxc := HX1.out.cell
  clear hb1 HF0 HX0
  go_wp2_with fail
  refine (works_any _).mono ?_
  rintro e w9 ⟨rfl, hb9⟩
  have HGZ : Hid (Grow w w9) := Lib.hid (HG1.out.trans hb9)
  clear hb9
  go_wp2
  go_ret
  exact ⟨by simp, HGZ.out⟩

set_option maxRecDepth 100000 in
set_option maxHeartbeats 16000000 in
theorem coverEasier_out4 (h : PoolH) (p : Pool) (who a b c sl la nn ii mm jt js jy : Int) (w : World) (hA : PoolAt w w.heap.size h p.i) (hv : validI p.i = true) (hn0 : ¬ (4 : Int) < (p.folk.length : Int)) (hn1 : ¬ a < (0 : Int)) (hn2 : ¬ (31 : Int) < a) (hn3 : ¬ b < (0 : Int)) (hn4 : (63 : Int) < b) :
    Calls Try.prog 6 #[poolN h p, .agg #[.int .i64 who, .int .i64 a, .int .i64 b, .int .i64 c, .int .i64 sl, .int .i64 la, .int .i64 nn, .int .i64 ii, .int .i64 mm, .int .i64 jt, .int .i64 js, .int .i64 jy]] w fun e w' => e = .returned (.bool true) ∧ Below w.heap.size w w' := by
  have HV := Lib.hid (fun (w0 : World) (hw : Grow w w0) => valid_any h p.i w0 (hA.grow hw))
  rw [hv, pool_i] at HV
  have hd0 : decide ((4 : Int) < (p.folk.length : Int)) = false := decide_eq_false hn0
  have hd1 : decide (a < (0 : Int)) = false := decide_eq_false hn1
  have hd2 : decide ((31 : Int) < a) = false := decide_eq_false hn2
  have hd3 : decide (b < (0 : Int)) = false := decide_eq_false hn3
  have hd4 : decide ((63 : Int) < b) = true := decide_eq_true hn4
  clear hA hv hn0 hn1 hn2 hn3 hn4
  obtain ⟨fa, fc, na, nc⟩ := h
  go_enter Try.func6, Try.ntmps6
  go_upto_region 1 with fail
  obtain ⟨W, hW, hg, hf, hx, hsz⟩ := two_blocks w 25 64 (cellsN ⟨fa, fc, na, nc⟩ p) #[.int .i64 who, .int .i64 a, .int .i64 b, .int .i64 c, .int .i64 sl, .int .i64 la, .int .i64 nn, .int .i64 ii, .int .i64 mm, .int .i64 jt, .int .i64 js, .int .i64 jy]
  rw [hW]
  clear hW
  have hcc := hf.cell
  have hxc := hx.cell
  have HG0 := Lib.hid hg
  have HF0 := Lib.hid hf
  have HX0 := Lib.hid hx
  clear hf hg hx
  go_wp2_with fail
  refine (HV.out W HG0.out).mono ?_
  rintro e w1 ⟨rfl, hb1⟩
  have HG1 : Hid (Grow w w1) := Lib.hid (HG0.out.trans hb1)
  have HF1 := Lib.hid ((show Grow W w1 from hb1).block HF0.out)
  have HX1 := Lib.hid ((show Grow W w1 from hb1).block HX0.out)
  have hcc := HF1.out.cell
  have hxc := HX1.out.cell
  clear hb1 HF0 HX0
  go_wp2_with fail
  refine (works_any _).mono ?_
  rintro e w9 ⟨rfl, hb9⟩
  have HGZ : Hid (Grow w w9) := Lib.hid (HG1.out.trans hb9)
  clear hb9
  go_wp2
  go_ret
  exact ⟨by simp, HGZ.out⟩

set_option maxRecDepth 100000 in
set_option maxHeartbeats 16000000 in
theorem coverEasier_out5 (h : PoolH) (p : Pool) (who a b c sl la nn ii mm jt js jy : Int) (w : World) (hA : PoolAt w w.heap.size h p.i) (hv : validI p.i = true) (hn0 : ¬ (4 : Int) < (p.folk.length : Int)) (hn1 : ¬ a < (0 : Int)) (hn2 : ¬ (31 : Int) < a) (hn3 : ¬ b < (0 : Int)) (hn4 : ¬ (63 : Int) < b) (hn5 : c < (0 : Int)) :
    Calls Try.prog 6 #[poolN h p, .agg #[.int .i64 who, .int .i64 a, .int .i64 b, .int .i64 c, .int .i64 sl, .int .i64 la, .int .i64 nn, .int .i64 ii, .int .i64 mm, .int .i64 jt, .int .i64 js, .int .i64 jy]] w fun e w' => e = .returned (.bool true) ∧ Below w.heap.size w w' := by
  have HV := Lib.hid (fun (w0 : World) (hw : Grow w w0) => valid_any h p.i w0 (hA.grow hw))
  rw [hv, pool_i] at HV
  have hd0 : decide ((4 : Int) < (p.folk.length : Int)) = false := decide_eq_false hn0
  have hd1 : decide (a < (0 : Int)) = false := decide_eq_false hn1
  have hd2 : decide ((31 : Int) < a) = false := decide_eq_false hn2
  have hd3 : decide (b < (0 : Int)) = false := decide_eq_false hn3
  have hd4 : decide ((63 : Int) < b) = false := decide_eq_false hn4
  have hd5 : decide (c < (0 : Int)) = true := decide_eq_true hn5
  clear hA hv hn0 hn1 hn2 hn3 hn4 hn5
  obtain ⟨fa, fc, na, nc⟩ := h
  go_enter Try.func6, Try.ntmps6
  go_upto_region 1 with fail
  obtain ⟨W, hW, hg, hf, hx, hsz⟩ := two_blocks w 25 64 (cellsN ⟨fa, fc, na, nc⟩ p) #[.int .i64 who, .int .i64 a, .int .i64 b, .int .i64 c, .int .i64 sl, .int .i64 la, .int .i64 nn, .int .i64 ii, .int .i64 mm, .int .i64 jt, .int .i64 js, .int .i64 jy]
  rw [hW]
  clear hW
  have hcc := hf.cell
  have hxc := hx.cell
  have HG0 := Lib.hid hg
  have HF0 := Lib.hid hf
  have HX0 := Lib.hid hx
  clear hf hg hx
  go_wp2_with fail
  refine (HV.out W HG0.out).mono ?_
  rintro e w1 ⟨rfl, hb1⟩
  have HG1 : Hid (Grow w w1) := Lib.hid (HG0.out.trans hb1)
  have HF1 := Lib.hid ((show Grow W w1 from hb1).block HF0.out)
  have HX1 := Lib.hid ((show Grow W w1 from hb1).block HX0.out)
  have hcc := HF1.out.cell
  have hxc := HX1.out.cell
  clear hb1 HF0 HX0
  go_wp2_with fail
  refine (works_any _).mono ?_
  rintro e w9 ⟨rfl, hb9⟩
  have HGZ : Hid (Grow w w9) := Lib.hid (HG1.out.trans hb9)
  clear hb9
  go_wp2
  go_ret
  exact ⟨by simp, HGZ.out⟩

end Go.Proofs.Ytcgnibfcjadnjaa
