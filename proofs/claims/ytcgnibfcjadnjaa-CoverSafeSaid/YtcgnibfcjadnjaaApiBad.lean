/- ApiBad: Safe, Missed, Ready of what is not valid; written by wip/tools/apibad10.py. -/
import Derived.Test.YtcgnibfcjadnjaaApis
namespace Go.Proofs.Ytcgnibfcjadnjaa
open Go.RowKit

set_option maxRecDepth 100000 in
set_option maxHeartbeats 8000000 in
theorem safeApi_bad (h : PoolH) (d : PoolI) (A : Option Addr) (cap n : Nat) (w : World) (hA : PoolAt w w.heap.size h d) (hs : Short d) (hok : okPool d = false) :
    Calls Try.prog 14 #[poolV h d, .slice A n cap] w fun e w' => e = .returned (.tuple #[.bool false, .int .i64 100]) ∧ Below w.heap.size w w' := by
  have HR := Lib.hid (fun (w0 : World) (hw : Grow w w0) => readWatch_bad h d A cap n w0 (hA.grow hw) hs hok)
  clear hok hA hs
  obtain ⟨fa, fc, na, nc⟩ := h
  go_enter Try.func14, Try.ntmps14
  go_upto_region 1 with fail
  obtain ⟨W, hW, hg, hf, hsz⟩ := one_block w 25 (cellsP ⟨fa, fc, na, nc⟩ d)
  rw [hW]
  clear hW
  have hcc := hf.cell
  have HG := Lib.hid hg
  clear hf hg
  go_wp2_with fail
  refine (HR.out W HG.out).mono ?_
  rintro e w1 ⟨rfl, hb1⟩
  have HG1 : Hid (Grow w (w1.alloc (.cells zeroP 73))) := Lib.hid ((HG.out.trans hb1).trans (Grow.alloc _ _))
  clear hb1 hcc
  go_wp2
  refine bodyPost_ret (results_45 Try.results14 _ _ _ _ rfl rfl) rfl ?_
  exact ⟨rfl, HG1.out⟩

set_option maxRecDepth 100000 in
set_option maxHeartbeats 8000000 in
theorem safeApi_not (h : PoolH) (p : Pool) (G : Good p) (hok : okPool p.i = true) (hs : Short p.i) (A : Option Addr) (cap : Nat) (ws : List Int) (w : World) (hA : PoolAt w w.heap.size h p.i) (hI : Ints w w.heap.size A ws) (hl : ws.length ≤ 1000) (hwf : Wf ws) (hq : okWatch p ws = false) :
    Calls Try.prog 14 #[poolN h p, .slice A ws.length cap] w fun e w' => e = .returned (.tuple #[.bool false, .int .i64 101]) ∧ Below w.heap.size w w' := by
  have HR : Hid (∀ w0, Grow w w0 → Calls Try.prog 44 #[poolN h p, .slice A ws.length cap] w0 fun e w' => e = .returned (.tuple #[.agg zeroP, .slice none 0 0, .int .i64 101]) ∧ Below w0.heap.size w0 w') := Lib.hid (fun (w0 : World) (hw : Grow w w0) => (readWatch_any h p G hok hs A cap ws w0 (hA.grow hw) ((hI.below hw).more hw.size) hl hwf).mono fun e w' h => by
    obtain ⟨v, gv, er, rfl, _, h2, h3⟩ := h
    obtain ⟨rfl, rfl, rfl⟩ := h2 hq
    exact ⟨rfl, h3⟩)
  clear hok hA hs hI hl hwf hq
  obtain ⟨fa, fc, na, nc⟩ := h
  go_enter Try.func14, Try.ntmps14
  go_upto_region 1 with fail
  obtain ⟨W, hW, hg, hf, hsz⟩ := one_block w 25 (cellsN ⟨fa, fc, na, nc⟩ p)
  rw [hW]
  clear hW
  have hcc := hf.cell
  have HG := Lib.hid hg
  clear hf hg
  go_wp2_with fail
  refine (HR.out W HG.out).mono ?_
  rintro e w1 ⟨rfl, hb1⟩
  have HG1 : Hid (Grow w (w1.alloc (.cells zeroP 73))) := Lib.hid ((HG.out.trans hb1).trans (Grow.alloc _ _))
  clear hb1 hcc
  go_wp2
  refine bodyPost_ret (results_45 Try.results14 _ _ _ _ rfl rfl) rfl ?_
  exact ⟨rfl, HG1.out⟩

set_option maxRecDepth 100000 in
set_option maxHeartbeats 8000000 in
theorem missedApi_bad (h : PoolH) (d : PoolI) (A : Option Addr) (cap n : Nat) (w : World) (hA : PoolAt w w.heap.size h d) (hs : Short d) (hok : okPool d = false) :
    Calls Try.prog 33 #[poolV h d, .slice A n cap] w fun e w' => e = .returned (.tuple #[.slice none 0 0, .int .i64 100]) ∧ Below w.heap.size w w' := by
  have HR := Lib.hid (fun (w0 : World) (hw : Grow w w0) => readWatch_bad h d A cap n w0 (hA.grow hw) hs hok)
  clear hok hA hs
  obtain ⟨fa, fc, na, nc⟩ := h
  go_enter Try.func33, Try.ntmps33
  go_upto_region 1 with fail
  obtain ⟨W, hW, hg, hf, hsz⟩ := one_block w 25 (cellsP ⟨fa, fc, na, nc⟩ d)
  rw [hW]
  clear hW
  have hcc := hf.cell
  have HG := Lib.hid hg
  clear hf hg
  go_wp2_with fail
  refine (HR.out W HG.out).mono ?_
  rintro e w1 ⟨rfl, hb1⟩
  have HG1 : Hid (Grow w (w1.alloc (.cells zeroP 73))) := Lib.hid ((HG.out.trans hb1).trans (Grow.alloc _ _))
  clear hb1 hcc
  go_wp2
  refine bodyPost_ret (results_45 Try.results33 _ _ _ _ rfl rfl) rfl ?_
  exact ⟨rfl, HG1.out⟩

set_option maxRecDepth 100000 in
set_option maxHeartbeats 8000000 in
theorem missedApi_not (h : PoolH) (p : Pool) (G : Good p) (hok : okPool p.i = true) (hs : Short p.i) (A : Option Addr) (cap : Nat) (ws : List Int) (w : World) (hA : PoolAt w w.heap.size h p.i) (hI : Ints w w.heap.size A ws) (hl : ws.length ≤ 1000) (hwf : Wf ws) (hq : okWatch p ws = false) :
    Calls Try.prog 33 #[poolN h p, .slice A ws.length cap] w fun e w' => e = .returned (.tuple #[.slice none 0 0, .int .i64 101]) ∧ Below w.heap.size w w' := by
  have HR : Hid (∀ w0, Grow w w0 → Calls Try.prog 44 #[poolN h p, .slice A ws.length cap] w0 fun e w' => e = .returned (.tuple #[.agg zeroP, .slice none 0 0, .int .i64 101]) ∧ Below w0.heap.size w0 w') := Lib.hid (fun (w0 : World) (hw : Grow w w0) => (readWatch_any h p G hok hs A cap ws w0 (hA.grow hw) ((hI.below hw).more hw.size) hl hwf).mono fun e w' h => by
    obtain ⟨v, gv, er, rfl, _, h2, h3⟩ := h
    obtain ⟨rfl, rfl, rfl⟩ := h2 hq
    exact ⟨rfl, h3⟩)
  clear hok hA hs hI hl hwf hq
  obtain ⟨fa, fc, na, nc⟩ := h
  go_enter Try.func33, Try.ntmps33
  go_upto_region 1 with fail
  obtain ⟨W, hW, hg, hf, hsz⟩ := one_block w 25 (cellsN ⟨fa, fc, na, nc⟩ p)
  rw [hW]
  clear hW
  have hcc := hf.cell
  have HG := Lib.hid hg
  clear hf hg
  go_wp2_with fail
  refine (HR.out W HG.out).mono ?_
  rintro e w1 ⟨rfl, hb1⟩
  have HG1 : Hid (Grow w (w1.alloc (.cells zeroP 73))) := Lib.hid ((HG.out.trans hb1).trans (Grow.alloc _ _))
  clear hb1 hcc
  go_wp2
  refine bodyPost_ret (results_45 Try.results33 _ _ _ _ rfl rfl) rfl ?_
  exact ⟨rfl, HG1.out⟩

set_option maxRecDepth 100000 in
set_option maxHeartbeats 8000000 in
theorem readyApi_bad (h : PoolH) (d : PoolI) (A : Option Addr) (cap n : Nat) (s : Int) (w : World) (hA : PoolAt w w.heap.size h d) (hs : Short d) (hok : okPool d = false) :
    Calls Try.prog 21 #[poolV h d, .slice A n cap, .int .i64 s] w fun e w' => e = .returned (.tuple #[.int .i64 0, .int .i64 100]) ∧ Below w.heap.size w w' := by
  have HR := Lib.hid (fun (w0 : World) (hw : Grow w w0) => readWatch_bad h d A cap n w0 (hA.grow hw) hs hok)
  clear hok hA hs
  obtain ⟨fa, fc, na, nc⟩ := h
  go_enter Try.func21, Try.ntmps21
  go_upto_region 1 with fail
  obtain ⟨W, hW, hg, hf, hsz⟩ := one_block w 25 (cellsP ⟨fa, fc, na, nc⟩ d)
  rw [hW]
  clear hW
  have hcc := hf.cell
  have HG := Lib.hid hg
  clear hf hg
  go_wp2_with fail
  refine (HR.out W HG.out).mono ?_
  rintro e w1 ⟨rfl, hb1⟩
  have HG1 : Hid (Grow w (w1.alloc (.cells zeroP 73))) := Lib.hid ((HG.out.trans hb1).trans (Grow.alloc _ _))
  clear hb1 hcc
  go_wp2
  refine bodyPost_ret (results_67 Try.results21 _ _ _ _ rfl rfl) rfl ?_
  exact ⟨rfl, HG1.out⟩

set_option maxRecDepth 100000 in
set_option maxHeartbeats 8000000 in
theorem readyApi_not (h : PoolH) (p : Pool) (G : Good p) (hok : okPool p.i = true) (hs : Short p.i) (A : Option Addr) (cap : Nat) (ws : List Int) (s : Int) (w : World) (hA : PoolAt w w.heap.size h p.i) (hI : Ints w w.heap.size A ws) (hl : ws.length ≤ 1000) (hwf : Wf ws) (hq : okWatch p ws = false) :
    Calls Try.prog 21 #[poolN h p, .slice A ws.length cap, .int .i64 s] w fun e w' => e = .returned (.tuple #[.int .i64 0, .int .i64 101]) ∧ Below w.heap.size w w' := by
  have HR : Hid (∀ w0, Grow w w0 → Calls Try.prog 44 #[poolN h p, .slice A ws.length cap] w0 fun e w' => e = .returned (.tuple #[.agg zeroP, .slice none 0 0, .int .i64 101]) ∧ Below w0.heap.size w0 w') := Lib.hid (fun (w0 : World) (hw : Grow w w0) => (readWatch_any h p G hok hs A cap ws w0 (hA.grow hw) ((hI.below hw).more hw.size) hl hwf).mono fun e w' h => by
    obtain ⟨v, gv, er, rfl, _, h2, h3⟩ := h
    obtain ⟨rfl, rfl, rfl⟩ := h2 hq
    exact ⟨rfl, h3⟩)
  clear hok hA hs hI hl hwf hq
  obtain ⟨fa, fc, na, nc⟩ := h
  go_enter Try.func21, Try.ntmps21
  go_upto_region 1 with fail
  obtain ⟨W, hW, hg, hf, hsz⟩ := one_block w 25 (cellsN ⟨fa, fc, na, nc⟩ p)
  rw [hW]
  clear hW
  have hcc := hf.cell
  have HG := Lib.hid hg
  clear hf hg
  go_wp2_with fail
  refine (HR.out W HG.out).mono ?_
  rintro e w1 ⟨rfl, hb1⟩
  have HG1 : Hid (Grow w (w1.alloc (.cells zeroP 73))) := Lib.hid ((HG.out.trans hb1).trans (Grow.alloc _ _))
  clear hb1 hcc
  go_wp2
  refine bodyPost_ret (results_67 Try.results21 _ _ _ _ rfl rfl) rfl ?_
  exact ⟨rfl, HG1.out⟩

end Go.Proofs.Ytcgnibfcjadnjaa
