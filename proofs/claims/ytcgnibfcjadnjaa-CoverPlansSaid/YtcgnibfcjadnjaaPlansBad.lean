/- PlansBad: both sides' Slot and Plan of what is not valid, Slot at what is no slot; written by wip/tools/plansbad10.py. -/
import Derived.Test.YtcgnibfcjadnjaaRSlot
import Derived.Test.YtcgnibfcjadnjaaSlot
import Derived.Test.YtcgnibfcjadnjaaPlanApi
import Derived.Test.YtcgnibfcjadnjaaRSafe
namespace Go.Proofs.Ytcgnibfcjadnjaa
open Go.RowKit

set_option maxRecDepth 100000 in
set_option maxHeartbeats 8000000 in
theorem slotApi_100 (h : PoolH) (d : PoolI) (sl : Int) (w : World) (hA : PoolAt w w.heap.size h d) (hs : Short d) (hsm : okPool d = true → smallI d) (he : slotErr d sl = 100) :
    Calls Try.prog 27 #[poolV h d, .int .i64 sl] w fun e w' => e = .returned (.tuple #[.int .i64 0, .int .i64 0, .int .i64 100]) ∧ Below w.heap.size w w' := by
  have HR := Lib.hid (fun (w0 : World) (hw : Grow w w0) => readSlot_any h d sl w0 (hA.grow hw) hs hsm)
  have hsc : slotCells h d sl = zeroP := by unfold slotCells; rw [he]; rfl
  rw [hsc, he] at HR
  clear hsc he hA hs hsm
  obtain ⟨fa, fc, na, nc⟩ := h
  go_enter Try.func27, Try.ntmps27
  go_upto_region 1 with fail
  obtain ⟨W, hW, hg, hf, hsz⟩ := one_block w 25 (cellsP ⟨fa, fc, na, nc⟩ d)
  rw [hW]
  clear hW
  have hcc := hf.cell
  have HG := Lib.hid hg
  have HF := Lib.hid hf
  clear hf hg
  go_wp2_with fail
  refine (HR.out W HG.out).mono ?_
  rintro e w1 ⟨rfl, hb1⟩
  have HG1 : Hid (Grow w (w1.alloc (.cells zeroP 73))) := Lib.hid ((HG.out.trans hb1).trans (Grow.alloc _ _))
  clear hb1 hcc
  go_wp2
  refine bodyPost_ret (results_456 Try.results27 _ _ _ _ _ rfl rfl rfl) rfl ?_
  exact ⟨rfl, HG1.out⟩

set_option maxRecDepth 100000 in
set_option maxHeartbeats 8000000 in
theorem slotApi_1 (h : PoolH) (d : PoolI) (sl : Int) (w : World) (hA : PoolAt w w.heap.size h d) (hs : Short d) (hsm : okPool d = true → smallI d) (he : slotErr d sl = 1) :
    Calls Try.prog 27 #[poolV h d, .int .i64 sl] w fun e w' => e = .returned (.tuple #[.int .i64 0, .int .i64 0, .int .i64 1]) ∧ Below w.heap.size w w' := by
  have HR := Lib.hid (fun (w0 : World) (hw : Grow w w0) => readSlot_any h d sl w0 (hA.grow hw) hs hsm)
  have hsc : slotCells h d sl = zeroP := by unfold slotCells; rw [he]; rfl
  rw [hsc, he] at HR
  clear hsc he hA hs hsm
  obtain ⟨fa, fc, na, nc⟩ := h
  go_enter Try.func27, Try.ntmps27
  go_upto_region 1 with fail
  obtain ⟨W, hW, hg, hf, hsz⟩ := one_block w 25 (cellsP ⟨fa, fc, na, nc⟩ d)
  rw [hW]
  clear hW
  have hcc := hf.cell
  have HG := Lib.hid hg
  have HF := Lib.hid hf
  clear hf hg
  go_wp2_with fail
  refine (HR.out W HG.out).mono ?_
  rintro e w1 ⟨rfl, hb1⟩
  have HG1 : Hid (Grow w (w1.alloc (.cells zeroP 73))) := Lib.hid ((HG.out.trans hb1).trans (Grow.alloc _ _))
  clear hb1 hcc
  go_wp2
  refine bodyPost_ret (results_456 Try.results27 _ _ _ _ _ rfl rfl rfl) rfl ?_
  exact ⟨rfl, HG1.out⟩

set_option maxRecDepth 100000 in
set_option maxHeartbeats 8000000 in
theorem planApi_bad (h : PoolH) (d : PoolI) (w : World) (hA : PoolAt w w.heap.size h d) (hs : Short d) (hok : okPool d = false) :
    Calls Try.prog 25 #[poolV h d] w fun e w' => e = .returned (.tuple #[.slice none 0 0, .int .i64 0, .int .i64 100]) ∧ Below w.heap.size w w' := by
  have HR := Lib.hid (fun (w0 : World) (hw : Grow w w0) => read_any h d w0 (hA.grow hw) hs)
  have hrc : readCells h d = zeroP := by unfold readCells; rw [hok]; rfl
  rw [hrc, show poolErr d = 100 by unfold poolErr; rw [hok]; rfl] at HR
  clear hrc hok hA hs
  obtain ⟨fa, fc, na, nc⟩ := h
  go_enter Try.func25, Try.ntmps25
  go_upto_region 1 with fail
  obtain ⟨W, hW, hg, hf, hsz⟩ := one_block w 25 (cellsP ⟨fa, fc, na, nc⟩ d)
  rw [hW]
  clear hW
  have hcc := hf.cell
  have HG := Lib.hid hg
  have HF := Lib.hid hf
  clear hf hg
  go_wp2_with fail
  refine (HR.out W HG.out).mono ?_
  rintro e w1 ⟨rfl, hb1⟩
  have HG1 : Hid (Grow w (w1.alloc (.cells zeroP 73))) := Lib.hid ((HG.out.trans hb1).trans (Grow.alloc _ _))
  clear hb1 hcc
  go_wp2
  refine bodyPost_ret (results_three Try.results25 _ _ _ _ _ rfl rfl rfl) rfl ?_
  exact ⟨rfl, HG1.out⟩

set_option maxRecDepth 100000 in
set_option maxHeartbeats 8000000 in
theorem rSlot_bad (h : PoolH) (d : PoolI) (sl : Int) (w : World) (hA : PoolAt w w.heap.size h d) (hs : Short d) (hok : okPool d = false) :
    Calls Try.prog 41 #[poolV h d, .int .i64 sl] w fun e w' => e = .returned (.tuple #[.int .i64 0, .int .i64 0, .int .i64 100]) ∧ Below w.heap.size w w' := by
  have HC := Lib.hid (fun (w0 : World) (hw : Grow w w0) => rCheck_any h d w0 (hA.grow hw) hs)
  rw [show poolErr d = 100 by unfold poolErr; rw [hok]; rfl] at HC
  clear hok hA hs
  obtain ⟨fa, fc, na, nc⟩ := h
  go_enter Try.func41, Try.ntmps41
  go_upto_region 1 with fail
  obtain ⟨W, hW, hg, hf, hsz⟩ := one_block w 25 (cellsP ⟨fa, fc, na, nc⟩ d)
  rw [hW]
  clear hW
  have hcc := hf.cell
  have HG := Lib.hid hg
  have HF := Lib.hid hf
  clear hf hg
  go_wp2_with fail
  refine (HC.out W HG.out).mono ?_
  rintro e w1 ⟨rfl, hb1⟩
  have HG1 : Hid (Grow w w1) := Lib.hid (HG.out.trans hb1)
  clear hb1 hcc
  go_wp2
  refine bodyPost_ret (results_456 Try.results41 _ _ _ _ _ rfl rfl rfl) rfl ?_
  exact ⟨rfl, HG1.out⟩

set_option maxRecDepth 100000 in
set_option maxHeartbeats 8000000 in
theorem rPlan_bad (h : PoolH) (d : PoolI) (w : World) (hA : PoolAt w w.heap.size h d) (hs : Short d) (hok : okPool d = false) :
    Calls Try.prog 42 #[poolV h d] w fun e w' => e = .returned (.tuple #[.slice none 0 0, .int .i64 0, .int .i64 100]) ∧ Below w.heap.size w w' := by
  have HC := Lib.hid (fun (w0 : World) (hw : Grow w w0) => rCheck_any h d w0 (hA.grow hw) hs)
  rw [show poolErr d = 100 by unfold poolErr; rw [hok]; rfl] at HC
  clear hok hA hs
  obtain ⟨fa, fc, na, nc⟩ := h
  go_enter Try.func42, Try.ntmps42
  go_upto_region 1 with fail
  obtain ⟨W, hW, hg, hf, hsz⟩ := one_block w 25 (cellsP ⟨fa, fc, na, nc⟩ d)
  rw [hW]
  clear hW
  have hcc := hf.cell
  have HG := Lib.hid hg
  have HF := Lib.hid hf
  clear hf hg
  go_wp2_with fail
  refine (HC.out W HG.out).mono ?_
  rintro e w1 ⟨rfl, hb1⟩
  have HG1 : Hid (Grow w w1) := Lib.hid (HG.out.trans hb1)
  clear hb1 hcc
  go_wp2
  refine bodyPost_ret (results_three Try.results42 _ _ _ _ _ rfl rfl rfl) rfl ?_
  exact ⟨rfl, HG1.out⟩

set_option maxRecDepth 100000 in
set_option maxHeartbeats 8000000 in
theorem rSlot_slot (h : PoolH) (p : Pool) (G : Good p) (hok : okPool p.i = true) (hs : Short p.i) (sl : Int) (w : World) (hA : PoolAt w w.heap.size h p.i) (hno : inB sl 0 ((p.needs.length : Int) - 1) = false) :
    Calls Try.prog 41 #[poolN h p, .int .i64 sl] w fun e w' => e = .returned (.tuple #[.int .i64 0, .int .i64 0, .int .i64 1]) ∧ Below w.heap.size w w' := by
  have HC := Lib.hid (fun (w0 : World) (hw : Grow w w0) => rCheck_any h p.i w0 (hA.grow hw) hs)
  rw [show poolErr p.i = 0 by unfold poolErr; rw [hok]; rfl, pool_i] at HC
  have HIS := Lib.hid (fun (w0 : World) => rIsSlot_any h p G sl w0)
  rw [hno] at HIS
  clear hok hA hs hno G
  obtain ⟨fa, fc, na, nc⟩ := h
  go_enter Try.func41, Try.ntmps41
  go_upto_region 1 with fail
  obtain ⟨W, hW, hg, hf, hsz⟩ := one_block w 25 (cellsN ⟨fa, fc, na, nc⟩ p)
  rw [hW]
  clear hW
  have hcc := hf.cell
  have HG := Lib.hid hg
  have HF := Lib.hid hf
  clear hf hg
  go_wp2_with fail
  refine (HC.out W HG.out).mono ?_
  rintro e w1 ⟨rfl, hb1⟩
  have HG1 : Hid (Grow w w1) := Lib.hid (HG.out.trans hb1)
  have hcc := ((show Grow W w1 from hb1).block HF.out).cell
  clear hb1
  go_wp2_with fail
  refine (HIS.out w1).mono ?_
  rintro e w2 ⟨rfl, hb2⟩
  have HG2 : Hid (Grow w w2) := Lib.hid (HG1.out.trans hb2)
  clear hb2 hcc
  go_wp2
  refine bodyPost_ret (results_456 Try.results41 _ _ _ _ _ rfl rfl rfl) rfl ?_
  exact ⟨rfl, HG2.out⟩

end Go.Proofs.Ytcgnibfcjadnjaa
