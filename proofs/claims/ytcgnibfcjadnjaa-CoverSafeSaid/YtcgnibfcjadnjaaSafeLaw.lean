/- RefBad: the specification's Missed and Ready of what is not valid, Ready at what is no slot, and the program's Check; written by wip/tools/refbad10.py. SafeLaw: the statement on Check, Safe, Weakest, Missed and Ready; written by wip/tools/safelaw10.py. -/
import Derived.Test.YtcgnibfcjadnjaaRMissed
import Derived.Test.YtcgnibfcjadnjaaRReady
import Derived.Test.YtcgnibfcjadnjaaApiBad
import Derived.Test.YtcgnibfcjadnjaaRWeak
import Derived.Test.YtcgnibfcjadnjaaRCopy
import Derived.Test.YtcgnibfcjadnjaaWorksP
namespace Go.Proofs.Ytcgnibfcjadnjaa
open Go.RowKit

set_option maxRecDepth 100000 in
set_option maxHeartbeats 8000000 in
theorem rMissed_bad (h : PoolH) (d : PoolI) (A : Option Addr) (cap n : Nat) (w : World) (hA : PoolAt w w.heap.size h d) (hs : Short d) (hok : okPool d = false) :
    Calls Try.prog 38 #[poolV h d, .slice A n cap] w fun e w' => e = .returned (.tuple #[.slice none 0 0, .int .i64 100]) ∧ Below w.heap.size w w' := by
  have HC := Lib.hid (fun (w0 : World) (hw : Grow w w0) => rCheckWatch_bad h d A cap n w0 (hA.grow hw) hs hok)
  clear hok hA hs
  obtain ⟨fa, fc, na, nc⟩ := h
  go_enter Try.func38, Try.ntmps38
  go_upto_region 1 with fail
  obtain ⟨W, hW, hg, hf, hsz⟩ := one_block w 25 (cellsP ⟨fa, fc, na, nc⟩ d)
  rw [hW]
  clear hW
  have hcc := hf.cell
  have HG := Lib.hid hg
  clear hf hg
  go_wp2_with fail
  refine (HC.out W HG.out).mono ?_
  rintro e w1 ⟨rfl, hb1⟩
  have HG1 : Hid (Grow w w1) := Lib.hid (HG.out.trans hb1)
  clear hb1 hcc
  go_wp2
  refine bodyPost_ret (results_45 Try.results38 _ _ _ _ rfl rfl) rfl ?_
  exact ⟨rfl, HG1.out⟩

set_option maxRecDepth 100000 in
set_option maxHeartbeats 8000000 in
theorem rMissed_not (h : PoolH) (p : Pool) (G : Good p) (hok : okPool p.i = true) (hs : Short p.i) (A : Option Addr) (cap : Nat) (ws : List Int) (w : World) (hA : PoolAt w w.heap.size h p.i) (hI : Ints w w.heap.size A ws) (hl : ws.length ≤ 1000) (hwf : Wf ws) (hq : okWatch p ws = false) :
    Calls Try.prog 38 #[poolN h p, .slice A ws.length cap] w fun e w' => e = .returned (.tuple #[.slice none 0 0, .int .i64 101]) ∧ Below w.heap.size w w' := by
  have HC := Lib.hid (fun (w0 : World) (hw : Grow w w0) => rCheckWatch_any h p G hok hs A cap ws w0 (hA.grow hw) ((hI.below hw).more hw.size) hl hwf)
  have h1 : watchErr p ws = 101 := by unfold watchErr; rw [hq]; rfl
  rw [h1] at HC
  clear hok hA hs h1 hq hwf hl hI
  obtain ⟨fa, fc, na, nc⟩ := h
  go_enter Try.func38, Try.ntmps38
  go_upto_region 1 with fail
  obtain ⟨W, hW, hg, hf, hsz⟩ := one_block w 25 (cellsN ⟨fa, fc, na, nc⟩ p)
  rw [hW]
  clear hW
  have hcc := hf.cell
  have HG := Lib.hid hg
  clear hf hg
  go_wp2_with fail
  refine (HC.out W HG.out).mono ?_
  rintro e w1 ⟨rfl, hb1⟩
  have HG1 : Hid (Grow w w1) := Lib.hid (HG.out.trans hb1)
  clear hb1 hcc
  go_wp2
  refine bodyPost_ret (results_45 Try.results38 _ _ _ _ rfl rfl) rfl ?_
  exact ⟨rfl, HG1.out⟩

set_option maxRecDepth 100000 in
set_option maxHeartbeats 8000000 in
theorem rReady_bad (h : PoolH) (d : PoolI) (A : Option Addr) (cap n : Nat) (s : Int) (w : World) (hA : PoolAt w w.heap.size h d) (hs : Short d) (hok : okPool d = false) :
    Calls Try.prog 39 #[poolV h d, .slice A n cap, .int .i64 s] w fun e w' => e = .returned (.tuple #[.int .i64 0, .int .i64 100]) ∧ Below w.heap.size w w' := by
  have HC := Lib.hid (fun (w0 : World) (hw : Grow w w0) => rCheckWatch_bad h d A cap n w0 (hA.grow hw) hs hok)
  clear hok hA hs
  obtain ⟨fa, fc, na, nc⟩ := h
  go_enter Try.func39, Try.ntmps39
  go_upto_region 1 with fail
  obtain ⟨W, hW, hg, hf, hsz⟩ := one_block w 25 (cellsP ⟨fa, fc, na, nc⟩ d)
  rw [hW]
  clear hW
  have hcc := hf.cell
  have HG := Lib.hid hg
  clear hf hg
  go_wp2_with fail
  refine (HC.out W HG.out).mono ?_
  rintro e w1 ⟨rfl, hb1⟩
  have HG1 : Hid (Grow w w1) := Lib.hid (HG.out.trans hb1)
  clear hb1 hcc
  go_wp2
  refine bodyPost_ret (results_67 Try.results39 _ _ _ _ rfl rfl) rfl ?_
  exact ⟨rfl, HG1.out⟩

set_option maxRecDepth 100000 in
set_option maxHeartbeats 8000000 in
theorem rReady_not (h : PoolH) (p : Pool) (G : Good p) (hok : okPool p.i = true) (hs : Short p.i) (A : Option Addr) (cap : Nat) (ws : List Int) (s : Int) (w : World) (hA : PoolAt w w.heap.size h p.i) (hI : Ints w w.heap.size A ws) (hl : ws.length ≤ 1000) (hwf : Wf ws) (hq : okWatch p ws = false) :
    Calls Try.prog 39 #[poolN h p, .slice A ws.length cap, .int .i64 s] w fun e w' => e = .returned (.tuple #[.int .i64 0, .int .i64 101]) ∧ Below w.heap.size w w' := by
  have HC := Lib.hid (fun (w0 : World) (hw : Grow w w0) => rCheckWatch_any h p G hok hs A cap ws w0 (hA.grow hw) ((hI.below hw).more hw.size) hl hwf)
  have h1 : watchErr p ws = 101 := by unfold watchErr; rw [hq]; rfl
  rw [h1] at HC
  clear hok hA hs h1 hq hwf hl hI
  obtain ⟨fa, fc, na, nc⟩ := h
  go_enter Try.func39, Try.ntmps39
  go_upto_region 1 with fail
  obtain ⟨W, hW, hg, hf, hsz⟩ := one_block w 25 (cellsN ⟨fa, fc, na, nc⟩ p)
  rw [hW]
  clear hW
  have hcc := hf.cell
  have HG := Lib.hid hg
  clear hf hg
  go_wp2_with fail
  refine (HC.out W HG.out).mono ?_
  rintro e w1 ⟨rfl, hb1⟩
  have HG1 : Hid (Grow w w1) := Lib.hid (HG.out.trans hb1)
  clear hb1 hcc
  go_wp2
  refine bodyPost_ret (results_67 Try.results39 _ _ _ _ rfl rfl) rfl ?_
  exact ⟨rfl, HG1.out⟩

set_option maxRecDepth 100000 in
set_option maxHeartbeats 8000000 in
theorem rReady_slot (h : PoolH) (p : Pool) (G : Good p) (hok : okPool p.i = true) (hs : Short p.i) (A : Option Addr) (cap : Nat) (gs : List Nat) (sl : Int) (w : World) (hA : PoolAt w w.heap.size h p.i) (hI : Ints w w.heap.size A (natsL gs)) (hwt : Watch p gs) (hno : inB sl 0 ((p.needs.length : Int) - 1) = false) :
    Calls Try.prog 39 #[poolN h p, .slice A gs.length cap, .int .i64 sl] w fun e w' => e = .returned (.tuple #[.int .i64 0, .int .i64 1]) ∧ Below w.heap.size w w' := by
  have hl : (natsL gs).length ≤ 1000 := by rw [natsL_length]; have h1 := hwt.len; have h2 := G.n3; omega
  have HC := Lib.hid (fun (w0 : World) (hw : Grow w w0) => rCheckWatch_any h p G hok hs A cap (natsL gs) w0 (hA.grow hw) ((hI.below hw).more hw.size) hl (watch_wf G hwt))
  have h1 : watchErr p (natsL gs) = 0 := by unfold watchErr; rw [ok_of_watch G hwt]; rfl
  simp only [natsL_length, h1] at HC
  have HIS := Lib.hid (fun (w0 : World) => rIsSlot_any h p G sl w0)
  rw [hno] at HIS
  clear hok hA hs h1 hl hI hwt hno G
  obtain ⟨fa, fc, na, nc⟩ := h
  go_enter Try.func39, Try.ntmps39
  go_upto_region 1 with fail
  obtain ⟨W, hW, hg, hf, hsz⟩ := one_block w 25 (cellsN ⟨fa, fc, na, nc⟩ p)
  rw [hW]
  clear hW
  have hcc := hf.cell
  have HG := Lib.hid hg
  have HF := Lib.hid hf
  clear hf hg
  go_wp2_with fail
  refine (HC.out W HG.out).mono ?_
  rintro e w1 ⟨rfl, hb1⟩
  have HG1 : Hid (Grow w w1) := Lib.hid (HG.out.trans hb1)
  have hcc := ((show Grow W w1 from hb1).block HF.out).cell
  clear hb1
  go_wp2_with fail
  refine (HIS.out w1).mono ?_
  rintro e w2 ⟨rfl, hb2⟩
  have HG2 : Hid (Grow w w2) := Lib.hid (HG1.out.trans hb2)
  clear hb2 hcc
  go_wp2
  refine bodyPost_ret (results_67 Try.results39 _ _ _ _ rfl rfl) rfl ?_
  exact ⟨rfl, HG2.out⟩

set_option maxRecDepth 100000 in
set_option maxHeartbeats 8000000 in
theorem readyApi_slot (h : PoolH) (p : Pool) (G : Good p) (hok : okPool p.i = true) (hs : Short p.i) (A : Option Addr) (cap : Nat) (gs : List Nat) (sl : Int) (w : World) (hA : PoolAt w w.heap.size h p.i) (hI : Ints w w.heap.size A (natsL gs)) (hwt : Watch p gs) (hno : inB sl 0 ((p.needs.length : Int) - 1) = false) :
    Calls Try.prog 21 #[poolN h p, .slice A gs.length cap, .int .i64 sl] w fun e w' => e = .returned (.tuple #[.int .i64 0, .int .i64 1]) ∧ Below w.heap.size w w' := by
  have HRW := Lib.hid (fun (w0 : World) (hw : Grow w w0) => readWatch_good h p G hok hs A cap gs w0 (hA.grow hw) ((hI.below hw).more hw.size) hwt)
  have HHS := Lib.hid (fun w0 => hasSlot_any h p G sl w0)
  rw [hno] at HHS
  clear hok hI hwt hA hs hno G
  obtain ⟨fa, fc, na, nc⟩ := h
  go_enter Try.func21, Try.ntmps21
  go_upto_region 1 with fail
  obtain ⟨W, hW, hg, hf, hsz⟩ := one_block w 25 (cellsN ⟨fa, fc, na, nc⟩ p)
  rw [hW]
  clear hW
  have hcc := hf.cell
  have HG := Lib.hid hg
  clear hf hg
  go_wp2_with fail
  refine (HRW.out W HG.out).mono ?_
  rintro e w1 ⟨b, rfl, hi1, hb1⟩
  have HG1 : Hid (Grow w w1) := Lib.hid (HG.out.trans hb1)
  clear hb1 hcc hi1
  go_upto_region 4 with fail
  obtain ⟨W2, hW2, hg2, hf2, hsz2⟩ := one_block w1 73 (cellsN ⟨fa, fc, na, nc⟩ p)
  rw [hW2]
  clear hW2
  have hcc := hf2.cell
  have HG2 : Hid (Grow w W2) := Lib.hid (HG1.out.trans hg2)
  clear hf2 hg2
  go_wp2_with fail
  refine (HHS.out W2).mono ?_
  rintro e w3 ⟨rfl, hb3⟩
  have HG3 : Hid (Grow w w3) := Lib.hid (HG2.out.trans hb3)
  clear hb3 hcc
  go_wp2
  refine bodyPost_ret (results_67 Try.results21 _ _ _ _ rfl rfl) rfl ?_
  exact ⟨rfl, HG3.out⟩

set_option maxRecDepth 100000 in
set_option maxHeartbeats 8000000 in
theorem check_no (h : PoolH) (d : PoolI) (w : World) (hA : PoolAt w w.heap.size h d) (hs : Short d) (hok : okPool d = false) :
    Calls Try.prog 35 #[poolV h d] w fun e w' => e = .returned (.int .i64 (poolErr d)) ∧ Below w.heap.size w w' := by
  have HR := Lib.hid (fun (w0 : World) (hw : Grow w w0) => read_any h d w0 (hA.grow hw) hs)
  have hrc : readCells h d = zeroP := by unfold readCells; rw [hok]; rfl
  clear hA hs
  obtain ⟨er, her⟩ : ∃ z, poolErr d = z := ⟨_, rfl⟩
  rw [her, hrc] at HR
  rw [her]
  clear her hrc hok
  obtain ⟨fa, fc, na, nc⟩ := h
  go_enter Try.func35, Try.ntmps35
  go_upto_region 1 with fail
  obtain ⟨W, hW, hg, hf, hsz⟩ := one_block w 25 (cellsP ⟨fa, fc, na, nc⟩ d)
  rw [hW]
  clear hW
  have hcc := hf.cell
  have HG := Lib.hid hg
  clear hf hg
  go_wp2_with fail
  refine (HR.out W HG.out).mono ?_
  rintro e w1 ⟨rfl, hb1⟩
  have HG1 : Hid (Grow w w1) := Lib.hid (HG.out.trans hb1)
  clear hb1 hcc
  go_upto_region 2 with fail
  obtain ⟨W2, hW2, hg2, hf2, hsz2⟩ := one_block w1 73 (zeroP)
  rw [hW2]
  clear hW2
  go_wp2
  go_ret
  exact ⟨rfl, HG1.out.trans hg2⟩

set_option maxRecDepth 100000 in
set_option maxHeartbeats 8000000 in
theorem check_ok (h : PoolH) (d : PoolI) (w : World) (hA : PoolAt w w.heap.size h d) (hs : Short d) (hok : okPool d = true) :
    Calls Try.prog 35 #[poolV h d] w fun e w' => e = .returned (.int .i64 (poolErr d)) ∧ Below w.heap.size w w' := by
  have HR := Lib.hid (fun (w0 : World) (hw : Grow w w0) => read_any h d w0 (hA.grow hw) hs)
  have hrc : readCells h d = cellsP h d := by unfold readCells; rw [hok]; rfl
  clear hA hs
  obtain ⟨er, her⟩ : ∃ z, poolErr d = z := ⟨_, rfl⟩
  rw [her, hrc] at HR
  rw [her]
  clear her hrc hok
  obtain ⟨fa, fc, na, nc⟩ := h
  go_enter Try.func35, Try.ntmps35
  go_upto_region 1 with fail
  obtain ⟨W, hW, hg, hf, hsz⟩ := one_block w 25 (cellsP ⟨fa, fc, na, nc⟩ d)
  rw [hW]
  clear hW
  have hcc := hf.cell
  have HG := Lib.hid hg
  clear hf hg
  go_wp2_with fail
  refine (HR.out W HG.out).mono ?_
  rintro e w1 ⟨rfl, hb1⟩
  have HG1 : Hid (Grow w w1) := Lib.hid (HG.out.trans hb1)
  clear hb1 hcc
  go_upto_region 2 with fail
  obtain ⟨W2, hW2, hg2, hf2, hsz2⟩ := one_block w1 73 (cellsP ⟨fa, fc, na, nc⟩ d)
  rw [hW2]
  clear hW2
  go_wp2
  go_ret
  exact ⟨rfl, HG1.out.trans hg2⟩

theorem check_any (h : PoolH) (d : PoolI) (w : World) (hA : PoolAt w w.heap.size h d) (hs : Short d) :
    Calls Try.prog 35 #[poolV h d] w fun e w' => e = .returned (.int .i64 (poolErr d)) ∧ Below w.heap.size w w' := by
  cases hok : okPool d with
  | false => exact check_no h d w hA hs hok
  | true => exact check_ok h d w hA hs hok

end Go.Proofs.Ytcgnibfcjadnjaa

namespace Go.Proofs.Ytcgnibfcjadnjaa
open Go.RowKit

theorem grow_drewN (w : World) (n : Nat) : Grow w (w.drewN n) := Below.drewN_ (Grow.refl w) n
theorem run_eqG (b : GapN) (w : World) : (Op.equalIn 10000 36 (.agg (cellsGap b)) (.agg (cellsGap b))).run Try.prog w = .ok true w := by
  simp [go_sem]
set_option maxRecDepth 100000 in
set_option maxHeartbeats 16000000 in
theorem coverSafe_far (h : PoolH) (d : PoolI) (A : Option Addr) (cap : Nat) (ws : List Int) (sl : Int) (w : World) (hA : PoolAt w w.heap.size h d) (hv : farI d = true) :
    Calls Try.prog 9 #[poolV h d, .slice A ws.length cap, .int .i64 sl] w fun e w' => e = .returned (.bool true) ∧ Below w.heap.size w w' := by
  have HFA := Lib.hid (fun (w0 : World) (hw : Grow w w0) => far_any h d w0 (hA.grow hw))
  rw [hv] at HFA
  clear hA hv
  obtain ⟨fa, fc, na, nc⟩ := h
  go_enter Try.func9, Try.ntmps9
  go_upto_region 1 with fail
  obtain ⟨W, hW, hg, hf, hsz⟩ := one_block w 25 (cellsP ⟨fa, fc, na, nc⟩ d)
  rw [hW]
  clear hW
  have hcc := hf.cell
  have HG := Lib.hid hg
  have HF := Lib.hid hf
  clear hf hg
  go_wp2_with fail
  refine (HFA.out W HG.out).mono ?_
  rintro e w1 ⟨rfl, hb1⟩
  have HG1 : Hid (Grow w w1) := Lib.hid (HG.out.trans hb1)
  have HF1 := Lib.hid ((show Grow W w1 from hb1).block HF.out)
  have hcc := HF1.out.cell
  clear hb1
  go_wp2_with fail
  refine (works_any _).mono ?_
  rintro e w9 ⟨rfl, hb9⟩
  have HG9 : Hid (Grow w w9) := Lib.hid (HG1.out.trans hb9)
  clear hb9
  go_wp2
  go_ret
  exact ⟨by simp, HG9.out⟩

set_option maxRecDepth 100000 in
set_option maxHeartbeats 16000000 in
theorem coverSafe_long (h : PoolH) (d : PoolI) (A : Option Addr) (cap : Nat) (ws : List Int) (sl : Int) (w : World) (hA : PoolAt w w.heap.size h d) (hv : farI d = false) (hl : 20 < ws.length) :
    Calls Try.prog 9 #[poolV h d, .slice A ws.length cap, .int .i64 sl] w fun e w' => e = .returned (.bool true) ∧ Below w.heap.size w w' := by
  have HFA := Lib.hid (fun (w0 : World) (hw : Grow w w0) => far_any h d w0 (hA.grow hw))
  rw [hv] at HFA
  have hl1 : decide ((20 : Int) < (ws.length : Int)) = true := decide_eq_true (by omega)
  have hl2 : decide (20 < ws.length) = true := decide_eq_true (by omega)
  clear hA hv
  obtain ⟨fa, fc, na, nc⟩ := h
  go_enter Try.func9, Try.ntmps9
  go_upto_region 1 with fail
  obtain ⟨W, hW, hg, hf, hsz⟩ := one_block w 25 (cellsP ⟨fa, fc, na, nc⟩ d)
  rw [hW]
  clear hW
  have hcc := hf.cell
  have HG := Lib.hid hg
  have HF := Lib.hid hf
  clear hf hg
  go_wp2_with fail
  refine (HFA.out W HG.out).mono ?_
  rintro e w1 ⟨rfl, hb1⟩
  have HG1 : Hid (Grow w w1) := Lib.hid (HG.out.trans hb1)
  have HF1 := Lib.hid ((show Grow W w1 from hb1).block HF.out)
  have hcc := HF1.out.cell
  clear hb1
  go_wp2_with fail
  refine (works_any _).mono ?_
  rintro e w9 ⟨rfl, hb9⟩
  have HG9 : Hid (Grow w w9) := Lib.hid (HG1.out.trans hb9)
  clear hb9
  go_wp2
  go_ret
  exact ⟨by simp, HG9.out⟩

set_option maxRecDepth 100000 in
set_option maxHeartbeats 16000000 in
theorem coverSafe_walk (h : PoolH) (d : PoolI) (A : Option Addr) (cap : Nat) (ws : List Int) (sl : Int) (w : World) (hA : PoolAt w w.heap.size h d) (hI : Ints w w.heap.size A ws) (hv : farI d = false) (hl : ws.length ≤ 20) (is : Bool) (b : GapN) (L : List Int) (hLL : L.length ≤ 1000) (n e1 e2 e3 e4 : Int) (hs1 : ∀ (h' : PoolH) (A' : Option Addr) (cap' : Nat) (w0 : World), PoolAt w0 w0.heap.size h' d → Ints w0 w0.heap.size A' ws → Calls Try.prog 14 #[poolV h' d, .slice A' ws.length cap'] w0 fun e w' => e = .returned (.tuple #[.bool is, .int .i64 e1]) ∧ Below w0.heap.size w0 w') (hs2 : ∀ (h' : PoolH) (A' : Option Addr) (cap' : Nat) (w0 : World), PoolAt w0 w0.heap.size h' d → Ints w0 w0.heap.size A' ws → Calls Try.prog 36 #[poolV h' d, .slice A' ws.length cap'] w0 fun e w' => e = .returned (.tuple #[.bool is, .int .i64 e1]) ∧ Below w0.heap.size w0 w') (hw1 : ∀ (h' : PoolH) (A' : Option Addr) (cap' : Nat) (w0 : World), PoolAt w0 w0.heap.size h' d → Ints w0 w0.heap.size A' ws → Calls Try.prog 15 #[poolV h' d, .slice A' ws.length cap'] w0 fun e w' => e = .returned (.tuple #[.agg (cellsGap b), .int .i64 e2]) ∧ Below w0.heap.size w0 w') (hw2 : ∀ (h' : PoolH) (A' : Option Addr) (cap' : Nat) (w0 : World), PoolAt w0 w0.heap.size h' d → Ints w0 w0.heap.size A' ws → Calls Try.prog 37 #[poolV h' d, .slice A' ws.length cap'] w0 fun e w' => e = .returned (.tuple #[.agg (cellsGap b), .int .i64 e2]) ∧ Below w0.heap.size w0 w') (hm1 : ∀ (h' : PoolH) (A' : Option Addr) (cap' : Nat) (w0 : World), PoolAt w0 w0.heap.size h' d → Ints w0 w0.heap.size A' ws → Calls Try.prog 33 #[poolV h' d, .slice A' ws.length cap'] w0 fun e w' => (∃ LA lc, e = .returned (.tuple #[.slice LA L.length lc, .int .i64 e3]) ∧ Ints w' w'.heap.size LA L) ∧ Below w0.heap.size w0 w') (hm2 : ∀ (h' : PoolH) (A' : Option Addr) (cap' : Nat) (w0 : World), PoolAt w0 w0.heap.size h' d → Ints w0 w0.heap.size A' ws → Calls Try.prog 38 #[poolV h' d, .slice A' ws.length cap'] w0 fun e w' => (∃ LA lc, e = .returned (.tuple #[.slice LA L.length lc, .int .i64 e3]) ∧ Ints w' w'.heap.size LA L) ∧ Below w0.heap.size w0 w') (hr1 : ∀ (h' : PoolH) (A' : Option Addr) (cap' : Nat) (w0 : World), PoolAt w0 w0.heap.size h' d → Ints w0 w0.heap.size A' ws → Calls Try.prog 21 #[poolV h' d, .slice A' ws.length cap', .int .i64 sl] w0 fun e w' => e = .returned (.tuple #[.int .i64 n, .int .i64 e4]) ∧ Below w0.heap.size w0 w') (hr2 : ∀ (h' : PoolH) (A' : Option Addr) (cap' : Nat) (w0 : World), PoolAt w0 w0.heap.size h' d → Ints w0 w0.heap.size A' ws → Calls Try.prog 39 #[poolV h' d, .slice A' ws.length cap', .int .i64 sl] w0 fun e w' => e = .returned (.tuple #[.int .i64 n, .int .i64 e4]) ∧ Below w0.heap.size w0 w') :
    Calls Try.prog 9 #[poolV h d, .slice A ws.length cap, .int .i64 sl] w fun e w' => e = .returned (.bool true) ∧ Below w.heap.size w w' := by
  obtain ⟨i0, hi, hz0, hz1, hz2⟩ := info_parts Try.infoInt
  obtain ⟨fp1, fp2, fp3, _⟩ := far_parts hv
  have hsh := far_short hv
  have HFA := Lib.hid (fun (w0 : World) (hw : Grow w w0) => far_any h d w0 (hA.grow hw))
  rw [hv] at HFA
  have hl1 : decide ((20 : Int) < (ws.length : Int)) = false := decide_eq_false (by omega)
  have hl2 : decide (20 < ws.length) = false := decide_eq_false (by omega)
  have HPP := Lib.hid (fun (w0 : World) (hw : Grow w w0) => hA.grow hw)
  have HIP := Lib.hid (fun (w0 : World) (hw : Grow w w0) => (hI.below hw).more hw.size)
  have HCP := Lib.hid (fun (w0 : World) (hw : Grow w w0) => rCopy_any h d w0.heap.size w0 (hA.grow hw) (Nat.le_refl _) fp1 fp2 fp3)
  have HCH := Lib.hid (fun (h' : PoolH) (w0 : World) (hP : PoolAt w0 w0.heap.size h' d) => check_any h' d w0 hP hsh)
  have HRC := Lib.hid (fun (w0 : World) (hw : Grow w w0) => rCheck_any h d w0 (hA.grow hw) hsh)
  have HS1 := Lib.hid hs1
  have HS2 := Lib.hid hs2
  have HW1 := Lib.hid hw1
  have HW2 := Lib.hid hw2
  have HM1 := Lib.hid hm1
  have HM2 := Lib.hid hm2
  have HR1 := Lib.hid hr1
  have HR2 := Lib.hid hr2
  obtain ⟨er, her⟩ : ∃ z, poolErr d = z := ⟨_, rfl⟩
  rw [her] at HCH HRC
  have heqG := run_eqG b
  clear hA hI hv hs1 hs2 hw1 hw2 hm1 hm2 hr1 hr2 her fp1 fp2 fp3 hsh
  obtain ⟨fa, fc, na, nc⟩ := h
  go_enter Try.func9, Try.ntmps9
  go_upto_region 1 with fail
  obtain ⟨W, hW, hg, hf, hsz⟩ := one_block w 25 (cellsP ⟨fa, fc, na, nc⟩ d)
  rw [hW]
  clear hW
  have hcc := hf.cell
  have HG := Lib.hid hg
  have HF := Lib.hid hf
  clear hf hg
  go_wp2_with fail
  refine (HFA.out W HG.out).mono ?_
  rintro e w1 ⟨rfl, hb1⟩
  have HG1 : Hid (Grow w w1) := Lib.hid (HG.out.trans hb1)
  have HF1 := Lib.hid ((show Grow W w1 from hb1).block HF.out)
  have hcc := HF1.out.cell
  clear hb1
  go_wp2_with fail
  refine (HCP.out w1 HG1.out).mono ?_
  rintro e w2 ⟨h', rfl, hnp, hb2⟩
  obtain ⟨fa', fc', na', nc'⟩ := h'
  have HP2 := Lib.hid hnp.at_
  have HG2 : Hid (Grow w w2) := Lib.hid (HG1.out.trans hb2)
  have HF2 := Lib.hid ((show Grow w1 w2 from hb2).block HF1.out)
  clear hnp hb2 hcc
  go_wp2_with (at_builtin; go_loud (refine wpList_append_arg rfl _ _ 26 rfl rfl w2.heap.size 3 i0 (.int .i64 0) 1 8 Try.underlying26 hi hz0 hz1 hz2 rfl (by omega) w2.heap.size rfl ?c0 (Nat.le_refl _) ?c1 A ws.length cap (ws.map (Value.int .i64)) rfl (by simp) (ints_src (HIP.out _ (HG2.out.trans (Grow.alloc _ _)))) ?c4 ?c5 ?_))
  case c0 => exact BlockIs.new _ _ _
  case c1 => simp
  case c4 => unfold maxLen; omega
  case c5 => omega
  intro v' w3 hrow hgr
  obtain ⟨A3, c3, rfl⟩ := own_form hrow
  have HI3 : Hid (Ints w3 w3.heap.size A3 ws) := Lib.hid (own_ints hrow).1
  have HG23 : Hid (Grow w2 w3) := Lib.hid ((Grow.alloc _ _).trans hgr)
  clear hrow hgr
  go_upto_region 4 with fail
  obtain ⟨w4, hw4, hg4, ho4, hsz4⟩ := one_block w3 25 (cellsP ⟨fa', fc', na', nc'⟩ d)
  rw [hw4]
  clear hw4
  obtain ⟨ob, hob⟩ : ∃ z, w3.heap.size = z := ⟨_, rfl⟩
  have HG4 : Hid (Grow w w4) := Lib.hid ((HG2.out.trans HG23.out).trans hg4)
  have HF4 := Lib.hid ((HG23.out.trans hg4).block HF2.out)
  have HO4 : Hid (BlockIs w4 ob 25 (cellsP ⟨fa', fc', na', nc'⟩ d)) := Lib.hid (by rw [← hob]; exact ho4)
  have HPO := Lib.hid (fun (w0 : World) (hw : Grow w4 w0) => HP2.out.grow ((HG23.out.trans hg4).trans hw))
  have HIO := Lib.hid (fun (w0 : World) (hw : Grow w4 w0) => (show Ints w0 w0.heap.size A3 ws from (HI3.out.below (hg4.trans hw)).more (hg4.trans hw).size))
  rw [hob]
  clear hg4 ho4 hob hsz4 HG23 HI3 HP2 HF2 HG2 HF1 HG1 HF
  refine wp_region_lit 5 [[], [(0, 38)], [], [(2, 40)], [(1, 39), (3, 41)]] Grow (fun qi v w' => match qi with
      | 0 => v = poolV ⟨fa', fc', na', nc'⟩ d
      | 1 => v = .int .i64 er
      | 2 => v = poolV ⟨fa, fc, na, nc⟩ d
      | 3 => v = .int .i64 er
      | 4 => v = .bool false
      | _ => False) (by kernel_rfl) (by kernel_rfl) (fun _ _ _ => Grow.trans) Grow.refl ?_ ?_ ?_
  · intro i v y y' h k
    match i, h with
    | 0, h | 1, h | 2, h | 3, h | 4, h => exact h
  · simp only [StepsLit, List.take_succ_cons, List.take_zero]
    refine ⟨?_, ?_, ?_, ?_, ?_, trivial⟩
    · intro w5 hR
      have hGw : Grow w4 w5 := hR.of_drew
      have HGW := Lib.hid hGw
      have hcc := (HGW.out.block HF4.out).cell
      have hoc := (HGW.out.block HO4.out).cell
      clear hR hGw
      simp only [depV]
      try go_simp
      all_goals first
        | (with_reducible exact Grow.refl _)
        | (with_reducible exact ⟨Grow.refl _, rfl⟩)
    · intro w5 hR
      have hGw : Grow w4 w5 := hR.of_drew
      have HGW := Lib.hid hGw
      have hcc := (HGW.out.block HF4.out).cell
      have hoc := (HGW.out.block HO4.out).cell
      clear hR hGw
      simp only [depV]
      rintro _ rfl
      try go_simp
      refine (HCH.out ⟨fa', fc', na', nc'⟩ w5 (HPO.out w5 HGW.out)).mono ?_
      rintro e w6 ⟨rfl, hb6⟩
      exact ⟨hb6, rfl⟩
    · intro w5 hR
      have hGw : Grow w4 w5 := hR.of_drew
      have HGW := Lib.hid hGw
      have hcc := (HGW.out.block HF4.out).cell
      have hoc := (HGW.out.block HO4.out).cell
      clear hR hGw
      simp only [depV]
      try go_simp
      all_goals first
        | (with_reducible exact Grow.refl _)
        | (with_reducible exact ⟨Grow.refl _, rfl⟩)
    · intro w5 hR
      have hGw : Grow w4 w5 := hR.of_drew
      have HGW := Lib.hid hGw
      have hcc := (HGW.out.block HF4.out).cell
      have hoc := (HGW.out.block HO4.out).cell
      clear hR hGw
      simp only [depV]
      rintro _ rfl
      try go_simp
      refine (HRC.out w5 (HG4.out.trans HGW.out)).mono ?_
      rintro e w6 ⟨rfl, hb6⟩
      exact ⟨hb6, rfl⟩
    · intro w5 hR
      have hGw : Grow w4 w5 := hR.of_drew
      have HGW := Lib.hid hGw
      have hcc := (HGW.out.block HF4.out).cell
      have hoc := (HGW.out.block HO4.out).cell
      clear hR hGw
      simp only [depV]
      rintro _ rfl
      rintro _ rfl
      try go_simp
      all_goals first
        | (with_reducible exact Grow.refl _)
        | (with_reducible exact ⟨Grow.refl _, rfl⟩)
  · intro w5 hR
    have HG5 : Hid (Grow w4 w5) := Lib.hid hR.of_drew
    clear hR
    simp only [finVC, List.take_succ_cons, List.take_zero, List.drop_succ_cons, List.drop_zero]
    rintro _ rfl
    rintro _ rfl
    rintro _ rfl
    rintro _ rfl
    rintro _ rfl
    simp only [Act.put, List.setIfInBounds_toArray, List.set_cons_succ, List.set_cons_zero]
    have HG5' : Hid (Grow w4 w5) := HG5
    have hcc := (HG5.out.block HF4.out).cell
    have hoc := (HG5.out.block HO4.out).cell
    go_wp2_with fail
    refine (HS1.out ⟨fa', fc', na', nc'⟩ A3 c3 w5 (HPO.out w5 HG5.out) (HIO.out w5 HG5.out)).mono ?_
    rintro e w6 ⟨rfl, hb6⟩
    have HG6 : Hid (Grow w4 w6) := Lib.hid (HG5.out.trans hb6)
    have hcc := (HG6.out.block HF4.out).cell
    have hoc := (HG6.out.block HO4.out).cell
    clear hb6
    go_wp2_with fail
    refine (HS2.out ⟨fa, fc, na, nc⟩ A cap w6 (HPP.out w6 (HG4.out.trans HG6.out)) (HIP.out w6 (HG4.out.trans HG6.out))).mono ?_
    rintro e w7 ⟨rfl, hb7⟩
    have HG7 : Hid (Grow w4 w7) := Lib.hid (HG6.out.trans hb7)
    have hcc := (HG7.out.block HF4.out).cell
    have hoc := (HG7.out.block HO4.out).cell
    clear hb7
    go_wp2_with fail
    refine (HW1.out ⟨fa', fc', na', nc'⟩ A3 c3 w7 (HPO.out w7 HG7.out) (HIO.out w7 HG7.out)).mono ?_
    rintro e w8 ⟨rfl, hb8⟩
    have HG8 : Hid (Grow w4 w8) := Lib.hid (HG7.out.trans hb8)
    have hcc := (HG8.out.block HF4.out).cell
    have hoc := (HG8.out.block HO4.out).cell
    clear hb8
    go_upto_region 9 with fail
    obtain ⟨w9, hw9, hg9, ha9, hsz9⟩ := one_block w8 36 (cellsGap b)
    rw [hw9]
    clear hw9
    obtain ⟨ga, hga⟩ : ∃ z, w8.heap.size = z := ⟨_, rfl⟩
    rw [hga] at ha9 ⊢
    have HG9 : Hid (Grow w4 w9) := Lib.hid (HG8.out.trans hg9)
    have HA9 := Lib.hid ha9
    have hcc := (HG9.out.block HF4.out).cell
    have hoc := (HG9.out.block HO4.out).cell
    clear hg9 ha9 hga
    go_wp2_with fail
    refine (HW2.out ⟨fa, fc, na, nc⟩ A cap w9 (HPP.out w9 (HG4.out.trans HG9.out)) (HIP.out w9 (HG4.out.trans HG9.out))).mono ?_
    rintro e w10 ⟨rfl, hb10⟩
    have HG10 : Hid (Grow w4 w10) := Lib.hid (HG9.out.trans hb10)
    have hcc := (HG10.out.block HF4.out).cell
    have hoc := (HG10.out.block HO4.out).cell
    have HA10 := Lib.hid ((show Grow w9 w10 from hb10).block HA9.out)
    clear hb10
    go_upto_region 10 with fail
    obtain ⟨w11, hw11, hg11, ha11, hsz11⟩ := one_block w10 36 (cellsGap b)
    rw [hw11]
    clear hw11
    obtain ⟨gb, hgb⟩ : ∃ z, w10.heap.size = z := ⟨_, rfl⟩
    rw [hgb] at ha11 ⊢
    have HG11 : Hid (Grow w4 w11) := Lib.hid (HG10.out.trans hg11)
    have hgac := (hg11.block HA10.out).cell
    have hgbc := ha11.cell
    have hcc := (HG11.out.block HF4.out).cell
    have hoc := (HG11.out.block HO4.out).cell
    clear hg11 ha11 hgb
    go_wp2_with fail
    refine (HM1.out ⟨fa', fc', na', nc'⟩ A3 c3 w11 (HPO.out w11 HG11.out) (HIO.out w11 HG11.out)).mono ?_
    rintro e w12 ⟨⟨LA, lc, rfl, hla⟩, hb12⟩
    have HG12 : Hid (Grow w4 w12) := Lib.hid (HG11.out.trans hb12)
    have hcc := (HG12.out.block HF4.out).cell
    have hoc := (HG12.out.block HO4.out).cell
    have HLA := Lib.hid hla
    clear hla
    clear hb12
    go_wp2_with fail
    refine (HM2.out ⟨fa, fc, na, nc⟩ A cap w12 (HPP.out w12 (HG4.out.trans HG12.out)) (HIP.out w12 (HG4.out.trans HG12.out))).mono ?_
    rintro e w13 ⟨⟨MA, mc, rfl, hma⟩, hb13⟩
    have HG13 : Hid (Grow w4 w13) := Lib.hid (HG12.out.trans hb13)
    have hcc := (HG13.out.block HF4.out).cell
    have hoc := (HG13.out.block HO4.out).cell
    have HMA := Lib.hid hma
    have HLB : Hid (Ints w13 w13.heap.size LA L) := Lib.hid ((HLA.out.below hb13).more hb13.size)
    clear hma
    clear hb13
    go_wp2_with fail
    refine (HR1.out ⟨fa', fc', na', nc'⟩ A3 c3 w13 (HPO.out w13 HG13.out) (HIO.out w13 HG13.out)).mono ?_
    rintro e w14 ⟨rfl, hb14⟩
    have HG1314 : Hid (Grow w13 w14) := hb14
    have HG14 : Hid (Grow w4 w14) := Lib.hid (HG13.out.trans hb14)
    have hcc := (HG14.out.block HF4.out).cell
    have hoc := (HG14.out.block HO4.out).cell
    clear hb14
    go_wp2_with fail
    refine (HR2.out ⟨fa, fc, na, nc⟩ A cap w14 (HPP.out w14 (HG4.out.trans HG14.out)) (HIP.out w14 (HG4.out.trans HG14.out))).mono ?_
    rintro e w15 ⟨rfl, hb15⟩
    have HG1315 : Hid (Grow w13 w15) := Lib.hid (HG1314.out.trans hb15)
    have HG15 : Hid (Grow w4 w15) := Lib.hid (HG14.out.trans hb15)
    have hcc := (HG15.out.block HF4.out).cell
    have hoc := (HG15.out.block HO4.out).cell
    clear hb15
    have HSL := Lib.hid (fun (w0 : World) (hw : Grow w13 w0) => sameInts_any LA MA lc mc w0.heap.size w0.heap.size L L w0 ((HLB.out.below hw).more hw.size) ((HMA.out.below hw).more hw.size) (by omega) (by omega))
    rw [show decide (L = L) = true from decide_eq_true rfl] at HSL
    have HSO := Lib.hid (fun (w0 : World) (hw : Grow w4 w0) => sameInts_any A3 A c3 cap w0.heap.size w0.heap.size ws ws w0 (HIO.out w0 hw) (HIP.out w0 (HG4.out.trans hw)) (by omega) (by omega))
    rw [show decide (ws = ws) = true from decide_eq_true rfl] at HSO
    go_wp2_with fail
    refine (HSL.out w15 (HG1315.out)).mono ?_
    rintro e w16 ⟨rfl, n16, rfl⟩
    have HG16 : Hid (Grow w4 (w15.drewN n16)) := Lib.hid (HG15.out.trans (grow_drewN w15 n16))
    go_wp2_with fail
    refine (HSO.out _ HG16.out).mono ?_
    rintro e w17 ⟨rfl, n17, rfl⟩
    have HG17 : Hid (Grow w4 (w15.drewN (n16 + n17))) := Lib.hid (HG15.out.trans (grow_drewN w15 _))
    go_wp2_with fail
    refine (works_any _).mono ?_
    rintro e w9 ⟨rfl, hb9⟩
    have HG9 : Hid (Grow w w9) := Lib.hid ((HG4.out.trans HG17.out).trans hb9)
    clear hb9
    go_wp2
    go_ret
    exact ⟨by simp, HG9.out⟩


theorem coverSafe_none (h : PoolH) (d : PoolI) (A : Option Addr) (cap : Nat) (ws : List Int) (sl : Int) (w : World) (hA : PoolAt w w.heap.size h d) (hI : Ints w w.heap.size A ws) (hv : farI d = false) (hl : ws.length ≤ 20) (hok : okPool d = false) :
    Calls Try.prog 9 #[poolV h d, .slice A ws.length cap, .int .i64 sl] w fun e w' => e = .returned (.bool true) ∧ Below w.heap.size w w' := by
  have hsh := far_short hv
  exact coverSafe_walk h d A cap ws sl w hA hI hv hl false noGap [] (by simp) 0 100 100 100 100
    (fun h' A' cap' w0 hP _ => safeApi_bad h' d A' cap' ws.length w0 hP hsh hok)
    (fun h' A' cap' w0 hP _ => rSafe_bad h' d A' cap' ws.length w0 hP hsh hok)
    (fun h' A' cap' w0 hP _ => weakApi_bad h' d A' cap' ws.length w0 hP hsh hok)
    (fun h' A' cap' w0 hP _ => rWeak_bad h' d A' cap' ws.length w0 hP hsh hok)
    (fun h' A' cap' w0 hP _ => (missedApi_bad h' d A' cap' ws.length w0 hP hsh hok).mono fun e w' k => ⟨⟨none, 0, k.1, .inl rfl⟩, k.2⟩)
    (fun h' A' cap' w0 hP _ => (rMissed_bad h' d A' cap' ws.length w0 hP hsh hok).mono fun e w' k => ⟨⟨none, 0, k.1, .inl rfl⟩, k.2⟩)
    (fun h' A' cap' w0 hP _ => readyApi_bad h' d A' cap' ws.length sl w0 hP hsh hok)
    (fun h' A' cap' w0 hP _ => rReady_bad h' d A' cap' ws.length sl w0 hP hsh hok)
theorem coverSafe_not (h : PoolH) (p : Pool) (G : Good p) (A : Option Addr) (cap : Nat) (ws : List Int) (sl : Int) (w : World) (hA : PoolAt w w.heap.size h p.i) (hI : Ints w w.heap.size A ws) (hv : farI p.i = false) (hl : ws.length ≤ 20) (hok : okPool p.i = true) (hwf : Wf ws) (hq : okWatch p ws = false) :
    Calls Try.prog 9 #[poolV h p.i, .slice A ws.length cap, .int .i64 sl] w fun e w' => e = .returned (.bool true) ∧ Below w.heap.size w w' := by
  have hsh := far_short hv
  have hl' : ws.length ≤ 1000 := by omega
  refine coverSafe_walk h p.i A cap ws sl w hA hI hv hl false noGap [] (by simp) 0 101 101 101 101 ?_ ?_ ?_ ?_ ?_ ?_ ?_ ?_
  · exact fun h' A' cap' w0 hP hi => by rw [pool_i]; exact safeApi_not h' p G hok hsh A' cap' ws w0 hP hi hl' hwf hq
  · exact fun h' A' cap' w0 hP hi => by rw [pool_i]; exact rSafe_not h' p G hok hsh A' cap' ws w0 hP hi hl' hwf hq
  · exact fun h' A' cap' w0 hP hi => by rw [pool_i]; exact weakApi_not h' p G hok hsh A' cap' ws w0 hP hi hl' hwf hq
  · exact fun h' A' cap' w0 hP hi => by rw [pool_i]; exact rWeak_not h' p G hok hsh A' cap' ws w0 hP hi hl' hwf hq
  · exact fun h' A' cap' w0 hP hi => by rw [pool_i]; exact (missedApi_not h' p G hok hsh A' cap' ws w0 hP hi hl' hwf hq).mono fun e w' k => ⟨⟨none, 0, k.1, .inl rfl⟩, k.2⟩
  · exact fun h' A' cap' w0 hP hi => by rw [pool_i]; exact (rMissed_not h' p G hok hsh A' cap' ws w0 hP hi hl' hwf hq).mono fun e w' k => ⟨⟨none, 0, k.1, .inl rfl⟩, k.2⟩
  · exact fun h' A' cap' w0 hP hi => by rw [pool_i]; exact readyApi_not h' p G hok hsh A' cap' ws sl w0 hP hi hl' hwf hq
  · exact fun h' A' cap' w0 hP hi => by rw [pool_i]; exact rReady_not h' p G hok hsh A' cap' ws sl w0 hP hi hl' hwf hq
theorem ints_missed {p : Pool} {gs : List Nat} {w : World} {b : Nat} (h : BlockIs w b 3 (intCells (natsL (missedD p gs)))) : Ints w w.heap.size (some ⟨b, 0, none⟩) (natsL (missedD p gs)) := by
  refine .inr ⟨b, 0, rfl, h.lt, fun j x hj => ?_⟩
  rw [Nat.zero_add, h.cell]
  simp [intCells, hj]
theorem missedD_len (p : Pool) (gs : List Nat) : (natsL (missedD p gs)).length = p.folk.length := by rw [natsL_length]; simp [missedD]
theorem coverSafe_good (h : PoolH) (p : Pool) (G : Good p) (A : Option Addr) (cap : Nat) (gs : List Nat) (sl : Int) (w : World) (hA : PoolAt w w.heap.size h p.i) (hI : Ints w w.heap.size A (natsL gs)) (hv : farI p.i = false) (hl : gs.length ≤ 20) (hok : okPool p.i = true) (hwt : Watch p gs) :
    Calls Try.prog 9 #[poolV h p.i, .slice A gs.length cap, .int .i64 sl] w fun e w' => e = .returned (.bool true) ∧ Below w.heap.size w w' := by
  have hsh := far_short hv
  have hlm : (natsL (missedD p gs)).length ≤ 1000 := by rw [missedD_len]; have := G.f5; omega
  have hr : ∃ n e4 : Int, (∀ (h' : PoolH) (A' : Option Addr) (cap' : Nat) (w0 : World), PoolAt w0 w0.heap.size h' p.i → Ints w0 w0.heap.size A' (natsL gs) → Calls Try.prog 21 #[poolN h' p, .slice A' gs.length cap', .int .i64 sl] w0 fun e w' => e = .returned (.tuple #[.int .i64 n, .int .i64 e4]) ∧ Below w0.heap.size w0 w') ∧
      (∀ (h' : PoolH) (A' : Option Addr) (cap' : Nat) (w0 : World), PoolAt w0 w0.heap.size h' p.i → Ints w0 w0.heap.size A' (natsL gs) → Calls Try.prog 39 #[poolN h' p, .slice A' gs.length cap', .int .i64 sl] w0 fun e w' => e = .returned (.tuple #[.int .i64 n, .int .i64 e4]) ∧ Below w0.heap.size w0 w') := by
    cases hin : inB sl 0 ((p.needs.length : Int) - 1) with
    | false => exact ⟨0, 1, fun h' A' cap' w0 hP hi => readyApi_slot h' p G hok hsh A' cap' gs sl w0 hP hi hwt hin, fun h' A' cap' w0 hP hi => rReady_slot h' p G hok hsh A' cap' gs sl w0 hP hi hwt hin⟩
    | true =>
      rw [inB_iff] at hin
      obtain ⟨s, rfl⟩ : ∃ s : Nat, sl = (s : Int) := ⟨sl.toNat, by omega⟩
      have hsl : s < gs.length := by rw [hwt.len]; omega
      exact ⟨_, _, fun h' A' cap' w0 hP hi => readyApi_any h' p G hok hsh A' cap' gs w0 hP hi hwt s hsl, fun h' A' cap' w0 hP hi => rReady_good h' p G hok hsh A' cap' gs w0 hP hi hwt s hsl⟩
  obtain ⟨n, e4, hr1, hr2⟩ := hr
  have h0 := coverSafe_walk h p.i A cap (natsL gs) sl w hA hI hv (by rw [natsL_length]; exact hl) (safeD p gs) (weakD p gs) (natsL (missedD p gs)) hlm n 0 (gapErr (weakD p gs)) 0 e4
  simp only [natsL_length gs, pool_i, missedD_len] at h0
  rw [pool_i]
  exact h0
    (fun h' A' cap' w0 hP hi => safeApi_any h' p G hok hsh A' cap' gs w0 hP hi hwt)
    (fun h' A' cap' w0 hP hi => rSafe_good h' p G hok hsh A' cap' gs w0 hP hi hwt)
    (fun h' A' cap' w0 hP hi => weakApi_any h' p G hok hsh A' cap' gs w0 hP hi hwt)
    (fun h' A' cap' w0 hP hi => rWeak_good h' p G hok hsh A' cap' gs w0 hP hi hwt)
    (fun h' A' cap' w0 hP hi => (missedApi_any h' p G hok hsh A' cap' gs w0 hP hi hwt).mono fun e w' k => by obtain ⟨⟨b, e1, _, e3⟩, e4⟩ := k; exact ⟨⟨some ⟨b, 0, none⟩, p.folk.length, e1, ints_missed e3⟩, e4⟩)
    (fun h' A' cap' w0 hP hi => (rMissed_good h' p G hok hsh A' cap' gs w0 hP hi hwt).mono fun e w' k => by obtain ⟨⟨b, e1, _, e3⟩, e4⟩ := k; exact ⟨⟨some ⟨b, 0, none⟩, p.folk.length, e1, ints_missed e3⟩, e4⟩)
    hr1 hr2
theorem coverSafe_any (h : PoolH) (d : PoolI) (A : Option Addr) (cap : Nat) (ws : List Int) (sl : Int) (w : World) (hA : PoolAt w w.heap.size h d) (hI : Ints w w.heap.size A ws) (hwf : Wf ws) :
    Calls Try.prog 9 #[poolV h d, .slice A ws.length cap, .int .i64 sl] w fun e w' => e = .returned (.bool true) ∧ Below w.heap.size w w' := by
  cases hv : farI d with
  | true => exact coverSafe_far h d A cap ws sl w hA hv
  | false =>
    by_cases hl : 20 < ws.length
    · exact coverSafe_long h d A cap ws sl w hA hv hl
    · cases hok : okPool d with
      | false => exact coverSafe_none h d A cap ws sl w hA hI hv (by omega) hok
      | true =>
        obtain ⟨p, rfl, G⟩ := good_of hok ((far_parts hv).2.2.2 hok)
        cases hq : okWatch p ws with
        | false => exact coverSafe_not h p G A cap ws sl w hA hI hv (by omega) hok hwf hq
        | true =>
          obtain ⟨e, hwt⟩ := okWatch_is G hwf hq
          obtain ⟨gs, hgs⟩ : ∃ z, gsOf ws = z := ⟨_, rfl⟩
          rw [hgs] at e hwt
          subst e
          rw [natsL_length] at hl ⊢
          exact coverSafe_good h p G A cap gs sl w hA hI hv (by omega) hok hwt

end Go.Proofs.Ytcgnibfcjadnjaa

