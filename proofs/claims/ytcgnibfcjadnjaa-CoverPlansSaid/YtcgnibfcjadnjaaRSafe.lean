/- RSafe: the specification's CheckWatch and Safe. -/
import Derived.Test.YtcgnibfcjadnjaaRCost
import Derived.Test.YtcgnibfcjadnjaaApis
namespace Go.Proofs.Ytcgnibfcjadnjaa
open Go.RowKit

set_option maxRecDepth 100000 in
set_option maxHeartbeats 4000000 in
theorem rCheckWatch_bad (h : PoolH) (d : PoolI) (A : Option Addr) (cap n : Nat) (w : World) (hA : PoolAt w w.heap.size h d) (hs : Short d) (hok : okPool d = false) :
    Calls Try.prog 63 #[poolV h d, .slice A n cap] w fun e w' => e = .returned (.int .i64 100) ∧ Below w.heap.size w w' := by
  have HC := Lib.hid (fun (w0 : World) (hw : Grow w w0) => rCheck_any h d w0 (hA.grow hw) hs)
  have h1 : poolErr d = 100 := by unfold poolErr; rw [hok]; rfl
  rw [h1] at HC
  clear h1 hok hA hs
  obtain ⟨fa, fc, na, nc⟩ := h
  go_enter Try.func63, Try.ntmps63
  go_upto_region 1 with fail
  obtain ⟨W, hW, hg, hf, hsz⟩ := one_block w 25 (cellsP ⟨fa, fc, na, nc⟩ d)
  rw [hW]
  clear hW
  have hcc := hf.cell
  have HG := Lib.hid hg
  clear hf hg
  go_wp2_with fail
  refine (HC.out W HG.out).mono ?_
  rintro e w1 ⟨rfl, hb1⟩
  have HG1 : Hid (Grow w w1) := Lib.hid (HG.out.trans hb1)
  clear hb1 hcc
  go_wp2
  go_ret
  exact ⟨rfl, HG1.out⟩

def watchErr (p : Pool) (ws : List Int) : Int := if okWatch p ws then 0 else 101
set_option maxRecDepth 100000 in
set_option maxHeartbeats 4000000 in
theorem rCheckWatch_any (h : PoolH) (p : Pool) (G : Good p) (hok : okPool p.i = true) (hs : Short p.i) (A : Option Addr) (cap : Nat) (ws : List Int) (w : World) (hA : PoolAt w w.heap.size h p.i) (hI : Ints w w.heap.size A ws) (hl : ws.length ≤ 1000) (hwf : Wf ws) :
    Calls Try.prog 63 #[poolN h p, .slice A ws.length cap] w fun e w' => e = .returned (.int .i64 (watchErr p ws)) ∧ Below w.heap.size w w' := by
  have HC := Lib.hid (fun (w0 : World) (hw : Grow w w0) => rCheck_any h p.i w0 (hA.grow hw) hs)
  have h1 : poolErr p.i = 0 := by unfold poolErr; rw [hok]; rfl
  rw [h1, pool_i] at HC
  have HIW := Lib.hid (fun (w0 : World) (hw : Grow w w0) => rIsWatch_any h p G A cap ws w0 (hA.grow hw) ((hI.below hw).more hw.size) (by omega) hwf)
  have HER : Hid (watchErr p ws = if okWatch p ws then 0 else 101) := rfl
  obtain ⟨er, her⟩ : ∃ z, watchErr p ws = z := ⟨_, rfl⟩
  rw [her] at HER ⊢
  obtain ⟨q, hq⟩ : ∃ z, okWatch p ws = z := ⟨_, rfl⟩
  rw [hq] at HER HIW
  clear h1 hok hA hs hI hl hwf her hq
  obtain ⟨fa, fc, na, nc⟩ := h
  go_enter Try.func63, Try.ntmps63
  go_upto_region 1 with fail
  obtain ⟨W, hW, hg, hf, hsz⟩ := one_block w 25 (cellsN ⟨fa, fc, na, nc⟩ p)
  rw [hW]
  clear hW
  have hcc := hf.cell
  have HF := Lib.hid hf
  have HG := Lib.hid hg
  clear hf hg
  go_wp2_with fail
  refine (HC.out W HG.out).mono ?_
  rintro e w1 ⟨rfl, hb1⟩
  have HG1 : Hid (Grow w w1) := Lib.hid (HG.out.trans hb1)
  have hcc1 := ((show Grow W w1 from hb1).block HF.out).cell
  clear hb1 hcc
  go_wp2_with fail
  refine (HIW.out w1 HG1.out).mono ?_
  rintro e w2 ⟨rfl, hb2⟩
  have HG2 : Hid (Grow w w2) := Lib.hid (HG1.out.trans hb2)
  clear hb2 hcc1
  cases q with
  | false =>
    obtain rfl : er = 101 := by rw [HER.out]; rfl
    go_wp2
    go_ret
    exact ⟨rfl, HG2.out⟩
  | true =>
    obtain rfl : er = 0 := by rw [HER.out]; rfl
    go_wp2
    go_ret
    exact ⟨rfl, HG2.out⟩

set_option maxRecDepth 100000 in
set_option maxHeartbeats 4000000 in
theorem rSafe_bad (h : PoolH) (d : PoolI) (A : Option Addr) (cap n : Nat) (w : World) (hA : PoolAt w w.heap.size h d) (hs : Short d) (hok : okPool d = false) :
    Calls Try.prog 36 #[poolV h d, .slice A n cap] w fun e w' => e = .returned (.tuple #[.bool false, .int .i64 100]) ∧ Below w.heap.size w w' := by
  have HC := Lib.hid (fun (w0 : World) (hw : Grow w w0) => rCheckWatch_bad h d A cap n w0 (hA.grow hw) hs hok)
  clear hok hA hs
  obtain ⟨fa, fc, na, nc⟩ := h
  go_enter Try.func36, Try.ntmps36
  go_upto_region 1 with fail
  obtain ⟨W, hW, hg, hf, hsz⟩ := one_block w 25 (cellsP ⟨fa, fc, na, nc⟩ d)
  rw [hW]
  clear hW
  have hcc := hf.cell
  have HG := Lib.hid hg
  clear hf hg
  go_wp2_with fail
  refine (HC.out W HG.out).mono ?_
  rintro e w1 ⟨rfl, hb1⟩
  have HG1 : Hid (Grow w w1) := Lib.hid (HG.out.trans hb1)
  clear hb1 hcc
  go_wp2
  refine bodyPost_ret (results_45 Try.results36 _ _ _ _ rfl rfl) rfl ?_
  exact ⟨rfl, HG1.out⟩

set_option maxRecDepth 100000 in
set_option maxHeartbeats 4000000 in
theorem rSafe_not (h : PoolH) (p : Pool) (G : Good p) (hok : okPool p.i = true) (hs : Short p.i) (A : Option Addr) (cap : Nat) (ws : List Int) (w : World) (hA : PoolAt w w.heap.size h p.i) (hI : Ints w w.heap.size A ws) (hl : ws.length ≤ 1000) (hwf : Wf ws) (hq : okWatch p ws = false) :
    Calls Try.prog 36 #[poolN h p, .slice A ws.length cap] w fun e w' => e = .returned (.tuple #[.bool false, .int .i64 101]) ∧ Below w.heap.size w w' := by
  have HC := Lib.hid (fun (w0 : World) (hw : Grow w w0) => rCheckWatch_any h p G hok hs A cap ws w0 (hA.grow hw) ((hI.below hw).more hw.size) hl hwf)
  have h1 : watchErr p ws = 101 := by unfold watchErr; rw [hq]; rfl
  rw [h1] at HC
  clear hok hA hs h1 hq hwf hl hI
  obtain ⟨fa, fc, na, nc⟩ := h
  go_enter Try.func36, Try.ntmps36
  go_upto_region 1 with fail
  obtain ⟨W, hW, hg, hf, hsz⟩ := one_block w 25 (cellsN ⟨fa, fc, na, nc⟩ p)
  rw [hW]
  clear hW
  have hcc := hf.cell
  have HG := Lib.hid hg
  clear hf hg
  go_wp2_with fail
  refine (HC.out W HG.out).mono ?_
  rintro e w1 ⟨rfl, hb1⟩
  have HG1 : Hid (Grow w w1) := Lib.hid (HG.out.trans hb1)
  clear hb1 hcc
  go_wp2
  refine bodyPost_ret (results_45 Try.results36 _ _ _ _ rfl rfl) rfl ?_
  exact ⟨rfl, HG1.out⟩

set_option maxRecDepth 100000 in
set_option maxHeartbeats 4000000 in
theorem rSafe_good (h : PoolH) (p : Pool) (G : Good p) (hok : okPool p.i = true) (hs : Short p.i) (A : Option Addr) (cap : Nat) (gs : List Nat) (w : World) (hA : PoolAt w w.heap.size h p.i) (hI : Ints w w.heap.size A (natsL gs)) (hwt : Watch p gs) :
    Calls Try.prog 36 #[poolN h p, .slice A gs.length cap] w fun e w' => e = .returned (.tuple #[.bool (safeD p gs), .int .i64 0]) ∧ Below w.heap.size w w' := by
  have hl : (natsL gs).length ≤ 1000 := by rw [natsL_length]; have h1 := hwt.len; have h2 := G.n3; omega
  have HC := Lib.hid (fun (w0 : World) (hw : Grow w w0) => rCheckWatch_any h p G hok hs A cap (natsL gs) w0 (hA.grow hw) ((hI.below hw).more hw.size) hl (watch_wf G hwt))
  have h1 : watchErr p (natsL gs) = 0 := by unfold watchErr; rw [ok_of_watch G hwt]; rfl
  simp only [natsL_length, h1] at HC
  have HS := Lib.hid (fun (w0 : World) (hw : Grow w w0) => rIsSafe_any h p G A cap gs w0 (hA.grow hw) ((hI.below hw).more hw.size) hwt)
  obtain ⟨sf, hsf⟩ : ∃ z, safeD p gs = z := ⟨_, rfl⟩
  rw [hsf] at HS ⊢
  clear hok hA hs h1 hwt hl hI hsf
  obtain ⟨fa, fc, na, nc⟩ := h
  go_enter Try.func36, Try.ntmps36
  go_upto_region 1 with fail
  obtain ⟨W, hW, hg, hf, hsz⟩ := one_block w 25 (cellsN ⟨fa, fc, na, nc⟩ p)
  rw [hW]
  clear hW
  have hcc := hf.cell
  have HF := Lib.hid hf
  have HG := Lib.hid hg
  clear hf hg
  go_wp2_with fail
  refine (HC.out W HG.out).mono ?_
  rintro e w1 ⟨rfl, hb1⟩
  have HG1 : Hid (Grow w w1) := Lib.hid (HG.out.trans hb1)
  have hcc1 := ((show Grow W w1 from hb1).block HF.out).cell
  clear hb1 hcc
  go_wp2_with fail
  refine (HS.out w1 HG1.out).mono ?_
  rintro e w2 ⟨rfl, hb2⟩
  have HG2 : Hid (Grow w w2) := Lib.hid (HG1.out.trans hb2)
  clear hb2 hcc1
  go_wp2
  refine bodyPost_ret (results_45 Try.results36 _ _ _ _ rfl rfl) rfl ?_
  exact ⟨rfl, HG2.out⟩

end Go.Proofs.Ytcgnibfcjadnjaa
