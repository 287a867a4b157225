/- WeakApi: Weakest; written by wip/tools/weakapi10.py. -/
import Derived.Test.YtcgnibfcjadnjaaWeak
import Derived.Test.YtcgnibfcjadnjaaApiBad
namespace Go.Proofs.Ytcgnibfcjadnjaa
open Go.RowKit

theorem results_gap45 {fn : Func} (h : fn.results = #[.cell 4 36, .tmp 5]) (t : Array Value) (W : World) (b : Nat) (v0 v1 v2 v3 u : Value)
    (hb : BlockIs W b 36 #[v0, v1, v2, v3]) (ht : t.getD 4 undef = .pointer (some ⟨b, 0, none⟩)) (hu : t.getD 5 undef = u) :
    (results fn t).run Try.prog W = .ok (.tuple #[.agg #[v0, v1, v2, v3], u]) W := by
  have hc := hb.cell
  simp only [results, h]
  simp at ht hu
  simp [go_sem, ht, hu, hc]
/-- the error of Weakest -/
def gapErr (b : GapN) : Int := if b.missing = 0 then 3 else 0
set_option maxRecDepth 100000 in
set_option maxHeartbeats 8000000 in
theorem weakApi_bad (h : PoolH) (d : PoolI) (A : Option Addr) (cap n : Nat) (w : World) (hA : PoolAt w w.heap.size h d) (hs : Short d) (hok : okPool d = false) :
    Calls Try.prog 15 #[poolV h d, .slice A n cap] w fun e w' => e = .returned (.tuple #[.agg zeroGap, .int .i64 100]) ∧ Below w.heap.size w w' := by
  have HR := Lib.hid (fun (w0 : World) (hw : Grow w w0) => readWatch_bad h d A cap n w0 (hA.grow hw) hs hok)
  clear hok hA hs
  obtain ⟨fa, fc, na, nc⟩ := h
  go_enter Try.func15, Try.ntmps15
  go_upto_region 1 with fail
  obtain ⟨W, hW, hg, hf, hr, hsz⟩ := two_blocks w 25 36 (cellsP ⟨fa, fc, na, nc⟩ d) zeroGap
  rw [hW]
  clear hW
  have hcc := hf.cell
  have HG := Lib.hid hg
  have HRS := Lib.hid hr
  clear hf hg hr
  go_wp2_with fail
  refine (HR.out W HG.out).mono ?_
  rintro e w1 ⟨rfl, hb1⟩
  have HG1 : Hid (Grow W w1) := hb1
  clear hb1 hcc
  go_upto_region 2 with fail
  obtain ⟨W2, hW2, hg2, hf2, hsz2⟩ := one_block w1 73 zeroP
  rw [hW2]
  clear hW2
  have HB : Hid (Grow W W2) := Lib.hid (HG1.out.trans hg2)
  clear hg2 hf2
  have HR5 := Lib.hid (HB.out.block HRS.out)
  have hrc := HR5.out.cell
  have hrf := HR5.out.frozen
  have HS5 := Lib.hid (stores4 HR5.out (.int .i64 0) (.int .i64 0) (.int .i64 0) (.int .i64 0))
  have HX5 := Lib.hid ((HG.out.trans HB.out).trans' (below4 (w := W2) (B := w.heap.size) (b := w.heap.size + 1) (by omega) (.int .i64 0) (.int .i64 0) (.int .i64 0) (.int .i64 0)))
  go_wp2
  refine bodyPost_ret (results_gap45 Try.results15 _ _ _ _ _ _ _ _ HS5.out rfl rfl) rfl ?_
  exact ⟨rfl, HX5.out⟩

set_option maxRecDepth 100000 in
set_option maxHeartbeats 8000000 in
theorem weakApi_not (h : PoolH) (p : Pool) (G : Good p) (hok : okPool p.i = true) (hs : Short p.i) (A : Option Addr) (cap : Nat) (ws : List Int) (w : World) (hA : PoolAt w w.heap.size h p.i) (hI : Ints w w.heap.size A ws) (hl : ws.length ≤ 1000) (hwf : Wf ws) (hq : okWatch p ws = false) :
    Calls Try.prog 15 #[poolN h p, .slice A ws.length cap] w fun e w' => e = .returned (.tuple #[.agg zeroGap, .int .i64 101]) ∧ Below w.heap.size w w' := by
  have HR : Hid (∀ w0, Grow w w0 → Calls Try.prog 44 #[poolN h p, .slice A ws.length cap] w0 fun e w' => e = .returned (.tuple #[.agg zeroP, .slice none 0 0, .int .i64 101]) ∧ Below w0.heap.size w0 w') := Lib.hid (fun (w0 : World) (hw : Grow w w0) => (readWatch_any h p G hok hs A cap ws w0 (hA.grow hw) ((hI.below hw).more hw.size) hl hwf).mono fun e w' h => by
    obtain ⟨v, gv, er, rfl, _, h2, h3⟩ := h
    obtain ⟨rfl, rfl, rfl⟩ := h2 hq
    exact ⟨rfl, h3⟩)
  clear hok hA hs hI hl hwf hq
  obtain ⟨fa, fc, na, nc⟩ := h
  go_enter Try.func15, Try.ntmps15
  go_upto_region 1 with fail
  obtain ⟨W, hW, hg, hf, hr, hsz⟩ := two_blocks w 25 36 (cellsN ⟨fa, fc, na, nc⟩ p) zeroGap
  rw [hW]
  clear hW
  have hcc := hf.cell
  have HG := Lib.hid hg
  have HRS := Lib.hid hr
  clear hf hg hr
  go_wp2_with fail
  refine (HR.out W HG.out).mono ?_
  rintro e w1 ⟨rfl, hb1⟩
  have HG1 : Hid (Grow W w1) := hb1
  clear hb1 hcc
  go_upto_region 2 with fail
  obtain ⟨W2, hW2, hg2, hf2, hsz2⟩ := one_block w1 73 zeroP
  rw [hW2]
  clear hW2
  have HB : Hid (Grow W W2) := Lib.hid (HG1.out.trans hg2)
  clear hg2 hf2
  have HR5 := Lib.hid (HB.out.block HRS.out)
  have hrc := HR5.out.cell
  have hrf := HR5.out.frozen
  have HS5 := Lib.hid (stores4 HR5.out (.int .i64 0) (.int .i64 0) (.int .i64 0) (.int .i64 0))
  have HX5 := Lib.hid ((HG.out.trans HB.out).trans' (below4 (w := W2) (B := w.heap.size) (b := w.heap.size + 1) (by omega) (.int .i64 0) (.int .i64 0) (.int .i64 0) (.int .i64 0)))
  go_wp2
  refine bodyPost_ret (results_gap45 Try.results15 _ _ _ _ _ _ _ _ HS5.out rfl rfl) rfl ?_
  exact ⟨rfl, HX5.out⟩

set_option maxRecDepth 100000 in
set_option maxHeartbeats 8000000 in
theorem weakApi_any (h : PoolH) (p : Pool) (G : Good p) (hok : okPool p.i = true) (hs : Short p.i) (A : Option Addr) (cap : Nat) (gs : List Nat) (w : World) (hA : PoolAt w w.heap.size h p.i) (hI : Ints w w.heap.size A (natsL gs)) (hwt : Watch p gs) :
    Calls Try.prog 15 #[poolN h p, .slice A gs.length cap] w fun e w' => e = .returned (.tuple #[.agg (cellsGap (weakD p gs)), .int .i64 (gapErr (weakD p gs))]) ∧ Below w.heap.size w w' := by
  have HRW := Lib.hid (fun (w0 : World) (hw : Grow w w0) => readWatch_good h p G hok hs A cap gs w0 (hA.grow hw) ((hI.below hw).more hw.size) hwt)
  have HWK := Lib.hid (fun (b : Nat) (w0 : World) (hw : Grow w w0) (hi0 : Ints w0 w0.heap.size (some ⟨b, 0, none⟩) (natsL gs)) => weakest_any h p G (some ⟨b, 0, none⟩) gs.length gs w0 (hA.grow hw) hi0 hwt)
  have HGI := Lib.hid (weak_is p gs)
  obtain ⟨b, hb⟩ : ∃ z, weakD p gs = z := ⟨_, rfl⟩
  rw [hb] at HWK HGI ⊢
  have HNO : Hid (b.missing = 0 → b = noGap) := Lib.hid (fun h => by
    rcases HGI.out with q | ⟨q, _⟩
    · exact q
    · omega)
  clear hok hI hwt hA hs hb
  obtain ⟨fa, fc, na, nc⟩ := h
  go_enter Try.func15, Try.ntmps15
  go_upto_region 1 with fail
  obtain ⟨W, hW, hg, hf, hr, hsz⟩ := two_blocks w 25 36 (cellsN ⟨fa, fc, na, nc⟩ p) zeroGap
  rw [hW]
  clear hW
  have hcc := hf.cell
  have HG := Lib.hid hg
  have HRS := Lib.hid hr
  clear hf hg hr
  go_wp2_with fail
  refine (HRW.out W HG.out).mono ?_
  rintro e w1 ⟨gb, rfl, hi1, hb1⟩
  have HG1 : Hid (Grow W w1) := hb1
  have HI1 := Lib.hid hi1
  clear hb1 hcc hi1
  go_upto_region 2 with fail
  obtain ⟨W2, hW2, hg2, hf2, hsz2⟩ := one_block w1 73 (cellsN ⟨fa, fc, na, nc⟩ p)
  rw [hW2]
  clear hW2
  have hcc := hf2.cell
  have HG2 : Hid (Grow W W2) := Lib.hid (HG1.out.trans hg2)
  have HI2 := Lib.hid ((HI1.out.below hg2).more hg2.size)
  clear hf2 hg2
  go_wp2_with fail
  refine (HWK.out gb W2 (HG.out.trans HG2.out) HI2.out).mono ?_
  rintro e w3 ⟨rfl, hb3⟩
  have HG3 : Hid (Grow W w3) := Lib.hid (HG2.out.trans hb3)
  clear hb3 hcc
  go_upto_region 5 with fail
  obtain ⟨W4, hW4, hg4, hf4, hsz4⟩ := one_block w3 36 (cellsGap b)
  rw [hW4]
  clear hW4
  have HG4 : Hid (Grow W W4) := Lib.hid (HG3.out.trans hg4)
  have hgc := hf4.cell
  have HR5 := Lib.hid (HG4.out.block HRS.out)
  have hrc := HR5.out.cell
  have hrf := HR5.out.frozen
  clear hg4 hf4
  by_cases hm : b.missing = 0
  · have hme : (b.missing == 0) = true := by simpa using hm
    obtain rfl := HNO.out hm
    have HS5 := Lib.hid (stores4 HR5.out (.int .i64 0) (.int .i64 0) (.int .i64 0) (.int .i64 0))
    have HX5 := Lib.hid ((HG.out.trans HG4.out).trans' (below4 (w := W4) (B := w.heap.size) (b := w.heap.size + 1) (by omega) (.int .i64 0) (.int .i64 0) (.int .i64 0) (.int .i64 0)))
    go_wp2
    refine bodyPost_ret (results_gap45 Try.results15 _ _ _ _ _ _ _ _ HS5.out rfl rfl) rfl ?_
    exact ⟨rfl, HX5.out⟩
  · have hme : (b.missing == 0) = false := by simpa using hm
    have HE : Hid (gapErr b = 0) := Lib.hid (by unfold gapErr; rw [if_neg hm])
    have HS5 := Lib.hid (stores4 HR5.out (.int .i64 (b.slot : Nat)) (.int .i64 (b.ill : Nat)) (.int .i64 (b.tongues : Nat)) (.int .i64 b.missing))
    have HX5 := Lib.hid ((HG.out.trans HG4.out).trans' (below4 (w := W4) (B := w.heap.size) (b := w.heap.size + 1) (by omega) (.int .i64 (b.slot : Nat)) (.int .i64 (b.ill : Nat)) (.int .i64 (b.tongues : Nat)) (.int .i64 b.missing)))
    go_wp2
    refine bodyPost_ret (results_gap45 Try.results15 _ _ _ _ _ _ _ _ HS5.out rfl rfl) rfl ?_
    exact ⟨by rw [HE.out]; rfl, HX5.out⟩

end Go.Proofs.Ytcgnibfcjadnjaa
