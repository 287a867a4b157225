/- ServedLaw: the statement on the given languages; written by wip/tools/servedlaw10.py. -/
import Derived.Test.YtcgnibfcjadnjaaWorksP
import Derived.Test.YtcgnibfcjadnjaaRGiven
import Derived.Test.YtcgnibfcjadnjaaRCopy
namespace Go.Proofs.Ytcgnibfcjadnjaa
open Go.RowKit

theorem readyTo_ill (p : Pool) (k s g : Nat) : ∀ T, readyTo ⟨p.folk, p.needs, k, p.most⟩ s g T = readyTo p s g T
  | 0 => rfl
  | T + 1 => by
    rw [readyTo_succ, readyTo_succ, readyTo_ill p k s g T]
    rfl
theorem covered_ill {p : Pool} {s g : Nat} (k : Nat) (hk : k ≤ popD g) : coveredD ⟨p.folk, p.needs, k, p.most⟩ s g = decide ((k : Int) ≤ readyD p s g) := by
  have h : readyD ⟨p.folk, p.needs, k, p.most⟩ s g = readyD p s g := by
    unfold readyD
    rw [readyTo_ill]
    rfl
  unfold coveredD
  rw [h]
  dsimp only
  rw [Int.min_eq_left (by omega)]

set_option maxRecDepth 100000 in
set_option maxHeartbeats 8000000 in
theorem coverServed_bad (h : PoolH) (d : PoolI) (A : Option Addr) (cap : Nat) (ws : List Int) (sl : Int) (B : Option Addr) (bc : Nat) (xs : List Int) (w : World) (hA : PoolAt w w.heap.size h d) (hv : validI d = false) :
    Calls Try.prog 4 #[poolV h d, .slice A ws.length cap, .agg #[.int .i64 sl, .slice B xs.length bc]] w fun e w' => e = .returned (.bool true) ∧ Below w.heap.size w w' := by
  have HV := Lib.hid (fun (w0 : World) (hw : Grow w w0) => valid_any h d w0 (hA.grow hw))
  rw [hv] at HV
  clear hA hv
  obtain ⟨fa, fc, na, nc⟩ := h
  go_enter Try.func4, Try.ntmps4
  go_upto_region 1 with fail
  obtain ⟨W, hW, hg, hf, hx, hsz⟩ := two_blocks w 25 47 (cellsP ⟨fa, fc, na, nc⟩ d) #[.int .i64 sl, .slice B xs.length bc]
  rw [hW]
  clear hW
  have hcc := hf.cell
  have hxc := hx.cell
  have HG0 := Lib.hid hg
  have HF0 := Lib.hid hf
  have HX0 := Lib.hid hx
  clear hf hg hx
  go_wp2_with fail
  refine (HV.out W HG0.out).mono ?_
  rintro e w1 ⟨rfl, hb1⟩
  have HG1 : Hid (Grow w w1) := Lib.hid (HG0.out.trans hb1)
  have HF1 := Lib.hid ((show Grow W w1 from hb1).block HF0.out)
  have HX1 := Lib.hid ((show Grow W w1 from hb1).block HX0.out)
  have hcc := HF1.out.cell
  have hxc := HX1.out.cell
  clear hb1
  clear HF0 HX0
  go_wp2_with fail
  refine (works_any _).mono ?_
  rintro e w9 ⟨rfl, hb9⟩
  have HG9 : Hid (Grow w w9) := Lib.hid (HG1.out.trans hb9)
  clear hb9
  go_wp2
  go_ret
  exact ⟨rfl, HG9.out⟩

set_option maxRecDepth 100000 in
set_option maxHeartbeats 8000000 in
theorem coverServed_long (h : PoolH) (p : Pool) (_G : Good p) (A : Option Addr) (cap : Nat) (ws : List Int) (sl : Int) (B : Option Addr) (bc : Nat) (xs : List Int) (w : World) (hA : PoolAt w w.heap.size h p.i) (hv : validI p.i = true) (hl : 20 < ws.length) :
    Calls Try.prog 4 #[poolN h p, .slice A ws.length cap, .agg #[.int .i64 sl, .slice B xs.length bc]] w fun e w' => e = .returned (.bool true) ∧ Below w.heap.size w w' := by
  have HV := Lib.hid (fun (w0 : World) (hw : Grow w w0) => valid_any h p.i w0 (hA.grow hw))
  rw [hv, pool_i] at HV
  have hl1 : decide ((20 : Int) < (ws.length : Int)) = true := decide_eq_true (by omega)
  have hl2 : decide (20 < ws.length) = true := decide_eq_true (by omega)
  clear hA hv _G
  obtain ⟨fa, fc, na, nc⟩ := h
  go_enter Try.func4, Try.ntmps4
  go_upto_region 1 with fail
  obtain ⟨W, hW, hg, hf, hx, hsz⟩ := two_blocks w 25 47 (cellsN ⟨fa, fc, na, nc⟩ p) #[.int .i64 sl, .slice B xs.length bc]
  rw [hW]
  clear hW
  have hcc := hf.cell
  have hxc := hx.cell
  have HG0 := Lib.hid hg
  have HF0 := Lib.hid hf
  have HX0 := Lib.hid hx
  clear hf hg hx
  go_wp2_with fail
  refine (HV.out W HG0.out).mono ?_
  rintro e w1 ⟨rfl, hb1⟩
  have HG1 : Hid (Grow w w1) := Lib.hid (HG0.out.trans hb1)
  have HF1 := Lib.hid ((show Grow W w1 from hb1).block HF0.out)
  have HX1 := Lib.hid ((show Grow W w1 from hb1).block HX0.out)
  have hcc := HF1.out.cell
  have hxc := HX1.out.cell
  clear hb1
  clear HF0 HX0
  go_wp2_with fail
  refine (works_any _).mono ?_
  rintro e w9 ⟨rfl, hb9⟩
  have HG9 : Hid (Grow w w9) := Lib.hid (HG1.out.trans hb9)
  clear hb9
  go_wp2
  go_ret
  exact ⟨rfl, HG9.out⟩

set_option maxRecDepth 100000 in
set_option maxHeartbeats 8000000 in
theorem coverServed_wide (h : PoolH) (p : Pool) (_G : Good p) (A : Option Addr) (cap : Nat) (ws : List Int) (sl : Int) (B : Option Addr) (bc : Nat) (xs : List Int) (w : World) (hA : PoolAt w w.heap.size h p.i) (hv : validI p.i = true) (hl : ws.length ≤ 20) (hm : 20 < xs.length) :
    Calls Try.prog 4 #[poolN h p, .slice A ws.length cap, .agg #[.int .i64 sl, .slice B xs.length bc]] w fun e w' => e = .returned (.bool true) ∧ Below w.heap.size w w' := by
  have HV := Lib.hid (fun (w0 : World) (hw : Grow w w0) => valid_any h p.i w0 (hA.grow hw))
  rw [hv, pool_i] at HV
  have hl1 : decide ((20 : Int) < (ws.length : Int)) = false := decide_eq_false (by omega)
  have hl2 : decide (20 < ws.length) = false := decide_eq_false (by omega)
  have hm1 : decide ((20 : Int) < (xs.length : Int)) = true := decide_eq_true (by omega)
  have hm2 : decide (20 < xs.length) = true := decide_eq_true (by omega)
  clear hA hv _G
  obtain ⟨fa, fc, na, nc⟩ := h
  go_enter Try.func4, Try.ntmps4
  go_upto_region 1 with fail
  obtain ⟨W, hW, hg, hf, hx, hsz⟩ := two_blocks w 25 47 (cellsN ⟨fa, fc, na, nc⟩ p) #[.int .i64 sl, .slice B xs.length bc]
  rw [hW]
  clear hW
  have hcc := hf.cell
  have hxc := hx.cell
  have HG0 := Lib.hid hg
  have HF0 := Lib.hid hf
  have HX0 := Lib.hid hx
  clear hf hg hx
  go_wp2_with fail
  refine (HV.out W HG0.out).mono ?_
  rintro e w1 ⟨rfl, hb1⟩
  have HG1 : Hid (Grow w w1) := Lib.hid (HG0.out.trans hb1)
  have HF1 := Lib.hid ((show Grow W w1 from hb1).block HF0.out)
  have HX1 := Lib.hid ((show Grow W w1 from hb1).block HX0.out)
  have hcc := HF1.out.cell
  have hxc := HX1.out.cell
  clear hb1
  clear HF0 HX0
  go_wp2_with fail
  refine (works_any _).mono ?_
  rintro e w9 ⟨rfl, hb9⟩
  have HG9 : Hid (Grow w w9) := Lib.hid (HG1.out.trans hb9)
  clear hb9
  go_wp2
  go_ret
  exact ⟨rfl, HG9.out⟩

set_option maxRecDepth 100000 in
set_option maxHeartbeats 8000000 in
theorem coverServed_not (h : PoolH) (p : Pool) (_G : Good p) (A : Option Addr) (cap : Nat) (ws : List Int) (sl : Int) (B : Option Addr) (bc : Nat) (xs : List Int) (w : World) (hA : PoolAt w w.heap.size h p.i) (hv : validI p.i = true) (hI : Ints w w.heap.size A ws) (hl : ws.length ≤ 20) (hm : xs.length ≤ 20) (hwf : Wf ws) (hq : okWatch p ws = false) :
    Calls Try.prog 4 #[poolN h p, .slice A ws.length cap, .agg #[.int .i64 sl, .slice B xs.length bc]] w fun e w' => e = .returned (.bool true) ∧ Below w.heap.size w w' := by
  have HV := Lib.hid (fun (w0 : World) (hw : Grow w w0) => valid_any h p.i w0 (hA.grow hw))
  rw [hv, pool_i] at HV
  have HIW := Lib.hid (fun (w0 : World) (hw : Grow w w0) => rIsWatch_any h p _G A cap ws w0 (hA.grow hw) ((hI.below hw).more hw.size) (by omega) hwf)
  have hl1 : decide ((20 : Int) < (ws.length : Int)) = false := decide_eq_false (by omega)
  have hl2 : decide (20 < ws.length) = false := decide_eq_false (by omega)
  have hm1 : decide ((20 : Int) < (xs.length : Int)) = false := decide_eq_false (by omega)
  have hm2 : decide (20 < xs.length) = false := decide_eq_false (by omega)
  rw [hq] at HIW
  clear hA hv hI hwf hq _G
  obtain ⟨fa, fc, na, nc⟩ := h
  go_enter Try.func4, Try.ntmps4
  go_upto_region 1 with fail
  obtain ⟨W, hW, hg, hf, hx, hsz⟩ := two_blocks w 25 47 (cellsN ⟨fa, fc, na, nc⟩ p) #[.int .i64 sl, .slice B xs.length bc]
  rw [hW]
  clear hW
  have hcc := hf.cell
  have hxc := hx.cell
  have HG0 := Lib.hid hg
  have HF0 := Lib.hid hf
  have HX0 := Lib.hid hx
  clear hf hg hx
  go_wp2_with fail
  refine (HV.out W HG0.out).mono ?_
  rintro e w1 ⟨rfl, hb1⟩
  have HG1 : Hid (Grow w w1) := Lib.hid (HG0.out.trans hb1)
  have HF1 := Lib.hid ((show Grow W w1 from hb1).block HF0.out)
  have HX1 := Lib.hid ((show Grow W w1 from hb1).block HX0.out)
  have hcc := HF1.out.cell
  have hxc := HX1.out.cell
  clear hb1
  clear HF0 HX0
  go_wp2_with fail
  refine (HIW.out w1 HG1.out).mono ?_
  rintro e w2 ⟨rfl, hb2⟩
  have HG2 : Hid (Grow w w2) := Lib.hid (HG1.out.trans hb2)
  have HF2 := Lib.hid ((show Grow w1 w2 from hb2).block HF1.out)
  have HX2 := Lib.hid ((show Grow w1 w2 from hb2).block HX1.out)
  have hcc := HF2.out.cell
  have hxc := HX2.out.cell
  clear hb2
  clear HF1 HX1
  go_wp2_with fail
  refine (works_any _).mono ?_
  rintro e w9 ⟨rfl, hb9⟩
  have HG9 : Hid (Grow w w9) := Lib.hid (HG2.out.trans hb9)
  clear hb9
  go_wp2
  go_ret
  exact ⟨rfl, HG9.out⟩

set_option maxRecDepth 100000 in
set_option maxHeartbeats 8000000 in
theorem coverServed_slot (h : PoolH) (p : Pool) (_G : Good p) (A : Option Addr) (cap : Nat) (ws : List Int) (sl : Int) (B : Option Addr) (bc : Nat) (xs : List Int) (w : World) (hA : PoolAt w w.heap.size h p.i) (hv : validI p.i = true) (hI : Ints w w.heap.size A ws) (hl : ws.length ≤ 20) (hm : xs.length ≤ 20) (hwf : Wf ws) (hq : okWatch p ws = true) (hs : inB sl 0 ((p.needs.length : Int) - 1) = false) :
    Calls Try.prog 4 #[poolN h p, .slice A ws.length cap, .agg #[.int .i64 sl, .slice B xs.length bc]] w fun e w' => e = .returned (.bool true) ∧ Below w.heap.size w w' := by
  have HV := Lib.hid (fun (w0 : World) (hw : Grow w w0) => valid_any h p.i w0 (hA.grow hw))
  rw [hv, pool_i] at HV
  have HIW := Lib.hid (fun (w0 : World) (hw : Grow w w0) => rIsWatch_any h p _G A cap ws w0 (hA.grow hw) ((hI.below hw).more hw.size) (by omega) hwf)
  have HSL := Lib.hid (fun (w0 : World) (_ : Grow w w0) => rIsSlot_any h p _G sl w0)
  have hl1 : decide ((20 : Int) < (ws.length : Int)) = false := decide_eq_false (by omega)
  have hl2 : decide (20 < ws.length) = false := decide_eq_false (by omega)
  have hm1 : decide ((20 : Int) < (xs.length : Int)) = false := decide_eq_false (by omega)
  have hm2 : decide (20 < xs.length) = false := decide_eq_false (by omega)
  rw [hq] at HIW
  rw [hs] at HSL
  clear hA hv hI hwf hq hs _G
  obtain ⟨fa, fc, na, nc⟩ := h
  go_enter Try.func4, Try.ntmps4
  go_upto_region 1 with fail
  obtain ⟨W, hW, hg, hf, hx, hsz⟩ := two_blocks w 25 47 (cellsN ⟨fa, fc, na, nc⟩ p) #[.int .i64 sl, .slice B xs.length bc]
  rw [hW]
  clear hW
  have hcc := hf.cell
  have hxc := hx.cell
  have HG0 := Lib.hid hg
  have HF0 := Lib.hid hf
  have HX0 := Lib.hid hx
  clear hf hg hx
  go_wp2_with fail
  refine (HV.out W HG0.out).mono ?_
  rintro e w1 ⟨rfl, hb1⟩
  have HG1 : Hid (Grow w w1) := Lib.hid (HG0.out.trans hb1)
  have HF1 := Lib.hid ((show Grow W w1 from hb1).block HF0.out)
  have HX1 := Lib.hid ((show Grow W w1 from hb1).block HX0.out)
  have hcc := HF1.out.cell
  have hxc := HX1.out.cell
  clear hb1
  clear HF0 HX0
  go_wp2_with fail
  refine (HIW.out w1 HG1.out).mono ?_
  rintro e w2 ⟨rfl, hb2⟩
  have HG2 : Hid (Grow w w2) := Lib.hid (HG1.out.trans hb2)
  have HF2 := Lib.hid ((show Grow w1 w2 from hb2).block HF1.out)
  have HX2 := Lib.hid ((show Grow w1 w2 from hb2).block HX1.out)
  have hcc := HF2.out.cell
  have hxc := HX2.out.cell
  clear hb2
  clear HF1 HX1
  go_wp2_with fail
  refine (HSL.out w2 HG2.out).mono ?_
  rintro e w3 ⟨rfl, hb3⟩
  have HG3 : Hid (Grow w w3) := Lib.hid (HG2.out.trans hb3)
  have HF3 := Lib.hid ((show Grow w2 w3 from hb3).block HF2.out)
  have HX3 := Lib.hid ((show Grow w2 w3 from hb3).block HX2.out)
  have hcc := HF3.out.cell
  have hxc := HX3.out.cell
  clear hb3
  clear HF2 HX2
  go_wp2_with fail
  refine (works_any _).mono ?_
  rintro e w9 ⟨rfl, hb9⟩
  have HG9 : Hid (Grow w w9) := Lib.hid (HG3.out.trans hb9)
  clear hb9
  go_wp2
  go_ret
  exact ⟨rfl, HG9.out⟩

set_option maxRecDepth 100000 in
set_option maxHeartbeats 8000000 in
theorem coverServed_good (h : PoolH) (p : Pool) (_G : Good p) (A : Option Addr) (cap : Nat) (gs : List Nat) (s : Nat) (B : Option Addr) (bc : Nat) (xs : List Int) (w : World) (hA : PoolAt w w.heap.size h p.i) (hv : validI p.i = true) (hI : Ints w w.heap.size A (natsL gs)) (hJ : Ints w w.heap.size B xs) (hl : gs.length ≤ 20) (hm : xs.length ≤ 20) (hwf : Wf (natsL gs)) (hwt : Watch p gs) (hs : s < gs.length) :
    Calls Try.prog 4 #[poolN h p, .slice A gs.length cap, .agg #[.int .i64 (s : Nat), .slice B xs.length bc]] w fun e w' => e = .returned (.bool true) ∧ Below w.heap.size w w' := by
  have HV := Lib.hid (fun (w0 : World) (hw : Grow w w0) => valid_any h p.i w0 (hA.grow hw))
  rw [hv, pool_i] at HV
  have HIW := Lib.hid (fun (w0 : World) (hw : Grow w w0) => rIsWatch_any h p _G A cap (natsL gs) w0 (hA.grow hw) ((hI.below hw).more hw.size) (by simp only [natsL_length]; omega) hwf)
  have hln := hwt.len
  have hsn : s < p.needs.length := by omega
  have HSL := Lib.hid (fun (w0 : World) (_ : Grow w w0) => rIsSlot_any h p _G (s : Int) w0)
  have hq : okWatch p (natsL gs) = true := ok_of_watch _G hwt
  have hin : inB (s : Int) 0 ((p.needs.length : Int) - 1) = true := inB_iff.2 ⟨by omega, by omega⟩
  rw [hq] at HIW
  rw [hin] at HSL
  simp only [natsL_length] at HIW
  have hok : okPool p.i = true := by unfold validI at hv; rw [Bool.and_eq_true] at hv; exact hv.2
  have hsh : Short p.i := by unfold validI at hv; rw [Bool.and_eq_true, Bool.not_eq_true'] at hv; exact far_short hv.1
  have hgat : ∃ g, gs[s]? = some g := ⟨_, List.getElem?_eq_getElem hs⟩
  obtain ⟨g, hgs⟩ := hgat
  have hg32 := hwt.g32 _G hgs
  have hgd : gs.getD s 0 = g := by rw [List.getD_eq_getElem?_getD, hgs]; rfl
  have HRD := Lib.hid (fun (w0 : World) (hw : Grow w w0) => readyApi_any h p _G hok hsh A cap gs w0 (hA.grow hw) ((hI.below hw).more hw.size) hwt s hs)
  rw [hgd] at HRD
  have HIN := Lib.hid (fun (w0 : World) (hw : Grow w w0) => (hI.below hw).more hw.size)
  have HGS := Lib.hid hgs
  have HSZ := Lib.hid (fun (w0 : World) => rSize_any g w0 (by omega))
  have hrb : -1 ≤ readyD p s g ∧ readyD p s g ≤ popD g := ⟨ready_low p s g, ready_high p s g⟩
  have hp5 := pop_le5 g hg32
  have HGV : Hid (readyD p s g < 0 → ∀ (w0 : World) (hw : Grow w w0), Calls Try.prog 22 #[poolN h p, .int .i64 (s : Nat), .int .i64 (g : Nat), .slice B xs.length bc] w0 fun e w' => e = .returned (.bool false) ∧ Below w0.heap.size w0 w') := Lib.hid (fun hr w0 hw => (rGiven_any h p _G s g hsn hg32 B bc xs w0 (hA.grow hw) ((hJ.below hw).more hw.size) hm).mono fun e w' hp => by
    obtain ⟨b, rfl, h1, h2⟩ := hp
    cases b with
    | false => exact ⟨rfl, h2⟩
    | true => have := ready_of_enough _G hsn hg32 (h1 rfl); omega)
  have hn3 := _G.n3
  have HCP := Lib.hid (fun (w0 : World) (hw : Grow w w0) => rCopy_any h p.i w0.heap.size w0 (hA.grow hw) (Nat.le_refl _) (by show (List.map _ _).length ≤ 20; rw [List.length_map]; have := _G.f5; omega) (by show (List.map _ _).length ≤ 20; rw [List.length_map]; omega) (fun x hx => by
    obtain ⟨r, hr, rfl⟩ := List.mem_map.1 hx
    have h1 := (_G.rows r hr).1
    have h2 := _G.t3
    rw [natsL_length]
    omega))
  simp only [pool_i] at HCP
  have HCV := Lib.hid (fun (k : Nat) (hk : k ≤ 3) (hkp : k ≤ popD g) (h' : PoolH) (w0 : World) (hP : PoolAt w0 w0.heap.size h' p.i) => (show Calls Try.prog 24 #[poolN h' ⟨p.folk, p.needs, k, p.most⟩, .int .i64 (s : Nat), .int .i64 (g : Nat)] w0 fun e w' => e = .returned (.bool (decide ((k : Int) ≤ readyD p s g))) ∧ Below w0.heap.size w0 w' from
    (rCovered_any h' ⟨p.folk, p.needs, k, p.most⟩ ⟨_G.f1, _G.f5, _G.n1, _G.n3, _G.t1, _G.t3, _G.rows, _G.folk, hk, _G.most⟩ s g w0 hP hsn hg32).mono fun e w' hp => ⟨by rw [hp.1, covered_ill k hkp], hp.2⟩))
  obtain ⟨rd, hrd⟩ : ∃ z, readyD p s g = z := ⟨_, rfl⟩
  obtain ⟨pg, hpg⟩ : ∃ z, popD g = z := ⟨_, rfl⟩
  rw [hrd] at HRD hrb HGV HCV
  rw [hpg] at HSZ hp5 hrb HCV
  have hs0 : (0 : Int) ≤ (s : Int) := by omega
  have hs1 : (s : Int) < (gs.length : Int) := by omega
  have hl1 : decide ((20 : Int) < (gs.length : Int)) = false := decide_eq_false (by omega)
  have hl2 : decide (20 < gs.length) = false := decide_eq_false (by omega)
  have hm1 : decide ((20 : Int) < (xs.length : Int)) = false := decide_eq_false (by omega)
  have hm2 : decide (20 < xs.length) = false := decide_eq_false (by omega)
  have hr1 : decide (rd < -1) = false := decide_eq_false (by omega)
  have hr2 : decide ((pg : Int) < rd) = false := decide_eq_false (by omega)
  clear hA hv hI hwf hq hin hok hsh hwt hgs hgd hrd hpg hJ _G hln
  obtain ⟨fa, fc, na, nc⟩ := h
  go_enter Try.func4, Try.ntmps4
  go_upto_region 1 with fail
  obtain ⟨W, hW, hg, hf, hx, hsz⟩ := two_blocks w 25 47 (cellsN ⟨fa, fc, na, nc⟩ p) #[.int .i64 (s : Nat), .slice B xs.length bc]
  rw [hW]
  clear hW
  have hcc := hf.cell
  have hxc := hx.cell
  have HG0 := Lib.hid hg
  have HF0 := Lib.hid hf
  have HX0 := Lib.hid hx
  clear hf hg hx
  go_wp2_with fail
  refine (HV.out W HG0.out).mono ?_
  rintro e w1 ⟨rfl, hb1⟩
  have HG1 : Hid (Grow w w1) := Lib.hid (HG0.out.trans hb1)
  have HF1 := Lib.hid ((show Grow W w1 from hb1).block HF0.out)
  have HX1 := Lib.hid ((show Grow W w1 from hb1).block HX0.out)
  have hcc := HF1.out.cell
  have hxc := HX1.out.cell
  clear hb1
  clear HF0 HX0
  go_wp2_with fail
  refine (HIW.out w1 HG1.out).mono ?_
  rintro e w2 ⟨rfl, hb2⟩
  have HG2 : Hid (Grow w w2) := Lib.hid (HG1.out.trans hb2)
  have HF2 := Lib.hid ((show Grow w1 w2 from hb2).block HF1.out)
  have HX2 := Lib.hid ((show Grow w1 w2 from hb2).block HX1.out)
  have hcc := HF2.out.cell
  have hxc := HX2.out.cell
  clear hb2
  clear HF1 HX1
  go_wp2_with fail
  refine (HSL.out w2 HG2.out).mono ?_
  rintro e w3 ⟨rfl, hb3⟩
  have HG3 : Hid (Grow w w3) := Lib.hid (HG2.out.trans hb3)
  have HF3 := Lib.hid ((show Grow w2 w3 from hb3).block HF2.out)
  have HX3 := Lib.hid ((show Grow w2 w3 from hb3).block HX2.out)
  have hcc := HF3.out.cell
  have hxc := HX3.out.cell
  clear hb3
  clear HF2 HX2
  go_upto_region 3 with fail
  go_wp2_with fail
  refine (HRD.out w3 HG3.out).mono ?_
  rintro e w4 ⟨rfl, hb4⟩
  have HG4 : Hid (Grow w w4) := Lib.hid (HG3.out.trans hb4)
  have HF4 := Lib.hid ((show Grow w3 w4 from hb4).block HF3.out)
  have HX4 := Lib.hid ((show Grow w3 w4 from hb4).block HX3.out)
  have hcc := HF4.out.cell
  have hxc := HX4.out.cell
  obtain ⟨ab, ao, g', rfl, hab, hac, HX⟩ := ints_nat (HIN.out w4 HG4.out) hs
  obtain rfl : g = g' := by have h := HX.out; rw [HGS.out] at h; exact Option.some.inj h
  have HAC := Lib.hid hac
  clear hb4 HF3 HX3
  go_wp2_with fail
  refine (HSZ.out w4).mono ?_
  rintro e w5 ⟨rfl, rfl⟩
  rename World => w4
  clear hac
  by_cases hneg : rd < 0
  · have hrn : decide (rd < 0) = true := decide_eq_true hneg
    have HGN := Lib.hid (fun w0 hw => HGV.out hneg w0 hw)
    go_upto_region 5 with fail
    clear hcc hxc
    refine wp_region_lit 28 [[], [(0, 54)], [(1, 55)], [(2, 56)], [(2, 56), (3, 57)], [(2, 56), (4, 58)], [(5, 59)], [(6, 60)], [(6, 60)], [(6, 60), (7, 61), (8, 62)], [(6, 60), (9, 63)], [(10, 64)], [(11, 65)], [(11, 65), (12, 66)], [(11, 65), (13, 67)], [(14, 68)], [(14, 68)], [(14, 68), (16, 70)], [(14, 68)], [(14, 68)], [(14, 68), (19, 73)], [(14, 68), (18, 72), (20, 74)], [(14, 68), (21, 75)], [(14, 68)], [(14, 68), (23, 77)], [(14, 68), (15, 69), (17, 71), (22, 76), (24, 78)], [(11, 65), (14, 68), (25, 79)], [(11, 65), (26, 80)]] Grow (fun qi v w' => match qi with
        | 0 => v = .int .i64 0
        | 1 => v = .bool false
        | 2 => v = .bool false
        | 3 => v = .int .i64 rd
        | 4 => v = .bool false
        | 5 => v = .bool false
        | 6 => v = .bool false
        | 7 => v = .int .i64 rd
        | 8 => v = .int .i64 (pg : Nat)
        | 9 => v = .bool false
        | 10 => v = .bool false
        | 11 => v = .bool false
        | 12 => v = .int .i64 rd
        | 13 => v = .bool true
        | 14 => v = .bool true
        | 15 => v = poolN ⟨fa, fc, na, nc⟩ p
        | 16 => v = .pointer (some ⟨w.heap.size + 1, 0, none⟩)
        | 17 => v = .int .i64 (s : Nat)
        | 18 => v = .slice (some ⟨ab, ao, none⟩) gs.length cap
        | 19 => v = .pointer (some ⟨w.heap.size + 1, 0, none⟩)
        | 20 => v = .int .i64 (s : Nat)
        | 21 => v = .pointer (some ⟨ab, ao + s, none⟩)
        | 22 => v = .int .i64 (g : Nat)
        | 23 => v = .pointer (some ⟨w.heap.size + 1, 1, none⟩)
        | 24 => v = .slice B xs.length bc
        | 25 => v = .bool false
        | 26 => v = .bool false
        | 27 => v = .bool false
        | _ => False) (by kernel_rfl) (by kernel_rfl) (fun _ _ _ => Grow.trans) Grow.refl ?_ ?_ ?_
    · intro i v y y' h k
      match i, h with
      | 0, h | 1, h | 2, h | 3, h | 4, h | 5, h | 6, h | 7, h | 8, h | 9, h | 10, h | 11, h | 12, h | 13, h | 14, h | 15, h | 16, h | 17, h | 18, h | 19, h | 20, h | 21, h | 22, h | 23, h | 24, h | 25, h | 26, h | 27, h => exact h
    · simp only [StepsLit, List.take_succ_cons, List.take_zero]
      refine ⟨?_, ?_, ?_, ?_, ?_, ?_, ?_, ?_, ?_, ?_, ?_, ?_, ?_, ?_, ?_, ?_, ?_, ?_, ?_, ?_, ?_, ?_, ?_, ?_, ?_, ?_, ?_, ?_, trivial⟩
      · intro w5 hR
        have hGw : Grow w4 w5 := hR.of_drew
        have HGW := Lib.hid hGw
        have hcc := (HGW.out.block HF4.out).cell
        have hxc := (HGW.out.block HX4.out).cell
        have hac := HGW.out.cell HAC.out
        clear hR hGw
        simp only [depV]
        try go_simp
        all_goals first
          | (with_reducible exact Grow.refl _)
          | (with_reducible exact ⟨Grow.refl _, rfl⟩)
      · intro w5 hR
        have hGw : Grow w4 w5 := hR.of_drew
        have HGW := Lib.hid hGw
        have hcc := (HGW.out.block HF4.out).cell
        have hxc := (HGW.out.block HX4.out).cell
        have hac := HGW.out.cell HAC.out
        clear hR hGw
        simp only [depV]
        rintro _ rfl
        try go_simp
        all_goals first
          | (with_reducible exact Grow.refl _)
          | (with_reducible exact ⟨Grow.refl _, rfl⟩)
      · intro w5 hR
        have hGw : Grow w4 w5 := hR.of_drew
        have HGW := Lib.hid hGw
        have hcc := (HGW.out.block HF4.out).cell
        have hxc := (HGW.out.block HX4.out).cell
        have hac := HGW.out.cell HAC.out
        clear hR hGw
        simp only [depV]
        rintro _ rfl
        try go_simp
        all_goals first
          | (with_reducible exact Grow.refl _)
          | (with_reducible exact ⟨Grow.refl _, rfl⟩)
      · intro w5 hR
        have hGw : Grow w4 w5 := hR.of_drew
        have HGW := Lib.hid hGw
        have hcc := (HGW.out.block HF4.out).cell
        have hxc := (HGW.out.block HX4.out).cell
        have hac := HGW.out.cell HAC.out
        clear hR hGw
        simp only [depV]
        rintro _ rfl
        try go_simp
        all_goals first
          | (with_reducible exact Grow.refl _)
          | (with_reducible exact ⟨Grow.refl _, rfl⟩)
      · intro w5 hR
        have hGw : Grow w4 w5 := hR.of_drew
        have HGW := Lib.hid hGw
        have hcc := (HGW.out.block HF4.out).cell
        have hxc := (HGW.out.block HX4.out).cell
        have hac := HGW.out.cell HAC.out
        clear hR hGw
        simp only [depV]
        rintro _ rfl
        rintro _ rfl
        try go_simp
        all_goals first
          | (with_reducible exact Grow.refl _)
          | (with_reducible exact ⟨Grow.refl _, rfl⟩)
      · intro w5 hR
        have hGw : Grow w4 w5 := hR.of_drew
        have HGW := Lib.hid hGw
        have hcc := (HGW.out.block HF4.out).cell
        have hxc := (HGW.out.block HX4.out).cell
        have hac := HGW.out.cell HAC.out
        clear hR hGw
        simp only [depV]
        rintro _ rfl
        rintro _ rfl
        try go_simp
        all_goals first
          | (with_reducible exact Grow.refl _)
          | (with_reducible exact ⟨Grow.refl _, rfl⟩)
      · intro w5 hR
        have hGw : Grow w4 w5 := hR.of_drew
        have HGW := Lib.hid hGw
        have hcc := (HGW.out.block HF4.out).cell
        have hxc := (HGW.out.block HX4.out).cell
        have hac := HGW.out.cell HAC.out
        clear hR hGw
        simp only [depV]
        rintro _ rfl
        try go_simp
        all_goals first
          | (with_reducible exact Grow.refl _)
          | (with_reducible exact ⟨Grow.refl _, rfl⟩)
      · intro w5 hR
        have hGw : Grow w4 w5 := hR.of_drew
        have HGW := Lib.hid hGw
        have hcc := (HGW.out.block HF4.out).cell
        have hxc := (HGW.out.block HX4.out).cell
        have hac := HGW.out.cell HAC.out
        clear hR hGw
        simp only [depV]
        rintro _ rfl
        try go_simp
        all_goals first
          | (with_reducible exact Grow.refl _)
          | (with_reducible exact ⟨Grow.refl _, rfl⟩)
      · intro w5 hR
        have hGw : Grow w4 w5 := hR.of_drew
        have HGW := Lib.hid hGw
        have hcc := (HGW.out.block HF4.out).cell
        have hxc := (HGW.out.block HX4.out).cell
        have hac := HGW.out.cell HAC.out
        clear hR hGw
        simp only [depV]
        rintro _ rfl
        try go_simp
        all_goals first
          | (with_reducible exact Grow.refl _)
          | (with_reducible exact ⟨Grow.refl _, rfl⟩)
      · intro w5 hR
        have hGw : Grow w4 w5 := hR.of_drew
        have HGW := Lib.hid hGw
        have hcc := (HGW.out.block HF4.out).cell
        have hxc := (HGW.out.block HX4.out).cell
        have hac := HGW.out.cell HAC.out
        clear hR hGw
        simp only [depV]
        rintro _ rfl
        rintro _ rfl
        rintro _ rfl
        try go_simp
        all_goals first
          | (with_reducible exact Grow.refl _)
          | (with_reducible exact ⟨Grow.refl _, rfl⟩)
      · intro w5 hR
        have hGw : Grow w4 w5 := hR.of_drew
        have HGW := Lib.hid hGw
        have hcc := (HGW.out.block HF4.out).cell
        have hxc := (HGW.out.block HX4.out).cell
        have hac := HGW.out.cell HAC.out
        clear hR hGw
        simp only [depV]
        rintro _ rfl
        rintro _ rfl
        try go_simp
        all_goals first
          | (with_reducible exact Grow.refl _)
          | (with_reducible exact ⟨Grow.refl _, rfl⟩)
      · intro w5 hR
        have hGw : Grow w4 w5 := hR.of_drew
        have HGW := Lib.hid hGw
        have hcc := (HGW.out.block HF4.out).cell
        have hxc := (HGW.out.block HX4.out).cell
        have hac := HGW.out.cell HAC.out
        clear hR hGw
        simp only [depV]
        rintro _ rfl
        try go_simp
        all_goals first
          | (with_reducible exact Grow.refl _)
          | (with_reducible exact ⟨Grow.refl _, rfl⟩)
      · intro w5 hR
        have hGw : Grow w4 w5 := hR.of_drew
        have HGW := Lib.hid hGw
        have hcc := (HGW.out.block HF4.out).cell
        have hxc := (HGW.out.block HX4.out).cell
        have hac := HGW.out.cell HAC.out
        clear hR hGw
        simp only [depV]
        rintro _ rfl
        try go_simp
        all_goals first
          | (with_reducible exact Grow.refl _)
          | (with_reducible exact ⟨Grow.refl _, rfl⟩)
      · intro w5 hR
        have hGw : Grow w4 w5 := hR.of_drew
        have HGW := Lib.hid hGw
        have hcc := (HGW.out.block HF4.out).cell
        have hxc := (HGW.out.block HX4.out).cell
        have hac := HGW.out.cell HAC.out
        clear hR hGw
        simp only [depV]
        rintro _ rfl
        rintro _ rfl
        try go_simp
        all_goals first
          | (with_reducible exact Grow.refl _)
          | (with_reducible exact ⟨Grow.refl _, rfl⟩)
      · intro w5 hR
        have hGw : Grow w4 w5 := hR.of_drew
        have HGW := Lib.hid hGw
        have hcc := (HGW.out.block HF4.out).cell
        have hxc := (HGW.out.block HX4.out).cell
        have hac := HGW.out.cell HAC.out
        clear hR hGw
        simp only [depV]
        rintro _ rfl
        rintro _ rfl
        try go_simp
        all_goals first
          | (with_reducible exact Grow.refl _)
          | (with_reducible exact ⟨Grow.refl _, rfl⟩)
      · intro w5 hR
        have hGw : Grow w4 w5 := hR.of_drew
        have HGW := Lib.hid hGw
        have hcc := (HGW.out.block HF4.out).cell
        have hxc := (HGW.out.block HX4.out).cell
        have hac := HGW.out.cell HAC.out
        clear hR hGw
        simp only [depV]
        rintro _ rfl
        try go_simp
        all_goals first
          | (with_reducible exact Grow.refl _)
          | (with_reducible exact ⟨Grow.refl _, rfl⟩)
      · intro w5 hR
        have hGw : Grow w4 w5 := hR.of_drew
        have HGW := Lib.hid hGw
        have hcc := (HGW.out.block HF4.out).cell
        have hxc := (HGW.out.block HX4.out).cell
        have hac := HGW.out.cell HAC.out
        clear hR hGw
        simp only [depV]
        rintro _ rfl
        try go_simp
        all_goals first
          | (with_reducible exact Grow.refl _)
          | (with_reducible exact ⟨Grow.refl _, rfl⟩)
      · intro w5 hR
        have hGw : Grow w4 w5 := hR.of_drew
        have HGW := Lib.hid hGw
        have hcc := (HGW.out.block HF4.out).cell
        have hxc := (HGW.out.block HX4.out).cell
        have hac := HGW.out.cell HAC.out
        clear hR hGw
        simp only [depV]
        rintro _ rfl
        rintro _ rfl
        try go_simp
        all_goals first
          | (with_reducible exact Grow.refl _)
          | (with_reducible exact ⟨Grow.refl _, rfl⟩)
      · intro w5 hR
        have hGw : Grow w4 w5 := hR.of_drew
        have HGW := Lib.hid hGw
        have hcc := (HGW.out.block HF4.out).cell
        have hxc := (HGW.out.block HX4.out).cell
        have hac := HGW.out.cell HAC.out
        clear hR hGw
        simp only [depV]
        rintro _ rfl
        try go_simp
        all_goals first
          | (with_reducible exact Grow.refl _)
          | (with_reducible exact ⟨Grow.refl _, rfl⟩)
      · intro w5 hR
        have hGw : Grow w4 w5 := hR.of_drew
        have HGW := Lib.hid hGw
        have hcc := (HGW.out.block HF4.out).cell
        have hxc := (HGW.out.block HX4.out).cell
        have hac := HGW.out.cell HAC.out
        clear hR hGw
        simp only [depV]
        rintro _ rfl
        try go_simp
        all_goals first
          | (with_reducible exact Grow.refl _)
          | (with_reducible exact ⟨Grow.refl _, rfl⟩)
      · intro w5 hR
        have hGw : Grow w4 w5 := hR.of_drew
        have HGW := Lib.hid hGw
        have hcc := (HGW.out.block HF4.out).cell
        have hxc := (HGW.out.block HX4.out).cell
        have hac := HGW.out.cell HAC.out
        clear hR hGw
        simp only [depV]
        rintro _ rfl
        rintro _ rfl
        try go_simp
        all_goals first
          | (with_reducible exact Grow.refl _)
          | (with_reducible exact ⟨Grow.refl _, rfl⟩)
      · intro w5 hR
        have hGw : Grow w4 w5 := hR.of_drew
        have HGW := Lib.hid hGw
        have hcc := (HGW.out.block HF4.out).cell
        have hxc := (HGW.out.block HX4.out).cell
        have hac := HGW.out.cell HAC.out
        clear hR hGw
        simp only [depV]
        rintro _ rfl
        rintro _ rfl
        rintro _ rfl
        try go_simp
        all_goals first
          | (with_reducible exact Grow.refl _)
          | (with_reducible exact ⟨Grow.refl _, rfl⟩)
      · intro w5 hR
        have hGw : Grow w4 w5 := hR.of_drew
        have HGW := Lib.hid hGw
        have hcc := (HGW.out.block HF4.out).cell
        have hxc := (HGW.out.block HX4.out).cell
        have hac := HGW.out.cell HAC.out
        clear hR hGw
        simp only [depV]
        rintro _ rfl
        rintro _ rfl
        try go_simp
        all_goals first
          | (with_reducible exact Grow.refl _)
          | (with_reducible exact ⟨Grow.refl _, rfl⟩)
      · intro w5 hR
        have hGw : Grow w4 w5 := hR.of_drew
        have HGW := Lib.hid hGw
        have hcc := (HGW.out.block HF4.out).cell
        have hxc := (HGW.out.block HX4.out).cell
        have hac := HGW.out.cell HAC.out
        clear hR hGw
        simp only [depV]
        rintro _ rfl
        try go_simp
        all_goals first
          | (with_reducible exact Grow.refl _)
          | (with_reducible exact ⟨Grow.refl _, rfl⟩)
      · intro w5 hR
        have hGw : Grow w4 w5 := hR.of_drew
        have HGW := Lib.hid hGw
        have hcc := (HGW.out.block HF4.out).cell
        have hxc := (HGW.out.block HX4.out).cell
        have hac := HGW.out.cell HAC.out
        clear hR hGw
        simp only [depV]
        rintro _ rfl
        rintro _ rfl
        try go_simp
        all_goals first
          | (with_reducible exact Grow.refl _)
          | (with_reducible exact ⟨Grow.refl _, rfl⟩)
      · intro w5 hR
        have hGw : Grow w4 w5 := hR.of_drew
        have HGW := Lib.hid hGw
        have hcc := (HGW.out.block HF4.out).cell
        have hxc := (HGW.out.block HX4.out).cell
        have hac := HGW.out.cell HAC.out
        clear hR hGw
        simp only [depV]
        rintro _ rfl
        rintro _ rfl
        rintro _ rfl
        rintro _ rfl
        rintro _ rfl
        try go_simp
        refine (HGN.out w5 (HG4.out.trans HGW.out)).mono ?_
        rintro e w6 ⟨rfl, hb6⟩
        exact ⟨hb6, rfl⟩
      · intro w5 hR
        have hGw : Grow w4 w5 := hR.of_drew
        have HGW := Lib.hid hGw
        have hcc := (HGW.out.block HF4.out).cell
        have hxc := (HGW.out.block HX4.out).cell
        have hac := HGW.out.cell HAC.out
        clear hR hGw
        simp only [depV]
        rintro _ rfl
        rintro _ rfl
        rintro _ rfl
        try go_simp
        all_goals first
          | (with_reducible exact Grow.refl _)
          | (with_reducible exact ⟨Grow.refl _, rfl⟩)
      · intro w5 hR
        have hGw : Grow w4 w5 := hR.of_drew
        have HGW := Lib.hid hGw
        have hcc := (HGW.out.block HF4.out).cell
        have hxc := (HGW.out.block HX4.out).cell
        have hac := HGW.out.cell HAC.out
        clear hR hGw
        simp only [depV]
        rintro _ rfl
        rintro _ rfl
        try go_simp
        all_goals first
          | (with_reducible exact Grow.refl _)
          | (with_reducible exact ⟨Grow.refl _, rfl⟩)
    · intro w5 hR
      have HG5 : Hid (Grow w4 w5) := Lib.hid hR.of_drew
      clear hR
      simp only [finVC, List.take_succ_cons, List.take_zero, List.drop_succ_cons, List.drop_zero]
      rintro _ rfl
      rintro _ rfl
      rintro _ rfl
      rintro _ rfl
      rintro _ rfl
      rintro _ rfl
      rintro _ rfl
      rintro _ rfl
      rintro _ rfl
      rintro _ rfl
      rintro _ rfl
      rintro _ rfl
      rintro _ rfl
      rintro _ rfl
      rintro _ rfl
      rintro _ rfl
      rintro _ rfl
      rintro _ rfl
      rintro _ rfl
      rintro _ rfl
      rintro _ rfl
      rintro _ rfl
      rintro _ rfl
      rintro _ rfl
      rintro _ rfl
      rintro _ rfl
      rintro _ rfl
      rintro _ rfl
      simp only [Act.put, List.setIfInBounds_toArray, List.set_cons_succ, List.set_cons_zero]
      have HG5' : Hid (Grow w w5) := Lib.hid (HG4.out.trans HG5.out)
      have HF5 := Lib.hid (HG5.out.block HF4.out)
      have HX5 := Lib.hid (HG5.out.block HX4.out)
      have HA5 := Lib.hid (HG5.out.cell HAC.out)
      have hcc := HF5.out.cell
      have haw5 : ab < w5.heap.size := by have h1 := HG5.out.size; omega
      clear HG5
      go_upto_region 7 with fail
      go_wp2_with fail
      refine (HCP.out w5 HG5'.out).mono ?_
      rintro e w6 ⟨h', rfl, hnp, hb6⟩
      obtain ⟨fa', fc', na', nc'⟩ := h'
      have HP6 := Lib.hid hnp.at_
      have HG6 : Hid (Grow w5 w6) := hb6
      clear hnp hb6 hcc
      go_upto_region 8 with fail
      obtain ⟨W7, hW7, hg7, hf7, hsz7⟩ := one_block w6 25 (cellsN ⟨fa', fc', na', nc'⟩ p)
      rw [hW7]
      clear hW7
      obtain ⟨ob, hob⟩ : ∃ z, w6.heap.size = z := ⟨_, rfl⟩
      have HP7 : Hid (PoolAt W7 ob ⟨fa', fc', na', nc'⟩ p.i) := Lib.hid (by rw [← hob]; exact HP6.out.below hg7)
      have HG7 : Hid (Grow w W7) := Lib.hid ((HG5'.out.trans HG6.out).trans hg7)
      have HX7 := Lib.hid ((HG6.out.trans hg7).block HX5.out)
      have HA7 := Lib.hid ((HG6.out.trans hg7).cell HA5.out)
      have HO7 : Hid (∃ j, BlockIs W7 ob 25 (cellsN ⟨fa', fc', na', nc'⟩ ⟨p.folk, p.needs, j, p.most⟩)) := Lib.hid ⟨p.ill, by rw [← hob]; exact hf7⟩
      have hwo : w.heap.size + 1 < ob := by have h1 := HX5.out.lt; have h2 := HG6.out.size; omega
      have haw : ab < ob := by have h1 := HG6.out.size; omega
      have hsz7' : ob < W7.heap.size := by rw [← hob]; exact hsz7
      rw [hob]
      clear hg7 hf7 hob hsz7 HP6 HG6 HG5' HF5 HX5 HA5
      go_wp2_with fail
      go_loopw [11] (fun iv wr => ∃ k : Nat, k ≤ 4 ∧ k ≤ pg + 1 ∧ iv = .int .i64 (k : Nat) ∧ Hid (∃ j, BlockIs wr ob 25 (cellsN ⟨fa', fc', na', nc'⟩ ⟨p.folk, p.needs, j, p.most⟩)) ∧ Hid (Below ob W7 wr)) (fun iv _ => 4 - (intOf iv).toNat)
      case atStart => exact ⟨0, by omega, by omega, rfl, HO7, Lib.hid (Below.refl _ _)⟩
      case round => as_aux_lemma =>
        obtain ⟨k, hk4, hkp, rfl, HOB, HBR⟩ := hrel
        rename World => wr
        obtain ⟨j, hOB⟩ := HOB.out
        have HBJ := Lib.hid hOB
        clear hOB HOB
        have HXR := Lib.hid (HX7.out.below HBR.out (by omega))
        have HZR : Hid (ob < wr.heap.size) := Lib.hid (by have := HBR.out.size; omega)
        by_cases h3 : k ≤ 3
        · have hd3 : decide ((k : Int) ≤ 3) = true := decide_eq_true (by omega)
          by_cases hkg : k ≤ pg
          · have hdg : decide ((k : Int) ≤ (pg : Int)) = true := decide_eq_true (by omega)
            have hof := HBJ.out.frozen
            have hoc := HBJ.out.cell
            have HB2 : Hid (BlockIs (wr.setCell ⟨ob, 2, none⟩ (.int .i64 (k : Nat))) ob 25 (cellsN ⟨fa', fc', na', nc'⟩ ⟨p.folk, p.needs, k, p.most⟩)) := Lib.hid (HBJ.out.near 2 _)
            have HXS := Lib.hid (HXR.out.far (p := ⟨ob, 2, none⟩) (by simp; omega) (.int .i64 (k : Nat)))
            have HBS := Lib.hid (HBR.out.setCell (p := ⟨ob, 2, none⟩) (Nat.le_refl _) (.int .i64 (k : Nat)))
            have HZS : Hid (ob < (wr.setCell ⟨ob, 2, none⟩ (.int .i64 (k : Nat))).heap.size) := Lib.hid (by simp; exact HZR.out)
            clear HBJ HXR HBR HZR
            go_upto_region 12 with fail
            obtain ⟨ws, hws⟩ : ∃ z, wr.setCell ⟨ob, 2, none⟩ (.int .i64 (k : Nat)) = z := ⟨_, rfl⟩
            rw [hws] at HB2 HXS HBS HZS ⊢
            clear hof hoc hws
            have HPS : Hid (∀ w0, Grow ws w0 → PoolAt w0 w0.heap.size ⟨fa', fc', na', nc'⟩ p.i) := Lib.hid (fun w0 hw => ((HP7.out.below HBS.out).more (Nat.le_of_lt HZS.out)).grow hw)
            have HAS := Lib.hid ((HBS.out.cell (p := ⟨ab, ao + s, none⟩) haw).trans HA7.out)
            have HCK := Lib.hid (fun w0 hP => HCV.out k h3 hkg ⟨fa', fc', na', nc'⟩ w0 hP)
            obtain ⟨c, hc⟩ : ∃ z, decide ((k : Int) ≤ rd) = z := ⟨_, rfl⟩
            rw [hc] at HCK
            have HC := Lib.hid hc
            clear hc hd3 hdg
            refine wp_region_lit 13 [[], [], [(1, 96)], [], [], [(4, 99)], [(3, 98), (5, 100)], [(6, 101)], [(0, 95), (2, 97), (7, 102)], [], [], [(9, 104), (10, 105)], [(8, 103), (11, 106)]] Grow (fun qi v w' => match qi with
                | 0 => v = poolN ⟨fa', fc', na', nc'⟩ ⟨p.folk, p.needs, k, p.most⟩
                | 1 => v = .pointer (some ⟨w.heap.size + 1, 0, none⟩)
                | 2 => v = .int .i64 (s : Nat)
                | 3 => v = .slice (some ⟨ab, ao, none⟩) gs.length cap
                | 4 => v = .pointer (some ⟨w.heap.size + 1, 0, none⟩)
                | 5 => v = .int .i64 (s : Nat)
                | 6 => v = .pointer (some ⟨ab, ao + s, none⟩)
                | 7 => v = .int .i64 (g : Nat)
                | 8 => v = .bool c
                | 9 => v = .int .i64 (k : Nat)
                | 10 => v = .int .i64 rd
                | 11 => v = .bool c
                | 12 => v = .bool false
                | _ => False) (by kernel_rfl) (by kernel_rfl) (fun _ _ _ => Grow.trans) Grow.refl ?_ ?_ ?_
            · intro i v y y' h k
              match i, h with
              | 0, h | 1, h | 2, h | 3, h | 4, h | 5, h | 6, h | 7, h | 8, h | 9, h | 10, h | 11, h | 12, h => exact h
            · simp only [StepsLit, List.take_succ_cons, List.take_zero]
              refine ⟨?_, ?_, ?_, ?_, ?_, ?_, ?_, ?_, ?_, ?_, ?_, ?_, ?_, trivial⟩
              · intro w5 hR
                have hGw : Grow ws w5 := hR.of_drew
                have HGW := Lib.hid hGw
                have hoc := (HGW.out.block HB2.out).cell
                have hxc := (HGW.out.block HXS.out).cell
                have hac := HGW.out.cell HAS.out
                clear hR hGw
                simp only [depV]
                try go_simp
                all_goals first
                  | (with_reducible exact Grow.refl _)
                  | (with_reducible exact ⟨Grow.refl _, rfl⟩)
              · intro w5 hR
                have hGw : Grow ws w5 := hR.of_drew
                have HGW := Lib.hid hGw
                have hoc := (HGW.out.block HB2.out).cell
                have hxc := (HGW.out.block HXS.out).cell
                have hac := HGW.out.cell HAS.out
                clear hR hGw
                simp only [depV]
                try go_simp
                all_goals first
                  | (with_reducible exact Grow.refl _)
                  | (with_reducible exact ⟨Grow.refl _, rfl⟩)
              · intro w5 hR
                have hGw : Grow ws w5 := hR.of_drew
                have HGW := Lib.hid hGw
                have hoc := (HGW.out.block HB2.out).cell
                have hxc := (HGW.out.block HXS.out).cell
                have hac := HGW.out.cell HAS.out
                clear hR hGw
                simp only [depV]
                rintro _ rfl
                try go_simp
                all_goals first
                  | (with_reducible exact Grow.refl _)
                  | (with_reducible exact ⟨Grow.refl _, rfl⟩)
              · intro w5 hR
                have hGw : Grow ws w5 := hR.of_drew
                have HGW := Lib.hid hGw
                have hoc := (HGW.out.block HB2.out).cell
                have hxc := (HGW.out.block HXS.out).cell
                have hac := HGW.out.cell HAS.out
                clear hR hGw
                simp only [depV]
                try go_simp
                all_goals first
                  | (with_reducible exact Grow.refl _)
                  | (with_reducible exact ⟨Grow.refl _, rfl⟩)
              · intro w5 hR
                have hGw : Grow ws w5 := hR.of_drew
                have HGW := Lib.hid hGw
                have hoc := (HGW.out.block HB2.out).cell
                have hxc := (HGW.out.block HXS.out).cell
                have hac := HGW.out.cell HAS.out
                clear hR hGw
                simp only [depV]
                try go_simp
                all_goals first
                  | (with_reducible exact Grow.refl _)
                  | (with_reducible exact ⟨Grow.refl _, rfl⟩)
              · intro w5 hR
                have hGw : Grow ws w5 := hR.of_drew
                have HGW := Lib.hid hGw
                have hoc := (HGW.out.block HB2.out).cell
                have hxc := (HGW.out.block HXS.out).cell
                have hac := HGW.out.cell HAS.out
                clear hR hGw
                simp only [depV]
                rintro _ rfl
                try go_simp
                all_goals first
                  | (with_reducible exact Grow.refl _)
                  | (with_reducible exact ⟨Grow.refl _, rfl⟩)
              · intro w5 hR
                have hGw : Grow ws w5 := hR.of_drew
                have HGW := Lib.hid hGw
                have hoc := (HGW.out.block HB2.out).cell
                have hxc := (HGW.out.block HXS.out).cell
                have hac := HGW.out.cell HAS.out
                clear hR hGw
                simp only [depV]
                rintro _ rfl
                rintro _ rfl
                try go_simp
                all_goals first
                  | (with_reducible exact Grow.refl _)
                  | (with_reducible exact ⟨Grow.refl _, rfl⟩)
              · intro w5 hR
                have hGw : Grow ws w5 := hR.of_drew
                have HGW := Lib.hid hGw
                have hoc := (HGW.out.block HB2.out).cell
                have hxc := (HGW.out.block HXS.out).cell
                have hac := HGW.out.cell HAS.out
                clear hR hGw
                simp only [depV]
                rintro _ rfl
                try go_simp
                all_goals first
                  | (with_reducible exact Grow.refl _)
                  | (with_reducible exact ⟨Grow.refl _, rfl⟩)
              · intro w5 hR
                have hGw : Grow ws w5 := hR.of_drew
                have HGW := Lib.hid hGw
                have hoc := (HGW.out.block HB2.out).cell
                have hxc := (HGW.out.block HXS.out).cell
                have hac := HGW.out.cell HAS.out
                clear hR hGw
                simp only [depV]
                rintro _ rfl
                rintro _ rfl
                rintro _ rfl
                try go_simp
                refine (HCK.out w5 (HPS.out w5 HGW.out)).mono ?_
                rintro e w6 ⟨rfl, hb6⟩
                exact ⟨hb6, rfl⟩
              · intro w5 hR
                have hGw : Grow ws w5 := hR.of_drew
                have HGW := Lib.hid hGw
                have hoc := (HGW.out.block HB2.out).cell
                have hxc := (HGW.out.block HXS.out).cell
                have hac := HGW.out.cell HAS.out
                clear hR hGw
                simp only [depV]
                try go_simp
                all_goals first
                  | (with_reducible exact Grow.refl _)
                  | (with_reducible exact ⟨Grow.refl _, rfl⟩)
              · intro w5 hR
                have hGw : Grow ws w5 := hR.of_drew
                have HGW := Lib.hid hGw
                have hoc := (HGW.out.block HB2.out).cell
                have hxc := (HGW.out.block HXS.out).cell
                have hac := HGW.out.cell HAS.out
                clear hR hGw
                simp only [depV]
                try go_simp
                all_goals first
                  | (with_reducible exact Grow.refl _)
                  | (with_reducible exact ⟨Grow.refl _, rfl⟩)
              · intro w5 hR
                have hGw : Grow ws w5 := hR.of_drew
                have HGW := Lib.hid hGw
                have hoc := (HGW.out.block HB2.out).cell
                have hxc := (HGW.out.block HXS.out).cell
                have hac := HGW.out.cell HAS.out
                clear hR hGw
                simp only [depV]
                rintro _ rfl
                rintro _ rfl
                try go_simp
                exact ⟨Grow.refl _, by rw [HC.out]⟩
              · intro w5 hR
                have hGw : Grow ws w5 := hR.of_drew
                have HGW := Lib.hid hGw
                have hoc := (HGW.out.block HB2.out).cell
                have hxc := (HGW.out.block HXS.out).cell
                have hac := HGW.out.cell HAS.out
                clear hR hGw
                simp only [depV]
                rintro _ rfl
                rintro _ rfl
                try go_simp
                all_goals first
                  | (with_reducible exact Grow.refl _)
                  | (with_reducible exact ⟨Grow.refl _, rfl⟩)
            · intro w5 hR
              have HG5 : Hid (Grow ws w5) := Lib.hid hR.of_drew
              clear hR
              simp only [finVC, List.take_succ_cons, List.take_zero, List.drop_succ_cons, List.drop_zero]
              rintro _ rfl
              rintro _ rfl
              rintro _ rfl
              rintro _ rfl
              rintro _ rfl
              rintro _ rfl
              rintro _ rfl
              rintro _ rfl
              rintro _ rfl
              rintro _ rfl
              rintro _ rfl
              rintro _ rfl
              rintro _ rfl
              simp only [Act.put, List.setIfInBounds_toArray, List.set_cons_succ, List.set_cons_zero]
              have HON : Hid (∃ j, BlockIs w5 ob 25 (cellsN ⟨fa', fc', na', nc'⟩ ⟨p.folk, p.needs, j, p.most⟩)) := Lib.hid ⟨k, HG5.out.block HB2.out⟩
              have HBN : Hid (Below ob W7 w5) := Lib.hid (HBS.out.trans (Below.mono HG5.out (Nat.le_of_lt HZS.out)))
              go_wp2_with fail
              go_roundw
              case rel => exact ⟨k + 1, by omega, by omega, by go_num, HON, HBN⟩
              case measure => simp [intOf]; omega
          · have hdg : decide ((k : Int) ≤ (pg : Int)) = false := decide_eq_false (by omega)
            have HGR : Hid (Grow w wr) := Lib.hid (HG7.out.trans' (HBR.out.mono (by omega)))
            go_wp2_with fail
            refine (works_any _).mono ?_
            rintro e w9 ⟨rfl, hb9⟩
            have HG9 : Hid (Grow w w9) := Lib.hid (HGR.out.trans hb9)
            clear hb9
            go_wp2
            go_ret
            exact ⟨by simp, HG9.out⟩
        · have hd3 : decide ((k : Int) ≤ 3) = false := decide_eq_false (by omega)
          have HGR : Hid (Grow w wr) := Lib.hid (HG7.out.trans' (HBR.out.mono (by omega)))
          go_wp2_with fail
          refine (works_any _).mono ?_
          rintro e w9 ⟨rfl, hb9⟩
          have HG9 : Hid (Grow w w9) := Lib.hid (HGR.out.trans hb9)
          clear hb9
          go_wp2
          go_ret
          exact ⟨by simp, HG9.out⟩
  · have hrn : decide (rd < 0) = false := decide_eq_false hneg
    go_upto_region 5 with fail
    clear hcc hxc
    refine wp_region_lit 28 [[], [(0, 54)], [(1, 55)], [(2, 56)], [(2, 56), (3, 57)], [(2, 56), (4, 58)], [(5, 59)], [(6, 60)], [(6, 60)], [(6, 60), (7, 61), (8, 62)], [(6, 60), (9, 63)], [(10, 64)], [(11, 65)], [(11, 65), (12, 66)], [(11, 65), (13, 67)], [(14, 68)], [(14, 68)], [(14, 68), (16, 70)], [(14, 68)], [(14, 68)], [(14, 68), (19, 73)], [(14, 68), (18, 72), (20, 74)], [(14, 68), (21, 75)], [(14, 68)], [(14, 68), (23, 77)], [(14, 68), (15, 69), (17, 71), (22, 76), (24, 78)], [(11, 65), (14, 68), (25, 79)], [(11, 65), (26, 80)]] Grow (fun qi v w' => match qi with
        | 0 => v = .int .i64 0
        | 1 => v = .bool false
        | 2 => v = .bool false
        | 3 => v = .int .i64 rd
        | 4 => v = .bool false
        | 5 => v = .bool false
        | 6 => v = .bool false
        | 7 => v = .int .i64 rd
        | 8 => v = .int .i64 (pg : Nat)
        | 9 => v = .bool false
        | 10 => v = .bool false
        | 11 => v = .bool false
        | 12 => v = .int .i64 rd
        | 13 => v = .bool false
        | 14 => v = .bool false
        | 15 => v = undef
        | 16 => v = undef
        | 17 => v = undef
        | 18 => v = undef
        | 19 => v = undef
        | 20 => v = undef
        | 21 => v = undef
        | 22 => v = undef
        | 23 => v = undef
        | 24 => v = undef
        | 25 => v = undef
        | 26 => v = .bool false
        | 27 => v = .bool false
        | _ => False) (by kernel_rfl) (by kernel_rfl) (fun _ _ _ => Grow.trans) Grow.refl ?_ ?_ ?_
    · intro i v y y' h k
      match i, h with
      | 0, h | 1, h | 2, h | 3, h | 4, h | 5, h | 6, h | 7, h | 8, h | 9, h | 10, h | 11, h | 12, h | 13, h | 14, h | 15, h | 16, h | 17, h | 18, h | 19, h | 20, h | 21, h | 22, h | 23, h | 24, h | 25, h | 26, h | 27, h => exact h
    · simp only [StepsLit, List.take_succ_cons, List.take_zero]
      refine ⟨?_, ?_, ?_, ?_, ?_, ?_, ?_, ?_, ?_, ?_, ?_, ?_, ?_, ?_, ?_, ?_, ?_, ?_, ?_, ?_, ?_, ?_, ?_, ?_, ?_, ?_, ?_, ?_, trivial⟩
      · intro w5 hR
        have hGw : Grow w4 w5 := hR.of_drew
        have HGW := Lib.hid hGw
        have hcc := (HGW.out.block HF4.out).cell
        have hxc := (HGW.out.block HX4.out).cell
        have hac := HGW.out.cell HAC.out
        clear hR hGw
        simp only [depV]
        try go_simp
        all_goals first
          | (with_reducible exact Grow.refl _)
          | (with_reducible exact ⟨Grow.refl _, rfl⟩)
      · intro w5 hR
        have hGw : Grow w4 w5 := hR.of_drew
        have HGW := Lib.hid hGw
        have hcc := (HGW.out.block HF4.out).cell
        have hxc := (HGW.out.block HX4.out).cell
        have hac := HGW.out.cell HAC.out
        clear hR hGw
        simp only [depV]
        rintro _ rfl
        try go_simp
        all_goals first
          | (with_reducible exact Grow.refl _)
          | (with_reducible exact ⟨Grow.refl _, rfl⟩)
      · intro w5 hR
        have hGw : Grow w4 w5 := hR.of_drew
        have HGW := Lib.hid hGw
        have hcc := (HGW.out.block HF4.out).cell
        have hxc := (HGW.out.block HX4.out).cell
        have hac := HGW.out.cell HAC.out
        clear hR hGw
        simp only [depV]
        rintro _ rfl
        try go_simp
        all_goals first
          | (with_reducible exact Grow.refl _)
          | (with_reducible exact ⟨Grow.refl _, rfl⟩)
      · intro w5 hR
        have hGw : Grow w4 w5 := hR.of_drew
        have HGW := Lib.hid hGw
        have hcc := (HGW.out.block HF4.out).cell
        have hxc := (HGW.out.block HX4.out).cell
        have hac := HGW.out.cell HAC.out
        clear hR hGw
        simp only [depV]
        rintro _ rfl
        try go_simp
        all_goals first
          | (with_reducible exact Grow.refl _)
          | (with_reducible exact ⟨Grow.refl _, rfl⟩)
      · intro w5 hR
        have hGw : Grow w4 w5 := hR.of_drew
        have HGW := Lib.hid hGw
        have hcc := (HGW.out.block HF4.out).cell
        have hxc := (HGW.out.block HX4.out).cell
        have hac := HGW.out.cell HAC.out
        clear hR hGw
        simp only [depV]
        rintro _ rfl
        rintro _ rfl
        try go_simp
        all_goals first
          | (with_reducible exact Grow.refl _)
          | (with_reducible exact ⟨Grow.refl _, rfl⟩)
      · intro w5 hR
        have hGw : Grow w4 w5 := hR.of_drew
        have HGW := Lib.hid hGw
        have hcc := (HGW.out.block HF4.out).cell
        have hxc := (HGW.out.block HX4.out).cell
        have hac := HGW.out.cell HAC.out
        clear hR hGw
        simp only [depV]
        rintro _ rfl
        rintro _ rfl
        try go_simp
        all_goals first
          | (with_reducible exact Grow.refl _)
          | (with_reducible exact ⟨Grow.refl _, rfl⟩)
      · intro w5 hR
        have hGw : Grow w4 w5 := hR.of_drew
        have HGW := Lib.hid hGw
        have hcc := (HGW.out.block HF4.out).cell
        have hxc := (HGW.out.block HX4.out).cell
        have hac := HGW.out.cell HAC.out
        clear hR hGw
        simp only [depV]
        rintro _ rfl
        try go_simp
        all_goals first
          | (with_reducible exact Grow.refl _)
          | (with_reducible exact ⟨Grow.refl _, rfl⟩)
      · intro w5 hR
        have hGw : Grow w4 w5 := hR.of_drew
        have HGW := Lib.hid hGw
        have hcc := (HGW.out.block HF4.out).cell
        have hxc := (HGW.out.block HX4.out).cell
        have hac := HGW.out.cell HAC.out
        clear hR hGw
        simp only [depV]
        rintro _ rfl
        try go_simp
        all_goals first
          | (with_reducible exact Grow.refl _)
          | (with_reducible exact ⟨Grow.refl _, rfl⟩)
      · intro w5 hR
        have hGw : Grow w4 w5 := hR.of_drew
        have HGW := Lib.hid hGw
        have hcc := (HGW.out.block HF4.out).cell
        have hxc := (HGW.out.block HX4.out).cell
        have hac := HGW.out.cell HAC.out
        clear hR hGw
        simp only [depV]
        rintro _ rfl
        try go_simp
        all_goals first
          | (with_reducible exact Grow.refl _)
          | (with_reducible exact ⟨Grow.refl _, rfl⟩)
      · intro w5 hR
        have hGw : Grow w4 w5 := hR.of_drew
        have HGW := Lib.hid hGw
        have hcc := (HGW.out.block HF4.out).cell
        have hxc := (HGW.out.block HX4.out).cell
        have hac := HGW.out.cell HAC.out
        clear hR hGw
        simp only [depV]
        rintro _ rfl
        rintro _ rfl
        rintro _ rfl
        try go_simp
        all_goals first
          | (with_reducible exact Grow.refl _)
          | (with_reducible exact ⟨Grow.refl _, rfl⟩)
      · intro w5 hR
        have hGw : Grow w4 w5 := hR.of_drew
        have HGW := Lib.hid hGw
        have hcc := (HGW.out.block HF4.out).cell
        have hxc := (HGW.out.block HX4.out).cell
        have hac := HGW.out.cell HAC.out
        clear hR hGw
        simp only [depV]
        rintro _ rfl
        rintro _ rfl
        try go_simp
        all_goals first
          | (with_reducible exact Grow.refl _)
          | (with_reducible exact ⟨Grow.refl _, rfl⟩)
      · intro w5 hR
        have hGw : Grow w4 w5 := hR.of_drew
        have HGW := Lib.hid hGw
        have hcc := (HGW.out.block HF4.out).cell
        have hxc := (HGW.out.block HX4.out).cell
        have hac := HGW.out.cell HAC.out
        clear hR hGw
        simp only [depV]
        rintro _ rfl
        try go_simp
        all_goals first
          | (with_reducible exact Grow.refl _)
          | (with_reducible exact ⟨Grow.refl _, rfl⟩)
      · intro w5 hR
        have hGw : Grow w4 w5 := hR.of_drew
        have HGW := Lib.hid hGw
        have hcc := (HGW.out.block HF4.out).cell
        have hxc := (HGW.out.block HX4.out).cell
        have hac := HGW.out.cell HAC.out
        clear hR hGw
        simp only [depV]
        rintro _ rfl
        try go_simp
        all_goals first
          | (with_reducible exact Grow.refl _)
          | (with_reducible exact ⟨Grow.refl _, rfl⟩)
      · intro w5 hR
        have hGw : Grow w4 w5 := hR.of_drew
        have HGW := Lib.hid hGw
        have hcc := (HGW.out.block HF4.out).cell
        have hxc := (HGW.out.block HX4.out).cell
        have hac := HGW.out.cell HAC.out
        clear hR hGw
        simp only [depV]
        rintro _ rfl
        rintro _ rfl
        try go_simp
        all_goals first
          | (with_reducible exact Grow.refl _)
          | (with_reducible exact ⟨Grow.refl _, rfl⟩)
      · intro w5 hR
        have hGw : Grow w4 w5 := hR.of_drew
        have HGW := Lib.hid hGw
        have hcc := (HGW.out.block HF4.out).cell
        have hxc := (HGW.out.block HX4.out).cell
        have hac := HGW.out.cell HAC.out
        clear hR hGw
        simp only [depV]
        rintro _ rfl
        rintro _ rfl
        try go_simp
        all_goals first
          | (with_reducible exact Grow.refl _)
          | (with_reducible exact ⟨Grow.refl _, rfl⟩)
      · intro w5 hR
        have hGw : Grow w4 w5 := hR.of_drew
        have HGW := Lib.hid hGw
        have hcc := (HGW.out.block HF4.out).cell
        have hxc := (HGW.out.block HX4.out).cell
        have hac := HGW.out.cell HAC.out
        clear hR hGw
        simp only [depV]
        rintro _ rfl
        try go_simp
        all_goals first
          | (with_reducible exact Grow.refl _)
          | (with_reducible exact ⟨Grow.refl _, rfl⟩)
      · intro w5 hR
        have hGw : Grow w4 w5 := hR.of_drew
        have HGW := Lib.hid hGw
        have hcc := (HGW.out.block HF4.out).cell
        have hxc := (HGW.out.block HX4.out).cell
        have hac := HGW.out.cell HAC.out
        clear hR hGw
        simp only [depV]
        rintro _ rfl
        try go_simp
        all_goals first
          | (with_reducible exact Grow.refl _)
          | (with_reducible exact ⟨Grow.refl _, rfl⟩)
      · intro w5 hR
        have hGw : Grow w4 w5 := hR.of_drew
        have HGW := Lib.hid hGw
        have hcc := (HGW.out.block HF4.out).cell
        have hxc := (HGW.out.block HX4.out).cell
        have hac := HGW.out.cell HAC.out
        clear hR hGw
        simp only [depV]
        rintro _ rfl
        rintro _ rfl
        try go_simp
        all_goals first
          | (with_reducible exact Grow.refl _)
          | (with_reducible exact ⟨Grow.refl _, rfl⟩)
      · intro w5 hR
        have hGw : Grow w4 w5 := hR.of_drew
        have HGW := Lib.hid hGw
        have hcc := (HGW.out.block HF4.out).cell
        have hxc := (HGW.out.block HX4.out).cell
        have hac := HGW.out.cell HAC.out
        clear hR hGw
        simp only [depV]
        rintro _ rfl
        try go_simp
        all_goals first
          | (with_reducible exact Grow.refl _)
          | (with_reducible exact ⟨Grow.refl _, rfl⟩)
      · intro w5 hR
        have hGw : Grow w4 w5 := hR.of_drew
        have HGW := Lib.hid hGw
        have hcc := (HGW.out.block HF4.out).cell
        have hxc := (HGW.out.block HX4.out).cell
        have hac := HGW.out.cell HAC.out
        clear hR hGw
        simp only [depV]
        rintro _ rfl
        try go_simp
        all_goals first
          | (with_reducible exact Grow.refl _)
          | (with_reducible exact ⟨Grow.refl _, rfl⟩)
      · intro w5 hR
        have hGw : Grow w4 w5 := hR.of_drew
        have HGW := Lib.hid hGw
        have hcc := (HGW.out.block HF4.out).cell
        have hxc := (HGW.out.block HX4.out).cell
        have hac := HGW.out.cell HAC.out
        clear hR hGw
        simp only [depV]
        rintro _ rfl
        rintro _ rfl
        try go_simp
        all_goals first
          | (with_reducible exact Grow.refl _)
          | (with_reducible exact ⟨Grow.refl _, rfl⟩)
      · intro w5 hR
        have hGw : Grow w4 w5 := hR.of_drew
        have HGW := Lib.hid hGw
        have hcc := (HGW.out.block HF4.out).cell
        have hxc := (HGW.out.block HX4.out).cell
        have hac := HGW.out.cell HAC.out
        clear hR hGw
        simp only [depV]
        rintro _ rfl
        rintro _ rfl
        rintro _ rfl
        try go_simp
        all_goals first
          | (with_reducible exact Grow.refl _)
          | (with_reducible exact ⟨Grow.refl _, rfl⟩)
      · intro w5 hR
        have hGw : Grow w4 w5 := hR.of_drew
        have HGW := Lib.hid hGw
        have hcc := (HGW.out.block HF4.out).cell
        have hxc := (HGW.out.block HX4.out).cell
        have hac := HGW.out.cell HAC.out
        clear hR hGw
        simp only [depV]
        rintro _ rfl
        rintro _ rfl
        try go_simp
        all_goals first
          | (with_reducible exact Grow.refl _)
          | (with_reducible exact ⟨Grow.refl _, rfl⟩)
      · intro w5 hR
        have hGw : Grow w4 w5 := hR.of_drew
        have HGW := Lib.hid hGw
        have hcc := (HGW.out.block HF4.out).cell
        have hxc := (HGW.out.block HX4.out).cell
        have hac := HGW.out.cell HAC.out
        clear hR hGw
        simp only [depV]
        rintro _ rfl
        try go_simp
        all_goals first
          | (with_reducible exact Grow.refl _)
          | (with_reducible exact ⟨Grow.refl _, rfl⟩)
      · intro w5 hR
        have hGw : Grow w4 w5 := hR.of_drew
        have HGW := Lib.hid hGw
        have hcc := (HGW.out.block HF4.out).cell
        have hxc := (HGW.out.block HX4.out).cell
        have hac := HGW.out.cell HAC.out
        clear hR hGw
        simp only [depV]
        rintro _ rfl
        rintro _ rfl
        try go_simp
        all_goals first
          | (with_reducible exact Grow.refl _)
          | (with_reducible exact ⟨Grow.refl _, rfl⟩)
      · intro w5 hR
        have hGw : Grow w4 w5 := hR.of_drew
        have HGW := Lib.hid hGw
        have hcc := (HGW.out.block HF4.out).cell
        have hxc := (HGW.out.block HX4.out).cell
        have hac := HGW.out.cell HAC.out
        clear hR hGw
        simp only [depV]
        rintro _ rfl
        rintro _ rfl
        rintro _ rfl
        rintro _ rfl
        rintro _ rfl
        try go_simp
        all_goals first
          | (with_reducible exact Grow.refl _)
          | (with_reducible exact ⟨Grow.refl _, rfl⟩)
      · intro w5 hR
        have hGw : Grow w4 w5 := hR.of_drew
        have HGW := Lib.hid hGw
        have hcc := (HGW.out.block HF4.out).cell
        have hxc := (HGW.out.block HX4.out).cell
        have hac := HGW.out.cell HAC.out
        clear hR hGw
        simp only [depV]
        rintro _ rfl
        rintro _ rfl
        rintro _ rfl
        try go_simp
        all_goals first
          | (with_reducible exact Grow.refl _)
          | (with_reducible exact ⟨Grow.refl _, rfl⟩)
      · intro w5 hR
        have hGw : Grow w4 w5 := hR.of_drew
        have HGW := Lib.hid hGw
        have hcc := (HGW.out.block HF4.out).cell
        have hxc := (HGW.out.block HX4.out).cell
        have hac := HGW.out.cell HAC.out
        clear hR hGw
        simp only [depV]
        rintro _ rfl
        rintro _ rfl
        try go_simp
        all_goals first
          | (with_reducible exact Grow.refl _)
          | (with_reducible exact ⟨Grow.refl _, rfl⟩)
    · intro w5 hR
      have HG5 : Hid (Grow w4 w5) := Lib.hid hR.of_drew
      clear hR
      simp only [finVC, List.take_succ_cons, List.take_zero, List.drop_succ_cons, List.drop_zero]
      rintro _ rfl
      rintro _ rfl
      rintro _ rfl
      rintro _ rfl
      rintro _ rfl
      rintro _ rfl
      rintro _ rfl
      rintro _ rfl
      rintro _ rfl
      rintro _ rfl
      rintro _ rfl
      rintro _ rfl
      rintro _ rfl
      rintro _ rfl
      rintro _ rfl
      rintro _ rfl
      rintro _ rfl
      rintro _ rfl
      rintro _ rfl
      rintro _ rfl
      rintro _ rfl
      rintro _ rfl
      rintro _ rfl
      rintro _ rfl
      rintro _ rfl
      rintro _ rfl
      rintro _ rfl
      rintro _ rfl
      simp only [Act.put, List.setIfInBounds_toArray, List.set_cons_succ, List.set_cons_zero]
      have HG5' : Hid (Grow w w5) := Lib.hid (HG4.out.trans HG5.out)
      have HF5 := Lib.hid (HG5.out.block HF4.out)
      have HX5 := Lib.hid (HG5.out.block HX4.out)
      have HA5 := Lib.hid (HG5.out.cell HAC.out)
      have hcc := HF5.out.cell
      have haw5 : ab < w5.heap.size := by have h1 := HG5.out.size; omega
      clear HG5
      go_upto_region 7 with fail
      go_wp2_with fail
      refine (HCP.out w5 HG5'.out).mono ?_
      rintro e w6 ⟨h', rfl, hnp, hb6⟩
      obtain ⟨fa', fc', na', nc'⟩ := h'
      have HP6 := Lib.hid hnp.at_
      have HG6 : Hid (Grow w5 w6) := hb6
      clear hnp hb6 hcc
      go_upto_region 8 with fail
      obtain ⟨W7, hW7, hg7, hf7, hsz7⟩ := one_block w6 25 (cellsN ⟨fa', fc', na', nc'⟩ p)
      rw [hW7]
      clear hW7
      obtain ⟨ob, hob⟩ : ∃ z, w6.heap.size = z := ⟨_, rfl⟩
      have HP7 : Hid (PoolAt W7 ob ⟨fa', fc', na', nc'⟩ p.i) := Lib.hid (by rw [← hob]; exact HP6.out.below hg7)
      have HG7 : Hid (Grow w W7) := Lib.hid ((HG5'.out.trans HG6.out).trans hg7)
      have HX7 := Lib.hid ((HG6.out.trans hg7).block HX5.out)
      have HA7 := Lib.hid ((HG6.out.trans hg7).cell HA5.out)
      have HO7 : Hid (∃ j, BlockIs W7 ob 25 (cellsN ⟨fa', fc', na', nc'⟩ ⟨p.folk, p.needs, j, p.most⟩)) := Lib.hid ⟨p.ill, by rw [← hob]; exact hf7⟩
      have hwo : w.heap.size + 1 < ob := by have h1 := HX5.out.lt; have h2 := HG6.out.size; omega
      have haw : ab < ob := by have h1 := HG6.out.size; omega
      have hsz7' : ob < W7.heap.size := by rw [← hob]; exact hsz7
      rw [hob]
      clear hg7 hf7 hob hsz7 HP6 HG6 HG5' HF5 HX5 HA5
      go_wp2_with fail
      go_loopw [11] (fun iv wr => ∃ k : Nat, k ≤ 4 ∧ k ≤ pg + 1 ∧ iv = .int .i64 (k : Nat) ∧ Hid (∃ j, BlockIs wr ob 25 (cellsN ⟨fa', fc', na', nc'⟩ ⟨p.folk, p.needs, j, p.most⟩)) ∧ Hid (Below ob W7 wr)) (fun iv _ => 4 - (intOf iv).toNat)
      case atStart => exact ⟨0, by omega, by omega, rfl, HO7, Lib.hid (Below.refl _ _)⟩
      case round => as_aux_lemma =>
        obtain ⟨k, hk4, hkp, rfl, HOB, HBR⟩ := hrel
        rename World => wr
        obtain ⟨j, hOB⟩ := HOB.out
        have HBJ := Lib.hid hOB
        clear hOB HOB
        have HXR := Lib.hid (HX7.out.below HBR.out (by omega))
        have HZR : Hid (ob < wr.heap.size) := Lib.hid (by have := HBR.out.size; omega)
        by_cases h3 : k ≤ 3
        · have hd3 : decide ((k : Int) ≤ 3) = true := decide_eq_true (by omega)
          by_cases hkg : k ≤ pg
          · have hdg : decide ((k : Int) ≤ (pg : Int)) = true := decide_eq_true (by omega)
            have hof := HBJ.out.frozen
            have hoc := HBJ.out.cell
            have HB2 : Hid (BlockIs (wr.setCell ⟨ob, 2, none⟩ (.int .i64 (k : Nat))) ob 25 (cellsN ⟨fa', fc', na', nc'⟩ ⟨p.folk, p.needs, k, p.most⟩)) := Lib.hid (HBJ.out.near 2 _)
            have HXS := Lib.hid (HXR.out.far (p := ⟨ob, 2, none⟩) (by simp; omega) (.int .i64 (k : Nat)))
            have HBS := Lib.hid (HBR.out.setCell (p := ⟨ob, 2, none⟩) (Nat.le_refl _) (.int .i64 (k : Nat)))
            have HZS : Hid (ob < (wr.setCell ⟨ob, 2, none⟩ (.int .i64 (k : Nat))).heap.size) := Lib.hid (by simp; exact HZR.out)
            clear HBJ HXR HBR HZR
            go_upto_region 12 with fail
            obtain ⟨ws, hws⟩ : ∃ z, wr.setCell ⟨ob, 2, none⟩ (.int .i64 (k : Nat)) = z := ⟨_, rfl⟩
            rw [hws] at HB2 HXS HBS HZS ⊢
            clear hof hoc hws
            have HPS : Hid (∀ w0, Grow ws w0 → PoolAt w0 w0.heap.size ⟨fa', fc', na', nc'⟩ p.i) := Lib.hid (fun w0 hw => ((HP7.out.below HBS.out).more (Nat.le_of_lt HZS.out)).grow hw)
            have HAS := Lib.hid ((HBS.out.cell (p := ⟨ab, ao + s, none⟩) haw).trans HA7.out)
            have HCK := Lib.hid (fun w0 hP => HCV.out k h3 hkg ⟨fa', fc', na', nc'⟩ w0 hP)
            obtain ⟨c, hc⟩ : ∃ z, decide ((k : Int) ≤ rd) = z := ⟨_, rfl⟩
            rw [hc] at HCK
            have HC := Lib.hid hc
            clear hc hd3 hdg
            refine wp_region_lit 13 [[], [], [(1, 96)], [], [], [(4, 99)], [(3, 98), (5, 100)], [(6, 101)], [(0, 95), (2, 97), (7, 102)], [], [], [(9, 104), (10, 105)], [(8, 103), (11, 106)]] Grow (fun qi v w' => match qi with
                | 0 => v = poolN ⟨fa', fc', na', nc'⟩ ⟨p.folk, p.needs, k, p.most⟩
                | 1 => v = .pointer (some ⟨w.heap.size + 1, 0, none⟩)
                | 2 => v = .int .i64 (s : Nat)
                | 3 => v = .slice (some ⟨ab, ao, none⟩) gs.length cap
                | 4 => v = .pointer (some ⟨w.heap.size + 1, 0, none⟩)
                | 5 => v = .int .i64 (s : Nat)
                | 6 => v = .pointer (some ⟨ab, ao + s, none⟩)
                | 7 => v = .int .i64 (g : Nat)
                | 8 => v = .bool c
                | 9 => v = .int .i64 (k : Nat)
                | 10 => v = .int .i64 rd
                | 11 => v = .bool c
                | 12 => v = .bool false
                | _ => False) (by kernel_rfl) (by kernel_rfl) (fun _ _ _ => Grow.trans) Grow.refl ?_ ?_ ?_
            · intro i v y y' h k
              match i, h with
              | 0, h | 1, h | 2, h | 3, h | 4, h | 5, h | 6, h | 7, h | 8, h | 9, h | 10, h | 11, h | 12, h => exact h
            · simp only [StepsLit, List.take_succ_cons, List.take_zero]
              refine ⟨?_, ?_, ?_, ?_, ?_, ?_, ?_, ?_, ?_, ?_, ?_, ?_, ?_, trivial⟩
              · intro w5 hR
                have hGw : Grow ws w5 := hR.of_drew
                have HGW := Lib.hid hGw
                have hoc := (HGW.out.block HB2.out).cell
                have hxc := (HGW.out.block HXS.out).cell
                have hac := HGW.out.cell HAS.out
                clear hR hGw
                simp only [depV]
                try go_simp
                all_goals first
                  | (with_reducible exact Grow.refl _)
                  | (with_reducible exact ⟨Grow.refl _, rfl⟩)
              · intro w5 hR
                have hGw : Grow ws w5 := hR.of_drew
                have HGW := Lib.hid hGw
                have hoc := (HGW.out.block HB2.out).cell
                have hxc := (HGW.out.block HXS.out).cell
                have hac := HGW.out.cell HAS.out
                clear hR hGw
                simp only [depV]
                try go_simp
                all_goals first
                  | (with_reducible exact Grow.refl _)
                  | (with_reducible exact ⟨Grow.refl _, rfl⟩)
              · intro w5 hR
                have hGw : Grow ws w5 := hR.of_drew
                have HGW := Lib.hid hGw
                have hoc := (HGW.out.block HB2.out).cell
                have hxc := (HGW.out.block HXS.out).cell
                have hac := HGW.out.cell HAS.out
                clear hR hGw
                simp only [depV]
                rintro _ rfl
                try go_simp
                all_goals first
                  | (with_reducible exact Grow.refl _)
                  | (with_reducible exact ⟨Grow.refl _, rfl⟩)
              · intro w5 hR
                have hGw : Grow ws w5 := hR.of_drew
                have HGW := Lib.hid hGw
                have hoc := (HGW.out.block HB2.out).cell
                have hxc := (HGW.out.block HXS.out).cell
                have hac := HGW.out.cell HAS.out
                clear hR hGw
                simp only [depV]
                try go_simp
                all_goals first
                  | (with_reducible exact Grow.refl _)
                  | (with_reducible exact ⟨Grow.refl _, rfl⟩)
              · intro w5 hR
                have hGw : Grow ws w5 := hR.of_drew
                have HGW := Lib.hid hGw
                have hoc := (HGW.out.block HB2.out).cell
                have hxc := (HGW.out.block HXS.out).cell
                have hac := HGW.out.cell HAS.out
                clear hR hGw
                simp only [depV]
                try go_simp
                all_goals first
                  | (with_reducible exact Grow.refl _)
                  | (with_reducible exact ⟨Grow.refl _, rfl⟩)
              · intro w5 hR
                have hGw : Grow ws w5 := hR.of_drew
                have HGW := Lib.hid hGw
                have hoc := (HGW.out.block HB2.out).cell
                have hxc := (HGW.out.block HXS.out).cell
                have hac := HGW.out.cell HAS.out
                clear hR hGw
                simp only [depV]
                rintro _ rfl
                try go_simp
                all_goals first
                  | (with_reducible exact Grow.refl _)
                  | (with_reducible exact ⟨Grow.refl _, rfl⟩)
              · intro w5 hR
                have hGw : Grow ws w5 := hR.of_drew
                have HGW := Lib.hid hGw
                have hoc := (HGW.out.block HB2.out).cell
                have hxc := (HGW.out.block HXS.out).cell
                have hac := HGW.out.cell HAS.out
                clear hR hGw
                simp only [depV]
                rintro _ rfl
                rintro _ rfl
                try go_simp
                all_goals first
                  | (with_reducible exact Grow.refl _)
                  | (with_reducible exact ⟨Grow.refl _, rfl⟩)
              · intro w5 hR
                have hGw : Grow ws w5 := hR.of_drew
                have HGW := Lib.hid hGw
                have hoc := (HGW.out.block HB2.out).cell
                have hxc := (HGW.out.block HXS.out).cell
                have hac := HGW.out.cell HAS.out
                clear hR hGw
                simp only [depV]
                rintro _ rfl
                try go_simp
                all_goals first
                  | (with_reducible exact Grow.refl _)
                  | (with_reducible exact ⟨Grow.refl _, rfl⟩)
              · intro w5 hR
                have hGw : Grow ws w5 := hR.of_drew
                have HGW := Lib.hid hGw
                have hoc := (HGW.out.block HB2.out).cell
                have hxc := (HGW.out.block HXS.out).cell
                have hac := HGW.out.cell HAS.out
                clear hR hGw
                simp only [depV]
                rintro _ rfl
                rintro _ rfl
                rintro _ rfl
                try go_simp
                refine (HCK.out w5 (HPS.out w5 HGW.out)).mono ?_
                rintro e w6 ⟨rfl, hb6⟩
                exact ⟨hb6, rfl⟩
              · intro w5 hR
                have hGw : Grow ws w5 := hR.of_drew
                have HGW := Lib.hid hGw
                have hoc := (HGW.out.block HB2.out).cell
                have hxc := (HGW.out.block HXS.out).cell
                have hac := HGW.out.cell HAS.out
                clear hR hGw
                simp only [depV]
                try go_simp
                all_goals first
                  | (with_reducible exact Grow.refl _)
                  | (with_reducible exact ⟨Grow.refl _, rfl⟩)
              · intro w5 hR
                have hGw : Grow ws w5 := hR.of_drew
                have HGW := Lib.hid hGw
                have hoc := (HGW.out.block HB2.out).cell
                have hxc := (HGW.out.block HXS.out).cell
                have hac := HGW.out.cell HAS.out
                clear hR hGw
                simp only [depV]
                try go_simp
                all_goals first
                  | (with_reducible exact Grow.refl _)
                  | (with_reducible exact ⟨Grow.refl _, rfl⟩)
              · intro w5 hR
                have hGw : Grow ws w5 := hR.of_drew
                have HGW := Lib.hid hGw
                have hoc := (HGW.out.block HB2.out).cell
                have hxc := (HGW.out.block HXS.out).cell
                have hac := HGW.out.cell HAS.out
                clear hR hGw
                simp only [depV]
                rintro _ rfl
                rintro _ rfl
                try go_simp
                exact ⟨Grow.refl _, by rw [HC.out]⟩
              · intro w5 hR
                have hGw : Grow ws w5 := hR.of_drew
                have HGW := Lib.hid hGw
                have hoc := (HGW.out.block HB2.out).cell
                have hxc := (HGW.out.block HXS.out).cell
                have hac := HGW.out.cell HAS.out
                clear hR hGw
                simp only [depV]
                rintro _ rfl
                rintro _ rfl
                try go_simp
                all_goals first
                  | (with_reducible exact Grow.refl _)
                  | (with_reducible exact ⟨Grow.refl _, rfl⟩)
            · intro w5 hR
              have HG5 : Hid (Grow ws w5) := Lib.hid hR.of_drew
              clear hR
              simp only [finVC, List.take_succ_cons, List.take_zero, List.drop_succ_cons, List.drop_zero]
              rintro _ rfl
              rintro _ rfl
              rintro _ rfl
              rintro _ rfl
              rintro _ rfl
              rintro _ rfl
              rintro _ rfl
              rintro _ rfl
              rintro _ rfl
              rintro _ rfl
              rintro _ rfl
              rintro _ rfl
              rintro _ rfl
              simp only [Act.put, List.setIfInBounds_toArray, List.set_cons_succ, List.set_cons_zero]
              have HON : Hid (∃ j, BlockIs w5 ob 25 (cellsN ⟨fa', fc', na', nc'⟩ ⟨p.folk, p.needs, j, p.most⟩)) := Lib.hid ⟨k, HG5.out.block HB2.out⟩
              have HBN : Hid (Below ob W7 w5) := Lib.hid (HBS.out.trans (Below.mono HG5.out (Nat.le_of_lt HZS.out)))
              go_wp2_with fail
              go_roundw
              case rel => exact ⟨k + 1, by omega, by omega, by go_num, HON, HBN⟩
              case measure => simp [intOf]; omega
          · have hdg : decide ((k : Int) ≤ (pg : Int)) = false := decide_eq_false (by omega)
            have HGR : Hid (Grow w wr) := Lib.hid (HG7.out.trans' (HBR.out.mono (by omega)))
            go_wp2_with fail
            refine (works_any _).mono ?_
            rintro e w9 ⟨rfl, hb9⟩
            have HG9 : Hid (Grow w w9) := Lib.hid (HGR.out.trans hb9)
            clear hb9
            go_wp2
            go_ret
            exact ⟨by simp, HG9.out⟩
        · have hd3 : decide ((k : Int) ≤ 3) = false := decide_eq_false (by omega)
          have HGR : Hid (Grow w wr) := Lib.hid (HG7.out.trans' (HBR.out.mono (by omega)))
          go_wp2_with fail
          refine (works_any _).mono ?_
          rintro e w9 ⟨rfl, hb9⟩
          have HG9 : Hid (Grow w w9) := Lib.hid (HGR.out.trans hb9)
          clear hb9
          go_wp2
          go_ret
          exact ⟨by simp, HG9.out⟩

theorem coverServed_any (h : PoolH) (d : PoolI) (A : Option Addr) (cap : Nat) (ws : List Int) (sl : Int) (B : Option Addr) (bc : Nat) (xs : List Int) (w : World) (hA : PoolAt w w.heap.size h d) (hI : Ints w w.heap.size A ws) (hwf : Wf ws) (hJ : Ints w w.heap.size B xs) :
    Calls Try.prog 4 #[poolV h d, .slice A ws.length cap, .agg #[.int .i64 sl, .slice B xs.length bc]] w fun e w' => e = .returned (.bool true) ∧ Below w.heap.size w w' := by
  cases hv : validI d with
  | false => exact coverServed_bad h d A cap ws sl B bc xs w hA hv
  | true =>
    obtain ⟨p, rfl, G⟩ := valid_is hv
    rw [pool_i]
    by_cases hl : 20 < ws.length
    · exact coverServed_long h p G A cap ws sl B bc xs w hA hv hl
    by_cases hm : 20 < xs.length
    · exact coverServed_wide h p G A cap ws sl B bc xs w hA hv (by omega) hm
    cases hq : okWatch p ws with
    | false => exact coverServed_not h p G A cap ws sl B bc xs w hA hv hI (by omega) (by omega) hwf hq
    | true =>
      cases hs : inB sl 0 ((p.needs.length : Int) - 1) with
      | false => exact coverServed_slot h p G A cap ws sl B bc xs w hA hv hI (by omega) (by omega) hwf hq hs
      | true =>
        rw [inB_iff] at hs
        obtain ⟨s, rfl⟩ : ∃ s : Nat, sl = (s : Int) := ⟨sl.toNat, by omega⟩
        obtain ⟨e, hwt⟩ := okWatch_is G hwf hq
        obtain ⟨gs, hgs⟩ : ∃ z, gsOf ws = z := ⟨_, rfl⟩
        rw [hgs] at e hwt
        subst e
        rw [natsL_length] at hl ⊢
        exact coverServed_good h p G A cap gs s B bc xs w hA hv hI hJ (by omega) (by omega) hwf hwt (by have := hwt.len; omega)

end Go.Proofs.Ytcgnibfcjadnjaa
