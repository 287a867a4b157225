/- ReadyLaw: the statement on the ready slots; written by wip/tools/readylaw10.py. -/
import Derived.Test.YtcgnibfcjadnjaaWorksP
namespace Go.Proofs.Ytcgnibfcjadnjaa
open Go.RowKit

set_option maxRecDepth 100000 in
set_option maxHeartbeats 8000000 in
theorem coverReady_bad (h : PoolH) (d : PoolI) (A : Option Addr) (cap : Nat) (ws : List Int) (w : World) (hA : PoolAt w w.heap.size h d) (hv : validI d = false) :
    Calls Try.prog 8 #[poolV h d, .slice A ws.length cap] w fun e w' => e = .returned (.bool true) ∧ Below w.heap.size w w' := by
  have HV := Lib.hid (fun (w0 : World) (hw : Grow w w0) => valid_any h d w0 (hA.grow hw))
  rw [hv] at HV
  clear hA hv
  obtain ⟨fa, fc, na, nc⟩ := h
  go_enter Try.func8, Try.ntmps8
  go_upto_region 1 with fail
  obtain ⟨W, hW, hg, hf, hsz⟩ := one_block w 25 (cellsP ⟨fa, fc, na, nc⟩ d)
  rw [hW]
  clear hW
  have hcc := hf.cell
  have HG := Lib.hid hg
  have HF := Lib.hid hf
  clear hf hg
  go_wp2_with fail
  refine (HV.out W HG.out).mono ?_
  rintro e w1 ⟨rfl, hb1⟩
  have HG1 : Hid (Grow w w1) := Lib.hid (HG.out.trans hb1)
  have hcc1 := ((show Grow W w1 from hb1).block HF.out).cell
  clear hb1 hcc
  go_wp2_with fail
  refine (works_any _).mono ?_
  rintro e w9 ⟨rfl, hb9⟩
  have HG9 : Hid (Grow w w9) := Lib.hid (HG1.out.trans hb9)
  clear hb9
  go_wp2
  go_ret
  exact ⟨rfl, HG9.out⟩

set_option maxRecDepth 100000 in
set_option maxHeartbeats 8000000 in
theorem coverReady_long (h : PoolH) (p : Pool) (_G : Good p) (A : Option Addr) (cap : Nat) (ws : List Int) (w : World) (hA : PoolAt w w.heap.size h p.i) (hv : validI p.i = true) (hl : 20 < ws.length) :
    Calls Try.prog 8 #[poolN h p, .slice A ws.length cap] w fun e w' => e = .returned (.bool true) ∧ Below w.heap.size w w' := by
  have HV := Lib.hid (fun (w0 : World) (hw : Grow w w0) => valid_any h p.i w0 (hA.grow hw))
  rw [hv, pool_i] at HV
  have hl1 : decide ((20 : Int) < (ws.length : Int)) = true := decide_eq_true (by omega)
  have hl2 : decide (20 < ws.length) = true := decide_eq_true (by omega)
  clear hA hv
  obtain ⟨fa, fc, na, nc⟩ := h
  go_enter Try.func8, Try.ntmps8
  go_upto_region 1 with fail
  obtain ⟨W, hW, hg, hf, hsz⟩ := one_block w 25 (cellsN ⟨fa, fc, na, nc⟩ p)
  rw [hW]
  clear hW
  have hcc := hf.cell
  have HG := Lib.hid hg
  have HF := Lib.hid hf
  clear hf hg
  go_wp2_with fail
  refine (HV.out W HG.out).mono ?_
  rintro e w1 ⟨rfl, hb1⟩
  have HG1 : Hid (Grow w w1) := Lib.hid (HG.out.trans hb1)
  have hcc1 := ((show Grow W w1 from hb1).block HF.out).cell
  clear hb1 hcc
  go_wp2_with fail
  refine (works_any _).mono ?_
  rintro e w9 ⟨rfl, hb9⟩
  have HG9 : Hid (Grow w w9) := Lib.hid (HG1.out.trans hb9)
  clear hb9
  go_wp2
  go_ret
  exact ⟨rfl, HG9.out⟩

set_option maxRecDepth 100000 in
set_option maxHeartbeats 8000000 in
theorem coverReady_not (h : PoolH) (p : Pool) (G : Good p) (A : Option Addr) (cap : Nat) (ws : List Int) (w : World) (hA : PoolAt w w.heap.size h p.i) (hv : validI p.i = true) (hI : Ints w w.heap.size A ws) (hl : ws.length ≤ 20) (hwf : Wf ws) (hq : okWatch p ws = false) :
    Calls Try.prog 8 #[poolN h p, .slice A ws.length cap] w fun e w' => e = .returned (.bool true) ∧ Below w.heap.size w w' := by
  have HV := Lib.hid (fun (w0 : World) (hw : Grow w w0) => valid_any h p.i w0 (hA.grow hw))
  rw [hv, pool_i] at HV
  have HIW := Lib.hid (fun (w0 : World) (hw : Grow w w0) => rIsWatch_any h p G A cap ws w0 (hA.grow hw) ((hI.below hw).more hw.size) (by omega) hwf)
  have hl1 : decide ((20 : Int) < (ws.length : Int)) = false := decide_eq_false (by omega)
  have hl2 : decide (20 < ws.length) = false := decide_eq_false (by omega)
  rw [hq] at HIW
  clear hA hv hI hwf hq
  obtain ⟨fa, fc, na, nc⟩ := h
  go_enter Try.func8, Try.ntmps8
  go_upto_region 1 with fail
  obtain ⟨W, hW, hg, hf, hsz⟩ := one_block w 25 (cellsN ⟨fa, fc, na, nc⟩ p)
  rw [hW]
  clear hW
  have hcc := hf.cell
  have HG := Lib.hid hg
  have HF := Lib.hid hf
  clear hf hg
  go_wp2_with fail
  refine (HV.out W HG.out).mono ?_
  rintro e w1 ⟨rfl, hb1⟩
  have HG1 : Hid (Grow w w1) := Lib.hid (HG.out.trans hb1)
  have hcc1 := ((show Grow W w1 from hb1).block HF.out).cell
  clear hb1 hcc
  go_wp2_with fail
  refine (HIW.out w1 HG1.out).mono ?_
  rintro e w2 ⟨rfl, hb2⟩
  have HG2 : Hid (Grow w w2) := Lib.hid (HG1.out.trans hb2)
  clear hb2 hcc1
  go_wp2_with fail
  refine (works_any _).mono ?_
  rintro e w9 ⟨rfl, hb9⟩
  have HG9 : Hid (Grow w w9) := Lib.hid (HG2.out.trans hb9)
  clear hb9
  go_wp2
  go_ret
  exact ⟨rfl, HG9.out⟩

set_option maxRecDepth 100000 in
set_option maxHeartbeats 8000000 in
theorem coverReady_good (h : PoolH) (p : Pool) (G : Good p) (A : Option Addr) (cap : Nat) (gs : List Nat) (w : World) (hA : PoolAt w w.heap.size h p.i) (hv : validI p.i = true) (hI : Ints w w.heap.size A (natsL gs)) (hl : gs.length ≤ 20) (hwf : Wf (natsL gs)) (hwt : Watch p gs) :
    Calls Try.prog 8 #[poolN h p, .slice A gs.length cap] w fun e w' => e = .returned (.bool true) ∧ Below w.heap.size w w' := by
  have HV := Lib.hid (fun (w0 : World) (hw : Grow w w0) => valid_any h p.i w0 (hA.grow hw))
  rw [hv, pool_i] at HV
  have HIW := Lib.hid (fun (w0 : World) (hw : Grow w w0) => rIsWatch_any h p G A cap (natsL gs) w0 (hA.grow hw) ((hI.below hw).more hw.size) (by simp only [natsL_length]; omega) hwf)
  have hl1 : decide ((20 : Int) < (gs.length : Int)) = false := decide_eq_false (by omega)
  have hl2 : decide (20 < gs.length) = false := decide_eq_false (by omega)
  have hq : okWatch p (natsL gs) = true := ok_of_watch G hwt
  rw [hq] at HIW
  simp only [natsL_length] at HIW
  have hok : okPool p.i = true := by unfold validI at hv; rw [Bool.and_eq_true] at hv; exact hv.2
  have hsh : Short p.i := by unfold validI at hv; rw [Bool.and_eq_true, Bool.not_eq_true'] at hv; exact far_short hv.1
  have HSF := Lib.hid (fun (w0 : World) (hw : Grow w w0) => safeApi_any h p G hok hsh A cap gs w0 (hA.grow hw) ((hI.below hw).more hw.size) hwt)
  have HRD := Lib.hid (fun (s : Nat) (hs : s < gs.length) (w0 : World) (hw : Grow w w0) => readyApi_any h p G hok hsh A cap gs w0 (hA.grow hw) ((hI.below hw).more hw.size) hwt s hs)
  have HIN := Lib.hid (fun (w0 : World) (hw : Grow w w0) => (hI.below hw).more hw.size)
  have HG32 := Lib.hid (fun (s g : Nat) (hg : gs[s]? = some g) => hwt.g32 G hg)
  have HLN := Lib.hid hwt.len
  obtain ⟨f, hf'⟩ : ∃ z, (fun s => coveredD p s (gs.getD s 0)) = z := ⟨_, rfl⟩
  have HFX := Lib.hid (fun (s g : Nat) (hg : gs[s]? = some g) => (show f s = decide (min (p.ill : Int) (popD g) ≤ readyD p s g) by rw [← hf']; show coveredD p s (gs.getD s 0) = _; rw [List.getD_eq_getElem?_getD, hg]; rfl))
  have HOK : Hid (safeD p gs = (List.range gs.length).all f) := Lib.hid (by rw [← hf']; rfl)
  obtain ⟨ok, hokd⟩ : ∃ z, safeD p gs = z := ⟨_, rfl⟩
  rw [hokd] at HOK HSF
  clear hA hv hI hwf hq hok hsh hwt hf' hokd
  obtain ⟨fa, fc, na, nc⟩ := h
  go_enter Try.func8, Try.ntmps8
  go_upto_region 1 with fail
  obtain ⟨W, hW, hg, hf, hsz⟩ := one_block w 25 (cellsN ⟨fa, fc, na, nc⟩ p)
  rw [hW]
  clear hW
  have hcc := hf.cell
  have HG := Lib.hid hg
  have HF := Lib.hid hf
  clear hf hg
  go_wp2_with fail
  refine (HV.out W HG.out).mono ?_
  rintro e w1 ⟨rfl, hb1⟩
  have HG1 : Hid (Grow w w1) := Lib.hid (HG.out.trans hb1)
  have HF1 := Lib.hid ((show Grow W w1 from hb1).block HF.out)
  have hcc1 := HF1.out.cell
  clear hb1 hcc HF
  go_wp2_with fail
  refine (HIW.out w1 HG1.out).mono ?_
  rintro e w2 ⟨rfl, hb2⟩
  have HG2 : Hid (Grow w w2) := Lib.hid (HG1.out.trans hb2)
  have HF2 := Lib.hid ((show Grow w1 w2 from hb2).block HF1.out)
  have hcc2 := HF2.out.cell
  clear hb2 hcc1 HF1
  go_wp2_with fail
  refine (HSF.out w2 HG2.out).mono ?_
  rintro e w3 ⟨rfl, hb3⟩
  have HG3 : Hid (Grow w2 w3) := hb3
  clear hb3 hcc2
  go_wp2_with fail
  go_loopw [7, 8] (fun av sv wr => ∃ s : Nat, s ≤ gs.length ∧ sv = .int .i64 (s : Nat) ∧ av = .bool ((List.range s).all f) ∧ Grow w2 wr) (fun _ sv _ => gs.length - (intOf sv).toNat)
  case atStart => exact ⟨0, Nat.zero_le _, rfl, rfl, HG3.out⟩
  case round => as_aux_lemma =>
    obtain ⟨s, hs, rfl, rfl, hgr⟩ := hrel
    rename World => wr
    have HGW2 : Hid (Grow w2 wr) := hgr
    clear hgr
    obtain ⟨av, hav⟩ : ∃ z, (List.range s).all f = z := ⟨_, rfl⟩
    have HAT := Lib.hid hav
    rw [hav]
    clear hav
    by_cases hlt : s < gs.length
    · have hd : decide ((s : Int) < (gs.length : Int)) = true := decide_eq_true (by omega)
      have hs0 : (0 : Int) ≤ (s : Int) := by omega
      have hs1 : (s : Int) < (gs.length : Int) := by omega
      obtain ⟨xb, xo, x, rfl, hxb, hxc, HX⟩ := ints_nat (HIN.out wr (HG2.out.trans HGW2.out)) hlt
      have HXC := Lib.hid hxc
      have hx32 := HG32.out s x HX.out
      have hgd : gs.getD s 0 = x := by rw [List.getD_eq_getElem?_getD, HX.out]; rfl
      have HRS := Lib.hid (fun w0 hw => HRD.out s hlt w0 hw)
      rw [hgd] at HRS
      have HSS : Hid ((List.range (s + 1)).all f = ((List.range s).all f && decide (min (p.ill : Int) (popD x) ≤ readyD p s x))) := Lib.hid (by rw [range_all_succ, HFX.out s x HX.out])
      have HSZ := Lib.hid (fun w0 => rSize_any x w0 (by omega))
      have hrb : -1 ≤ readyD p s x ∧ readyD p s x ≤ popD x := ⟨ready_low p s x, ready_high p s x⟩
      have hp5 := pop_le5 x hx32
      have hill := G.ill
      obtain ⟨rd, hrd⟩ : ∃ z, readyD p s x = z := ⟨_, rfl⟩
      obtain ⟨pg, hpg⟩ : ∃ z, popD x = z := ⟨_, rfl⟩
      rw [hrd, hpg] at HSS hrb
      rw [hrd] at HRS
      rw [hpg] at HSZ hp5
      obtain ⟨mn, hmn⟩ : ∃ z, min (p.ill : Int) (pg : Int) = z := ⟨_, rfl⟩
      rw [hmn] at HSS
      have HMN := Lib.hid hmn.symm
      obtain ⟨c, hc⟩ : ∃ z, decide (mn ≤ rd) = z := ⟨_, rfl⟩
      rw [hc] at HSS
      have HCV := Lib.hid hc
      have hgt : decide ((pg : Int) < rd) = false := decide_eq_false (by omega)
      have hcc := (HGW2.out.block HF2.out).cell
      clear hrd hpg hmn hc hgd
      go_wp2_with fail
      refine (HRS.out wr (HG2.out.trans HGW2.out)).mono ?_
      rintro e w5 ⟨rfl, hb5⟩
      have HG6 : Hid (Grow wr w5) := hb5
      have hxc5 := HG6.out.cell HXC.out
      clear hb5 hcc hxc
      go_wp2_with fail
      refine (HSZ.out _).mono ?_
      rintro e w6 ⟨rfl, rfl⟩
      rename World => w7
      have HG7 : Hid (Grow wr w7) := HG6
      clear hxc5
      go_upto_region 11 with fail
      cases av with
      | true =>
        refine wp_region_lit 13 [[], [(0, 56)], [(1, 57)], [(1, 57)], [(1, 57), (3, 59)], [(1, 57)], [(1, 57)], [(1, 57), (5, 61), (6, 62)], [(1, 57), (7, 63)], [(1, 57), (8, 64)], [(1, 57), (4, 60), (9, 65)], [(1, 57), (2, 58), (10, 66)], [(1, 57), (11, 67)]] Grow (fun qi v w' => match qi with
            | 0 => v = .bool true
            | 1 => v = .bool true
            | 2 => v = .int .i64 rd
            | 3 => v = .pointer (some ⟨w.heap.size, 2, none⟩)
            | 4 => v = .int .i64 (p.ill : Nat)
            | 5 => v = .slice (some ⟨xb, xo, none⟩) gs.length cap
            | 6 => v = .int .i64 (s : Nat)
            | 7 => v = .pointer (some ⟨xb, xo + s, none⟩)
            | 8 => v = .int .i64 (x : Nat)
            | 9 => v = .int .i64 (pg : Nat)
            | 10 => v = .int .i64 mn
            | 11 => v = .bool c
            | 12 => v = .bool c
            | _ => False) (by kernel_rfl) (by kernel_rfl) (fun _ _ _ => Grow.trans) Grow.refl ?_ ?_ ?_
        · intro i v y y' h k
          match i, h with
          | 0, h | 1, h | 2, h | 3, h | 4, h | 5, h | 6, h | 7, h | 8, h | 9, h | 10, h | 11, h | 12, h => exact h
        · simp only [StepsLit, List.take_succ_cons, List.take_zero]
          refine ⟨?_, ?_, ?_, ?_, ?_, ?_, ?_, ?_, ?_, ?_, ?_, ?_, ?_, trivial⟩
          · intro w5 hR
            have hGw : Grow w7 w5 := hR.of_drew
            have HGW := Lib.hid hGw
            have hcc := (((HGW2.out.trans HG7.out).trans HGW.out).block HF2.out).cell
            have hxc := (HG7.out.trans HGW.out).cell HXC.out
            clear hR hGw
            simp only [depV]
            try go_simp
            all_goals first
              | (with_reducible exact Grow.refl _)
              | (with_reducible exact ⟨Grow.refl _, rfl⟩)
          · intro w5 hR
            have hGw : Grow w7 w5 := hR.of_drew
            have HGW := Lib.hid hGw
            have hcc := (((HGW2.out.trans HG7.out).trans HGW.out).block HF2.out).cell
            have hxc := (HG7.out.trans HGW.out).cell HXC.out
            clear hR hGw
            simp only [depV]
            rintro _ rfl
            try go_simp
            all_goals first
              | (with_reducible exact Grow.refl _)
              | (with_reducible exact ⟨Grow.refl _, rfl⟩)
          · intro w5 hR
            have hGw : Grow w7 w5 := hR.of_drew
            have HGW := Lib.hid hGw
            have hcc := (((HGW2.out.trans HG7.out).trans HGW.out).block HF2.out).cell
            have hxc := (HG7.out.trans HGW.out).cell HXC.out
            clear hR hGw
            simp only [depV]
            rintro _ rfl
            try go_simp
            all_goals first
              | (with_reducible exact Grow.refl _)
              | (with_reducible exact ⟨Grow.refl _, rfl⟩)
          · intro w5 hR
            have hGw : Grow w7 w5 := hR.of_drew
            have HGW := Lib.hid hGw
            have hcc := (((HGW2.out.trans HG7.out).trans HGW.out).block HF2.out).cell
            have hxc := (HG7.out.trans HGW.out).cell HXC.out
            clear hR hGw
            simp only [depV]
            rintro _ rfl
            try go_simp
            all_goals first
              | (with_reducible exact Grow.refl _)
              | (with_reducible exact ⟨Grow.refl _, rfl⟩)
          · intro w5 hR
            have hGw : Grow w7 w5 := hR.of_drew
            have HGW := Lib.hid hGw
            have hcc := (((HGW2.out.trans HG7.out).trans HGW.out).block HF2.out).cell
            have hxc := (HG7.out.trans HGW.out).cell HXC.out
            clear hR hGw
            simp only [depV]
            rintro _ rfl
            rintro _ rfl
            try go_simp
            all_goals first
              | (with_reducible exact Grow.refl _)
              | (with_reducible exact ⟨Grow.refl _, rfl⟩)
          · intro w5 hR
            have hGw : Grow w7 w5 := hR.of_drew
            have HGW := Lib.hid hGw
            have hcc := (((HGW2.out.trans HG7.out).trans HGW.out).block HF2.out).cell
            have hxc := (HG7.out.trans HGW.out).cell HXC.out
            clear hR hGw
            simp only [depV]
            rintro _ rfl
            try go_simp
            all_goals first
              | (with_reducible exact Grow.refl _)
              | (with_reducible exact ⟨Grow.refl _, rfl⟩)
          · intro w5 hR
            have hGw : Grow w7 w5 := hR.of_drew
            have HGW := Lib.hid hGw
            have hcc := (((HGW2.out.trans HG7.out).trans HGW.out).block HF2.out).cell
            have hxc := (HG7.out.trans HGW.out).cell HXC.out
            clear hR hGw
            simp only [depV]
            rintro _ rfl
            try go_simp
            all_goals first
              | (with_reducible exact Grow.refl _)
              | (with_reducible exact ⟨Grow.refl _, rfl⟩)
          · intro w5 hR
            have hGw : Grow w7 w5 := hR.of_drew
            have HGW := Lib.hid hGw
            have hcc := (((HGW2.out.trans HG7.out).trans HGW.out).block HF2.out).cell
            have hxc := (HG7.out.trans HGW.out).cell HXC.out
            clear hR hGw
            simp only [depV]
            rintro _ rfl
            rintro _ rfl
            rintro _ rfl
            try go_simp
            all_goals first
              | (with_reducible exact Grow.refl _)
              | (with_reducible exact ⟨Grow.refl _, rfl⟩)
          · intro w5 hR
            have hGw : Grow w7 w5 := hR.of_drew
            have HGW := Lib.hid hGw
            have hcc := (((HGW2.out.trans HG7.out).trans HGW.out).block HF2.out).cell
            have hxc := (HG7.out.trans HGW.out).cell HXC.out
            clear hR hGw
            simp only [depV]
            rintro _ rfl
            rintro _ rfl
            try go_simp
            all_goals first
              | (with_reducible exact Grow.refl _)
              | (with_reducible exact ⟨Grow.refl _, rfl⟩)
          · intro w5 hR
            have hGw : Grow w7 w5 := hR.of_drew
            have HGW := Lib.hid hGw
            have hcc := (((HGW2.out.trans HG7.out).trans HGW.out).block HF2.out).cell
            have hxc := (HG7.out.trans HGW.out).cell HXC.out
            clear hR hGw
            simp only [depV]
            rintro _ rfl
            rintro _ rfl
            try go_simp
            refine (HSZ.out _).mono ?_
            rintro e w6 ⟨rfl, rfl⟩
            exact ⟨Grow.refl _, rfl⟩
          · intro w5 hR
            have hGw : Grow w7 w5 := hR.of_drew
            have HGW := Lib.hid hGw
            have hcc := (((HGW2.out.trans HG7.out).trans HGW.out).block HF2.out).cell
            have hxc := (HG7.out.trans HGW.out).cell HXC.out
            clear hR hGw
            simp only [depV]
            rintro _ rfl
            rintro _ rfl
            rintro _ rfl
            try go_simp
            exact ⟨Grow.refl _, by rw [HMN.out]; split <;> omega⟩
          · intro w5 hR
            have hGw : Grow w7 w5 := hR.of_drew
            have HGW := Lib.hid hGw
            have hcc := (((HGW2.out.trans HG7.out).trans HGW.out).block HF2.out).cell
            have hxc := (HG7.out.trans HGW.out).cell HXC.out
            clear hR hGw
            simp only [depV]
            rintro _ rfl
            rintro _ rfl
            rintro _ rfl
            try go_simp
            exact ⟨Grow.refl _, by rw [← HCV.out]⟩
          · intro w5 hR
            have hGw : Grow w7 w5 := hR.of_drew
            have HGW := Lib.hid hGw
            have hcc := (((HGW2.out.trans HG7.out).trans HGW.out).block HF2.out).cell
            have hxc := (HG7.out.trans HGW.out).cell HXC.out
            clear hR hGw
            simp only [depV]
            rintro _ rfl
            rintro _ rfl
            try go_simp
            all_goals first
              | (with_reducible exact Grow.refl _)
              | (with_reducible exact ⟨Grow.refl _, rfl⟩)
        · intro w5 hR
          have HG5 : Hid (Grow w7 w5) := Lib.hid hR.of_drew
          clear hR
          simp only [finVC, List.take_succ_cons, List.take_zero, List.drop_succ_cons, List.drop_zero]
          rintro _ rfl
          rintro _ rfl
          rintro _ rfl
          rintro _ rfl
          rintro _ rfl
          rintro _ rfl
          rintro _ rfl
          rintro _ rfl
          rintro _ rfl
          rintro _ rfl
          rintro _ rfl
          rintro _ rfl
          rintro _ rfl
          simp only [Act.put, List.setIfInBounds_toArray, List.set_cons_succ, List.set_cons_zero]
          go_wp2_with fail
          go_roundw
          case rel => exact ⟨s + 1, by omega, by go_num, by rw [HSS.out, HAT.out, Bool.true_and], HGW2.out.trans (HG7.out.trans HG5.out)⟩
          case measure => simp [intOf]; omega
      | false =>
        refine wp_region_lit 13 [[], [(0, 56)], [(1, 57)], [(1, 57)], [(1, 57), (3, 59)], [(1, 57)], [(1, 57)], [(1, 57), (5, 61), (6, 62)], [(1, 57), (7, 63)], [(1, 57), (8, 64)], [(1, 57), (4, 60), (9, 65)], [(1, 57), (2, 58), (10, 66)], [(1, 57), (11, 67)]] Grow (fun qi v w' => match qi with
            | 0 => v = .bool false
            | 1 => v = .bool false
            | 2 => v = undef
            | 3 => v = undef
            | 4 => v = undef
            | 5 => v = undef
            | 6 => v = undef
            | 7 => v = undef
            | 8 => v = undef
            | 9 => v = undef
            | 10 => v = undef
            | 11 => v = undef
            | 12 => v = .bool false
            | _ => False) (by kernel_rfl) (by kernel_rfl) (fun _ _ _ => Grow.trans) Grow.refl ?_ ?_ ?_
        · intro i v y y' h k
          match i, h with
          | 0, h | 1, h | 2, h | 3, h | 4, h | 5, h | 6, h | 7, h | 8, h | 9, h | 10, h | 11, h | 12, h => exact h
        · simp only [StepsLit, List.take_succ_cons, List.take_zero]
          refine ⟨?_, ?_, ?_, ?_, ?_, ?_, ?_, ?_, ?_, ?_, ?_, ?_, ?_, trivial⟩
          · intro w5 hR
            have hGw : Grow w7 w5 := hR.of_drew
            have HGW := Lib.hid hGw
            clear hR hGw
            simp only [depV]
            try go_simp
            all_goals first
              | (with_reducible exact Grow.refl _)
              | (with_reducible exact ⟨Grow.refl _, rfl⟩)
          · intro w5 hR
            have hGw : Grow w7 w5 := hR.of_drew
            have HGW := Lib.hid hGw
            clear hR hGw
            simp only [depV]
            rintro _ rfl
            try go_simp
            all_goals first
              | (with_reducible exact Grow.refl _)
              | (with_reducible exact ⟨Grow.refl _, rfl⟩)
          · intro w5 hR
            have hGw : Grow w7 w5 := hR.of_drew
            have HGW := Lib.hid hGw
            clear hR hGw
            simp only [depV]
            rintro _ rfl
            try go_simp
            all_goals first
              | (with_reducible exact Grow.refl _)
              | (with_reducible exact ⟨Grow.refl _, rfl⟩)
          · intro w5 hR
            have hGw : Grow w7 w5 := hR.of_drew
            have HGW := Lib.hid hGw
            clear hR hGw
            simp only [depV]
            rintro _ rfl
            try go_simp
            all_goals first
              | (with_reducible exact Grow.refl _)
              | (with_reducible exact ⟨Grow.refl _, rfl⟩)
          · intro w5 hR
            have hGw : Grow w7 w5 := hR.of_drew
            have HGW := Lib.hid hGw
            clear hR hGw
            simp only [depV]
            rintro _ rfl
            rintro _ rfl
            try go_simp
            all_goals first
              | (with_reducible exact Grow.refl _)
              | (with_reducible exact ⟨Grow.refl _, rfl⟩)
          · intro w5 hR
            have hGw : Grow w7 w5 := hR.of_drew
            have HGW := Lib.hid hGw
            clear hR hGw
            simp only [depV]
            rintro _ rfl
            try go_simp
            all_goals first
              | (with_reducible exact Grow.refl _)
              | (with_reducible exact ⟨Grow.refl _, rfl⟩)
          · intro w5 hR
            have hGw : Grow w7 w5 := hR.of_drew
            have HGW := Lib.hid hGw
            clear hR hGw
            simp only [depV]
            rintro _ rfl
            try go_simp
            all_goals first
              | (with_reducible exact Grow.refl _)
              | (with_reducible exact ⟨Grow.refl _, rfl⟩)
          · intro w5 hR
            have hGw : Grow w7 w5 := hR.of_drew
            have HGW := Lib.hid hGw
            clear hR hGw
            simp only [depV]
            rintro _ rfl
            rintro _ rfl
            rintro _ rfl
            try go_simp
            all_goals first
              | (with_reducible exact Grow.refl _)
              | (with_reducible exact ⟨Grow.refl _, rfl⟩)
          · intro w5 hR
            have hGw : Grow w7 w5 := hR.of_drew
            have HGW := Lib.hid hGw
            clear hR hGw
            simp only [depV]
            rintro _ rfl
            rintro _ rfl
            try go_simp
            all_goals first
              | (with_reducible exact Grow.refl _)
              | (with_reducible exact ⟨Grow.refl _, rfl⟩)
          · intro w5 hR
            have hGw : Grow w7 w5 := hR.of_drew
            have HGW := Lib.hid hGw
            clear hR hGw
            simp only [depV]
            rintro _ rfl
            rintro _ rfl
            try go_simp
            all_goals first
              | (with_reducible exact Grow.refl _)
              | (with_reducible exact ⟨Grow.refl _, rfl⟩)
          · intro w5 hR
            have hGw : Grow w7 w5 := hR.of_drew
            have HGW := Lib.hid hGw
            clear hR hGw
            simp only [depV]
            rintro _ rfl
            rintro _ rfl
            rintro _ rfl
            try go_simp
            all_goals first
              | (with_reducible exact Grow.refl _)
              | (with_reducible exact ⟨Grow.refl _, rfl⟩)
          · intro w5 hR
            have hGw : Grow w7 w5 := hR.of_drew
            have HGW := Lib.hid hGw
            clear hR hGw
            simp only [depV]
            rintro _ rfl
            rintro _ rfl
            rintro _ rfl
            try go_simp
            all_goals first
              | (with_reducible exact Grow.refl _)
              | (with_reducible exact ⟨Grow.refl _, rfl⟩)
          · intro w5 hR
            have hGw : Grow w7 w5 := hR.of_drew
            have HGW := Lib.hid hGw
            clear hR hGw
            simp only [depV]
            rintro _ rfl
            rintro _ rfl
            try go_simp
            all_goals first
              | (with_reducible exact Grow.refl _)
              | (with_reducible exact ⟨Grow.refl _, rfl⟩)
        · intro w5 hR
          have HG5 : Hid (Grow w7 w5) := Lib.hid hR.of_drew
          clear hR
          simp only [finVC, List.take_succ_cons, List.take_zero, List.drop_succ_cons, List.drop_zero]
          rintro _ rfl
          rintro _ rfl
          rintro _ rfl
          rintro _ rfl
          rintro _ rfl
          rintro _ rfl
          rintro _ rfl
          rintro _ rfl
          rintro _ rfl
          rintro _ rfl
          rintro _ rfl
          rintro _ rfl
          rintro _ rfl
          simp only [Act.put, List.setIfInBounds_toArray, List.set_cons_succ, List.set_cons_zero]
          go_wp2_with fail
          go_roundw
          case rel => exact ⟨s + 1, by omega, by go_num, by rw [HSS.out, HAT.out, Bool.false_and], HGW2.out.trans (HG7.out.trans HG5.out)⟩
          case measure => simp [intOf]; omega
    · obtain rfl : s = gs.length := by omega
      have hd : decide ((gs.length : Int) < (gs.length : Int)) = false := decide_eq_false (by omega)
      have HAV : Hid (av = ok) := Lib.hid (by rw [← HAT.out, HOK.out])
      obtain rfl := HAV.out
      go_wp2_with fail
      refine (works_any _).mono ?_
      rintro e w9 ⟨rfl, hb9⟩
      have HG9 : Hid (Grow w w9) := Lib.hid ((HG2.out.trans HGW2.out).trans hb9)
      clear hb9
      go_wp2
      go_ret
      exact ⟨by simp, HG9.out⟩

theorem coverReady_any (h : PoolH) (d : PoolI) (A : Option Addr) (cap : Nat) (ws : List Int) (w : World) (hA : PoolAt w w.heap.size h d) (hI : Ints w w.heap.size A ws) (hwf : Wf ws) :
    Calls Try.prog 8 #[poolV h d, .slice A ws.length cap] w fun e w' => e = .returned (.bool true) ∧ Below w.heap.size w w' := by
  cases hv : validI d with
  | false => exact coverReady_bad h d A cap ws w hA hv
  | true =>
    obtain ⟨p, rfl, G⟩ := valid_is hv
    rw [pool_i]
    by_cases hl : 20 < ws.length
    · exact coverReady_long h p G A cap ws w hA hv hl
    · cases hq : okWatch p ws with
      | false => exact coverReady_not h p G A cap ws w hA hv hI (by omega) hwf hq
      | true =>
        obtain ⟨e, hwt⟩ := okWatch_is G hwf hq
        obtain ⟨gs, hgs⟩ : ∃ z, gsOf ws = z := ⟨_, rfl⟩
        rw [hgs] at e hwt
        subst e
        rw [natsL_length] at hl ⊢
        exact coverReady_good h p G A cap gs w hA hv hI (by omega) hwf hwt

end Go.Proofs.Ytcgnibfcjadnjaa
