/- WatchP: isPossible, hasSlot, isSafe, read, readSlot, readWatch, as the program has them; written by wip/tools/watchp10.py. -/
import Derived.Test.YtcgnibfcjadnjaaRWatch
namespace Go.Proofs.Ytcgnibfcjadnjaa
open Go.RowKit

set_option maxRecDepth 100000 in
set_option maxHeartbeats 1000000 in
theorem hasSlot_any (h : PoolH) (p : Pool) (G : Good p) (s : Int) (w : World) :
    Calls Try.prog 49 #[poolN h p, .int .i64 s] w fun e w' => e = .returned (.bool (inB s 0 ((p.needs.length : Int) - 1))) ∧ Below w.heap.size w w' := by
  have HW := Lib.hid (fun w0 => within_any s 0 ((p.needs.length : Int) - 1) w0)
  have hn1 := G.n1
  have hn3 := G.n3
  have hwr : IntKind.i64.wrap ((p.needs.length : Int) - 1) = (p.needs.length : Int) - 1 := IntWalk.i64_in _ (by omega)
  generalize inB s 0 ((p.needs.length : Int) - 1) = q at HW ⊢
  obtain ⟨fa, fc, na, nc⟩ := h
  go_enter Try.func49, Try.ntmps49
  go_upto_region 1 with fail
  obtain ⟨W, hW, hg, hf, hsz⟩ := one_block w 73 (cellsN ⟨fa, fc, na, nc⟩ p)
  rw [hW]
  clear hW
  have hcc := hf.cell
  have HG := Lib.hid hg
  clear hf hg
  go_wp2_with fail
  refine (HW.out _).mono ?_
  rintro e w2 ⟨rfl, rfl⟩
  go_wp2
  go_ret
  exact ⟨rfl, HG.out⟩

set_option maxRecDepth 100000 in
set_option maxHeartbeats 16000000 in
theorem isPossible_any (h : PoolH) (p : Pool) (G : Good p) (A : Option Addr) (cap : Nat) (ws : List Int) (w : World) (hA : PoolAt w w.heap.size h p.i) (hI : Ints w w.heap.size A ws) (hl : ws.length ≤ 1000000) (hwf : Wf ws) :
    Calls Try.prog 66 #[poolN h p, .slice A ws.length cap] w fun e w' => e = .returned (.bool (okWatch p ws)) ∧ Below w.heap.size w w' := by
  have HAB0 := Lib.hid (fun (s : Nat) (hs : s < p.needs.length) (w0 : World) (hw : Grow w w0) => able_any h p G s w0 (hA.grow hw) hs)
  have HIN := Lib.hid (fun (w0 : World) (hw : Grow w w0) => (hI.below hw).more hw.size)
  have HWF := Lib.hid hwf
  have hl5 := G.f5
  have hf1 := G.f1
  have hn3 := G.n3
  have hn1 := G.n1
  have hm6 := G.most
  have HOKD : Hid (okWatch p ws = (decide (ws.length = p.needs.length) && setsB p ws ws.length && fewB p (gsOf ws) p.folk.length)) := rfl
  obtain ⟨ok, hok⟩ : ∃ z, okWatch p ws = z := ⟨_, rfl⟩
  rw [hok] at HOKD ⊢
  clear hok hA hI hwf
  obtain ⟨fa, fc, na, nc⟩ := h
  go_enter Try.func66, Try.ntmps66
  go_upto_region 1 with fail
  obtain ⟨W, hW, hg, hf, hsz⟩ := one_block w 73 (cellsN ⟨fa, fc, na, nc⟩ p)
  rw [hW]
  clear hW
  have hcc := hf.cell
  have HFR0 := Lib.hid hf
  have HG := Lib.hid hg
  clear hf hg
  by_cases hln : ws.length = p.needs.length
  · have hq : ((ws.length : Int) != (p.needs.length : Int)) = false := by rw [hln]; simp
    have HLN := Lib.hid hln
    have hl3 : ws.length ≤ 3 := by omega
    have HOK : Hid (ok = (setsB p ws ws.length && fewB p (gsOf ws) p.folk.length)) := Lib.hid (by rw [HOKD.out, decide_eq_true HLN.out]; rfl)
    clear hln HOKD
    go_wp2_with fail
    clear hcc
    go_loopw [20] (fun iv wr => ∃ s : Nat, s ≤ ws.length ∧ iv = .int .i64 (s : Nat) ∧ Hid (setsB p ws s = true) ∧ Grow W wr) (fun iv _ => ws.length - (intOf iv).toNat)
    case atStart => exact ⟨0, Nat.zero_le _, rfl, rfl, Grow.refl _⟩
    case round =>
      obtain ⟨s, hs, rfl, HA, hgr⟩ := hrel
      rename World => wr
      have HGR := Lib.hid hgr
      have HFR := Lib.hid (Grow.block hgr HFR0.out)
      clear hgr
      by_cases hlt : s < ws.length
      · have hd : decide ((s : Int) < (ws.length : Int)) = true := decide_eq_true (by omega)
        have hs0 : (0 : Int) ≤ (s : Int) := by omega
        have hs1 : (s : Int) < (ws.length : Int) := by omega
        obtain ⟨xb, xo, x, rfl, hxb, hxc, HX⟩ := (HIN.out wr (HG.out.trans HGR.out)).at_ hlt
        have HSS : Hid (setsB p ws (s + 1) = (setsB p ws s && subI x (ableD p s))) := Lib.hid (by rw [setsB_succ, List.getD_eq_getElem?_getD, HX.out]; rfl)
        have HAB := Lib.hid (fun w0 hw => HAB0.out s (by have := HLN.out; omega) w0 hw)
        have HSI : Hid (subI x (ableD p s) = decide (bits .andNot .i64 x (ableD p s) = 0)) := rfl
        obtain ⟨ab, hab⟩ : ∃ z, ableD p s = z := ⟨_, rfl⟩
        rw [hab] at HSS HAB HSI
        have HINC := Lib.hid (fun w0 => includes_any ab x w0)
        obtain ⟨q, hq'⟩ : ∃ z, decide (bits .andNot .i64 x ab = 0) = z := ⟨_, rfl⟩
        rw [hq'] at HINC HSI
        rw [HSI.out] at HSS
        clear hq' hab HSI
        have hcc := HFR.out.cell
        go_wp2_with fail
        refine (HAB.out _ (HG.out.trans HGR.out)).mono ?_
        rintro e w2 ⟨rfl, hb2⟩
        have HG2 : Hid (Grow W w2) := Lib.hid (HGR.out.trans hb2)
        clear hb2 hcc
        go_wp2_with fail
        refine (HINC.out _).mono ?_
        rintro e w3 ⟨rfl, rfl⟩
        cases q with
        | false =>
          have HX : Hid (ok = false) := Lib.hid (by rw [HOK.out, setsB_mono (k := s + 1) (by omega) (by rw [HSS.out, Bool.and_false])]; rfl)
          go_wp2
          go_ret
          exact ⟨ret_bool HX.out.symm, HG.out.trans HG2.out⟩
        | true =>
          have HX : Hid (setsB p ws (s + 1) = true) := Lib.hid (by rw [HSS.out, HA.out]; rfl)
          go_wp2
          go_roundw
          case rel => exact ⟨s + 1, by omega, by go_num, HX, HG2.out⟩
          case measure => simp [intOf]; omega
      · obtain rfl : s = ws.length := by omega
        have hd : decide ((ws.length : Int) < (ws.length : Int)) = false := decide_eq_false (by omega)
        obtain ⟨hnat, hable⟩ := sets_nats G HWF.out HA.out
        obtain ⟨gs, hgs⟩ : ∃ z, gsOf ws = z := ⟨_, rfl⟩
        rw [hgs] at HOK hnat hable
        have HOK2 : Hid (ok = fewB p gs p.folk.length) := Lib.hid (by rw [HOK.out, HA.out]; rfl)
        have hgl : ws.length = gs.length := by rw [hnat, natsL_length]
        have HIG := Lib.hid (fun (w0 : World) (hw : Grow w w0) => (show Ints w0 w0.heap.size A (natsL gs) by rw [← hnat]; exact HIN.out w0 hw))
        have HAB := Lib.hid hable
        rw [hgl] at hl3 ⊢
        have hcc := HFR.out.cell
        clear hnat hable hgs hgl HOK HA HIN HAB0 HLN hl hd hs hlt hq HWF
        have hd : decide ((gs.length : Int) < (gs.length : Int)) = false := decide_eq_false (by omega)
        go_wp2_with fail
        clear hcc
        go_loopw [36] (fun iv wx => ∃ i : Nat, i ≤ p.folk.length ∧ iv = .int .i64 (i : Nat) ∧ Hid (fewB p gs i = true) ∧ wx = wr) (fun iv _ => p.folk.length - (intOf iv).toNat)
        case atStart => exact ⟨0, Nat.zero_le _, rfl, rfl, rfl⟩
        case round =>
          obtain ⟨i, hi, rfl, HB, rfl⟩ := hrel
          rename World => wr
          have hcc := HFR.out.cell
          by_cases hil : i < p.folk.length
          · have hdi : decide ((i : Int) < (p.folk.length : Int)) = true := decide_eq_true (by omega)
            have h0i : (0 : Int) ≤ (i : Int) := by omega
            have HFS := Lib.hid (fewB_succ p gs i)
            go_wp2_with fail
            go_loopw [8, 41] (fun nv iv wx => ∃ s n : Nat, s ≤ gs.length ∧ iv = .int .i64 (s : Nat) ∧ nv = .int .i64 (n : Nat) ∧ n ≤ s ∧ Hid (n = timesL (gs.take s) i) ∧ wx = wr) (fun _ iv _ => gs.length - (intOf iv).toNat)
            case atStart => exact ⟨0, 0, Nat.zero_le _, rfl, rfl, by omega, rfl, rfl⟩
            case round =>
              obtain ⟨s, n, hs, rfl, rfl, hns, HN, rfl⟩ := hrel
              rename World => wr
              by_cases hsl : s < gs.length
              · have hds : decide ((s : Int) < (gs.length : Int)) = true := decide_eq_true (by omega)
                have hs0 : (0 : Int) ≤ (s : Int) := by omega
                have hs1 : (s : Int) < (gs.length : Int) := by omega
                obtain ⟨xb, xo, x, rfl, hxb, hxc, HX⟩ := ints_nat (HIG.out wr (HG.out.trans HGR.out)) hsl
                have hx32 := sub_32 (able_32 G s) (HAB.out s x HX.out)
                have HT : Hid (timesL (gs.take (s + 1)) i = n + if hasN x i then 1 else 0) := Lib.hid (by rw [times_take i HX.out, HN.out])
                have HH := Lib.hid (fun w0 => has_any x i w0 (by omega) (by omega))
                obtain ⟨hb, hhb⟩ : ∃ z, hasN x i = z := ⟨_, rfl⟩
                rw [hhb] at HT HH
                clear hhb
                cases hb with
                | false =>
                  have HX2 : Hid (timesL (gs.take (s + 1)) i = n) := Lib.hid (by rw [HT.out]; simp)
                  go_wp2_with fail
                  refine (HH.out _).mono ?_
                  rintro e w3 ⟨rfl, rfl⟩
                  go_wp2
                  go_roundw
                  case rel => exact ⟨s + 1, n, by omega, by go_num, rfl, by omega, HX2.out.symm, by first | rfl | trivial⟩
                  case measure => simp [intOf]; omega
                | true =>
                  have HX2 : Hid (timesL (gs.take (s + 1)) i = n + 1) := Lib.hid (by rw [HT.out]; simp)
                  go_wp2_with fail
                  refine (HH.out _).mono ?_
                  rintro e w3 ⟨rfl, rfl⟩
                  go_wp2
                  go_roundw
                  case rel => exact ⟨s + 1, n + 1, by omega, by go_num, by go_num, by omega, HX2.out.symm, by first | rfl | trivial⟩
                  case measure => simp [intOf]; omega
              · obtain rfl : s = gs.length := by omega
                have HFX : Hid (fewB p gs (i + 1) = decide (n ≤ p.most)) := Lib.hid (by
                  have h := HN.out
                  rw [List.take_length] at h
                  rw [HFS.out, HB.out, ← h, Bool.true_and])
                by_cases hnm : p.most < n
                · have hdn : decide ((p.most : Int) < (n : Int)) = true := decide_eq_true (by omega)
                  have HX : Hid (ok = false) := Lib.hid (by rw [HOK2.out]; exact fewB_mono (k := i + 1) (by omega) (by rw [HFX.out]; exact decide_eq_false (by omega)))
                  go_wp2
                  go_ret
                  exact ⟨ret_bool HX.out.symm, HG.out.trans HGR.out⟩
                · have hdn : decide ((p.most : Int) < (n : Int)) = false := decide_eq_false (by omega)
                  have HX : Hid (fewB p gs (i + 1) = true) := Lib.hid (by rw [HFX.out]; exact decide_eq_true (by omega))
                  go_wp2
                  go_roundw
                  case rel => exact ⟨i + 1, by omega, by go_num, HX, by first | rfl | trivial⟩
                  case measure => simp [intOf]; omega
          · obtain rfl : i = p.folk.length := by omega
            have hdi : decide ((p.folk.length : Int) < (p.folk.length : Int)) = false := decide_eq_false (by omega)
            have HX : Hid (ok = true) := Lib.hid (by rw [HOK2.out, HB.out])
            go_wp2
            go_ret
            exact ⟨ret_bool HX.out.symm, HG.out.trans HGR.out⟩
  · have hq : ((ws.length : Int) != (p.needs.length : Int)) = true := by simp; omega
    have HX : Hid (ok = false) := Lib.hid (by rw [HOKD.out, decide_eq_false hln]; rfl)
    go_wp2
    go_ret
    exact ⟨ret_bool HX.out.symm, HG.out⟩

set_option maxRecDepth 100000 in
set_option maxHeartbeats 16000000 in
theorem isSafe_any (h : PoolH) (p : Pool) (G : Good p) (A : Option Addr) (cap : Nat) (gs : List Nat) (w : World) (hA : PoolAt w w.heap.size h p.i) (hI : Ints w w.heap.size A (natsL gs)) (hwt : Watch p gs) :
    Calls Try.prog 45 #[poolN h p, .slice A gs.length cap] w fun e w' => e = .returned (.bool (safeD p gs)) ∧ Below w.heap.size w w' := by
  have hln := hwt.len
  have HCOV := Lib.hid (fun (s : Nat) (hs : s < gs.length) (g : Nat) (hg : g < 32) (w0 : World) (hw : Grow w w0) => isCovered_any h p G s g w0 (hA.grow hw) (by omega) hg)
  have HIN := Lib.hid (fun (w0 : World) (hw : Grow w w0) => (hI.below hw).more hw.size)
  have HG32 := Lib.hid (fun (s g : Nat) (hg : gs[s]? = some g) => hwt.g32 G hg)
  have hn3 := G.n3
  have hl3 : gs.length ≤ 3 := by omega
  obtain ⟨f, hf'⟩ : ∃ z, (fun s => coveredD p s (gs.getD s 0)) = z := ⟨_, rfl⟩
  have HFX := Lib.hid (fun (s g : Nat) (hg : gs[s]? = some g) => (show f s = coveredD p s g by rw [← hf']; show coveredD p s (gs.getD s 0) = _; rw [List.getD_eq_getElem?_getD, hg]; rfl))
  have HOK : Hid (safeD p gs = (List.range gs.length).all f) := Lib.hid (by rw [← hf']; rfl)
  obtain ⟨ok, hok⟩ : ∃ z, safeD p gs = z := ⟨_, rfl⟩
  rw [hok] at HOK ⊢
  clear hok hA hI hf' hwt hln
  obtain ⟨fa, fc, na, nc⟩ := h
  go_enter Try.func45, Try.ntmps45
  go_upto_region 1 with fail
  obtain ⟨W, hW, hg, hf, hsz⟩ := one_block w 73 (cellsN ⟨fa, fc, na, nc⟩ p)
  rw [hW]
  clear hW
  have HFR0 := Lib.hid hf
  have HG := Lib.hid hg
  clear hf hg
  go_wp2_with fail
  go_loopw [9] (fun iv wr => ∃ s : Nat, s ≤ gs.length ∧ iv = .int .i64 (s : Nat) ∧ Hid ((List.range s).all f = true) ∧ Grow W wr) (fun iv _ => gs.length - (intOf iv).toNat)
  case atStart => exact ⟨0, Nat.zero_le _, rfl, rfl, Grow.refl _⟩
  case round =>
    obtain ⟨s, hs, rfl, HA, hgr⟩ := hrel
    rename World => wr
    have HGR := Lib.hid hgr
    have hcc := (Grow.block hgr HFR0.out).cell
    clear hgr
    by_cases hlt : s < gs.length
    · have hd : decide ((s : Int) < (gs.length : Int)) = true := decide_eq_true (by omega)
      have hs0 : (0 : Int) ≤ (s : Int) := by omega
      have hs1 : (s : Int) < (gs.length : Int) := by omega
      obtain ⟨xb, xo, x, rfl, hxb, hxc, HX⟩ := ints_nat (HIN.out wr (HG.out.trans HGR.out)) hlt
      have hx32 := HG32.out s x HX.out
      have HCB := Lib.hid (fun w0 hw => HCOV.out s hlt x hx32 w0 hw)
      have HSS : Hid ((List.range (s + 1)).all f = ((List.range s).all f && coveredD p s x)) := Lib.hid (by rw [range_all_succ, HFX.out s x HX.out])
      obtain ⟨q, hq'⟩ : ∃ z, coveredD p s x = z := ⟨_, rfl⟩
      rw [hq'] at HSS HCB
      clear hq'
      go_wp2_with fail
      refine (HCB.out _ (HG.out.trans HGR.out)).mono ?_
      rintro e w2 ⟨rfl, hb2⟩
      have HG2 : Hid (Grow W w2) := Lib.hid (HGR.out.trans hb2)
      clear hb2 hcc
      cases q with
      | false =>
        have HX : Hid (ok = false) := Lib.hid (by rw [HOK.out]; exact range_all_mono (k := s + 1) (by omega) (by rw [HSS.out, Bool.and_false]))
        go_wp2
        go_ret
        exact ⟨ret_bool HX.out.symm, HG.out.trans HG2.out⟩
      | true =>
        have HX : Hid ((List.range (s + 1)).all f = true) := Lib.hid (by rw [HSS.out, HA.out]; rfl)
        go_wp2
        go_roundw
        case rel => exact ⟨s + 1, by omega, by go_num, HX, HG2.out⟩
        case measure => simp [intOf]; omega
    · obtain rfl : s = gs.length := by omega
      have hd : decide ((gs.length : Int) < (gs.length : Int)) = false := decide_eq_false (by omega)
      have HX : Hid (ok = true) := Lib.hid (by rw [HOK.out, HA.out])
      go_wp2
      go_ret
      exact ⟨ret_bool HX.out.symm, HG.out.trans HGR.out⟩

end Go.Proofs.Ytcgnibfcjadnjaa
