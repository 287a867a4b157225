/- RWatch: IsSlot, CanBe, IsWatch, IsSafe, as the specification says; written by wip/tools/rwatch10.py. -/
import Derived.Test.YtcgnibfcjadnjaaRStands
namespace Go.Proofs.Ytcgnibfcjadnjaa
open Go.RowKit

set_option maxRecDepth 100000 in
set_option maxHeartbeats 1000000 in
theorem rIsSlot_any (h : PoolH) (p : Pool) (G : Good p) (s : Int) (w : World) :
    Calls Try.prog 17 #[poolN h p, .int .i64 s] w fun e w' => e = .returned (.bool (inB s 0 ((p.needs.length : Int) - 1))) ∧ Below w.heap.size w w' := by
  have HW := Lib.hid (fun w0 => rwithin_any s 0 ((p.needs.length : Int) - 1) w0)
  have hn1 := G.n1
  have hn3 := G.n3
  have hwr : IntKind.i64.wrap ((p.needs.length : Int) - 1) = (p.needs.length : Int) - 1 := IntWalk.i64_in _ (by omega)
  generalize inB s 0 ((p.needs.length : Int) - 1) = q at HW ⊢
  obtain ⟨fa, fc, na, nc⟩ := h
  go_enter Try.func17, Try.ntmps17
  go_upto_region 1 with fail
  obtain ⟨W, hW, hg, hf, hsz⟩ := one_block w 25 (cellsN ⟨fa, fc, na, nc⟩ p)
  rw [hW]
  clear hW
  have hcc := hf.cell
  have HG := Lib.hid hg
  clear hf hg
  go_wp2_with fail
  refine (HW.out _).mono ?_
  rintro e w2 ⟨rfl, rfl⟩
  go_wp2
  go_ret
  exact ⟨rfl, HG.out⟩

set_option maxRecDepth 100000 in
set_option maxHeartbeats 4000000 in
theorem rCanBe_any (h : PoolH) (p : Pool) (G : Good p) (s : Nat) (x : Int) (w : World) (hA : PoolAt w w.heap.size h p.i) (hs : s ≤ 40) :
    Calls Try.prog 28 #[poolN h p, .int .i64 s, .int .i64 x] w fun e w' => e = .returned (.bool (canI p s x)) ∧ Below w.heap.size w w' := by
  have HF := Lib.hid (fun (w0 : World) (hw : Grow w w0) => (hA.grow hw).1)
  have hl5 := G.f5
  have hf1 := G.f1
  have HOK : Hid (canI p s x = (canTo p s x p.folk.length && inB x 0 (2 ^ p.folk.length - 1))) := rfl
  obtain ⟨ok, hok⟩ : ∃ z, canI p s x = z := ⟨_, rfl⟩
  rw [hok] at HOK ⊢
  have hpI : ((2 : Int) ^ p.folk.length) = ((2 ^ p.folk.length : Nat) : Int) := (Int.natCast_pow 2 _).symm
  have hp : 2 ^ p.folk.length ≤ 32 := by have := Nat.pow_le_pow_right (n := 2) (by omega) hl5; simpa using this
  have hp1 : 1 ≤ 2 ^ p.folk.length := Nat.one_le_two_pow
  rw [hpI] at HOK
  obtain ⟨m, hm⟩ : ∃ z, 2 ^ p.folk.length = z := ⟨_, rfl⟩
  rw [hm] at hp hp1 hpI HOK
  have hwr : IntKind.i64.wrap ((2 : Int) ^ p.folk.length) = (m : Int) := by rw [hpI]; exact IntWalk.i64_in _ (by omega)
  have hcv : IntKind.u64.wrap (p.folk.length : Int) = (p.folk.length : Int) := IntWalk.u64_in _ (by omega)
  have hl0 : (0 : Int) ≤ (p.folk.length : Int) := by omega
  have hl64 : p.folk.length ≤ 64 := by omega
  have HW := Lib.hid (fun w0 => rwithin_any x 0 ((m : Int) - 1) w0)
  obtain ⟨inq, hinq⟩ : ∃ z, inB x 0 ((m : Int) - 1) = z := ⟨_, rfl⟩
  rw [hinq] at HW HOK
  clear hok hpI hm hinq hA
  obtain ⟨fa, fc, na, nc⟩ := h
  go_enter Try.func28, Try.ntmps28
  go_upto_region 1 with fail
  obtain ⟨W, hW, hg, hf, hsz⟩ := one_block w 25 (cellsN ⟨fa, fc, na, nc⟩ p)
  rw [hW]
  clear hW
  have hcc := hf.cell
  have HG := Lib.hid hg
  clear hf hg
  go_wp2_with fail
  go_loopw [7] (fun iv wr => ∃ k : Nat, k ≤ p.folk.length ∧ iv = .int .i64 (k : Nat) ∧ Hid (canTo p s x k = true) ∧ wr = W) (fun iv _ => p.folk.length - (intOf iv).toNat)
  case atStart => exact ⟨0, Nat.zero_le _, rfl, rfl, rfl⟩
  case round =>
    obtain ⟨k, hk, rfl, HA, rfl⟩ := hrel
    rename World => W
    by_cases hlt : k < p.folk.length
    · have hd : decide ((k : Int) < (p.folk.length : Int)) = true := decide_eq_true (by omega)
      have h00 : (0 : Int) ≤ (k : Int) := by omega
      have hk1 : (k : Int) < (p.folk.length : Int) := by omega
      obtain ⟨b, off, y, rfl, hbl, e0, e1, e2, HX⟩ := folk_at (HF.out W HG.out) hlt
      have hys := (folk_ok G HX.out).2.1
      have hxg : p.folk.getD k nof = y := by rw [List.getD_eq_getElem?_getD, HX.out]; rfl
      have HS : Hid (canTo p s x (k + 1) = (!hasI x k || hasN y.s s)) := Lib.hid (by rw [canTo_succ, HA.out, hxg, Bool.true_and])
      have H1 := Lib.hid (fun w0 => rHas_int x k w0 (by omega))
      have H2 := Lib.hid (fun w0 => rHas_any y.s s w0 (by omega) hs)
      have HHI : Hid (hasI x k = (bits .and .i64 (x / 2 ^ k) 1 == 1)) := rfl
      obtain ⟨a, ha⟩ : ∃ z, (bits .and .i64 (x / 2 ^ k) 1 == 1) = z := ⟨_, rfl⟩
      rw [ha] at H1 HHI
      obtain ⟨c, hc⟩ : ∃ z, hasN y.s s = z := ⟨_, rfl⟩
      rw [hc] at H2 HS
      clear ha hc hxg
      cases a with
      | false =>
        have HX : Hid (canTo p s x (k + 1) = true) := Lib.hid (by rw [HS.out, HHI.out]; rfl)
        go_wp2_with fail
        refine (H1.out _).mono ?_
        rintro e w2 ⟨rfl, rfl⟩
        go_wp2
        go_roundw
        case rel => exact ⟨k + 1, by omega, by go_num, HX, by first | rfl | trivial⟩
        case measure => simp [intOf]; omega
      | true =>
        cases c with
        | true =>
          have HX : Hid (canTo p s x (k + 1) = true) := Lib.hid (by rw [HS.out, HHI.out]; rfl)
          go_wp2_with fail
          refine (H1.out _).mono ?_
          rintro e w2 ⟨rfl, rfl⟩
          go_wp2_with fail
          refine (H2.out _).mono ?_
          rintro e w2 ⟨rfl, rfl⟩
          go_wp2
          go_roundw
          case rel => exact ⟨k + 1, by omega, by go_num, HX, by first | rfl | trivial⟩
          case measure => simp [intOf]; omega
        | false =>
          have HX : Hid (ok = false) := Lib.hid (by rw [HOK.out, canTo_mono (k := k + 1) (by omega) (by rw [HS.out, HHI.out]; rfl)]; rfl)
          go_wp2_with fail
          refine (H1.out _).mono ?_
          rintro e w2 ⟨rfl, rfl⟩
          go_wp2_with fail
          refine (H2.out _).mono ?_
          rintro e w2 ⟨rfl, rfl⟩
          go_wp2
          go_ret
          exact ⟨ret_bool HX.out.symm, HG.out⟩
    · obtain rfl : k = p.folk.length := by omega
      have hd : decide ((p.folk.length : Int) < (p.folk.length : Int)) = false := decide_eq_false (by omega)
      have HX : Hid (ok = inq) := Lib.hid (by rw [HOK.out, HA.out, Bool.true_and])
      have hwr2 : IntKind.i64.wrap ((m : Int) - 1) = (m : Int) - 1 := IntWalk.i64_in _ (by omega)
      go_wp2_with fail
      refine (HW.out _).mono ?_
      rintro e w2 ⟨rfl, rfl⟩
      go_wp2
      go_ret
      exact ⟨ret_bool HX.out.symm, HG.out⟩

set_option maxRecDepth 100000 in
set_option maxHeartbeats 16000000 in
theorem rIsWatch_any (h : PoolH) (p : Pool) (G : Good p) (A : Option Addr) (cap : Nat) (ws : List Int) (w : World) (hA : PoolAt w w.heap.size h p.i) (hI : Ints w w.heap.size A ws) (hl : ws.length ≤ 1000000) (hwf : Wf ws) :
    Calls Try.prog 12 #[poolN h p, .slice A ws.length cap] w fun e w' => e = .returned (.bool (okWatch p ws)) ∧ Below w.heap.size w w' := by
  have HCAN := Lib.hid (fun (s : Nat) (hs : s ≤ 40) (x : Int) (w0 : World) (hw : Grow w w0) => rCanBe_any h p G s x w0 (hA.grow hw) hs)
  have HIN := Lib.hid (fun (w0 : World) (hw : Grow w w0) => (hI.below hw).more hw.size)
  have HWF := Lib.hid hwf
  have hl5 := G.f5
  have hf1 := G.f1
  have hn3 := G.n3
  have hn1 := G.n1
  have hm6 := G.most
  have HOKD : Hid (okWatch p ws = (decide (ws.length = p.needs.length) && setsB p ws ws.length && fewB p (gsOf ws) p.folk.length)) := rfl
  obtain ⟨ok, hok⟩ : ∃ z, okWatch p ws = z := ⟨_, rfl⟩
  rw [hok] at HOKD ⊢
  clear hok hA hI hwf
  obtain ⟨fa, fc, na, nc⟩ := h
  go_enter Try.func12, Try.ntmps12
  go_upto_region 1 with fail
  obtain ⟨W, hW, hg, hf, hsz⟩ := one_block w 25 (cellsN ⟨fa, fc, na, nc⟩ p)
  rw [hW]
  clear hW
  have hcc := hf.cell
  have HFR0 := Lib.hid hf
  have HG := Lib.hid hg
  clear hf hg
  by_cases hln : ws.length = p.needs.length
  · have hq : ((ws.length : Int) != (p.needs.length : Int)) = false := by rw [hln]; simp
    have HLN := Lib.hid hln
    have hl3 : ws.length ≤ 3 := by omega
    have HOK : Hid (ok = (setsB p ws ws.length && fewB p (gsOf ws) p.folk.length)) := Lib.hid (by rw [HOKD.out, decide_eq_true HLN.out]; rfl)
    clear hln HOKD
    go_wp2_with fail
    clear hcc
    go_loopw [5] (fun iv wr => ∃ s : Nat, s ≤ ws.length ∧ iv = .int .i64 (s : Nat) ∧ Hid (setsB p ws s = true) ∧ Grow W wr) (fun iv _ => ws.length - (intOf iv).toNat)
    case atStart => exact ⟨0, Nat.zero_le _, rfl, rfl, Grow.refl _⟩
    case round =>
      obtain ⟨s, hs, rfl, HA, hgr⟩ := hrel
      rename World => wr
      have HGR := Lib.hid hgr
      have HFR := Lib.hid (Grow.block hgr HFR0.out)
      clear hgr
      by_cases hlt : s < ws.length
      · have hd : decide ((s : Int) < (ws.length : Int)) = true := decide_eq_true (by omega)
        have hs0 : (0 : Int) ≤ (s : Int) := by omega
        have hs1 : (s : Int) < (ws.length : Int) := by omega
        obtain ⟨xb, xo, x, rfl, hxb, hxc, HX⟩ := (HIN.out wr (HG.out.trans HGR.out)).at_ hlt
        have HXC := Lib.hid hxc
        have hxw := HWF.out x (List.mem_of_getElem? HX.out)
        have HSS : Hid (setsB p ws (s + 1) = (setsB p ws s && canI p s x)) := Lib.hid (by rw [setsB_succ, canI_sub G hxw, List.getD_eq_getElem?_getD, HX.out]; rfl)
        have HCB := Lib.hid (fun w0 hw => HCAN.out s (by omega) x w0 hw)
        obtain ⟨q, hq'⟩ : ∃ z, canI p s x = z := ⟨_, rfl⟩
        rw [hq'] at HSS HCB
        clear hq' hxc
        have hcc := HFR.out.cell
        go_upto_region 6 with fail
        clear hcc
        refine wp_region_lit 8 [[], [], [], [], [(2, 23), (3, 24)], [(4, 25)], [(0, 21), (1, 22), (5, 26)], [(6, 27)]] Grow (fun qi v w' => match qi with
            | 0 => v = poolN ⟨fa, fc, na, nc⟩ p
            | 1 => v = .int .i64 (s : Nat)
            | 2 => v = .slice (some ⟨xb, xo, none⟩) ws.length cap
            | 3 => v = .int .i64 (s : Nat)
            | 4 => v = .pointer (some ⟨xb, xo + s, none⟩)
            | 5 => v = .int .i64 x
            | 6 => v = .bool q
            | 7 => v = .bool (!q)
            | _ => False) (by kernel_rfl) (by kernel_rfl) (fun _ _ _ => Grow.trans) Grow.refl ?_ ?_ ?_
        · intro i v y y' h k
          match i, h with
          | 0, h | 1, h | 2, h | 3, h | 4, h | 5, h | 6, h | 7, h => exact h
        · simp only [StepsLit, List.take_succ_cons, List.take_zero]
          refine ⟨?_, ?_, ?_, ?_, ?_, ?_, ?_, ?_, trivial⟩
          · intro w5 hR
            have hGw : Grow wr w5 := hR.of_drew
            have HGW := Lib.hid hGw
            have hcc := (HGW.out.block HFR.out).cell
            have hxc := HGW.out.cell HXC.out
            clear hR hGw
            simp only [depV]
            try go_simp
            all_goals first
              | (with_reducible exact Grow.refl _)
              | (with_reducible exact ⟨Grow.refl _, rfl⟩)
          · intro w5 hR
            have hGw : Grow wr w5 := hR.of_drew
            have HGW := Lib.hid hGw
            have hcc := (HGW.out.block HFR.out).cell
            have hxc := HGW.out.cell HXC.out
            clear hR hGw
            simp only [depV]
            try go_simp
            all_goals first
              | (with_reducible exact Grow.refl _)
              | (with_reducible exact ⟨Grow.refl _, rfl⟩)
          · intro w5 hR
            have hGw : Grow wr w5 := hR.of_drew
            have HGW := Lib.hid hGw
            have hcc := (HGW.out.block HFR.out).cell
            have hxc := HGW.out.cell HXC.out
            clear hR hGw
            simp only [depV]
            try go_simp
            all_goals first
              | (with_reducible exact Grow.refl _)
              | (with_reducible exact ⟨Grow.refl _, rfl⟩)
          · intro w5 hR
            have hGw : Grow wr w5 := hR.of_drew
            have HGW := Lib.hid hGw
            have hcc := (HGW.out.block HFR.out).cell
            have hxc := HGW.out.cell HXC.out
            clear hR hGw
            simp only [depV]
            try go_simp
            all_goals first
              | (with_reducible exact Grow.refl _)
              | (with_reducible exact ⟨Grow.refl _, rfl⟩)
          · intro w5 hR
            have hGw : Grow wr w5 := hR.of_drew
            have HGW := Lib.hid hGw
            have hcc := (HGW.out.block HFR.out).cell
            have hxc := HGW.out.cell HXC.out
            clear hR hGw
            simp only [depV]
            rintro _ rfl
            rintro _ rfl
            try go_simp
            all_goals first
              | (with_reducible exact Grow.refl _)
              | (with_reducible exact ⟨Grow.refl _, rfl⟩)
          · intro w5 hR
            have hGw : Grow wr w5 := hR.of_drew
            have HGW := Lib.hid hGw
            have hcc := (HGW.out.block HFR.out).cell
            have hxc := HGW.out.cell HXC.out
            clear hR hGw
            simp only [depV]
            rintro _ rfl
            try go_simp
            all_goals first
              | (with_reducible exact Grow.refl _)
              | (with_reducible exact ⟨Grow.refl _, rfl⟩)
          · intro w5 hR
            have hGw : Grow wr w5 := hR.of_drew
            have HGW := Lib.hid hGw
            have hcc := (HGW.out.block HFR.out).cell
            have hxc := HGW.out.cell HXC.out
            clear hR hGw
            simp only [depV]
            rintro _ rfl
            rintro _ rfl
            rintro _ rfl
            try go_simp
            refine (HCB.out _ (HG.out.trans (HGR.out.trans HGW.out))).mono ?_
            rintro e w6 ⟨rfl, hb6⟩
            exact ⟨hb6, rfl⟩
          · intro w5 hR
            have hGw : Grow wr w5 := hR.of_drew
            have HGW := Lib.hid hGw
            have hcc := (HGW.out.block HFR.out).cell
            have hxc := HGW.out.cell HXC.out
            clear hR hGw
            simp only [depV]
            rintro _ rfl
            try go_simp
            all_goals first
              | (with_reducible exact Grow.refl _)
              | (with_reducible exact ⟨Grow.refl _, rfl⟩)
        · intro w5 hR
          have HG5 : Hid (Grow wr w5) := Lib.hid hR.of_drew
          clear hR
          simp only [finVC, List.take_succ_cons, List.take_zero, List.drop_succ_cons, List.drop_zero]
          rintro _ rfl
          rintro _ rfl
          rintro _ rfl
          rintro _ rfl
          rintro _ rfl
          rintro _ rfl
          rintro _ rfl
          rintro _ rfl
          simp only [Act.put, List.setIfInBounds_toArray, List.set_cons_succ, List.set_cons_zero]
          cases q with
          | false =>
            have HX : Hid (ok = false) := Lib.hid (by rw [HOK.out, setsB_mono (k := s + 1) (by omega) (by rw [HSS.out, Bool.and_false])]; rfl)
            go_wp2
            go_ret
            exact ⟨ret_bool HX.out.symm, HG.out.trans (HGR.out.trans HG5.out)⟩
          | true =>
            have HX : Hid (setsB p ws (s + 1) = true) := Lib.hid (by rw [HSS.out, HA.out]; rfl)
            go_wp2
            go_roundw
            case rel => exact ⟨s + 1, by omega, by go_num, HX, HGR.out.trans HG5.out⟩
            case measure => simp [intOf]; omega
      · obtain rfl : s = ws.length := by omega
        have hd : decide ((ws.length : Int) < (ws.length : Int)) = false := decide_eq_false (by omega)
        obtain ⟨hnat, hable⟩ := sets_nats G HWF.out HA.out
        obtain ⟨gs, hgs⟩ : ∃ z, gsOf ws = z := ⟨_, rfl⟩
        rw [hgs] at HOK hnat hable
        have HOK2 : Hid (ok = fewB p gs p.folk.length) := Lib.hid (by rw [HOK.out, HA.out]; rfl)
        have hgl : ws.length = gs.length := by rw [hnat, natsL_length]
        have HIG := Lib.hid (fun (w0 : World) (hw : Grow w w0) => (show Ints w0 w0.heap.size A (natsL gs) by rw [← hnat]; exact HIN.out w0 hw))
        have HAB := Lib.hid hable
        rw [hgl] at hl3 ⊢
        have hcc := HFR.out.cell
        clear hnat hable hgs hgl HOK HA HIN HCAN HLN hl hd hs hlt hq HWF
        have hd : decide ((gs.length : Int) < (gs.length : Int)) = false := decide_eq_false (by omega)
        go_wp2_with fail
        clear hcc
        go_loopw [6] (fun iv wx => ∃ i : Nat, i ≤ p.folk.length ∧ iv = .int .i64 (i : Nat) ∧ Hid (fewB p gs i = true) ∧ wx = wr) (fun iv _ => p.folk.length - (intOf iv).toNat)
        case atStart => exact ⟨0, Nat.zero_le _, rfl, rfl, rfl⟩
        case round =>
          obtain ⟨i, hi, rfl, HB, rfl⟩ := hrel
          rename World => wr
          have hcc := HFR.out.cell
          by_cases hil : i < p.folk.length
          · have hdi : decide ((i : Int) < (p.folk.length : Int)) = true := decide_eq_true (by omega)
            have h0i : (0 : Int) ≤ (i : Int) := by omega
            have hi64 : i ≤ 64 := by omega
            have hcv : IntKind.u64.wrap (i : Int) = (i : Int) := IntWalk.u64_in _ (by omega)
            have HFS := Lib.hid (fewB_succ p gs i)
            go_wp2_with fail
            go_loopw [7, 8] (fun nv iv wx => ∃ s n : Nat, s ≤ gs.length ∧ iv = .int .i64 (s : Nat) ∧ nv = .int .i64 (n : Nat) ∧ n ≤ s ∧ Hid (n = timesL (gs.take s) i) ∧ wx = wr) (fun _ iv _ => gs.length - (intOf iv).toNat)
            case atStart => exact ⟨0, 0, Nat.zero_le _, rfl, rfl, by omega, rfl, rfl⟩
            case round =>
              obtain ⟨s, n, hs, rfl, rfl, hns, HN, rfl⟩ := hrel
              rename World => wr
              by_cases hsl : s < gs.length
              · have hds : decide ((s : Int) < (gs.length : Int)) = true := decide_eq_true (by omega)
                have hs0 : (0 : Int) ≤ (s : Int) := by omega
                have hs1 : (s : Int) < (gs.length : Int) := by omega
                obtain ⟨xb, xo, x, rfl, hxb, hxc, HX⟩ := ints_nat (HIG.out wr (HG.out.trans HGR.out)) hsl
                have hx32 := sub_32 (able_32 G s) (HAB.out s x HX.out)
                have hsh := shr_and (s := x) (e := i) (by omega)
                have HT : Hid (timesL (gs.take (s + 1)) i = n + x / 2 ^ i % 2) := Lib.hid (by
                  rw [times_take i HX.out, HN.out]
                  have h2 : x / 2 ^ i % 2 < 2 := Nat.mod_lt _ (by omega)
                  unfold hasN
                  by_cases h : x / 2 ^ i % 2 = 1
                  · rw [decide_eq_true h, h]; rfl
                  · rw [decide_eq_false h]; simp; omega)
                have hb2 : x / 2 ^ i % 2 < 2 := Nat.mod_lt _ (by omega)
                generalize x / 2 ^ i % 2 = b at hsh HT hb2
                go_wp2
                go_roundw
                case rel => exact ⟨s + 1, n + b, by omega, by go_num, by go_num, by omega, HT.out.symm, by first | rfl | trivial⟩
                case measure => simp [intOf]; omega
              · obtain rfl : s = gs.length := by omega
                have HFX : Hid (fewB p gs (i + 1) = decide (n ≤ p.most)) := Lib.hid (by
                  have h := HN.out
                  rw [List.take_length] at h
                  rw [HFS.out, HB.out, ← h, Bool.true_and])
                by_cases hnm : p.most < n
                · have hdn : decide ((p.most : Int) < (n : Int)) = true := decide_eq_true (by omega)
                  have HX : Hid (ok = false) := Lib.hid (by rw [HOK2.out]; exact fewB_mono (k := i + 1) (by omega) (by rw [HFX.out]; exact decide_eq_false (by omega)))
                  go_wp2
                  go_ret
                  exact ⟨ret_bool HX.out.symm, HG.out.trans HGR.out⟩
                · have hdn : decide ((p.most : Int) < (n : Int)) = false := decide_eq_false (by omega)
                  have HX : Hid (fewB p gs (i + 1) = true) := Lib.hid (by rw [HFX.out]; exact decide_eq_true (by omega))
                  go_wp2
                  go_roundw
                  case rel => exact ⟨i + 1, by omega, by go_num, HX, by first | rfl | trivial⟩
                  case measure => simp [intOf]; omega
          · obtain rfl : i = p.folk.length := by omega
            have hdi : decide ((p.folk.length : Int) < (p.folk.length : Int)) = false := decide_eq_false (by omega)
            have HX : Hid (ok = true) := Lib.hid (by rw [HOK2.out, HB.out])
            go_wp2
            go_ret
            exact ⟨ret_bool HX.out.symm, HG.out.trans HGR.out⟩
  · have hq : ((ws.length : Int) != (p.needs.length : Int)) = true := by simp; omega
    have HX : Hid (ok = false) := Lib.hid (by rw [HOKD.out, decide_eq_false hln]; rfl)
    go_wp2
    go_ret
    exact ⟨ret_bool HX.out.symm, HG.out⟩

def safeD (p : Pool) (gs : List Nat) : Bool := (List.range gs.length).all fun s => coveredD p s (gs.getD s 0)
set_option maxRecDepth 100000 in
set_option maxHeartbeats 16000000 in
theorem rIsSafe_any (h : PoolH) (p : Pool) (G : Good p) (A : Option Addr) (cap : Nat) (gs : List Nat) (w : World) (hA : PoolAt w w.heap.size h p.i) (hI : Ints w w.heap.size A (natsL gs)) (hwt : Watch p gs) :
    Calls Try.prog 26 #[poolN h p, .slice A gs.length cap] w fun e w' => e = .returned (.bool (safeD p gs)) ∧ Below w.heap.size w w' := by
  have hln := hwt.len
  have HCOV := Lib.hid (fun (s : Nat) (hs : s < gs.length) (g : Nat) (hg : g < 32) (w0 : World) (hw : Grow w w0) => rCovered_any h p G s g w0 (hA.grow hw) (by omega) hg)
  have HIN := Lib.hid (fun (w0 : World) (hw : Grow w w0) => (hI.below hw).more hw.size)
  have HG32 := Lib.hid (fun (s g : Nat) (hg : gs[s]? = some g) => hwt.g32 G hg)
  have hn3 := G.n3
  have hl3 : gs.length ≤ 3 := by omega
  obtain ⟨f, hf'⟩ : ∃ z, (fun s => coveredD p s (gs.getD s 0)) = z := ⟨_, rfl⟩
  have HFX := Lib.hid (fun (s g : Nat) (hg : gs[s]? = some g) => (show f s = coveredD p s g by rw [← hf']; show coveredD p s (gs.getD s 0) = _; rw [List.getD_eq_getElem?_getD, hg]; rfl))
  have HOK : Hid (safeD p gs = (List.range gs.length).all f) := Lib.hid (by rw [← hf']; rfl)
  obtain ⟨ok, hok⟩ : ∃ z, safeD p gs = z := ⟨_, rfl⟩
  rw [hok] at HOK ⊢
  clear hok hA hI hf' hwt hln
  obtain ⟨fa, fc, na, nc⟩ := h
  go_enter Try.func26, Try.ntmps26
  go_upto_region 1 with fail
  obtain ⟨W, hW, hg, hf, hsz⟩ := one_block w 25 (cellsN ⟨fa, fc, na, nc⟩ p)
  rw [hW]
  clear hW
  have HFR0 := Lib.hid hf
  have HG := Lib.hid hg
  clear hf hg
  go_wp2_with fail
  go_loopw [5] (fun iv wr => ∃ s : Nat, s ≤ gs.length ∧ iv = .int .i64 (s : Nat) ∧ Hid ((List.range s).all f = true) ∧ Grow W wr) (fun iv _ => gs.length - (intOf iv).toNat)
  case atStart => exact ⟨0, Nat.zero_le _, rfl, rfl, Grow.refl _⟩
  case round =>
    obtain ⟨s, hs, rfl, HA, hgr⟩ := hrel
    rename World => wr
    have HGR := Lib.hid hgr
    have HFR := Lib.hid (Grow.block hgr HFR0.out)
    clear hgr
    by_cases hlt : s < gs.length
    · have hd : decide ((s : Int) < (gs.length : Int)) = true := decide_eq_true (by omega)
      have hs0 : (0 : Int) ≤ (s : Int) := by omega
      have hs1 : (s : Int) < (gs.length : Int) := by omega
      obtain ⟨xb, xo, x, rfl, hxb, hxc, HX⟩ := ints_nat (HIN.out wr (HG.out.trans HGR.out)) hlt
      have HXC := Lib.hid hxc
      have hx32 := HG32.out s x HX.out
      have HCB := Lib.hid (fun w0 hw => HCOV.out s hlt x hx32 w0 hw)
      have HSS : Hid ((List.range (s + 1)).all f = ((List.range s).all f && coveredD p s x)) := Lib.hid (by rw [range_all_succ, HFX.out s x HX.out])
      obtain ⟨q, hq'⟩ : ∃ z, coveredD p s x = z := ⟨_, rfl⟩
      rw [hq'] at HSS HCB
      clear hq' hxc
      have hcc := HFR.out.cell
      go_upto_region 4 with fail
      clear hcc
      refine wp_region_lit 8 [[], [], [], [], [(2, 14), (3, 15)], [(4, 16)], [(0, 12), (1, 13), (5, 17)], [(6, 18)]] Grow (fun qi v w' => match qi with
          | 0 => v = poolN ⟨fa, fc, na, nc⟩ p
          | 1 => v = .int .i64 (s : Nat)
          | 2 => v = .slice (some ⟨xb, xo, none⟩) gs.length cap
          | 3 => v = .int .i64 (s : Nat)
          | 4 => v = .pointer (some ⟨xb, xo + s, none⟩)
          | 5 => v = .int .i64 (x : Nat)
          | 6 => v = .bool q
          | 7 => v = .bool (!q)
          | _ => False) (by kernel_rfl) (by kernel_rfl) (fun _ _ _ => Grow.trans) Grow.refl ?_ ?_ ?_
      · intro i v y y' h k
        match i, h with
        | 0, h | 1, h | 2, h | 3, h | 4, h | 5, h | 6, h | 7, h => exact h
      · simp only [StepsLit, List.take_succ_cons, List.take_zero]
        refine ⟨?_, ?_, ?_, ?_, ?_, ?_, ?_, ?_, trivial⟩
        · intro w5 hR
          have hGw : Grow wr w5 := hR.of_drew
          have HGW := Lib.hid hGw
          have hcc := (HGW.out.block HFR.out).cell
          have hxc := HGW.out.cell HXC.out
          clear hR hGw
          simp only [depV]
          try go_simp
          all_goals first
            | (with_reducible exact Grow.refl _)
            | (with_reducible exact ⟨Grow.refl _, rfl⟩)
        · intro w5 hR
          have hGw : Grow wr w5 := hR.of_drew
          have HGW := Lib.hid hGw
          have hcc := (HGW.out.block HFR.out).cell
          have hxc := HGW.out.cell HXC.out
          clear hR hGw
          simp only [depV]
          try go_simp
          all_goals first
            | (with_reducible exact Grow.refl _)
            | (with_reducible exact ⟨Grow.refl _, rfl⟩)
        · intro w5 hR
          have hGw : Grow wr w5 := hR.of_drew
          have HGW := Lib.hid hGw
          have hcc := (HGW.out.block HFR.out).cell
          have hxc := HGW.out.cell HXC.out
          clear hR hGw
          simp only [depV]
          try go_simp
          all_goals first
            | (with_reducible exact Grow.refl _)
            | (with_reducible exact ⟨Grow.refl _, rfl⟩)
        · intro w5 hR
          have hGw : Grow wr w5 := hR.of_drew
          have HGW := Lib.hid hGw
          have hcc := (HGW.out.block HFR.out).cell
          have hxc := HGW.out.cell HXC.out
          clear hR hGw
          simp only [depV]
          try go_simp
          all_goals first
            | (with_reducible exact Grow.refl _)
            | (with_reducible exact ⟨Grow.refl _, rfl⟩)
        · intro w5 hR
          have hGw : Grow wr w5 := hR.of_drew
          have HGW := Lib.hid hGw
          have hcc := (HGW.out.block HFR.out).cell
          have hxc := HGW.out.cell HXC.out
          clear hR hGw
          simp only [depV]
          rintro _ rfl
          rintro _ rfl
          try go_simp
          all_goals first
            | (with_reducible exact Grow.refl _)
            | (with_reducible exact ⟨Grow.refl _, rfl⟩)
        · intro w5 hR
          have hGw : Grow wr w5 := hR.of_drew
          have HGW := Lib.hid hGw
          have hcc := (HGW.out.block HFR.out).cell
          have hxc := HGW.out.cell HXC.out
          clear hR hGw
          simp only [depV]
          rintro _ rfl
          try go_simp
          all_goals first
            | (with_reducible exact Grow.refl _)
            | (with_reducible exact ⟨Grow.refl _, rfl⟩)
        · intro w5 hR
          have hGw : Grow wr w5 := hR.of_drew
          have HGW := Lib.hid hGw
          have hcc := (HGW.out.block HFR.out).cell
          have hxc := HGW.out.cell HXC.out
          clear hR hGw
          simp only [depV]
          rintro _ rfl
          rintro _ rfl
          rintro _ rfl
          try go_simp
          refine (HCB.out _ (HG.out.trans (HGR.out.trans HGW.out))).mono ?_
          rintro e w6 ⟨rfl, hb6⟩
          exact ⟨hb6, rfl⟩
        · intro w5 hR
          have hGw : Grow wr w5 := hR.of_drew
          have HGW := Lib.hid hGw
          have hcc := (HGW.out.block HFR.out).cell
          have hxc := HGW.out.cell HXC.out
          clear hR hGw
          simp only [depV]
          rintro _ rfl
          try go_simp
          all_goals first
            | (with_reducible exact Grow.refl _)
            | (with_reducible exact ⟨Grow.refl _, rfl⟩)
      · intro w5 hR
        have HG5 : Hid (Grow wr w5) := Lib.hid hR.of_drew
        clear hR
        simp only [finVC, List.take_succ_cons, List.take_zero, List.drop_succ_cons, List.drop_zero]
        rintro _ rfl
        rintro _ rfl
        rintro _ rfl
        rintro _ rfl
        rintro _ rfl
        rintro _ rfl
        rintro _ rfl
        rintro _ rfl
        simp only [Act.put, List.setIfInBounds_toArray, List.set_cons_succ, List.set_cons_zero]
        cases q with
        | false =>
          have HX : Hid (ok = false) := Lib.hid (by rw [HOK.out]; exact range_all_mono (k := s + 1) (by omega) (by rw [HSS.out, Bool.and_false]))
          go_wp2
          go_ret
          exact ⟨ret_bool HX.out.symm, HG.out.trans (HGR.out.trans HG5.out)⟩
        | true =>
          have HX : Hid ((List.range (s + 1)).all f = true) := Lib.hid (by rw [HSS.out, HA.out]; rfl)
          go_wp2
          go_roundw
          case rel => exact ⟨s + 1, by omega, by go_num, HX, HGR.out.trans HG5.out⟩
          case measure => simp [intOf]; omega
    · obtain rfl : s = gs.length := by omega
      have hd : decide ((gs.length : Int) < (gs.length : Int)) = false := decide_eq_false (by omega)
      have HX : Hid (ok = true) := Lib.hid (by rw [HOK.out, HA.out])
      go_wp2
      go_ret
      exact ⟨ret_bool HX.out.symm, HG.out.trans HGR.out⟩

end Go.Proofs.Ytcgnibfcjadnjaa
