/- RReady: the specification's Ready, of a possible watch; written by wip/tools/rready10.py. -/
import Derived.Test.YtcgnibfcjadnjaaRSafe
namespace Go.Proofs.Ytcgnibfcjadnjaa
open Go.RowKit

set_option maxRecDepth 100000 in
set_option maxHeartbeats 16000000 in
theorem rReady_good (h : PoolH) (p : Pool) (G : Good p) (hok : okPool p.i = true) (hs : Short p.i) (A : Option Addr) (cap : Nat) (gs : List Nat) (w : World) (hA : PoolAt w w.heap.size h p.i) (hI : Ints w w.heap.size A (natsL gs)) (hwt : Watch p gs) (s : Nat) (hsl : s < gs.length) :
    Calls Try.prog 39 #[poolN h p, .slice A gs.length cap, .int .i64 (s : Nat)] w fun e w' => e = .returned (.tuple #[.int .i64 (readyD p s (gs.getD s 0)), .int .i64 0]) ∧ Below w.heap.size w w' := by
  have hl : (natsL gs).length ≤ 1000 := by rw [natsL_length]; have h1 := hwt.len; have h2 := G.n3; omega
  have HC := Lib.hid (fun (w0 : World) (hw : Grow w w0) => rCheckWatch_any h p G hok hs A cap (natsL gs) w0 (hA.grow hw) ((hI.below hw).more hw.size) hl (watch_wf G hwt))
  have h1 : watchErr p (natsL gs) = 0 := by unfold watchErr; rw [ok_of_watch G hwt]; rfl
  simp only [natsL_length, h1] at HC
  have hsn : s < p.needs.length := by rw [← hwt.len]; exact hsl
  have HSLT := Lib.hid (fun w0 => rIsSlot_any h p G (s : Nat) w0)
  have hin : inB (s : Nat) 0 ((p.needs.length : Int) - 1) = true := by unfold inB; rw [decide_eq_true (by omega), decide_eq_true (by omega)]; rfl
  rw [hin] at HSLT
  obtain ⟨g, hg⟩ : ∃ x, gs[s]? = some x := ⟨_, List.getElem?_eq_getElem hsl⟩
  have hg32 := hwt.g32 G hg
  have HSZ := Lib.hid (fun w0 => rSize_any g w0 (by omega))
  have HSTA := Lib.hid (fun (k : Nat) (hk : k ≤ 1000) (w0 : World) (hw : Grow w w0) => rStands_any h p G s g k w0 (hA.grow hw) hsn hg32 hk)
  have HRI := Lib.hid (fun (k : Nat) => ready_iff (k := k) G hsn hg32)
  have hrl := ready_low p s g
  have hrh := ready_high p s g
  have hp5 := pop_le5 g hg32
  have HIN := Lib.hid (fun (w0 : World) (hw : Grow w w0) => (hI.below hw).more hw.size)
  have hgd : gs.getD s 0 = g := by rw [List.getD_eq_getElem?_getD, hg]; rfl
  rw [hgd]
  have HGX := Lib.hid hg
  obtain ⟨rd, hrd⟩ : ∃ z, readyD p s g = z := ⟨_, rfl⟩
  obtain ⟨pg, hpg⟩ : ∃ z, popD g = z := ⟨_, rfl⟩
  rw [hrd, hpg] at HRI
  rw [hrd] at hrl ⊢
  rw [hrd, hpg] at hrh
  rw [hpg] at HSZ hp5
  clear hok hA hs h1 hwt hl hI hgd hg hrd hpg hin hsn
  obtain ⟨fa, fc, na, nc⟩ := h
  go_enter Try.func39, Try.ntmps39
  go_upto_region 1 with fail
  obtain ⟨W, hW, hgr, hf, hsz⟩ := one_block w 25 (cellsN ⟨fa, fc, na, nc⟩ p)
  rw [hW]
  clear hW
  have hcc := hf.cell
  have HF := Lib.hid hf
  have HG := Lib.hid hgr
  clear hf hgr
  go_wp2_with fail
  refine (HC.out W HG.out).mono ?_
  rintro e w1 ⟨rfl, hb1⟩
  have HG1 : Hid (Grow w w1) := Lib.hid (HG.out.trans hb1)
  have HF1 := Lib.hid ((show Grow W w1 from hb1).block HF.out)
  have hcc1 := HF1.out.cell
  clear hb1 hcc
  go_wp2_with fail
  refine (HSLT.out w1).mono ?_
  rintro e w2 ⟨rfl, hb2⟩
  have HG2 : Hid (Grow w w2) := Lib.hid (HG1.out.trans hb2)
  have HF2 := Lib.hid ((show Grow w1 w2 from hb2).block HF1.out)
  clear hb2 hcc1
  obtain ⟨ab, ao, g', rfl, hab, hac, HX⟩ := ints_nat (HIN.out w2 HG2.out) hsl
  obtain rfl : g = g' := Option.some.inj (HGX.out.symm.trans HX.out)
  have HAC := Lib.hid hac
  clear hac
  go_wp2_with fail
  go_loopw [9] (fun nv wr => ∃ (k : Nat) (m : Int), nv = .int .i64 m ∧ Hid (m + 1 = (k : Int)) ∧ m ≤ rd ∧ Hid (Grow w2 wr)) (fun nv _ => (rd - intOf nv).toNat)
  case atStart => exact ⟨0, -1, rfl, Lib.hid (by omega), by omega, Lib.hid (Grow.refl _)⟩
  case round =>
    obtain ⟨k, m, rfl, HMK, hm, HGR⟩ := hrel
    rename World => wr
    have hs0 : (0 : Int) ≤ (s : Int) := by omega
    have hs1 : (s : Int) < (gs.length : Int) := by omega
    have hm1 : -1 ≤ m := by have := HMK.out; omega
    have hm5 : m ≤ 5 := by omega
    by_cases hlt : m < (pg : Int)
    · have hd : decide (m < (pg : Int)) = true := decide_eq_true hlt
      have HST := Lib.hid (fun w0 hw => HSTA.out k (by have := HMK.out; omega) w0 hw)
      have HRK := HRI.out k
      obtain ⟨st, hst⟩ : ∃ z, standsD p s g k = z := ⟨_, rfl⟩
      rw [hst] at HST HRK
      have HRT : Hid (st = true → m + 1 ≤ rd) := Lib.hid (fun hq => by have h1 := HMK.out; have h2 := HRK.2 ⟨by omega, hq⟩; omega)
      have HRF : Hid (st = false → m = rd) := Lib.hid (fun hq => by
        have h1 := HMK.out
        rcases Int.lt_or_le rd ((k : Int)) with h | h
        · omega
        · have := (HRK.1 h).2
          rw [hq] at this
          cases this)
      clear HRK hst
      go_upto_region 7 with fail
      refine wp_region_lit 18 [[], [], [], [(1, 21), (2, 22)], [(3, 23)], [(4, 24)], [(0, 20), (5, 25)], [(6, 26)], [(7, 27)], [(7, 27)], [(7, 27)], [(7, 27)], [(7, 27), (10, 30), (11, 31)], [(7, 27), (12, 32)], [(7, 27)], [(7, 27), (14, 34)], [(7, 27), (8, 28), (9, 29), (13, 33), (15, 35)], [(7, 27), (16, 36)]] Grow (fun qi v w' => match qi with
          | 0 => v = .int .i64 m
          | 1 => v = .slice (some ⟨ab, ao, none⟩) gs.length cap
          | 2 => v = .int .i64 (s : Nat)
          | 3 => v = .pointer (some ⟨ab, ao + s, none⟩)
          | 4 => v = .int .i64 (g : Nat)
          | 5 => v = .int .i64 (pg : Nat)
          | 6 => v = .bool true
          | 7 => v = .bool true
          | 8 => v = poolN ⟨fa, fc, na, nc⟩ p
          | 9 => v = .int .i64 (s : Nat)
          | 10 => v = .slice (some ⟨ab, ao, none⟩) gs.length cap
          | 11 => v = .int .i64 (s : Nat)
          | 12 => v = .pointer (some ⟨ab, ao + s, none⟩)
          | 13 => v = .int .i64 (g : Nat)
          | 14 => v = .int .i64 m
          | 15 => v = .int .i64 (k : Nat)
          | 16 => v = .bool st
          | 17 => v = .bool st
          | _ => False) (by kernel_rfl) (by kernel_rfl) (fun _ _ _ => Grow.trans) Grow.refl ?_ ?_ ?_
      · intro i v y y' h k
        match i, h with
        | 0, h | 1, h | 2, h | 3, h | 4, h | 5, h | 6, h | 7, h | 8, h | 9, h | 10, h | 11, h | 12, h | 13, h | 14, h | 15, h | 16, h | 17, h => exact h
      · simp only [StepsLit, List.take_succ_cons, List.take_zero]
        refine ⟨?_, ?_, ?_, ?_, ?_, ?_, ?_, ?_, ?_, ?_, ?_, ?_, ?_, ?_, ?_, ?_, ?_, ?_, trivial⟩
        · intro w5 hR
          have hGw : Grow wr w5 := hR.of_drew
          have HGW := Lib.hid hGw
          have hcc := ((HGR.out.trans HGW.out).block HF2.out).cell
          have hac := (HGR.out.trans HGW.out).cell HAC.out
          clear hR hGw
          simp only [depV]
          try go_simp
          all_goals first
            | (with_reducible exact Grow.refl _)
            | (with_reducible exact ⟨Grow.refl _, rfl⟩)
        · intro w5 hR
          have hGw : Grow wr w5 := hR.of_drew
          have HGW := Lib.hid hGw
          have hcc := ((HGR.out.trans HGW.out).block HF2.out).cell
          have hac := (HGR.out.trans HGW.out).cell HAC.out
          clear hR hGw
          simp only [depV]
          try go_simp
          all_goals first
            | (with_reducible exact Grow.refl _)
            | (with_reducible exact ⟨Grow.refl _, rfl⟩)
        · intro w5 hR
          have hGw : Grow wr w5 := hR.of_drew
          have HGW := Lib.hid hGw
          have hcc := ((HGR.out.trans HGW.out).block HF2.out).cell
          have hac := (HGR.out.trans HGW.out).cell HAC.out
          clear hR hGw
          simp only [depV]
          try go_simp
          all_goals first
            | (with_reducible exact Grow.refl _)
            | (with_reducible exact ⟨Grow.refl _, rfl⟩)
        · intro w5 hR
          have hGw : Grow wr w5 := hR.of_drew
          have HGW := Lib.hid hGw
          have hcc := ((HGR.out.trans HGW.out).block HF2.out).cell
          have hac := (HGR.out.trans HGW.out).cell HAC.out
          clear hR hGw
          simp only [depV]
          rintro _ rfl
          rintro _ rfl
          try go_simp
          all_goals first
            | (with_reducible exact Grow.refl _)
            | (with_reducible exact ⟨Grow.refl _, rfl⟩)
        · intro w5 hR
          have hGw : Grow wr w5 := hR.of_drew
          have HGW := Lib.hid hGw
          have hcc := ((HGR.out.trans HGW.out).block HF2.out).cell
          have hac := (HGR.out.trans HGW.out).cell HAC.out
          clear hR hGw
          simp only [depV]
          rintro _ rfl
          try go_simp
          all_goals first
            | (with_reducible exact Grow.refl _)
            | (with_reducible exact ⟨Grow.refl _, rfl⟩)
        · intro w5 hR
          have hGw : Grow wr w5 := hR.of_drew
          have HGW := Lib.hid hGw
          have hcc := ((HGR.out.trans HGW.out).block HF2.out).cell
          have hac := (HGR.out.trans HGW.out).cell HAC.out
          clear hR hGw
          simp only [depV]
          rintro _ rfl
          try go_simp
          refine (HSZ.out _).mono ?_
          rintro e w6 ⟨rfl, rfl⟩
          exact ⟨Grow.refl _, rfl⟩
        · intro w5 hR
          have hGw : Grow wr w5 := hR.of_drew
          have HGW := Lib.hid hGw
          have hcc := ((HGR.out.trans HGW.out).block HF2.out).cell
          have hac := (HGR.out.trans HGW.out).cell HAC.out
          clear hR hGw
          simp only [depV]
          rintro _ rfl
          rintro _ rfl
          try go_simp
          all_goals first
            | (with_reducible exact Grow.refl _)
            | (with_reducible exact ⟨Grow.refl _, rfl⟩)
        · intro w5 hR
          have hGw : Grow wr w5 := hR.of_drew
          have HGW := Lib.hid hGw
          have hcc := ((HGR.out.trans HGW.out).block HF2.out).cell
          have hac := (HGR.out.trans HGW.out).cell HAC.out
          clear hR hGw
          simp only [depV]
          rintro _ rfl
          try go_simp
          all_goals first
            | (with_reducible exact Grow.refl _)
            | (with_reducible exact ⟨Grow.refl _, rfl⟩)
        · intro w5 hR
          have hGw : Grow wr w5 := hR.of_drew
          have HGW := Lib.hid hGw
          have hcc := ((HGR.out.trans HGW.out).block HF2.out).cell
          have hac := (HGR.out.trans HGW.out).cell HAC.out
          clear hR hGw
          simp only [depV]
          rintro _ rfl
          try go_simp
          all_goals first
            | (with_reducible exact Grow.refl _)
            | (with_reducible exact ⟨Grow.refl _, rfl⟩)
        · intro w5 hR
          have hGw : Grow wr w5 := hR.of_drew
          have HGW := Lib.hid hGw
          have hcc := ((HGR.out.trans HGW.out).block HF2.out).cell
          have hac := (HGR.out.trans HGW.out).cell HAC.out
          clear hR hGw
          simp only [depV]
          rintro _ rfl
          try go_simp
          all_goals first
            | (with_reducible exact Grow.refl _)
            | (with_reducible exact ⟨Grow.refl _, rfl⟩)
        · intro w5 hR
          have hGw : Grow wr w5 := hR.of_drew
          have HGW := Lib.hid hGw
          have hcc := ((HGR.out.trans HGW.out).block HF2.out).cell
          have hac := (HGR.out.trans HGW.out).cell HAC.out
          clear hR hGw
          simp only [depV]
          rintro _ rfl
          try go_simp
          all_goals first
            | (with_reducible exact Grow.refl _)
            | (with_reducible exact ⟨Grow.refl _, rfl⟩)
        · intro w5 hR
          have hGw : Grow wr w5 := hR.of_drew
          have HGW := Lib.hid hGw
          have hcc := ((HGR.out.trans HGW.out).block HF2.out).cell
          have hac := (HGR.out.trans HGW.out).cell HAC.out
          clear hR hGw
          simp only [depV]
          rintro _ rfl
          try go_simp
          all_goals first
            | (with_reducible exact Grow.refl _)
            | (with_reducible exact ⟨Grow.refl _, rfl⟩)
        · intro w5 hR
          have hGw : Grow wr w5 := hR.of_drew
          have HGW := Lib.hid hGw
          have hcc := ((HGR.out.trans HGW.out).block HF2.out).cell
          have hac := (HGR.out.trans HGW.out).cell HAC.out
          clear hR hGw
          simp only [depV]
          rintro _ rfl
          rintro _ rfl
          rintro _ rfl
          try go_simp
          all_goals first
            | (with_reducible exact Grow.refl _)
            | (with_reducible exact ⟨Grow.refl _, rfl⟩)
        · intro w5 hR
          have hGw : Grow wr w5 := hR.of_drew
          have HGW := Lib.hid hGw
          have hcc := ((HGR.out.trans HGW.out).block HF2.out).cell
          have hac := (HGR.out.trans HGW.out).cell HAC.out
          clear hR hGw
          simp only [depV]
          rintro _ rfl
          rintro _ rfl
          try go_simp
          all_goals first
            | (with_reducible exact Grow.refl _)
            | (with_reducible exact ⟨Grow.refl _, rfl⟩)
        · intro w5 hR
          have hGw : Grow wr w5 := hR.of_drew
          have HGW := Lib.hid hGw
          have hcc := ((HGR.out.trans HGW.out).block HF2.out).cell
          have hac := (HGR.out.trans HGW.out).cell HAC.out
          clear hR hGw
          simp only [depV]
          rintro _ rfl
          try go_simp
          all_goals first
            | (with_reducible exact Grow.refl _)
            | (with_reducible exact ⟨Grow.refl _, rfl⟩)
        · intro w5 hR
          have hGw : Grow wr w5 := hR.of_drew
          have HGW := Lib.hid hGw
          have hcc := ((HGR.out.trans HGW.out).block HF2.out).cell
          have hac := (HGR.out.trans HGW.out).cell HAC.out
          clear hR hGw
          simp only [depV]
          rintro _ rfl
          rintro _ rfl
          try go_simp
          exact ⟨Grow.refl _, by rw [HMK.out]; exact IntWalk.i64_in _ (by have := HMK.out; omega)⟩
        · intro w5 hR
          have hGw : Grow wr w5 := hR.of_drew
          have HGW := Lib.hid hGw
          have hcc := ((HGR.out.trans HGW.out).block HF2.out).cell
          have hac := (HGR.out.trans HGW.out).cell HAC.out
          clear hR hGw
          simp only [depV]
          rintro _ rfl
          rintro _ rfl
          rintro _ rfl
          rintro _ rfl
          rintro _ rfl
          try go_simp
          refine (HST.out w5 ((HG2.out.trans HGR.out).trans HGW.out)).mono ?_
          rintro e w6 ⟨rfl, hb6⟩
          exact ⟨hb6, rfl⟩
        · intro w5 hR
          have hGw : Grow wr w5 := hR.of_drew
          have HGW := Lib.hid hGw
          have hcc := ((HGR.out.trans HGW.out).block HF2.out).cell
          have hac := (HGR.out.trans HGW.out).cell HAC.out
          clear hR hGw
          simp only [depV]
          rintro _ rfl
          rintro _ rfl
          try go_simp
          all_goals first
            | (with_reducible exact Grow.refl _)
            | (with_reducible exact ⟨Grow.refl _, rfl⟩)
      · intro w5 hR
        have HG5 : Hid (Grow wr w5) := Lib.hid hR.of_drew
        clear hR
        simp only [finVC, List.take_succ_cons, List.take_zero, List.drop_succ_cons, List.drop_zero]
        rintro _ rfl
        rintro _ rfl
        rintro _ rfl
        rintro _ rfl
        rintro _ rfl
        rintro _ rfl
        rintro _ rfl
        rintro _ rfl
        rintro _ rfl
        rintro _ rfl
        rintro _ rfl
        rintro _ rfl
        rintro _ rfl
        rintro _ rfl
        rintro _ rfl
        rintro _ rfl
        rintro _ rfl
        rintro _ rfl
        simp only [Act.put, List.setIfInBounds_toArray, List.set_cons_succ, List.set_cons_zero]
        have HGN : Hid (Grow w2 w5) := Lib.hid (HGR.out.trans HG5.out)
        cases st with
        | true =>
          have hle := HRT.out rfl
          go_wp2_with fail
          go_roundw
          case rel => exact ⟨k + 1, m + 1, rfl, Lib.hid (by have := HMK.out; omega), by have := HMK.out; omega, HGN⟩
          case measure => simp [intOf]; omega
        | false =>
          have HEQ : Hid (m = rd) := Lib.hid (HRF.out rfl)
          obtain rfl := HEQ.out
          go_wp2
          refine bodyPost_ret (results_67 Try.results39 _ _ _ _ rfl rfl) rfl ?_
          exact ⟨rfl, HG2.out.trans HGN.out⟩
    · have hd : decide (m < (pg : Int)) = false := decide_eq_false hlt
      go_upto_region 7 with fail
      refine wp_region_lit 18 [[], [], [], [(1, 21), (2, 22)], [(3, 23)], [(4, 24)], [(0, 20), (5, 25)], [(6, 26)], [(7, 27)], [(7, 27)], [(7, 27)], [(7, 27)], [(7, 27), (10, 30), (11, 31)], [(7, 27), (12, 32)], [(7, 27)], [(7, 27), (14, 34)], [(7, 27), (8, 28), (9, 29), (13, 33), (15, 35)], [(7, 27), (16, 36)]] Grow (fun qi v w' => match qi with
          | 0 => v = .int .i64 m
          | 1 => v = .slice (some ⟨ab, ao, none⟩) gs.length cap
          | 2 => v = .int .i64 (s : Nat)
          | 3 => v = .pointer (some ⟨ab, ao + s, none⟩)
          | 4 => v = .int .i64 (g : Nat)
          | 5 => v = .int .i64 (pg : Nat)
          | 6 => v = .bool false
          | 7 => v = .bool false
          | 8 => v = undef
          | 9 => v = undef
          | 10 => v = undef
          | 11 => v = undef
          | 12 => v = undef
          | 13 => v = undef
          | 14 => v = undef
          | 15 => v = undef
          | 16 => v = undef
          | 17 => v = .bool false
          | _ => False) (by kernel_rfl) (by kernel_rfl) (fun _ _ _ => Grow.trans) Grow.refl ?_ ?_ ?_
      · intro i v y y' h k
        match i, h with
        | 0, h | 1, h | 2, h | 3, h | 4, h | 5, h | 6, h | 7, h | 8, h | 9, h | 10, h | 11, h | 12, h | 13, h | 14, h | 15, h | 16, h | 17, h => exact h
      · simp only [StepsLit, List.take_succ_cons, List.take_zero]
        refine ⟨?_, ?_, ?_, ?_, ?_, ?_, ?_, ?_, ?_, ?_, ?_, ?_, ?_, ?_, ?_, ?_, ?_, ?_, trivial⟩
        · intro w5 hR
          have hGw : Grow wr w5 := hR.of_drew
          have HGW := Lib.hid hGw
          have hcc := ((HGR.out.trans HGW.out).block HF2.out).cell
          have hac := (HGR.out.trans HGW.out).cell HAC.out
          clear hR hGw
          simp only [depV]
          try go_simp
          all_goals first
            | (with_reducible exact Grow.refl _)
            | (with_reducible exact ⟨Grow.refl _, rfl⟩)
        · intro w5 hR
          have hGw : Grow wr w5 := hR.of_drew
          have HGW := Lib.hid hGw
          have hcc := ((HGR.out.trans HGW.out).block HF2.out).cell
          have hac := (HGR.out.trans HGW.out).cell HAC.out
          clear hR hGw
          simp only [depV]
          try go_simp
          all_goals first
            | (with_reducible exact Grow.refl _)
            | (with_reducible exact ⟨Grow.refl _, rfl⟩)
        · intro w5 hR
          have hGw : Grow wr w5 := hR.of_drew
          have HGW := Lib.hid hGw
          have hcc := ((HGR.out.trans HGW.out).block HF2.out).cell
          have hac := (HGR.out.trans HGW.out).cell HAC.out
          clear hR hGw
          simp only [depV]
          try go_simp
          all_goals first
            | (with_reducible exact Grow.refl _)
            | (with_reducible exact ⟨Grow.refl _, rfl⟩)
        · intro w5 hR
          have hGw : Grow wr w5 := hR.of_drew
          have HGW := Lib.hid hGw
          have hcc := ((HGR.out.trans HGW.out).block HF2.out).cell
          have hac := (HGR.out.trans HGW.out).cell HAC.out
          clear hR hGw
          simp only [depV]
          rintro _ rfl
          rintro _ rfl
          try go_simp
          all_goals first
            | (with_reducible exact Grow.refl _)
            | (with_reducible exact ⟨Grow.refl _, rfl⟩)
        · intro w5 hR
          have hGw : Grow wr w5 := hR.of_drew
          have HGW := Lib.hid hGw
          have hcc := ((HGR.out.trans HGW.out).block HF2.out).cell
          have hac := (HGR.out.trans HGW.out).cell HAC.out
          clear hR hGw
          simp only [depV]
          rintro _ rfl
          try go_simp
          all_goals first
            | (with_reducible exact Grow.refl _)
            | (with_reducible exact ⟨Grow.refl _, rfl⟩)
        · intro w5 hR
          have hGw : Grow wr w5 := hR.of_drew
          have HGW := Lib.hid hGw
          have hcc := ((HGR.out.trans HGW.out).block HF2.out).cell
          have hac := (HGR.out.trans HGW.out).cell HAC.out
          clear hR hGw
          simp only [depV]
          rintro _ rfl
          try go_simp
          refine (HSZ.out _).mono ?_
          rintro e w6 ⟨rfl, rfl⟩
          exact ⟨Grow.refl _, rfl⟩
        · intro w5 hR
          have hGw : Grow wr w5 := hR.of_drew
          have HGW := Lib.hid hGw
          have hcc := ((HGR.out.trans HGW.out).block HF2.out).cell
          have hac := (HGR.out.trans HGW.out).cell HAC.out
          clear hR hGw
          simp only [depV]
          rintro _ rfl
          rintro _ rfl
          try go_simp
          all_goals first
            | (with_reducible exact Grow.refl _)
            | (with_reducible exact ⟨Grow.refl _, rfl⟩)
        · intro w5 hR
          have hGw : Grow wr w5 := hR.of_drew
          have HGW := Lib.hid hGw
          have hcc := ((HGR.out.trans HGW.out).block HF2.out).cell
          have hac := (HGR.out.trans HGW.out).cell HAC.out
          clear hR hGw
          simp only [depV]
          rintro _ rfl
          try go_simp
          all_goals first
            | (with_reducible exact Grow.refl _)
            | (with_reducible exact ⟨Grow.refl _, rfl⟩)
        · intro w5 hR
          have hGw : Grow wr w5 := hR.of_drew
          have HGW := Lib.hid hGw
          have hcc := ((HGR.out.trans HGW.out).block HF2.out).cell
          have hac := (HGR.out.trans HGW.out).cell HAC.out
          clear hR hGw
          simp only [depV]
          rintro _ rfl
          try go_simp
          all_goals first
            | (with_reducible exact Grow.refl _)
            | (with_reducible exact ⟨Grow.refl _, rfl⟩)
        · intro w5 hR
          have hGw : Grow wr w5 := hR.of_drew
          have HGW := Lib.hid hGw
          have hcc := ((HGR.out.trans HGW.out).block HF2.out).cell
          have hac := (HGR.out.trans HGW.out).cell HAC.out
          clear hR hGw
          simp only [depV]
          rintro _ rfl
          try go_simp
          all_goals first
            | (with_reducible exact Grow.refl _)
            | (with_reducible exact ⟨Grow.refl _, rfl⟩)
        · intro w5 hR
          have hGw : Grow wr w5 := hR.of_drew
          have HGW := Lib.hid hGw
          have hcc := ((HGR.out.trans HGW.out).block HF2.out).cell
          have hac := (HGR.out.trans HGW.out).cell HAC.out
          clear hR hGw
          simp only [depV]
          rintro _ rfl
          try go_simp
          all_goals first
            | (with_reducible exact Grow.refl _)
            | (with_reducible exact ⟨Grow.refl _, rfl⟩)
        · intro w5 hR
          have hGw : Grow wr w5 := hR.of_drew
          have HGW := Lib.hid hGw
          have hcc := ((HGR.out.trans HGW.out).block HF2.out).cell
          have hac := (HGR.out.trans HGW.out).cell HAC.out
          clear hR hGw
          simp only [depV]
          rintro _ rfl
          try go_simp
          all_goals first
            | (with_reducible exact Grow.refl _)
            | (with_reducible exact ⟨Grow.refl _, rfl⟩)
        · intro w5 hR
          have hGw : Grow wr w5 := hR.of_drew
          have HGW := Lib.hid hGw
          have hcc := ((HGR.out.trans HGW.out).block HF2.out).cell
          have hac := (HGR.out.trans HGW.out).cell HAC.out
          clear hR hGw
          simp only [depV]
          rintro _ rfl
          rintro _ rfl
          rintro _ rfl
          try go_simp
          all_goals first
            | (with_reducible exact Grow.refl _)
            | (with_reducible exact ⟨Grow.refl _, rfl⟩)
        · intro w5 hR
          have hGw : Grow wr w5 := hR.of_drew
          have HGW := Lib.hid hGw
          have hcc := ((HGR.out.trans HGW.out).block HF2.out).cell
          have hac := (HGR.out.trans HGW.out).cell HAC.out
          clear hR hGw
          simp only [depV]
          rintro _ rfl
          rintro _ rfl
          try go_simp
          all_goals first
            | (with_reducible exact Grow.refl _)
            | (with_reducible exact ⟨Grow.refl _, rfl⟩)
        · intro w5 hR
          have hGw : Grow wr w5 := hR.of_drew
          have HGW := Lib.hid hGw
          have hcc := ((HGR.out.trans HGW.out).block HF2.out).cell
          have hac := (HGR.out.trans HGW.out).cell HAC.out
          clear hR hGw
          simp only [depV]
          rintro _ rfl
          try go_simp
          all_goals first
            | (with_reducible exact Grow.refl _)
            | (with_reducible exact ⟨Grow.refl _, rfl⟩)
        · intro w5 hR
          have hGw : Grow wr w5 := hR.of_drew
          have HGW := Lib.hid hGw
          have hcc := ((HGR.out.trans HGW.out).block HF2.out).cell
          have hac := (HGR.out.trans HGW.out).cell HAC.out
          clear hR hGw
          simp only [depV]
          rintro _ rfl
          rintro _ rfl
          try go_simp
          all_goals first
            | (with_reducible exact Grow.refl _)
            | (with_reducible exact ⟨Grow.refl _, rfl⟩)
        · intro w5 hR
          have hGw : Grow wr w5 := hR.of_drew
          have HGW := Lib.hid hGw
          have hcc := ((HGR.out.trans HGW.out).block HF2.out).cell
          have hac := (HGR.out.trans HGW.out).cell HAC.out
          clear hR hGw
          simp only [depV]
          rintro _ rfl
          rintro _ rfl
          rintro _ rfl
          rintro _ rfl
          rintro _ rfl
          try go_simp
          all_goals first
            | (with_reducible exact Grow.refl _)
            | (with_reducible exact ⟨Grow.refl _, rfl⟩)
        · intro w5 hR
          have hGw : Grow wr w5 := hR.of_drew
          have HGW := Lib.hid hGw
          have hcc := ((HGR.out.trans HGW.out).block HF2.out).cell
          have hac := (HGR.out.trans HGW.out).cell HAC.out
          clear hR hGw
          simp only [depV]
          rintro _ rfl
          rintro _ rfl
          try go_simp
          all_goals first
            | (with_reducible exact Grow.refl _)
            | (with_reducible exact ⟨Grow.refl _, rfl⟩)
      · intro w5 hR
        have HG5 : Hid (Grow wr w5) := Lib.hid hR.of_drew
        clear hR
        simp only [finVC, List.take_succ_cons, List.take_zero, List.drop_succ_cons, List.drop_zero]
        rintro _ rfl
        rintro _ rfl
        rintro _ rfl
        rintro _ rfl
        rintro _ rfl
        rintro _ rfl
        rintro _ rfl
        rintro _ rfl
        rintro _ rfl
        rintro _ rfl
        rintro _ rfl
        rintro _ rfl
        rintro _ rfl
        rintro _ rfl
        rintro _ rfl
        rintro _ rfl
        rintro _ rfl
        rintro _ rfl
        simp only [Act.put, List.setIfInBounds_toArray, List.set_cons_succ, List.set_cons_zero]
        have HGN : Hid (Grow w2 w5) := Lib.hid (HGR.out.trans HG5.out)
        have HEQ : Hid (m = rd) := Lib.hid (by omega)
        obtain rfl := HEQ.out
        go_wp2
        refine bodyPost_ret (results_67 Try.results39 _ _ _ _ rfl rfl) rfl ?_
        exact ⟨rfl, HG2.out.trans HGN.out⟩

end Go.Proofs.Ytcgnibfcjadnjaa
