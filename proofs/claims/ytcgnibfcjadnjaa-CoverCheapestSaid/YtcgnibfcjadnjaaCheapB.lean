/- CheapB: the statement on the least cost, at a watch that is not safe; written by wip/tools/cheaplaw10.py. -/
import Derived.Test.YtcgnibfcjadnjaaBefore
import Derived.Test.YtcgnibfcjadnjaaCheapA
namespace Go.Proofs.Ytcgnibfcjadnjaa
open Go.RowKit

set_option maxRecDepth 100000 in
set_option maxHeartbeats 8000000 in
theorem coverCheapest_wn (h : PoolH) (p : Pool) (G : Good p) (A : Option Addr) (cap : Nat) (gs : List Nat) (w : World) (hA : PoolAt w w.heap.size h p.i) (hv : validI p.i = true) (hI : Ints w w.heap.size A (natsL gs)) (hl : gs.length ≤ 20) (hwt : Watch p gs) (hsf : safeD p gs = false) (hpl : planD p = none) :
    Calls Try.prog 5 #[poolN h p, .slice A gs.length cap] w fun e w' => e = .returned (.bool true) ∧ Below w.heap.size w w' := by
  have HV := Lib.hid (fun (w0 : World) (hw : Grow w w0) => valid_any h p.i w0 (hA.grow hw))
  rw [hv, pool_i] at HV
  have hl1 : decide ((20 : Int) < (gs.length : Int)) = false := decide_eq_false (by omega)
  have hl2 : decide (20 < gs.length) = false := decide_eq_false (by omega)
  have hok : okPool p.i = true := by unfold validI at hv; rw [Bool.and_eq_true] at hv; exact hv.2
  have hsh : Short p.i := by unfold validI at hv; rw [Bool.and_eq_true, Bool.not_eq_true'] at hv; exact far_short hv.1
  have hn3 := G.n3
  have HPA := Lib.hid (fun (w0 : World) (hw : Grow w w0) => hA.grow hw)
  have HPL := Lib.hid (fun (w0 : World) (hw : Grow w w0) => planApi_any h p G hok hsh w0 (hA.grow hw))
  rw [hpl] at HPL
  have HSL := Lib.hid (fun (k : Nat) (hk : k < p.needs.length) (w0 : World) (hw : Grow w w0) => slotApi_any h p G hok hsh k w0 (hA.grow hw) hk)
  have HCB := Lib.hid (fun (k g : Nat) (hk : k < p.needs.length) (hg : Cov p k g) (w0 : World) (hw : Grow w w0) => (show Calls Try.prog 28 #[poolN h p, .int .i64 (k : Nat), .int .i64 (g : Nat)] w0 fun e w' => e = .returned (.bool true) ∧ Below w0.heap.size w0 w' from by
    have h1 := rCanBe_any h p G k (g : Int) w0 (hA.grow hw) (by omega)
    rw [canB_sub G k g (by have := sub_32 (able_32 G k) hg.1; omega), show canB p k g = true from hg.1] at h1
    exact h1))
  have HCV := Lib.hid (fun (k g : Nat) (hk : k < p.needs.length) (hg : Cov p k g) (w0 : World) (hw : Grow w w0) => (show Calls Try.prog 24 #[poolN h p, .int .i64 (k : Nat), .int .i64 (g : Nat)] w0 fun e w' => e = .returned (.bool true) ∧ Below w0.heap.size w0 w' from by
    have h1 := rCovered_any h p G k g w0 (hA.grow hw) hk (sub_32 (able_32 G k) hg.1)
    rw [hg.2] at h1
    exact h1))
  have HPY := Lib.hid (fun (g : Nat) (hg : g < 32) (w0 : World) (hw : Grow w w0) => rPay_any h p G g w0 (hA.grow hw) (by omega))
  have HSC := Lib.hid (fun k => sumC_le G k)
  have HCL := Lib.hid (fun k => slotC_le G k)
  have HC5 := Lib.hid (fun g => costD_le G g)
  have H32 := Lib.hid (fun k g (hg : Cov p k g) => sub_32 (able_32 G k) hg.1)
  have HIW := Lib.hid (fun (w0 : World) (hw : Grow w w0) => rIsWatch_any h p G A cap (natsL gs) w0 (hA.grow hw) ((hI.below hw).more hw.size) (by simp only [natsL_length]; omega) (watch_wf G hwt))
  rw [ok_of_watch G hwt] at HIW
  simp only [natsL_length] at HIW
  have HIS := Lib.hid (fun (w0 : World) (hw : Grow w w0) => rIsSafe_any h p G A cap gs w0 (hA.grow hw) ((hI.below hw).more hw.size) hwt)
  rw [hsf] at HIS
  simp only [show tripL none = [] from rfl, show tripC none = 0 from rfl, show planErr none = 3 from rfl] at HPL
  have HSE : Hid (∀ k, k < p.needs.length → (slotE p k = 3 ∧ slotC p k = 0 ∧ slotG p k = 0) ∨ (slotE p k = 0 ∧ Cov p k (slotG p k) ∧ slotC p k = costD p (slotG p k))) := Lib.hid (fun k hk => slot_cases G k)
  clear hok hsh hA hv hI G hpl hwt hsf
  obtain ⟨fa, fc, na, nc⟩ := h
  go_enter Try.func5, Try.ntmps5
  go_upto_region 1 with fail
  obtain ⟨W, hW, hg, hf, hsz⟩ := one_block w 25 (cellsN ⟨fa, fc, na, nc⟩ p)
  rw [hW]
  clear hW
  have hcc := hf.cell
  have HG0 := Lib.hid hg
  have HF0 := Lib.hid hf
  clear hf hg
  go_wp2_with fail
  refine (HV.out W HG0.out).mono ?_
  rintro e w1 ⟨rfl, hb1⟩
  have HG1 : Hid (Grow w w1) := Lib.hid (HG0.out.trans hb1)
  have HF1 := Lib.hid ((show Grow W w1 from hb1).block HF0.out)
  have hcc := HF1.out.cell
  clear hb1
  clear HF0
  go_wp2_with fail
  refine (HPL.out w1 HG1.out).mono ?_
  rintro e w2 ⟨A2, cap2, rfl, hi2, hb2⟩
  have HG2 : Hid (Grow w w2) := Lib.hid (HG1.out.trans hb2)
  have HF2 := Lib.hid ((show Grow w1 w2 from hb2).block HF1.out)
  have hcc := HF2.out.cell
  clear hi2
  clear hb2
  clear HF1
  go_wp2_with fail
  refine (HIW.out w2 HG2.out).mono ?_
  rintro e w3 ⟨rfl, hb3⟩
  have HG3 : Hid (Grow w w3) := Lib.hid (HG2.out.trans hb3)
  have HF3 := Lib.hid ((show Grow w2 w3 from hb3).block HF2.out)
  have hcc := HF3.out.cell
  clear hb3
  clear HF2
  go_wp2_with fail
  refine (HIS.out w3 HG3.out).mono ?_
  rintro e w4 ⟨rfl, hb4⟩
  have HG4 : Hid (Grow w w4) := Lib.hid (HG3.out.trans hb4)
  have HF4 := Lib.hid ((show Grow w3 w4 from hb4).block HF3.out)
  have hcc := HF4.out.cell
  clear hb4
  clear HF3
  go_upto_region 7 with fail
  go_loopw [9, 10] (fun sv iv wr => ∃ k : Nat, k ≤ p.needs.length ∧ iv = .int .i64 (k : Nat) ∧ sv = .int .i64 (sumC p k : Nat) ∧ Grow w4 wr) (fun _ iv _ => p.needs.length - (intOf iv).toNat)
  case atStart => exact ⟨0, Nat.zero_le _, rfl, rfl, Grow.refl _⟩
  case round => as_aux_lemma =>
    obtain ⟨k, hk, rfl, rfl, hg⟩ := hrel
    rename World => wr
    have HGL : Hid (Grow w4 wr) := hg
    have HGR : Hid (Grow w wr) := Lib.hid (HG4.out.trans hg)
    have HFR := Lib.hid (HGL.out.block HF4.out)
    have hsc := HSC.out k
    have hcc := HFR.out.cell
    clear hg
    by_cases hlt : k < p.needs.length
    · have hd : decide ((k : Int) < (p.needs.length : Int)) = true := decide_eq_true (by omega)
      have hs5 := HCL.out k
      have HSS : Hid (sumC p (k + 1) = sumC p k + slotC p k) := Lib.hid rfl
      have HSA := Lib.hid (fun w0 hw => HSL.out k hlt w0 hw)
      rcases HSE.out k hlt with ⟨hse, hsc3, hsg⟩ | ⟨hse, hcov, hcst⟩
      · rw [hse, hsc3, hsg] at HSA
        have HSX : Hid ((sumC p (k + 1) : Nat) = sumC p k) := Lib.hid (by rw [HSS.out, hsc3, Nat.add_zero])
        clear hse hsc3 hsg HSS
        go_wp2_with fail
        refine (HSA.out wr HGR.out).mono ?_
        rintro e w5 ⟨rfl, hb5⟩
        have HGL5 : Hid (Grow w4 w5) := Lib.hid (HGL.out.trans hb5)
        clear hb5 hcc hd
        go_wp2_with fail
        go_roundw
        case rel => exact ⟨k + 1, by omega, by go_num, by rw [HSX.out], HGL5.out⟩
        case measure => simp [intOf]; omega

      · obtain ⟨sg, hsg⟩ : ∃ z, slotG p k = z := ⟨_, rfl⟩
        obtain ⟨sc, hsc2⟩ : ∃ z, slotC p k = z := ⟨_, rfl⟩
        rw [hse, hsg, hsc2] at HSA
        rw [hsg] at hcov hcst
        rw [hsc2] at hcst hs5 HSS
        have HB1 := Lib.hid (HCB.out k sg hlt hcov)
        have HB2 := Lib.hid (HCV.out k sg hlt hcov)
        have h32 := H32.out k sg hcov
        have HB3 := Lib.hid (HPY.out sg h32)
        rw [← hcst] at HB3
        obtain ⟨sm, hsm⟩ : ∃ z, sumC p k = z := ⟨_, rfl⟩
        rw [hsm] at hsc HSS ⊢
        clear hsg hsc2 hcov hcst hsm hse h32
        go_wp2_with fail
        refine (HSA.out wr HGR.out).mono ?_
        rintro e w5 ⟨rfl, hb5⟩
        have HGL5 : Hid (Grow wr w5) := hb5
        clear hb5 hcc hd
        rename World => w6
        have HGR6 : Hid (Grow w w6) := Lib.hid (HGR.out.trans HGL5.out)
        have HFR6 := Lib.hid (HGL5.out.block HFR.out)
        have hcc := HFR6.out.cell
        go_upto_region 13 with fail
        clear hcc
        refine wp_region_lit 32 [[], [], [], [(0, 71), (1, 72), (2, 73)], [(3, 74)], [(4, 75)], [(5, 76)], [(5, 76)], [(5, 76)], [(5, 76), (6, 77), (7, 78), (8, 79)], [(5, 76), (9, 80)], [(5, 76), (10, 81)], [(11, 82)], [(12, 83)], [(12, 83)], [(12, 83), (13, 84), (14, 85)], [(12, 83)], [(12, 83), (15, 86), (16, 87)], [(12, 83), (17, 88)], [(18, 89)], [(19, 90)], [(19, 90), (20, 91)], [(21, 92)], [(21, 92)], [(21, 92)], [(21, 92), (23, 94), (24, 95)], [(21, 92), (25, 96)], [(21, 92), (22, 93), (26, 97)], [(21, 92)], [(21, 92), (27, 98), (28, 99)], [(19, 90), (21, 92), (29, 100)], [(19, 90), (30, 101)]] Grow (fun qi v w' => match qi with
            | 0 => v = poolN ⟨fa, fc, na, nc⟩ p
            | 1 => v = .int .i64 (k : Nat)
            | 2 => v = .int .i64 (sg : Nat)
            | 3 => v = .bool true
            | 4 => v = .bool false
            | 5 => v = .bool false
            | 6 => v = poolN ⟨fa, fc, na, nc⟩ p
            | 7 => v = .int .i64 (k : Nat)
            | 8 => v = .int .i64 (sg : Nat)
            | 9 => v = .bool true
            | 10 => v = .bool false
            | 11 => v = .bool false
            | 12 => v = .bool false
            | 13 => v = poolN ⟨fa, fc, na, nc⟩ p
            | 14 => v = .int .i64 (sg : Nat)
            | 15 => v = .int .i64 (sc : Nat)
            | 16 => v = .int .i64 (sc : Nat)
            | 17 => v = .bool false
            | 18 => v = .bool false
            | 19 => v = .bool false
            | 20 => v = .bool false
            | 21 => v = .bool false
            | 22 => v = undef
            | 23 => v = undef
            | 24 => v = undef
            | 25 => v = undef
            | 26 => v = undef
            | 27 => v = undef
            | 28 => v = undef
            | 29 => v = undef
            | 30 => v = .bool false
            | 31 => v = .bool false
            | _ => False) (by kernel_rfl) (by kernel_rfl) (fun _ _ _ => Grow.trans) Grow.refl ?_ ?_ ?_
        · intro i v y y' h k
          match i, h with
          | 0, h | 1, h | 2, h | 3, h | 4, h | 5, h | 6, h | 7, h | 8, h | 9, h | 10, h | 11, h | 12, h | 13, h | 14, h | 15, h | 16, h | 17, h | 18, h | 19, h | 20, h | 21, h | 22, h | 23, h | 24, h | 25, h | 26, h | 27, h | 28, h | 29, h | 30, h | 31, h => exact h
        · simp only [StepsLit, List.take_succ_cons, List.take_zero]
          refine ⟨?_, ?_, ?_, ?_, ?_, ?_, ?_, ?_, ?_, ?_, ?_, ?_, ?_, ?_, ?_, ?_, ?_, ?_, ?_, ?_, ?_, ?_, ?_, ?_, ?_, ?_, ?_, ?_, ?_, ?_, ?_, ?_, trivial⟩
          · intro w5 hR
            have hGw : Grow w6 w5 := hR.of_drew
            have HGW := Lib.hid hGw
            have hcc := (HGW.out.block HFR6.out).cell
            clear hR hGw
            simp only [depV]
            try go_simp
            all_goals first
              | (with_reducible exact Grow.refl _)
              | (with_reducible exact ⟨Grow.refl _, rfl⟩)
          · intro w5 hR
            have hGw : Grow w6 w5 := hR.of_drew
            have HGW := Lib.hid hGw
            have hcc := (HGW.out.block HFR6.out).cell
            clear hR hGw
            simp only [depV]
            try go_simp
            all_goals first
              | (with_reducible exact Grow.refl _)
              | (with_reducible exact ⟨Grow.refl _, rfl⟩)
          · intro w5 hR
            have hGw : Grow w6 w5 := hR.of_drew
            have HGW := Lib.hid hGw
            have hcc := (HGW.out.block HFR6.out).cell
            clear hR hGw
            simp only [depV]
            try go_simp
            all_goals first
              | (with_reducible exact Grow.refl _)
              | (with_reducible exact ⟨Grow.refl _, rfl⟩)
          · intro w5 hR
            have hGw : Grow w6 w5 := hR.of_drew
            have HGW := Lib.hid hGw
            have hcc := (HGW.out.block HFR6.out).cell
            clear hR hGw
            simp only [depV]
            rintro _ rfl
            rintro _ rfl
            rintro _ rfl
            try go_simp
            refine (HB1.out w5 (HGR6.out.trans HGW.out)).mono ?_
            rintro e w6 ⟨rfl, hb6⟩
            exact ⟨hb6, rfl⟩
          · intro w5 hR
            have hGw : Grow w6 w5 := hR.of_drew
            have HGW := Lib.hid hGw
            have hcc := (HGW.out.block HFR6.out).cell
            clear hR hGw
            simp only [depV]
            rintro _ rfl
            try go_simp
            all_goals first
              | (with_reducible exact Grow.refl _)
              | (with_reducible exact ⟨Grow.refl _, rfl⟩)
          · intro w5 hR
            have hGw : Grow w6 w5 := hR.of_drew
            have HGW := Lib.hid hGw
            have hcc := (HGW.out.block HFR6.out).cell
            clear hR hGw
            simp only [depV]
            rintro _ rfl
            try go_simp
            all_goals first
              | (with_reducible exact Grow.refl _)
              | (with_reducible exact ⟨Grow.refl _, rfl⟩)
          · intro w5 hR
            have hGw : Grow w6 w5 := hR.of_drew
            have HGW := Lib.hid hGw
            have hcc := (HGW.out.block HFR6.out).cell
            clear hR hGw
            simp only [depV]
            rintro _ rfl
            try go_simp
            all_goals first
              | (with_reducible exact Grow.refl _)
              | (with_reducible exact ⟨Grow.refl _, rfl⟩)
          · intro w5 hR
            have hGw : Grow w6 w5 := hR.of_drew
            have HGW := Lib.hid hGw
            have hcc := (HGW.out.block HFR6.out).cell
            clear hR hGw
            simp only [depV]
            rintro _ rfl
            try go_simp
            all_goals first
              | (with_reducible exact Grow.refl _)
              | (with_reducible exact ⟨Grow.refl _, rfl⟩)
          · intro w5 hR
            have hGw : Grow w6 w5 := hR.of_drew
            have HGW := Lib.hid hGw
            have hcc := (HGW.out.block HFR6.out).cell
            clear hR hGw
            simp only [depV]
            rintro _ rfl
            try go_simp
            all_goals first
              | (with_reducible exact Grow.refl _)
              | (with_reducible exact ⟨Grow.refl _, rfl⟩)
          · intro w5 hR
            have hGw : Grow w6 w5 := hR.of_drew
            have HGW := Lib.hid hGw
            have hcc := (HGW.out.block HFR6.out).cell
            clear hR hGw
            simp only [depV]
            rintro _ rfl
            rintro _ rfl
            rintro _ rfl
            rintro _ rfl
            try go_simp
            refine (HB2.out w5 (HGR6.out.trans HGW.out)).mono ?_
            rintro e w6 ⟨rfl, hb6⟩
            exact ⟨hb6, rfl⟩
          · intro w5 hR
            have hGw : Grow w6 w5 := hR.of_drew
            have HGW := Lib.hid hGw
            have hcc := (HGW.out.block HFR6.out).cell
            clear hR hGw
            simp only [depV]
            rintro _ rfl
            rintro _ rfl
            try go_simp
            all_goals first
              | (with_reducible exact Grow.refl _)
              | (with_reducible exact ⟨Grow.refl _, rfl⟩)
          · intro w5 hR
            have hGw : Grow w6 w5 := hR.of_drew
            have HGW := Lib.hid hGw
            have hcc := (HGW.out.block HFR6.out).cell
            clear hR hGw
            simp only [depV]
            rintro _ rfl
            rintro _ rfl
            try go_simp
            all_goals first
              | (with_reducible exact Grow.refl _)
              | (with_reducible exact ⟨Grow.refl _, rfl⟩)
          · intro w5 hR
            have hGw : Grow w6 w5 := hR.of_drew
            have HGW := Lib.hid hGw
            have hcc := (HGW.out.block HFR6.out).cell
            clear hR hGw
            simp only [depV]
            rintro _ rfl
            try go_simp
            all_goals first
              | (with_reducible exact Grow.refl _)
              | (with_reducible exact ⟨Grow.refl _, rfl⟩)
          · intro w5 hR
            have hGw : Grow w6 w5 := hR.of_drew
            have HGW := Lib.hid hGw
            have hcc := (HGW.out.block HFR6.out).cell
            clear hR hGw
            simp only [depV]
            rintro _ rfl
            try go_simp
            all_goals first
              | (with_reducible exact Grow.refl _)
              | (with_reducible exact ⟨Grow.refl _, rfl⟩)
          · intro w5 hR
            have hGw : Grow w6 w5 := hR.of_drew
            have HGW := Lib.hid hGw
            have hcc := (HGW.out.block HFR6.out).cell
            clear hR hGw
            simp only [depV]
            rintro _ rfl
            try go_simp
            all_goals first
              | (with_reducible exact Grow.refl _)
              | (with_reducible exact ⟨Grow.refl _, rfl⟩)
          · intro w5 hR
            have hGw : Grow w6 w5 := hR.of_drew
            have HGW := Lib.hid hGw
            have hcc := (HGW.out.block HFR6.out).cell
            clear hR hGw
            simp only [depV]
            rintro _ rfl
            rintro _ rfl
            rintro _ rfl
            try go_simp
            refine (HB3.out w5 (HGR6.out.trans HGW.out)).mono ?_
            rintro e w6 ⟨rfl, hb6⟩
            exact ⟨hb6, rfl⟩
          · intro w5 hR
            have hGw : Grow w6 w5 := hR.of_drew
            have HGW := Lib.hid hGw
            have hcc := (HGW.out.block HFR6.out).cell
            clear hR hGw
            simp only [depV]
            rintro _ rfl
            try go_simp
            all_goals first
              | (with_reducible exact Grow.refl _)
              | (with_reducible exact ⟨Grow.refl _, rfl⟩)
          · intro w5 hR
            have hGw : Grow w6 w5 := hR.of_drew
            have HGW := Lib.hid hGw
            have hcc := (HGW.out.block HFR6.out).cell
            clear hR hGw
            simp only [depV]
            rintro _ rfl
            rintro _ rfl
            rintro _ rfl
            try go_simp
            all_goals first
              | (with_reducible exact Grow.refl _)
              | (with_reducible exact ⟨Grow.refl _, rfl⟩)
          · intro w5 hR
            have hGw : Grow w6 w5 := hR.of_drew
            have HGW := Lib.hid hGw
            have hcc := (HGW.out.block HFR6.out).cell
            clear hR hGw
            simp only [depV]
            rintro _ rfl
            rintro _ rfl
            try go_simp
            all_goals first
              | (with_reducible exact Grow.refl _)
              | (with_reducible exact ⟨Grow.refl _, rfl⟩)
          · intro w5 hR
            have hGw : Grow w6 w5 := hR.of_drew
            have HGW := Lib.hid hGw
            have hcc := (HGW.out.block HFR6.out).cell
            clear hR hGw
            simp only [depV]
            rintro _ rfl
            try go_simp
            all_goals first
              | (with_reducible exact Grow.refl _)
              | (with_reducible exact ⟨Grow.refl _, rfl⟩)
          · intro w5 hR
            have hGw : Grow w6 w5 := hR.of_drew
            have HGW := Lib.hid hGw
            have hcc := (HGW.out.block HFR6.out).cell
            clear hR hGw
            simp only [depV]
            rintro _ rfl
            try go_simp
            all_goals first
              | (with_reducible exact Grow.refl _)
              | (with_reducible exact ⟨Grow.refl _, rfl⟩)
          · intro w5 hR
            have hGw : Grow w6 w5 := hR.of_drew
            have HGW := Lib.hid hGw
            have hcc := (HGW.out.block HFR6.out).cell
            clear hR hGw
            simp only [depV]
            rintro _ rfl
            rintro _ rfl
            try go_simp
            all_goals first
              | (with_reducible exact Grow.refl _)
              | (with_reducible exact ⟨Grow.refl _, rfl⟩)
          · intro w5 hR
            have hGw : Grow w6 w5 := hR.of_drew
            have HGW := Lib.hid hGw
            have hcc := (HGW.out.block HFR6.out).cell
            clear hR hGw
            simp only [depV]
            rintro _ rfl
            try go_simp
            all_goals first
              | (with_reducible exact Grow.refl _)
              | (with_reducible exact ⟨Grow.refl _, rfl⟩)
          · intro w5 hR
            have hGw : Grow w6 w5 := hR.of_drew
            have HGW := Lib.hid hGw
            have hcc := (HGW.out.block HFR6.out).cell
            clear hR hGw
            simp only [depV]
            rintro _ rfl
            try go_simp
            all_goals first
              | (with_reducible exact Grow.refl _)
              | (with_reducible exact ⟨Grow.refl _, rfl⟩)
          · intro w5 hR
            have hGw : Grow w6 w5 := hR.of_drew
            have HGW := Lib.hid hGw
            have hcc := (HGW.out.block HFR6.out).cell
            clear hR hGw
            simp only [depV]
            rintro _ rfl
            try go_simp
            all_goals first
              | (with_reducible exact Grow.refl _)
              | (with_reducible exact ⟨Grow.refl _, rfl⟩)
          · intro w5 hR
            have hGw : Grow w6 w5 := hR.of_drew
            have HGW := Lib.hid hGw
            have hcc := (HGW.out.block HFR6.out).cell
            clear hR hGw
            simp only [depV]
            rintro _ rfl
            rintro _ rfl
            rintro _ rfl
            try go_simp
            all_goals first
              | (with_reducible exact Grow.refl _)
              | (with_reducible exact ⟨Grow.refl _, rfl⟩)
          · intro w5 hR
            have hGw : Grow w6 w5 := hR.of_drew
            have HGW := Lib.hid hGw
            have hcc := (HGW.out.block HFR6.out).cell
            clear hR hGw
            simp only [depV]
            rintro _ rfl
            rintro _ rfl
            try go_simp
            all_goals first
              | (with_reducible exact Grow.refl _)
              | (with_reducible exact ⟨Grow.refl _, rfl⟩)
          · intro w5 hR
            have hGw : Grow w6 w5 := hR.of_drew
            have HGW := Lib.hid hGw
            have hcc := (HGW.out.block HFR6.out).cell
            clear hR hGw
            simp only [depV]
            rintro _ rfl
            rintro _ rfl
            rintro _ rfl
            try go_simp
            all_goals first
              | (with_reducible exact Grow.refl _)
              | (with_reducible exact ⟨Grow.refl _, rfl⟩)
          · intro w5 hR
            have hGw : Grow w6 w5 := hR.of_drew
            have HGW := Lib.hid hGw
            have hcc := (HGW.out.block HFR6.out).cell
            clear hR hGw
            simp only [depV]
            rintro _ rfl
            try go_simp
            all_goals first
              | (with_reducible exact Grow.refl _)
              | (with_reducible exact ⟨Grow.refl _, rfl⟩)
          · intro w5 hR
            have hGw : Grow w6 w5 := hR.of_drew
            have HGW := Lib.hid hGw
            have hcc := (HGW.out.block HFR6.out).cell
            clear hR hGw
            simp only [depV]
            rintro _ rfl
            rintro _ rfl
            rintro _ rfl
            try go_simp
            all_goals first
              | (with_reducible exact Grow.refl _)
              | (with_reducible exact ⟨Grow.refl _, rfl⟩)
          · intro w5 hR
            have hGw : Grow w6 w5 := hR.of_drew
            have HGW := Lib.hid hGw
            have hcc := (HGW.out.block HFR6.out).cell
            clear hR hGw
            simp only [depV]
            rintro _ rfl
            rintro _ rfl
            rintro _ rfl
            try go_simp
            all_goals first
              | (with_reducible exact Grow.refl _)
              | (with_reducible exact ⟨Grow.refl _, rfl⟩)
          · intro w5 hR
            have hGw : Grow w6 w5 := hR.of_drew
            have HGW := Lib.hid hGw
            have hcc := (HGW.out.block HFR6.out).cell
            clear hR hGw
            simp only [depV]
            rintro _ rfl
            rintro _ rfl
            try go_simp
            all_goals first
              | (with_reducible exact Grow.refl _)
              | (with_reducible exact ⟨Grow.refl _, rfl⟩)
        · intro w5 hR
          have HG5 : Hid (Grow w6 w5) := Lib.hid hR.of_drew
          clear hR
          simp only [finVC, List.take_succ_cons, List.take_zero, List.drop_succ_cons, List.drop_zero]
          rintro _ rfl
          rintro _ rfl
          rintro _ rfl
          rintro _ rfl
          rintro _ rfl
          rintro _ rfl
          rintro _ rfl
          rintro _ rfl
          rintro _ rfl
          rintro _ rfl
          rintro _ rfl
          rintro _ rfl
          rintro _ rfl
          rintro _ rfl
          rintro _ rfl
          rintro _ rfl
          rintro _ rfl
          rintro _ rfl
          rintro _ rfl
          rintro _ rfl
          rintro _ rfl
          rintro _ rfl
          rintro _ rfl
          rintro _ rfl
          rintro _ rfl
          rintro _ rfl
          rintro _ rfl
          rintro _ rfl
          rintro _ rfl
          rintro _ rfl
          rintro _ rfl
          rintro _ rfl
          simp only [Act.put, List.setIfInBounds_toArray, List.set_cons_succ, List.set_cons_zero]
          have HGX : Hid (Grow w4 w5) := Lib.hid ((HGL.out.trans HGL5.out).trans HG5.out)
          have HSX : Hid ((sumC p (k + 1) : Nat) = sm + sc) := HSS
          go_wp2_with fail
          go_roundw
          case rel => exact ⟨k + 1, by omega, by go_num, by rw [HSX.out]; go_num, HGX.out⟩
          case measure => simp [intOf]; omega

    · obtain rfl : k = p.needs.length := by omega
      have hd : decide ((p.needs.length : Int) < (p.needs.length : Int)) = false := decide_eq_false (by omega)
      go_wp2_with fail
      refine (works_any _).mono ?_
      rintro e w9 ⟨rfl, hb9⟩
      have HG9 : Hid (Grow w w9) := Lib.hid (HGR.out.trans hb9)
      clear hb9
      go_wp2
      go_ret
      exact ⟨by simp, HG9.out⟩

set_option maxRecDepth 100000 in
set_option maxHeartbeats 8000000 in
theorem coverCheapest_wp (h : PoolH) (p : Pool) (G : Good p) (A : Option Addr) (cap : Nat) (gs : List Nat) (w : World) (hA : PoolAt w w.heap.size h p.i) (hv : validI p.i = true) (hI : Ints w w.heap.size A (natsL gs)) (hl : gs.length ≤ 20) (hwt : Watch p gs) (hsf : safeD p gs = false) (c : Nat) (l : List Nat) (hpl : planD p = some (c, l)) :
    Calls Try.prog 5 #[poolN h p, .slice A gs.length cap] w fun e w' => e = .returned (.bool true) ∧ Below w.heap.size w w' := by
  have HV := Lib.hid (fun (w0 : World) (hw : Grow w w0) => valid_any h p.i w0 (hA.grow hw))
  rw [hv, pool_i] at HV
  have hl1 : decide ((20 : Int) < (gs.length : Int)) = false := decide_eq_false (by omega)
  have hl2 : decide (20 < gs.length) = false := decide_eq_false (by omega)
  have hok : okPool p.i = true := by unfold validI at hv; rw [Bool.and_eq_true] at hv; exact hv.2
  have hsh : Short p.i := by unfold validI at hv; rw [Bool.and_eq_true, Bool.not_eq_true'] at hv; exact far_short hv.1
  have hn3 := G.n3
  have HPA := Lib.hid (fun (w0 : World) (hw : Grow w w0) => hA.grow hw)
  have HPL := Lib.hid (fun (w0 : World) (hw : Grow w w0) => planApi_any h p G hok hsh w0 (hA.grow hw))
  rw [hpl] at HPL
  have HSL := Lib.hid (fun (k : Nat) (hk : k < p.needs.length) (w0 : World) (hw : Grow w w0) => slotApi_any h p G hok hsh k w0 (hA.grow hw) hk)
  have HCB := Lib.hid (fun (k g : Nat) (hk : k < p.needs.length) (hg : Cov p k g) (w0 : World) (hw : Grow w w0) => (show Calls Try.prog 28 #[poolN h p, .int .i64 (k : Nat), .int .i64 (g : Nat)] w0 fun e w' => e = .returned (.bool true) ∧ Below w0.heap.size w0 w' from by
    have h1 := rCanBe_any h p G k (g : Int) w0 (hA.grow hw) (by omega)
    rw [canB_sub G k g (by have := sub_32 (able_32 G k) hg.1; omega), show canB p k g = true from hg.1] at h1
    exact h1))
  have HCV := Lib.hid (fun (k g : Nat) (hk : k < p.needs.length) (hg : Cov p k g) (w0 : World) (hw : Grow w w0) => (show Calls Try.prog 24 #[poolN h p, .int .i64 (k : Nat), .int .i64 (g : Nat)] w0 fun e w' => e = .returned (.bool true) ∧ Below w0.heap.size w0 w' from by
    have h1 := rCovered_any h p G k g w0 (hA.grow hw) hk (sub_32 (able_32 G k) hg.1)
    rw [hg.2] at h1
    exact h1))
  have HPY := Lib.hid (fun (g : Nat) (hg : g < 32) (w0 : World) (hw : Grow w w0) => rPay_any h p G g w0 (hA.grow hw) (by omega))
  have HSC := Lib.hid (fun k => sumC_le G k)
  have HCL := Lib.hid (fun k => slotC_le G k)
  have HC5 := Lib.hid (fun g => costD_le G g)
  have H32 := Lib.hid (fun k g (hg : Cov p k g) => sub_32 (able_32 G k) hg.1)
  have HIW := Lib.hid (fun (w0 : World) (hw : Grow w w0) => rIsWatch_any h p G A cap (natsL gs) w0 (hA.grow hw) ((hI.below hw).more hw.size) (by simp only [natsL_length]; omega) (watch_wf G hwt))
  rw [ok_of_watch G hwt] at HIW
  simp only [natsL_length] at HIW
  have HIS := Lib.hid (fun (w0 : World) (hw : Grow w w0) => rIsSafe_any h p G A cap gs w0 (hA.grow hw) ((hI.below hw).more hw.size) hwt)
  rw [hsf] at HIS
  simp only [show tripL (some (c, l)) = l from rfl, show tripC (some (c, l)) = c from rfl, show planErr (some (c, l)) = 0 from rfl] at HPL
  obtain ⟨hw1, hw2, hw3, hw4⟩ := plan_some G hpl
  have HSE : Hid (∀ k, k < p.needs.length → slotE p k = 0 ∧ Cov p k (slotG p k) ∧ slotC p k = costD p (slotG p k)) := Lib.hid (fun k hk => by
    rcases slot_cases G k with q | q
    · exact absurd (slot_of_watch hw1 hw2 hk) (slot_no q.1 _)
    · exact q)
  have HSUM : Hid (sumC p p.needs.length ≤ c) := Lib.hid (by
    have h1 := sum_le G hw1 hw2 l.length (Nat.le_refl _)
    rw [List.take_length, hw1.len] at h1
    dsimp only at hw3
    omega)
  have hlen := hw1.len
  have hll : l.length ≤ 3 := by dsimp only at hlen; omega
  have hc3 : c ≤ 15000 := by have h1 := costL_le G l; dsimp only at hw3; omega
  have HIWl := Lib.hid (fun (A : Option Addr) (cap : Nat) (w0 : World) (hw : Grow w w0) (hi : Ints w0 w0.heap.size A (natsL l)) => rIsWatch_any h p G A cap (natsL l) w0 (hA.grow hw) hi (by simp only [natsL_length]; omega) (watch_wf G hw1))
  rw [ok_of_watch G hw1] at HIWl
  simp only [natsL_length] at HIWl
  have HISl := Lib.hid (fun (A : Option Addr) (cap : Nat) (w0 : World) (hw : Grow w w0) (hi : Ints w0 w0.heap.size A (natsL l)) => rIsSafe_any h p G A cap l w0 (hA.grow hw) hi hw1)
  rw [show safeD p l = true from hw2] at HISl
  have HCOl := Lib.hid (fun (A : Option Addr) (cap : Nat) (w0 : World) (hw : Grow w w0) (hi : Ints w0 w0.heap.size A (natsL l)) => rCost_any h p G A cap l w0 (hA.grow hw) hi hw1)
  rw [show costL p l = c from hw3] at HCOl
  clear hok hsh hA hv hI G hpl hwt hsf hw1 hw2 hw3 hw4 hlen
  obtain ⟨fa, fc, na, nc⟩ := h
  go_enter Try.func5, Try.ntmps5
  go_upto_region 1 with fail
  obtain ⟨W, hW, hg, hf, hsz⟩ := one_block w 25 (cellsN ⟨fa, fc, na, nc⟩ p)
  rw [hW]
  clear hW
  have hcc := hf.cell
  have HG0 := Lib.hid hg
  have HF0 := Lib.hid hf
  clear hf hg
  go_wp2_with fail
  refine (HV.out W HG0.out).mono ?_
  rintro e w1 ⟨rfl, hb1⟩
  have HG1 : Hid (Grow w w1) := Lib.hid (HG0.out.trans hb1)
  have HF1 := Lib.hid ((show Grow W w1 from hb1).block HF0.out)
  have hcc := HF1.out.cell
  clear hb1
  clear HF0
  go_wp2_with fail
  refine (HPL.out w1 HG1.out).mono ?_
  rintro e w2 ⟨A2, cap2, rfl, hi2, hb2⟩
  have HG2 : Hid (Grow w w2) := Lib.hid (HG1.out.trans hb2)
  have HF2 := Lib.hid ((show Grow w1 w2 from hb2).block HF1.out)
  have hcc := HF2.out.cell
  have HI2 := Lib.hid hi2
  clear hi2
  clear hb2
  clear HF1
  go_wp2_with fail
  refine (HIW.out w2 HG2.out).mono ?_
  rintro e w3 ⟨rfl, hb3⟩
  have HG3 : Hid (Grow w w3) := Lib.hid (HG2.out.trans hb3)
  have HF3 := Lib.hid ((show Grow w2 w3 from hb3).block HF2.out)
  have hcc := HF3.out.cell
  have HGs3 : Hid (Grow w2 w3) := hb3
  clear hb3
  clear HF2
  go_wp2_with fail
  refine (HIS.out w3 HG3.out).mono ?_
  rintro e w4 ⟨rfl, hb4⟩
  have HG4 : Hid (Grow w w4) := Lib.hid (HG3.out.trans hb4)
  have HF4 := Lib.hid ((show Grow w3 w4 from hb4).block HF3.out)
  have hcc := HF4.out.cell
  have HGs4 : Hid (Grow w3 w4) := hb4
  clear hb4
  clear HF3
  go_upto_region 7 with fail
  go_loopw [9, 10] (fun sv iv wr => ∃ k : Nat, k ≤ p.needs.length ∧ iv = .int .i64 (k : Nat) ∧ sv = .int .i64 (sumC p k : Nat) ∧ Grow w4 wr) (fun _ iv _ => p.needs.length - (intOf iv).toNat)
  case atStart => exact ⟨0, Nat.zero_le _, rfl, rfl, Grow.refl _⟩
  case round => as_aux_lemma =>
    obtain ⟨k, hk, rfl, rfl, hg⟩ := hrel
    rename World => wr
    have HGL : Hid (Grow w4 wr) := hg
    have HGR : Hid (Grow w wr) := Lib.hid (HG4.out.trans hg)
    have HFR := Lib.hid (HGL.out.block HF4.out)
    have hsc := HSC.out k
    have hcc := HFR.out.cell
    clear hg
    by_cases hlt : k < p.needs.length
    · have hd : decide ((k : Int) < (p.needs.length : Int)) = true := decide_eq_true (by omega)
      have hs5 := HCL.out k
      have HSS : Hid (sumC p (k + 1) = sumC p k + slotC p k) := Lib.hid rfl
      have HSA := Lib.hid (fun w0 hw => HSL.out k hlt w0 hw)
      obtain ⟨hse, hcov, hcst⟩ := HSE.out k hlt
      obtain ⟨sg, hsg⟩ : ∃ z, slotG p k = z := ⟨_, rfl⟩
      obtain ⟨sc, hsc2⟩ : ∃ z, slotC p k = z := ⟨_, rfl⟩
      rw [hse, hsg, hsc2] at HSA
      rw [hsg] at hcov hcst
      rw [hsc2] at hcst hs5 HSS
      have HB1 := Lib.hid (HCB.out k sg hlt hcov)
      have HB2 := Lib.hid (HCV.out k sg hlt hcov)
      have h32 := H32.out k sg hcov
      have HB3 := Lib.hid (HPY.out sg h32)
      rw [← hcst] at HB3
      obtain ⟨sm, hsm⟩ : ∃ z, sumC p k = z := ⟨_, rfl⟩
      rw [hsm] at hsc HSS ⊢
      clear hsg hsc2 hcov hcst hsm hse h32
      go_wp2_with fail
      refine (HSA.out wr HGR.out).mono ?_
      rintro e w5 ⟨rfl, hb5⟩
      have HGL5 : Hid (Grow wr w5) := hb5
      clear hb5 hcc hd
      rename World => w6
      have HGR6 : Hid (Grow w w6) := Lib.hid (HGR.out.trans HGL5.out)
      have HFR6 := Lib.hid (HGL5.out.block HFR.out)
      have hcc := HFR6.out.cell
      go_upto_region 13 with fail
      clear hcc
      refine wp_region_lit 32 [[], [], [], [(0, 71), (1, 72), (2, 73)], [(3, 74)], [(4, 75)], [(5, 76)], [(5, 76)], [(5, 76)], [(5, 76), (6, 77), (7, 78), (8, 79)], [(5, 76), (9, 80)], [(5, 76), (10, 81)], [(11, 82)], [(12, 83)], [(12, 83)], [(12, 83), (13, 84), (14, 85)], [(12, 83)], [(12, 83), (15, 86), (16, 87)], [(12, 83), (17, 88)], [(18, 89)], [(19, 90)], [(19, 90), (20, 91)], [(21, 92)], [(21, 92)], [(21, 92)], [(21, 92), (23, 94), (24, 95)], [(21, 92), (25, 96)], [(21, 92), (22, 93), (26, 97)], [(21, 92)], [(21, 92), (27, 98), (28, 99)], [(19, 90), (21, 92), (29, 100)], [(19, 90), (30, 101)]] Grow (fun qi v w' => match qi with
          | 0 => v = poolN ⟨fa, fc, na, nc⟩ p
          | 1 => v = .int .i64 (k : Nat)
          | 2 => v = .int .i64 (sg : Nat)
          | 3 => v = .bool true
          | 4 => v = .bool false
          | 5 => v = .bool false
          | 6 => v = poolN ⟨fa, fc, na, nc⟩ p
          | 7 => v = .int .i64 (k : Nat)
          | 8 => v = .int .i64 (sg : Nat)
          | 9 => v = .bool true
          | 10 => v = .bool false
          | 11 => v = .bool false
          | 12 => v = .bool false
          | 13 => v = poolN ⟨fa, fc, na, nc⟩ p
          | 14 => v = .int .i64 (sg : Nat)
          | 15 => v = .int .i64 (sc : Nat)
          | 16 => v = .int .i64 (sc : Nat)
          | 17 => v = .bool false
          | 18 => v = .bool false
          | 19 => v = .bool false
          | 20 => v = .bool false
          | 21 => v = .bool false
          | 22 => v = undef
          | 23 => v = undef
          | 24 => v = undef
          | 25 => v = undef
          | 26 => v = undef
          | 27 => v = undef
          | 28 => v = undef
          | 29 => v = undef
          | 30 => v = .bool false
          | 31 => v = .bool false
          | _ => False) (by kernel_rfl) (by kernel_rfl) (fun _ _ _ => Grow.trans) Grow.refl ?_ ?_ ?_
      · intro i v y y' h k
        match i, h with
        | 0, h | 1, h | 2, h | 3, h | 4, h | 5, h | 6, h | 7, h | 8, h | 9, h | 10, h | 11, h | 12, h | 13, h | 14, h | 15, h | 16, h | 17, h | 18, h | 19, h | 20, h | 21, h | 22, h | 23, h | 24, h | 25, h | 26, h | 27, h | 28, h | 29, h | 30, h | 31, h => exact h
      · simp only [StepsLit, List.take_succ_cons, List.take_zero]
        refine ⟨?_, ?_, ?_, ?_, ?_, ?_, ?_, ?_, ?_, ?_, ?_, ?_, ?_, ?_, ?_, ?_, ?_, ?_, ?_, ?_, ?_, ?_, ?_, ?_, ?_, ?_, ?_, ?_, ?_, ?_, ?_, ?_, trivial⟩
        · intro w5 hR
          have hGw : Grow w6 w5 := hR.of_drew
          have HGW := Lib.hid hGw
          have hcc := (HGW.out.block HFR6.out).cell
          clear hR hGw
          simp only [depV]
          try go_simp
          all_goals first
            | (with_reducible exact Grow.refl _)
            | (with_reducible exact ⟨Grow.refl _, rfl⟩)
        · intro w5 hR
          have hGw : Grow w6 w5 := hR.of_drew
          have HGW := Lib.hid hGw
          have hcc := (HGW.out.block HFR6.out).cell
          clear hR hGw
          simp only [depV]
          try go_simp
          all_goals first
            | (with_reducible exact Grow.refl _)
            | (with_reducible exact ⟨Grow.refl _, rfl⟩)
        · intro w5 hR
          have hGw : Grow w6 w5 := hR.of_drew
          have HGW := Lib.hid hGw
          have hcc := (HGW.out.block HFR6.out).cell
          clear hR hGw
          simp only [depV]
          try go_simp
          all_goals first
            | (with_reducible exact Grow.refl _)
            | (with_reducible exact ⟨Grow.refl _, rfl⟩)
        · intro w5 hR
          have hGw : Grow w6 w5 := hR.of_drew
          have HGW := Lib.hid hGw
          have hcc := (HGW.out.block HFR6.out).cell
          clear hR hGw
          simp only [depV]
          rintro _ rfl
          rintro _ rfl
          rintro _ rfl
          try go_simp
          refine (HB1.out w5 (HGR6.out.trans HGW.out)).mono ?_
          rintro e w6 ⟨rfl, hb6⟩
          exact ⟨hb6, rfl⟩
        · intro w5 hR
          have hGw : Grow w6 w5 := hR.of_drew
          have HGW := Lib.hid hGw
          have hcc := (HGW.out.block HFR6.out).cell
          clear hR hGw
          simp only [depV]
          rintro _ rfl
          try go_simp
          all_goals first
            | (with_reducible exact Grow.refl _)
            | (with_reducible exact ⟨Grow.refl _, rfl⟩)
        · intro w5 hR
          have hGw : Grow w6 w5 := hR.of_drew
          have HGW := Lib.hid hGw
          have hcc := (HGW.out.block HFR6.out).cell
          clear hR hGw
          simp only [depV]
          rintro _ rfl
          try go_simp
          all_goals first
            | (with_reducible exact Grow.refl _)
            | (with_reducible exact ⟨Grow.refl _, rfl⟩)
        · intro w5 hR
          have hGw : Grow w6 w5 := hR.of_drew
          have HGW := Lib.hid hGw
          have hcc := (HGW.out.block HFR6.out).cell
          clear hR hGw
          simp only [depV]
          rintro _ rfl
          try go_simp
          all_goals first
            | (with_reducible exact Grow.refl _)
            | (with_reducible exact ⟨Grow.refl _, rfl⟩)
        · intro w5 hR
          have hGw : Grow w6 w5 := hR.of_drew
          have HGW := Lib.hid hGw
          have hcc := (HGW.out.block HFR6.out).cell
          clear hR hGw
          simp only [depV]
          rintro _ rfl
          try go_simp
          all_goals first
            | (with_reducible exact Grow.refl _)
            | (with_reducible exact ⟨Grow.refl _, rfl⟩)
        · intro w5 hR
          have hGw : Grow w6 w5 := hR.of_drew
          have HGW := Lib.hid hGw
          have hcc := (HGW.out.block HFR6.out).cell
          clear hR hGw
          simp only [depV]
          rintro _ rfl
          try go_simp
          all_goals first
            | (with_reducible exact Grow.refl _)
            | (with_reducible exact ⟨Grow.refl _, rfl⟩)
        · intro w5 hR
          have hGw : Grow w6 w5 := hR.of_drew
          have HGW := Lib.hid hGw
          have hcc := (HGW.out.block HFR6.out).cell
          clear hR hGw
          simp only [depV]
          rintro _ rfl
          rintro _ rfl
          rintro _ rfl
          rintro _ rfl
          try go_simp
          refine (HB2.out w5 (HGR6.out.trans HGW.out)).mono ?_
          rintro e w6 ⟨rfl, hb6⟩
          exact ⟨hb6, rfl⟩
        · intro w5 hR
          have hGw : Grow w6 w5 := hR.of_drew
          have HGW := Lib.hid hGw
          have hcc := (HGW.out.block HFR6.out).cell
          clear hR hGw
          simp only [depV]
          rintro _ rfl
          rintro _ rfl
          try go_simp
          all_goals first
            | (with_reducible exact Grow.refl _)
            | (with_reducible exact ⟨Grow.refl _, rfl⟩)
        · intro w5 hR
          have hGw : Grow w6 w5 := hR.of_drew
          have HGW := Lib.hid hGw
          have hcc := (HGW.out.block HFR6.out).cell
          clear hR hGw
          simp only [depV]
          rintro _ rfl
          rintro _ rfl
          try go_simp
          all_goals first
            | (with_reducible exact Grow.refl _)
            | (with_reducible exact ⟨Grow.refl _, rfl⟩)
        · intro w5 hR
          have hGw : Grow w6 w5 := hR.of_drew
          have HGW := Lib.hid hGw
          have hcc := (HGW.out.block HFR6.out).cell
          clear hR hGw
          simp only [depV]
          rintro _ rfl
          try go_simp
          all_goals first
            | (with_reducible exact Grow.refl _)
            | (with_reducible exact ⟨Grow.refl _, rfl⟩)
        · intro w5 hR
          have hGw : Grow w6 w5 := hR.of_drew
          have HGW := Lib.hid hGw
          have hcc := (HGW.out.block HFR6.out).cell
          clear hR hGw
          simp only [depV]
          rintro _ rfl
          try go_simp
          all_goals first
            | (with_reducible exact Grow.refl _)
            | (with_reducible exact ⟨Grow.refl _, rfl⟩)
        · intro w5 hR
          have hGw : Grow w6 w5 := hR.of_drew
          have HGW := Lib.hid hGw
          have hcc := (HGW.out.block HFR6.out).cell
          clear hR hGw
          simp only [depV]
          rintro _ rfl
          try go_simp
          all_goals first
            | (with_reducible exact Grow.refl _)
            | (with_reducible exact ⟨Grow.refl _, rfl⟩)
        · intro w5 hR
          have hGw : Grow w6 w5 := hR.of_drew
          have HGW := Lib.hid hGw
          have hcc := (HGW.out.block HFR6.out).cell
          clear hR hGw
          simp only [depV]
          rintro _ rfl
          rintro _ rfl
          rintro _ rfl
          try go_simp
          refine (HB3.out w5 (HGR6.out.trans HGW.out)).mono ?_
          rintro e w6 ⟨rfl, hb6⟩
          exact ⟨hb6, rfl⟩
        · intro w5 hR
          have hGw : Grow w6 w5 := hR.of_drew
          have HGW := Lib.hid hGw
          have hcc := (HGW.out.block HFR6.out).cell
          clear hR hGw
          simp only [depV]
          rintro _ rfl
          try go_simp
          all_goals first
            | (with_reducible exact Grow.refl _)
            | (with_reducible exact ⟨Grow.refl _, rfl⟩)
        · intro w5 hR
          have hGw : Grow w6 w5 := hR.of_drew
          have HGW := Lib.hid hGw
          have hcc := (HGW.out.block HFR6.out).cell
          clear hR hGw
          simp only [depV]
          rintro _ rfl
          rintro _ rfl
          rintro _ rfl
          try go_simp
          all_goals first
            | (with_reducible exact Grow.refl _)
            | (with_reducible exact ⟨Grow.refl _, rfl⟩)
        · intro w5 hR
          have hGw : Grow w6 w5 := hR.of_drew
          have HGW := Lib.hid hGw
          have hcc := (HGW.out.block HFR6.out).cell
          clear hR hGw
          simp only [depV]
          rintro _ rfl
          rintro _ rfl
          try go_simp
          all_goals first
            | (with_reducible exact Grow.refl _)
            | (with_reducible exact ⟨Grow.refl _, rfl⟩)
        · intro w5 hR
          have hGw : Grow w6 w5 := hR.of_drew
          have HGW := Lib.hid hGw
          have hcc := (HGW.out.block HFR6.out).cell
          clear hR hGw
          simp only [depV]
          rintro _ rfl
          try go_simp
          all_goals first
            | (with_reducible exact Grow.refl _)
            | (with_reducible exact ⟨Grow.refl _, rfl⟩)
        · intro w5 hR
          have hGw : Grow w6 w5 := hR.of_drew
          have HGW := Lib.hid hGw
          have hcc := (HGW.out.block HFR6.out).cell
          clear hR hGw
          simp only [depV]
          rintro _ rfl
          try go_simp
          all_goals first
            | (with_reducible exact Grow.refl _)
            | (with_reducible exact ⟨Grow.refl _, rfl⟩)
        · intro w5 hR
          have hGw : Grow w6 w5 := hR.of_drew
          have HGW := Lib.hid hGw
          have hcc := (HGW.out.block HFR6.out).cell
          clear hR hGw
          simp only [depV]
          rintro _ rfl
          rintro _ rfl
          try go_simp
          all_goals first
            | (with_reducible exact Grow.refl _)
            | (with_reducible exact ⟨Grow.refl _, rfl⟩)
        · intro w5 hR
          have hGw : Grow w6 w5 := hR.of_drew
          have HGW := Lib.hid hGw
          have hcc := (HGW.out.block HFR6.out).cell
          clear hR hGw
          simp only [depV]
          rintro _ rfl
          try go_simp
          all_goals first
            | (with_reducible exact Grow.refl _)
            | (with_reducible exact ⟨Grow.refl _, rfl⟩)
        · intro w5 hR
          have hGw : Grow w6 w5 := hR.of_drew
          have HGW := Lib.hid hGw
          have hcc := (HGW.out.block HFR6.out).cell
          clear hR hGw
          simp only [depV]
          rintro _ rfl
          try go_simp
          all_goals first
            | (with_reducible exact Grow.refl _)
            | (with_reducible exact ⟨Grow.refl _, rfl⟩)
        · intro w5 hR
          have hGw : Grow w6 w5 := hR.of_drew
          have HGW := Lib.hid hGw
          have hcc := (HGW.out.block HFR6.out).cell
          clear hR hGw
          simp only [depV]
          rintro _ rfl
          try go_simp
          all_goals first
            | (with_reducible exact Grow.refl _)
            | (with_reducible exact ⟨Grow.refl _, rfl⟩)
        · intro w5 hR
          have hGw : Grow w6 w5 := hR.of_drew
          have HGW := Lib.hid hGw
          have hcc := (HGW.out.block HFR6.out).cell
          clear hR hGw
          simp only [depV]
          rintro _ rfl
          rintro _ rfl
          rintro _ rfl
          try go_simp
          all_goals first
            | (with_reducible exact Grow.refl _)
            | (with_reducible exact ⟨Grow.refl _, rfl⟩)
        · intro w5 hR
          have hGw : Grow w6 w5 := hR.of_drew
          have HGW := Lib.hid hGw
          have hcc := (HGW.out.block HFR6.out).cell
          clear hR hGw
          simp only [depV]
          rintro _ rfl
          rintro _ rfl
          try go_simp
          all_goals first
            | (with_reducible exact Grow.refl _)
            | (with_reducible exact ⟨Grow.refl _, rfl⟩)
        · intro w5 hR
          have hGw : Grow w6 w5 := hR.of_drew
          have HGW := Lib.hid hGw
          have hcc := (HGW.out.block HFR6.out).cell
          clear hR hGw
          simp only [depV]
          rintro _ rfl
          rintro _ rfl
          rintro _ rfl
          try go_simp
          all_goals first
            | (with_reducible exact Grow.refl _)
            | (with_reducible exact ⟨Grow.refl _, rfl⟩)
        · intro w5 hR
          have hGw : Grow w6 w5 := hR.of_drew
          have HGW := Lib.hid hGw
          have hcc := (HGW.out.block HFR6.out).cell
          clear hR hGw
          simp only [depV]
          rintro _ rfl
          try go_simp
          all_goals first
            | (with_reducible exact Grow.refl _)
            | (with_reducible exact ⟨Grow.refl _, rfl⟩)
        · intro w5 hR
          have hGw : Grow w6 w5 := hR.of_drew
          have HGW := Lib.hid hGw
          have hcc := (HGW.out.block HFR6.out).cell
          clear hR hGw
          simp only [depV]
          rintro _ rfl
          rintro _ rfl
          rintro _ rfl
          try go_simp
          all_goals first
            | (with_reducible exact Grow.refl _)
            | (with_reducible exact ⟨Grow.refl _, rfl⟩)
        · intro w5 hR
          have hGw : Grow w6 w5 := hR.of_drew
          have HGW := Lib.hid hGw
          have hcc := (HGW.out.block HFR6.out).cell
          clear hR hGw
          simp only [depV]
          rintro _ rfl
          rintro _ rfl
          rintro _ rfl
          try go_simp
          all_goals first
            | (with_reducible exact Grow.refl _)
            | (with_reducible exact ⟨Grow.refl _, rfl⟩)
        · intro w5 hR
          have hGw : Grow w6 w5 := hR.of_drew
          have HGW := Lib.hid hGw
          have hcc := (HGW.out.block HFR6.out).cell
          clear hR hGw
          simp only [depV]
          rintro _ rfl
          rintro _ rfl
          try go_simp
          all_goals first
            | (with_reducible exact Grow.refl _)
            | (with_reducible exact ⟨Grow.refl _, rfl⟩)
      · intro w5 hR
        have HG5 : Hid (Grow w6 w5) := Lib.hid hR.of_drew
        clear hR
        simp only [finVC, List.take_succ_cons, List.take_zero, List.drop_succ_cons, List.drop_zero]
        rintro _ rfl
        rintro _ rfl
        rintro _ rfl
        rintro _ rfl
        rintro _ rfl
        rintro _ rfl
        rintro _ rfl
        rintro _ rfl
        rintro _ rfl
        rintro _ rfl
        rintro _ rfl
        rintro _ rfl
        rintro _ rfl
        rintro _ rfl
        rintro _ rfl
        rintro _ rfl
        rintro _ rfl
        rintro _ rfl
        rintro _ rfl
        rintro _ rfl
        rintro _ rfl
        rintro _ rfl
        rintro _ rfl
        rintro _ rfl
        rintro _ rfl
        rintro _ rfl
        rintro _ rfl
        rintro _ rfl
        rintro _ rfl
        rintro _ rfl
        rintro _ rfl
        rintro _ rfl
        simp only [Act.put, List.setIfInBounds_toArray, List.set_cons_succ, List.set_cons_zero]
        have HGX : Hid (Grow w4 w5) := Lib.hid ((HGL.out.trans HGL5.out).trans HG5.out)
        have HSX : Hid ((sumC p (k + 1) : Nat) = sm + sc) := HSS
        go_wp2_with fail
        go_roundw
        case rel => exact ⟨k + 1, by omega, by go_num, by rw [HSX.out]; go_num, HGX.out⟩
        case measure => simp [intOf]; omega

    · obtain rfl : k = p.needs.length := by omega
      have hd : decide ((p.needs.length : Int) < (p.needs.length : Int)) = false := decide_eq_false (by omega)
      have hsum : decide ((c : Int) < (sumC p p.needs.length : Int)) = false := decide_eq_false (by have := HSUM.out; omega)
      have hsum2 : decide (c < sumC p p.needs.length) = false := decide_eq_false (by have := HSUM.out; omega)
      obtain ⟨sm, hsm⟩ : ∃ z, sumC p p.needs.length = z := ⟨_, rfl⟩
      rw [hsm] at hsum hsum2 hsc ⊢
      clear hsm
      have HG2R : Hid (Grow w2 wr) := Lib.hid ((HGs3.out.trans HGs4.out).trans HGL.out)
      have HIR := Lib.hid ((HI2.out.below (HG2R.out)).more HG2R.out.size)
      go_wp2_with fail
      refine (HIWl.out A2 cap2 wr HGR.out HIR.out).mono ?_
      rintro e w6 ⟨rfl, hb6⟩
      have HG6 : Hid (Grow wr w6) := hb6
      have hcc := (HG6.out.block HFR.out).cell
      clear hb6
      go_wp2_with fail
      refine (HISl.out A2 cap2 w6 (HGR.out.trans HG6.out) ((HIR.out.below HG6.out).more HG6.out.size)).mono ?_
      rintro e w7 ⟨rfl, hb7⟩
      have HG7 : Hid (Grow wr w7) := Lib.hid (HG6.out.trans hb7)
      have hcc := (HG7.out.block HFR.out).cell
      clear hb7
      go_wp2_with fail
      refine (HCOl.out A2 cap2 w7 (HGR.out.trans HG7.out) ((HIR.out.below HG7.out).more HG7.out.size)).mono ?_
      rintro e w8 ⟨rfl, hb8⟩
      have HG8 : Hid (Grow wr w8) := Lib.hid (HG7.out.trans hb8)
      have hcc := (HG8.out.block HFR.out).cell
      clear hb8
      go_wp2_with fail
      refine (works_any _).mono ?_
      rintro e w9 ⟨rfl, hb9⟩
      have HG9 : Hid (Grow w w9) := Lib.hid ((HGR.out.trans HG8.out).trans hb9)
      clear hb9
      go_wp2
      go_ret
      exact ⟨by simp, HG9.out⟩

end Go.Proofs.Ytcgnibfcjadnjaa
