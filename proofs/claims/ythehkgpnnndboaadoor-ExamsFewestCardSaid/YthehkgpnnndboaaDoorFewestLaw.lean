/- FewestLaw: the law ExamsFewest answers true at any paper, points and number; written by wip/tools/fewestlaw9.py. -/
import Derived.Test.YthehkgpnnndboaaDoorLawM
import Derived.Test.YthehkgpnnndboaaDoorRCopy
namespace Go.Proofs.YthehkgpnnndboaaDoor
open Go.RowKit

theorem ok_with {d : PaperI} (h : okPaper d = true) {k : Int} (hk : 0 ≤ k ∧ k ≤ 2) : okPaper (withW d k) = true := by
  have e : inB k 0 2 = true := inB_iff.2 hk
  unfold okPaper at h ⊢
  simp only [Bool.and_eq_true] at h ⊢
  obtain ⟨⟨⟨h1, h2⟩, h3⟩, h4⟩ := h
  exact ⟨⟨⟨h1, e⟩, h3⟩, h4⟩
theorem few_le (d : PaperI) : fewestD d ≤ d.judges.length := by
  have h := fewTo_le d d.judges.length 0
  unfold fewestD
  omega

set_option maxRecDepth 100000 in
set_option maxHeartbeats 32000000 in
theorem fewestLaw_any (p : PaperR) (A : Option Addr) (ca : Nat) (xs : List Int) (less : Int) (hlw : -9223372036854775808 ≤ less ∧ less ≤ 9223372036854775807) (w : World) (hA : PaperAt w w.heap.size p) (hI : Ints w w.heap.size A xs) (hG : Glob w) :
    Calls Tryd.prog 10 #[paperV p, .slice A xs.length ca, .int .i64 less] w fun e w' => e = .returned (.bool true) ∧ Below w.heap.size w w' := by
  have HWK := Lib.hid (fun (w0 : World) (hw : Grow w w0) => works_any w0 (hG.grow hw))
  have HRY := Lib.hid (fun (w0 : World) (hw : Grow w w0) => ready_any p w0 (hA.grow hw))
  have HPA := Lib.hid (fun (w0 : World) (hw : Grow w w0) => hA.grow hw)
  have HGL := Lib.hid (fun (w0 : World) (hw : Grow w w0) => hG.grow hw)
  have HIX := Lib.hid (fun (w0 : World) (hw : Grow w w0) => (hI.below hw).more hw.size)
  obtain ⟨rd, hrd⟩ : ∃ z, readyP p = z := ⟨_, rfl⟩
  have HRD : Hid (readyP p = rd) := Lib.hid hrd
  rw [hrd] at HRY
  clear hrd hA hI hG
  go_enter Tryd.func10, Tryd.ntmps10
  go_upto_region 1 with fail
  obtain ⟨W, hW, hgr, hf, hsz⟩ := one_block w 26 (cellsP p)
  rw [hW]
  clear hW
  have HG := Lib.hid hgr
  have HF := Lib.hid hf
  have hcc := hf.cell
  clear hgr hf
  go_wp2_with fail
  refine (HRY.out W HG.out).mono ?_
  rintro e w1 ⟨rfl, hb1⟩
  have HG1 : Hid (Grow w w1) := Lib.hid (HG.out.trans hb1)
  have HF1 := Lib.hid ((show Grow W w1 from hb1).block HF.out)
  clear hb1 hcc HG HF HRY
  have hcc := HF1.out.cell
  cases rd with
  | false =>
    go_wp2_with fail
    refine (HWK.out _ HG1.out).mono ?_
    rintro e w9 ⟨rfl, hb9⟩
    have HG9 : Hid (Grow w w9) := Lib.hid ((HG1.out).trans hb9)
    clear hb9
    go_wp2_with fail
    go_ret
    exact ⟨rfl, HG9.out⟩
  | true =>
  obtain ⟨hok, G, hs, hj3⟩ := ready_parts HRD.out
  by_cases x20 : 20 < xs.length
  · have hd1 : decide ((20 : Int) < (xs.length : Int)) = true := decide_eq_true (by omega)
    go_wp2_with fail
    refine (HWK.out _ HG1.out).mono ?_
    rintro e w9 ⟨rfl, hb9⟩
    have HG9 : Hid (Grow w w9) := Lib.hid ((HG1.out).trans hb9)
    clear hb9
    go_wp2_with fail
    go_ret
    exact ⟨rfl, HG9.out⟩
  have hd1 : decide ((20 : Int) < (xs.length : Int)) = false := decide_eq_false (by omega)
  have hj4 : p.judges.length ≤ 4 := by omega
  have HFW := Lib.hid (fun (w0 : World) (hw : Grow w w0) => fewestApi_any p w0 (HPA.out w0 hw) hs)
  rw [show paperErr p = 0 by unfold paperErr; rw [hok]; rfl, show fewestV p = fewestD p.d by unfold fewestV; rw [hok]; rfl] at HFW
  have HTR := Lib.hid (fun (w0 : World) (hw : Grow w w0) => rIsTruth_any p A ca xs w0 (HPA.out w0 hw) (HIX.out w0 hw) (by have : p.items.length ≤ 4 := G.i4; omega) (by omega))
  have HWR := Lib.hid (fun (hfi : fitsI p.items xs = true) (w0 : World) (hw : Grow w w0) => rWrongs_any p G A ca xs hfi w0 (HPA.out w0 hw) (HIX.out w0 hw))
  have HCP := Lib.hid (fun (w0 : World) (hw : Grow w w0) => rCopy_any p w0.heap.size w0 (HPA.out w0 hw) (Nat.le_refl _) (by have : p.items.length ≤ 4 := G.i4; omega) (by omega) (by have : p.grades.length ≤ 5 := G.gr; omega) (fun x hx => by have h := (G.ju x.d (List.mem_map_of_mem hx)).2.2.1; have h2 := G.i4; omega))
  have HFL := Lib.hid (fun (hfi : fitsI p.items xs = true) => few_least (d := p.d) (ps := xs) hfi)
  have hfle : fewestD p.d ≤ p.judges.length := by have := few_le p.d; rwa [d_len] at this
  have HSM : Hid (truthsL (withW p.d (fewestD p.d : Nat)) ≠ []) := Lib.hid (few_some G)
  have HRQ := Lib.hid (fun (q : PaperR) (hq : q.d = p.d) (k : Nat) (_ : k ≤ 2) (w0 : World) (h0 : PaperAt w0 w0.heap.size q) (hw : Grow w w0) => rangeApi_any { q with wrong := (k : Nat) } w0 ⟨h0.items, h0.judges, h0.marks, h0.grades⟩ (by
    have e1 : q.items = p.items := congrArg PaperI.items hq
    have e2 : q.grades = p.grades := congrArg PaperI.grades hq
    have e3 : q.judges.map JudgeR.d = p.d.judges := congrArg PaperI.judges hq
    have e4 : q.judges.length = p.judges.length := by have := congrArg List.length e3; rw [List.length_map, d_len] at this; exact this
    refine ⟨by show q.items.length ≤ _; rw [e1]; exact hs.items, by show q.judges.length ≤ _; rw [e4]; exact hs.judges, by show q.grades.length ≤ _; rw [e2]; exact hs.grades, fun x hx => ?_⟩
    have hx2 : x.d ∈ p.d.judges := by rw [← e3]; exact List.mem_map_of_mem hx
    have h := (G.ju x.d hx2).2.2.1
    have h2 := G.i4
    omega) (HGL.out w0 hw))
  have HNQ := Lib.hid (fun (q : PaperR) (hq : q.d = p.d) (k : Nat) (hk : k ≤ 2) => (show ({ q with wrong := (k : Nat) } : PaperR).d = withW p.d (k : Nat) from by rw [← hq]; rfl))
  have HZ : Hid (∀ (q : PaperR), q.d = p.d → fewestD p.d ≤ 2 → numErr { q with wrong := (fewestD p.d : Nat) } 0 0 = 0) := Lib.hid (fun q hq h2 => num_some (by rw [HNQ.out q hq _ h2]; exact ok_with hok (by omega)) (by rw [HNQ.out q hq _ h2]; exact HSM.out))
  have HLS : Hid (∀ m : Nat, m < fewestD p.d → ∀ (q : PaperR), q.d = p.d → m ≤ 2 → numErr { q with wrong := (m : Nat) } 0 0 = 3) := Lib.hid (fun m hm q hq h2 => num_none (by rw [HNQ.out q hq _ h2]; exact ok_with hok (by omega)) (by rw [HNQ.out q hq _ h2]; exact few_less hm))
  obtain ⟨n, hn⟩ : ∃ z, fewestD p.d = z := ⟨_, rfl⟩
  rw [hn] at HFW HFL hfle HZ HLS
  clear hn HSM HNQ
  obtain ⟨fi, hfi⟩ : ∃ z, fitsI p.items xs = z := ⟨_, rfl⟩
  rw [hfi] at HTR HWR HFL
  obtain ⟨wc, hwc⟩ : ∃ z, wrongC p.d.judges xs = z := ⟨_, rfl⟩
  rw [hwc] at HWR HFL
  clear hfi hwc hs
  go_wp2_with fail
  refine (HFW.out _ HG1.out).mono ?_
  rintro e w2 ⟨rfl, hb2⟩
  have HG2 : Hid (Grow w w2) := Lib.hid (HG1.out.trans hb2)
  have HF2 := Lib.hid ((show Grow w1 w2 from hb2).block HF1.out)
  clear hb2 hcc HF1 hd1
  have hcc := HF2.out.cell
  have hq1 : decide ((n : Int) < 0) = false := decide_eq_false (by omega)
  have hq2 : decide ((p.judges.length : Int) < (n : Int)) = false := decide_eq_false (by omega)
  have hq2' : decide (p.judges.length < n) = false := decide_eq_false (by omega)
  go_wp2_with fail
  refine (HTR.out _ HG2.out).mono ?_
  rintro e w3 ⟨rfl, hb3⟩
  have HG3 : Hid (Grow w w3) := Lib.hid (HG2.out.trans hb3)
  have HF3 := Lib.hid ((show Grow w2 w3 from hb3).block HF2.out)
  clear hb3 hcc HF2 hq1 hq2 hq2'
  have hcc := HF3.out.cell
  cases fi with
  | true =>
    have hfl := HFL.out (by simp)
    have hq3 : decide ((wc : Int) < (n : Int)) = false := decide_eq_false (by omega)
    have hq3' : decide (wc < n) = false := decide_eq_false (by omega)
    go_wp2_with fail
    refine (HWR.out (by simp) _ HG3.out).mono ?_
    rintro e w4 ⟨rfl, hb4⟩
    have HG4 : Hid (Grow w w4) := Lib.hid (HG3.out.trans hb4)
    have HF4 := Lib.hid ((show Grow w3 w4 from hb4).block HF3.out)
    clear hb4 hcc HF3
    have hcc := HF4.out.cell
    by_cases n2 : (n : Int) ≤ 2
    · have hn2 : decide ((n : Int) ≤ 2) = true := decide_eq_true n2
      have hn2' : decide (n ≤ 2) = true := decide_eq_true (by omega)
      go_wp2_with fail
      refine (HCP.out _ HG4.out).mono ?_
      rintro e wc1 ⟨q1, rfl, hqd1, hnp1, hbc1⟩
      have HGC1 : Hid (Grow w wc1) := Lib.hid ((HG4.out).trans hbc1)
      have HFC1 := Lib.hid ((show Grow w4 wc1 from hbc1).block (HF4.out))
      have HRC1 := Lib.hid (fun (w0 : World) (hw : Grow wc1 w0) => HRQ.out q1 hqd1 n (by omega) w0 (hnp1.at_.grow hw))
      clear hbc1 hnp1 hcc
      go_upto_region 8 with fail
      obtain ⟨wd1, hwd1, hgd1, hfd1, hsd1⟩ := one_block wc1 26 (cellsP q1)
      rw [show wc1.alloc (.cells (cellsP q1) 26) = wd1 from hwd1]
      clear hwd1
      obtain ⟨cb1, hcb1⟩ : ∃ z, wc1.heap.size = z := ⟨_, rfl⟩
      rw [hcb1] at hfd1 hsd1 ⊢
      have hwcb1 : w.heap.size < cb1 := by have := HFC1.out.lt; omega
      have hcbl1 : wc1.heap.size ≤ cb1 := by omega
      have HFB1 := Lib.hid hfd1
      have HGD1 := Lib.hid hgd1
      have HFD1 := Lib.hid (hgd1.block HFC1.out)
      have hcf1 := hfd1.frozen
      have hcd1 := hfd1.cell
      clear hgd1 hfd1 hcb1
      go_upto_region 9 with fail
      obtain ⟨we1, hwe1⟩ : ∃ z, wd1.setCell ⟨cb1, 2, none⟩ (.int .i64 ((n : Nat))) = z := ⟨_, rfl⟩
      have HFE1 : Hid (BlockIs we1 cb1 26 (cellsP { q1 with wrong := (n : Nat) })) := Lib.hid (by rw [← hwe1]; exact HFB1.out.near 2 _)
      have HGE1 : Hid (Grow wc1 we1) := Lib.hid (by rw [← hwe1]; exact HGD1.out.setC (p := ⟨cb1, 2, none⟩) (by omega) _)
      have HPE1 : Hid (BlockIs we1 w.heap.size 26 (cellsP p)) := Lib.hid (by rw [← hwe1]; exact HFD1.out.far (p := ⟨cb1, 2, none⟩) (by show w.heap.size ≠ cb1; omega) _)
      rw [hwe1]
      clear hwe1 hcf1 hcd1 HFB1 HFD1
      have hcd := HFE1.out.cell
      go_wp2_with fail
      refine (HRC1.out _ HGE1.out (HGC1.out.trans HGE1.out)).mono ?_
      rintro e wf1 ⟨rfl, hbf1⟩
      have HGF1 : Hid (Grow w wf1) := Lib.hid ((HGC1.out.trans HGE1.out).trans hbf1)
      have HPF1 := Lib.hid ((show Grow we1 wf1 from hbf1).block HPE1.out)
      clear hbf1 hcd
      have HN0 := Lib.hid (HZ.out q1 hqd1 (by omega))
      rw [HN0.out]
      go_upto_region 10 with fail
      obtain ⟨wg1, hwg1, hgg1, _, _⟩ := one_block wf1 33 #[.int .i64 (rangeV { q1 with wrong := (n : Nat) }).1, .int .i64 (rangeV { q1 with wrong := (n : Nat) }).2]
      rw [hwg1]
      clear hwg1
      have HGG1 : Hid (Grow w wg1) := Lib.hid (HGF1.out.trans hgg1)
      have HPG1 := Lib.hid (hgg1.block HPF1.out)
      clear hgg1
      by_cases l1 : less < 1
      · have hd1 : decide (less < 1) = true := decide_eq_true l1
        go_wp2_with fail
        refine (HWK.out _ HGG1.out).mono ?_
        rintro e w9 ⟨rfl, hb9⟩
        have HG9 : Hid (Grow w w9) := Lib.hid ((HGG1.out).trans hb9)
        clear hb9
        go_wp2_with fail
        go_ret
        exact ⟨rfl, HG9.out⟩
      have hd1 : decide (less < 1) = false := decide_eq_false l1
      by_cases l2 : (n : Int) < less
      · have hd2 : decide ((n : Int) < less) = true := decide_eq_true l2
        go_wp2_with fail
        refine (HWK.out _ HGG1.out).mono ?_
        rintro e w9 ⟨rfl, hb9⟩
        have HG9 : Hid (Grow w w9) := Lib.hid ((HGG1.out).trans hb9)
        clear hb9
        go_wp2_with fail
        go_ret
        exact ⟨rfl, HG9.out⟩
      have hd2 : decide ((n : Int) < less) = false := decide_eq_false l2
      obtain ⟨m, hm⟩ : ∃ m : Nat, (n : Int) - less = (m : Int) := ⟨((n : Int) - less).toNat, by omega⟩
      have hmw : IntKind.i64.wrap ((n : Int) - less) = (m : Int) := by rw [hm]; exact IntWalk.i64_in _ (by omega)
      by_cases l3 : (2 : Int) < (m : Int)
      · have hd3 : decide ((2 : Int) < (m : Int)) = true := decide_eq_true l3
        have hd3' : decide (2 < m) = true := decide_eq_true (by omega)
        go_wp2_with fail
        refine (HWK.out _ HGG1.out).mono ?_
        rintro e w9 ⟨rfl, hb9⟩
        have HG9 : Hid (Grow w w9) := Lib.hid ((HGG1.out).trans hb9)
        clear hb9
        go_wp2_with fail
        go_ret
        exact ⟨rfl, HG9.out⟩
      have hd3 : decide ((2 : Int) < (m : Int)) = false := decide_eq_false l3
      have hd3' : decide (2 < m) = false := decide_eq_false (by omega)
      have HMN := Lib.hid (HLS.out m (by omega))
      have hcc := (HPG1.out).cell
      clear hm
      go_wp2_with fail
      refine (HCP.out _ HGG1.out).mono ?_
      rintro e wc2 ⟨q2, rfl, hqd2, hnp2, hbc2⟩
      have HGC2 : Hid (Grow w wc2) := Lib.hid ((HGG1.out).trans hbc2)
      have HFC2 := Lib.hid ((show Grow wg1 wc2 from hbc2).block (HPG1.out))
      have HRC2 := Lib.hid (fun (w0 : World) (hw : Grow wc2 w0) => HRQ.out q2 hqd2 (m : Nat) (by omega) w0 (hnp2.at_.grow hw))
      clear hbc2 hnp2 hcc
      go_upto_region 15 with fail
      obtain ⟨wd2, hwd2, hgd2, hfd2, hsd2⟩ := one_block wc2 26 (cellsP q2)
      rw [show wc2.alloc (.cells (cellsP q2) 26) = wd2 from hwd2]
      clear hwd2
      obtain ⟨cb2, hcb2⟩ : ∃ z, wc2.heap.size = z := ⟨_, rfl⟩
      rw [hcb2] at hfd2 hsd2 ⊢
      have hwcb2 : w.heap.size < cb2 := by have := HFC2.out.lt; omega
      have hcbl2 : wc2.heap.size ≤ cb2 := by omega
      have HFB2 := Lib.hid hfd2
      have HGD2 := Lib.hid hgd2
      have HFD2 := Lib.hid (hgd2.block HFC2.out)
      have hcf2 := hfd2.frozen
      have hcd2 := hfd2.cell
      clear hgd2 hfd2 hcb2
      go_upto_region 16 with fail
      obtain ⟨we2, hwe2⟩ : ∃ z, wd2.setCell ⟨cb2, 2, none⟩ (.int .i64 ((m : Nat))) = z := ⟨_, rfl⟩
      have HFE2 : Hid (BlockIs we2 cb2 26 (cellsP { q2 with wrong := (m : Nat) })) := Lib.hid (by rw [← hwe2]; exact HFB2.out.near 2 _)
      have HGE2 : Hid (Grow wc2 we2) := Lib.hid (by rw [← hwe2]; exact HGD2.out.setC (p := ⟨cb2, 2, none⟩) (by omega) _)
      have HPE2 : Hid (BlockIs we2 w.heap.size 26 (cellsP p)) := Lib.hid (by rw [← hwe2]; exact HFD2.out.far (p := ⟨cb2, 2, none⟩) (by show w.heap.size ≠ cb2; omega) _)
      rw [hwe2]
      clear hwe2 hcf2 hcd2 HFB2 HFD2
      have hcd := HFE2.out.cell
      go_wp2_with fail
      refine (HRC2.out _ HGE2.out (HGC2.out.trans HGE2.out)).mono ?_
      rintro e wf2 ⟨rfl, hbf2⟩
      have HGF2 : Hid (Grow w wf2) := Lib.hid ((HGC2.out.trans HGE2.out).trans hbf2)
      have HPF2 := Lib.hid ((show Grow we2 wf2 from hbf2).block HPE2.out)
      clear hbf2 hcd
      have HN3 := Lib.hid (HMN.out q2 hqd2 (by omega))
      rw [HN3.out]
      go_upto_region 17 with fail
      obtain ⟨wg2, hwg2, hgg2, _, _⟩ := one_block wf2 33 #[.int .i64 (rangeV { q2 with wrong := (m : Nat) }).1, .int .i64 (rangeV { q2 with wrong := (m : Nat) }).2]
      rw [hwg2]
      clear hwg2
      have HGG2 : Hid (Grow w wg2) := Lib.hid (HGF2.out.trans hgg2)
      clear hgg2
      go_wp2_with fail
      refine (HWK.out _ HGG2.out).mono ?_
      rintro e w9 ⟨rfl, hb9⟩
      have HG9 : Hid (Grow w w9) := Lib.hid ((HGG2.out).trans hb9)
      clear hb9
      go_wp2_with fail
      go_ret
      exact ⟨rfl, HG9.out⟩
    · have hn2 : decide ((n : Int) ≤ 2) = false := decide_eq_false n2
      have hn2' : decide (n ≤ 2) = false := decide_eq_false (by omega)
      by_cases l1 : less < 1
      · have hd1 : decide (less < 1) = true := decide_eq_true l1
        go_wp2_with fail
        refine (HWK.out _ HG4.out).mono ?_
        rintro e w9 ⟨rfl, hb9⟩
        have HG9 : Hid (Grow w w9) := Lib.hid ((HG4.out).trans hb9)
        clear hb9
        go_wp2_with fail
        go_ret
        exact ⟨rfl, HG9.out⟩
      have hd1 : decide (less < 1) = false := decide_eq_false l1
      by_cases l2 : (n : Int) < less
      · have hd2 : decide ((n : Int) < less) = true := decide_eq_true l2
        go_wp2_with fail
        refine (HWK.out _ HG4.out).mono ?_
        rintro e w9 ⟨rfl, hb9⟩
        have HG9 : Hid (Grow w w9) := Lib.hid ((HG4.out).trans hb9)
        clear hb9
        go_wp2_with fail
        go_ret
        exact ⟨rfl, HG9.out⟩
      have hd2 : decide ((n : Int) < less) = false := decide_eq_false l2
      obtain ⟨m, hm⟩ : ∃ m : Nat, (n : Int) - less = (m : Int) := ⟨((n : Int) - less).toNat, by omega⟩
      have hmw : IntKind.i64.wrap ((n : Int) - less) = (m : Int) := by rw [hm]; exact IntWalk.i64_in _ (by omega)
      by_cases l3 : (2 : Int) < (m : Int)
      · have hd3 : decide ((2 : Int) < (m : Int)) = true := decide_eq_true l3
        have hd3' : decide (2 < m) = true := decide_eq_true (by omega)
        go_wp2_with fail
        refine (HWK.out _ HG4.out).mono ?_
        rintro e w9 ⟨rfl, hb9⟩
        have HG9 : Hid (Grow w w9) := Lib.hid ((HG4.out).trans hb9)
        clear hb9
        go_wp2_with fail
        go_ret
        exact ⟨rfl, HG9.out⟩
      have hd3 : decide ((2 : Int) < (m : Int)) = false := decide_eq_false l3
      have hd3' : decide (2 < m) = false := decide_eq_false (by omega)
      have HMN := Lib.hid (HLS.out m (by omega))
      have hcc := (HF4.out).cell
      clear hm
      go_wp2_with fail
      refine (HCP.out _ HG4.out).mono ?_
      rintro e wc3 ⟨q3, rfl, hqd3, hnp3, hbc3⟩
      have HGC3 : Hid (Grow w wc3) := Lib.hid ((HG4.out).trans hbc3)
      have HFC3 := Lib.hid ((show Grow w4 wc3 from hbc3).block (HF4.out))
      have HRC3 := Lib.hid (fun (w0 : World) (hw : Grow wc3 w0) => HRQ.out q3 hqd3 (m : Nat) (by omega) w0 (hnp3.at_.grow hw))
      clear hbc3 hnp3 hcc
      go_upto_region 15 with fail
      obtain ⟨wd3, hwd3, hgd3, hfd3, hsd3⟩ := one_block wc3 26 (cellsP q3)
      rw [show wc3.alloc (.cells (cellsP q3) 26) = wd3 from hwd3]
      clear hwd3
      obtain ⟨cb3, hcb3⟩ : ∃ z, wc3.heap.size = z := ⟨_, rfl⟩
      rw [hcb3] at hfd3 hsd3 ⊢
      have hwcb3 : w.heap.size < cb3 := by have := HFC3.out.lt; omega
      have hcbl3 : wc3.heap.size ≤ cb3 := by omega
      have HFB3 := Lib.hid hfd3
      have HGD3 := Lib.hid hgd3
      have HFD3 := Lib.hid (hgd3.block HFC3.out)
      have hcf3 := hfd3.frozen
      have hcd3 := hfd3.cell
      clear hgd3 hfd3 hcb3
      go_upto_region 16 with fail
      obtain ⟨we3, hwe3⟩ : ∃ z, wd3.setCell ⟨cb3, 2, none⟩ (.int .i64 ((m : Nat))) = z := ⟨_, rfl⟩
      have HFE3 : Hid (BlockIs we3 cb3 26 (cellsP { q3 with wrong := (m : Nat) })) := Lib.hid (by rw [← hwe3]; exact HFB3.out.near 2 _)
      have HGE3 : Hid (Grow wc3 we3) := Lib.hid (by rw [← hwe3]; exact HGD3.out.setC (p := ⟨cb3, 2, none⟩) (by omega) _)
      have HPE3 : Hid (BlockIs we3 w.heap.size 26 (cellsP p)) := Lib.hid (by rw [← hwe3]; exact HFD3.out.far (p := ⟨cb3, 2, none⟩) (by show w.heap.size ≠ cb3; omega) _)
      rw [hwe3]
      clear hwe3 hcf3 hcd3 HFB3 HFD3
      have hcd := HFE3.out.cell
      go_wp2_with fail
      refine (HRC3.out _ HGE3.out (HGC3.out.trans HGE3.out)).mono ?_
      rintro e wf3 ⟨rfl, hbf3⟩
      have HGF3 : Hid (Grow w wf3) := Lib.hid ((HGC3.out.trans HGE3.out).trans hbf3)
      have HPF3 := Lib.hid ((show Grow we3 wf3 from hbf3).block HPE3.out)
      clear hbf3 hcd
      have HN3 := Lib.hid (HMN.out q3 hqd3 (by omega))
      rw [HN3.out]
      go_upto_region 17 with fail
      obtain ⟨wg3, hwg3, hgg3, _, _⟩ := one_block wf3 33 #[.int .i64 (rangeV { q3 with wrong := (m : Nat) }).1, .int .i64 (rangeV { q3 with wrong := (m : Nat) }).2]
      rw [hwg3]
      clear hwg3
      have HGG3 : Hid (Grow w wg3) := Lib.hid (HGF3.out.trans hgg3)
      clear hgg3
      go_wp2_with fail
      refine (HWK.out _ HGG3.out).mono ?_
      rintro e w9 ⟨rfl, hb9⟩
      have HG9 : Hid (Grow w w9) := Lib.hid ((HGG3.out).trans hb9)
      clear hb9
      go_wp2_with fail
      go_ret
      exact ⟨rfl, HG9.out⟩
  | false =>
    by_cases n2 : (n : Int) ≤ 2
    · have hn2 : decide ((n : Int) ≤ 2) = true := decide_eq_true n2
      have hn2' : decide (n ≤ 2) = true := decide_eq_true (by omega)
      go_wp2_with fail
      refine (HCP.out _ HG3.out).mono ?_
      rintro e wc1 ⟨q1, rfl, hqd1, hnp1, hbc1⟩
      have HGC1 : Hid (Grow w wc1) := Lib.hid ((HG3.out).trans hbc1)
      have HFC1 := Lib.hid ((show Grow w3 wc1 from hbc1).block (HF3.out))
      have HRC1 := Lib.hid (fun (w0 : World) (hw : Grow wc1 w0) => HRQ.out q1 hqd1 n (by omega) w0 (hnp1.at_.grow hw))
      clear hbc1 hnp1 hcc
      go_upto_region 8 with fail
      obtain ⟨wd1, hwd1, hgd1, hfd1, hsd1⟩ := one_block wc1 26 (cellsP q1)
      rw [show wc1.alloc (.cells (cellsP q1) 26) = wd1 from hwd1]
      clear hwd1
      obtain ⟨cb1, hcb1⟩ : ∃ z, wc1.heap.size = z := ⟨_, rfl⟩
      rw [hcb1] at hfd1 hsd1 ⊢
      have hwcb1 : w.heap.size < cb1 := by have := HFC1.out.lt; omega
      have hcbl1 : wc1.heap.size ≤ cb1 := by omega
      have HFB1 := Lib.hid hfd1
      have HGD1 := Lib.hid hgd1
      have HFD1 := Lib.hid (hgd1.block HFC1.out)
      have hcf1 := hfd1.frozen
      have hcd1 := hfd1.cell
      clear hgd1 hfd1 hcb1
      go_upto_region 9 with fail
      obtain ⟨we1, hwe1⟩ : ∃ z, wd1.setCell ⟨cb1, 2, none⟩ (.int .i64 ((n : Nat))) = z := ⟨_, rfl⟩
      have HFE1 : Hid (BlockIs we1 cb1 26 (cellsP { q1 with wrong := (n : Nat) })) := Lib.hid (by rw [← hwe1]; exact HFB1.out.near 2 _)
      have HGE1 : Hid (Grow wc1 we1) := Lib.hid (by rw [← hwe1]; exact HGD1.out.setC (p := ⟨cb1, 2, none⟩) (by omega) _)
      have HPE1 : Hid (BlockIs we1 w.heap.size 26 (cellsP p)) := Lib.hid (by rw [← hwe1]; exact HFD1.out.far (p := ⟨cb1, 2, none⟩) (by show w.heap.size ≠ cb1; omega) _)
      rw [hwe1]
      clear hwe1 hcf1 hcd1 HFB1 HFD1
      have hcd := HFE1.out.cell
      go_wp2_with fail
      refine (HRC1.out _ HGE1.out (HGC1.out.trans HGE1.out)).mono ?_
      rintro e wf1 ⟨rfl, hbf1⟩
      have HGF1 : Hid (Grow w wf1) := Lib.hid ((HGC1.out.trans HGE1.out).trans hbf1)
      have HPF1 := Lib.hid ((show Grow we1 wf1 from hbf1).block HPE1.out)
      clear hbf1 hcd
      have HN0 := Lib.hid (HZ.out q1 hqd1 (by omega))
      rw [HN0.out]
      go_upto_region 10 with fail
      obtain ⟨wg1, hwg1, hgg1, _, _⟩ := one_block wf1 33 #[.int .i64 (rangeV { q1 with wrong := (n : Nat) }).1, .int .i64 (rangeV { q1 with wrong := (n : Nat) }).2]
      rw [hwg1]
      clear hwg1
      have HGG1 : Hid (Grow w wg1) := Lib.hid (HGF1.out.trans hgg1)
      have HPG1 := Lib.hid (hgg1.block HPF1.out)
      clear hgg1
      by_cases l1 : less < 1
      · have hd1 : decide (less < 1) = true := decide_eq_true l1
        go_wp2_with fail
        refine (HWK.out _ HGG1.out).mono ?_
        rintro e w9 ⟨rfl, hb9⟩
        have HG9 : Hid (Grow w w9) := Lib.hid ((HGG1.out).trans hb9)
        clear hb9
        go_wp2_with fail
        go_ret
        exact ⟨rfl, HG9.out⟩
      have hd1 : decide (less < 1) = false := decide_eq_false l1
      by_cases l2 : (n : Int) < less
      · have hd2 : decide ((n : Int) < less) = true := decide_eq_true l2
        go_wp2_with fail
        refine (HWK.out _ HGG1.out).mono ?_
        rintro e w9 ⟨rfl, hb9⟩
        have HG9 : Hid (Grow w w9) := Lib.hid ((HGG1.out).trans hb9)
        clear hb9
        go_wp2_with fail
        go_ret
        exact ⟨rfl, HG9.out⟩
      have hd2 : decide ((n : Int) < less) = false := decide_eq_false l2
      obtain ⟨m, hm⟩ : ∃ m : Nat, (n : Int) - less = (m : Int) := ⟨((n : Int) - less).toNat, by omega⟩
      have hmw : IntKind.i64.wrap ((n : Int) - less) = (m : Int) := by rw [hm]; exact IntWalk.i64_in _ (by omega)
      by_cases l3 : (2 : Int) < (m : Int)
      · have hd3 : decide ((2 : Int) < (m : Int)) = true := decide_eq_true l3
        have hd3' : decide (2 < m) = true := decide_eq_true (by omega)
        go_wp2_with fail
        refine (HWK.out _ HGG1.out).mono ?_
        rintro e w9 ⟨rfl, hb9⟩
        have HG9 : Hid (Grow w w9) := Lib.hid ((HGG1.out).trans hb9)
        clear hb9
        go_wp2_with fail
        go_ret
        exact ⟨rfl, HG9.out⟩
      have hd3 : decide ((2 : Int) < (m : Int)) = false := decide_eq_false l3
      have hd3' : decide (2 < m) = false := decide_eq_false (by omega)
      have HMN := Lib.hid (HLS.out m (by omega))
      have hcc := (HPG1.out).cell
      clear hm
      go_wp2_with fail
      refine (HCP.out _ HGG1.out).mono ?_
      rintro e wc2 ⟨q2, rfl, hqd2, hnp2, hbc2⟩
      have HGC2 : Hid (Grow w wc2) := Lib.hid ((HGG1.out).trans hbc2)
      have HFC2 := Lib.hid ((show Grow wg1 wc2 from hbc2).block (HPG1.out))
      have HRC2 := Lib.hid (fun (w0 : World) (hw : Grow wc2 w0) => HRQ.out q2 hqd2 (m : Nat) (by omega) w0 (hnp2.at_.grow hw))
      clear hbc2 hnp2 hcc
      go_upto_region 15 with fail
      obtain ⟨wd2, hwd2, hgd2, hfd2, hsd2⟩ := one_block wc2 26 (cellsP q2)
      rw [show wc2.alloc (.cells (cellsP q2) 26) = wd2 from hwd2]
      clear hwd2
      obtain ⟨cb2, hcb2⟩ : ∃ z, wc2.heap.size = z := ⟨_, rfl⟩
      rw [hcb2] at hfd2 hsd2 ⊢
      have hwcb2 : w.heap.size < cb2 := by have := HFC2.out.lt; omega
      have hcbl2 : wc2.heap.size ≤ cb2 := by omega
      have HFB2 := Lib.hid hfd2
      have HGD2 := Lib.hid hgd2
      have HFD2 := Lib.hid (hgd2.block HFC2.out)
      have hcf2 := hfd2.frozen
      have hcd2 := hfd2.cell
      clear hgd2 hfd2 hcb2
      go_upto_region 16 with fail
      obtain ⟨we2, hwe2⟩ : ∃ z, wd2.setCell ⟨cb2, 2, none⟩ (.int .i64 ((m : Nat))) = z := ⟨_, rfl⟩
      have HFE2 : Hid (BlockIs we2 cb2 26 (cellsP { q2 with wrong := (m : Nat) })) := Lib.hid (by rw [← hwe2]; exact HFB2.out.near 2 _)
      have HGE2 : Hid (Grow wc2 we2) := Lib.hid (by rw [← hwe2]; exact HGD2.out.setC (p := ⟨cb2, 2, none⟩) (by omega) _)
      have HPE2 : Hid (BlockIs we2 w.heap.size 26 (cellsP p)) := Lib.hid (by rw [← hwe2]; exact HFD2.out.far (p := ⟨cb2, 2, none⟩) (by show w.heap.size ≠ cb2; omega) _)
      rw [hwe2]
      clear hwe2 hcf2 hcd2 HFB2 HFD2
      have hcd := HFE2.out.cell
      go_wp2_with fail
      refine (HRC2.out _ HGE2.out (HGC2.out.trans HGE2.out)).mono ?_
      rintro e wf2 ⟨rfl, hbf2⟩
      have HGF2 : Hid (Grow w wf2) := Lib.hid ((HGC2.out.trans HGE2.out).trans hbf2)
      have HPF2 := Lib.hid ((show Grow we2 wf2 from hbf2).block HPE2.out)
      clear hbf2 hcd
      have HN3 := Lib.hid (HMN.out q2 hqd2 (by omega))
      rw [HN3.out]
      go_upto_region 17 with fail
      obtain ⟨wg2, hwg2, hgg2, _, _⟩ := one_block wf2 33 #[.int .i64 (rangeV { q2 with wrong := (m : Nat) }).1, .int .i64 (rangeV { q2 with wrong := (m : Nat) }).2]
      rw [hwg2]
      clear hwg2
      have HGG2 : Hid (Grow w wg2) := Lib.hid (HGF2.out.trans hgg2)
      clear hgg2
      go_wp2_with fail
      refine (HWK.out _ HGG2.out).mono ?_
      rintro e w9 ⟨rfl, hb9⟩
      have HG9 : Hid (Grow w w9) := Lib.hid ((HGG2.out).trans hb9)
      clear hb9
      go_wp2_with fail
      go_ret
      exact ⟨rfl, HG9.out⟩
    · have hn2 : decide ((n : Int) ≤ 2) = false := decide_eq_false n2
      have hn2' : decide (n ≤ 2) = false := decide_eq_false (by omega)
      by_cases l1 : less < 1
      · have hd1 : decide (less < 1) = true := decide_eq_true l1
        go_wp2_with fail
        refine (HWK.out _ HG3.out).mono ?_
        rintro e w9 ⟨rfl, hb9⟩
        have HG9 : Hid (Grow w w9) := Lib.hid ((HG3.out).trans hb9)
        clear hb9
        go_wp2_with fail
        go_ret
        exact ⟨rfl, HG9.out⟩
      have hd1 : decide (less < 1) = false := decide_eq_false l1
      by_cases l2 : (n : Int) < less
      · have hd2 : decide ((n : Int) < less) = true := decide_eq_true l2
        go_wp2_with fail
        refine (HWK.out _ HG3.out).mono ?_
        rintro e w9 ⟨rfl, hb9⟩
        have HG9 : Hid (Grow w w9) := Lib.hid ((HG3.out).trans hb9)
        clear hb9
        go_wp2_with fail
        go_ret
        exact ⟨rfl, HG9.out⟩
      have hd2 : decide ((n : Int) < less) = false := decide_eq_false l2
      obtain ⟨m, hm⟩ : ∃ m : Nat, (n : Int) - less = (m : Int) := ⟨((n : Int) - less).toNat, by omega⟩
      have hmw : IntKind.i64.wrap ((n : Int) - less) = (m : Int) := by rw [hm]; exact IntWalk.i64_in _ (by omega)
      by_cases l3 : (2 : Int) < (m : Int)
      · have hd3 : decide ((2 : Int) < (m : Int)) = true := decide_eq_true l3
        have hd3' : decide (2 < m) = true := decide_eq_true (by omega)
        go_wp2_with fail
        refine (HWK.out _ HG3.out).mono ?_
        rintro e w9 ⟨rfl, hb9⟩
        have HG9 : Hid (Grow w w9) := Lib.hid ((HG3.out).trans hb9)
        clear hb9
        go_wp2_with fail
        go_ret
        exact ⟨rfl, HG9.out⟩
      have hd3 : decide ((2 : Int) < (m : Int)) = false := decide_eq_false l3
      have hd3' : decide (2 < m) = false := decide_eq_false (by omega)
      have HMN := Lib.hid (HLS.out m (by omega))
      have hcc := (HF3.out).cell
      clear hm
      go_wp2_with fail
      refine (HCP.out _ HG3.out).mono ?_
      rintro e wc3 ⟨q3, rfl, hqd3, hnp3, hbc3⟩
      have HGC3 : Hid (Grow w wc3) := Lib.hid ((HG3.out).trans hbc3)
      have HFC3 := Lib.hid ((show Grow w3 wc3 from hbc3).block (HF3.out))
      have HRC3 := Lib.hid (fun (w0 : World) (hw : Grow wc3 w0) => HRQ.out q3 hqd3 (m : Nat) (by omega) w0 (hnp3.at_.grow hw))
      clear hbc3 hnp3 hcc
      go_upto_region 15 with fail
      obtain ⟨wd3, hwd3, hgd3, hfd3, hsd3⟩ := one_block wc3 26 (cellsP q3)
      rw [show wc3.alloc (.cells (cellsP q3) 26) = wd3 from hwd3]
      clear hwd3
      obtain ⟨cb3, hcb3⟩ : ∃ z, wc3.heap.size = z := ⟨_, rfl⟩
      rw [hcb3] at hfd3 hsd3 ⊢
      have hwcb3 : w.heap.size < cb3 := by have := HFC3.out.lt; omega
      have hcbl3 : wc3.heap.size ≤ cb3 := by omega
      have HFB3 := Lib.hid hfd3
      have HGD3 := Lib.hid hgd3
      have HFD3 := Lib.hid (hgd3.block HFC3.out)
      have hcf3 := hfd3.frozen
      have hcd3 := hfd3.cell
      clear hgd3 hfd3 hcb3
      go_upto_region 16 with fail
      obtain ⟨we3, hwe3⟩ : ∃ z, wd3.setCell ⟨cb3, 2, none⟩ (.int .i64 ((m : Nat))) = z := ⟨_, rfl⟩
      have HFE3 : Hid (BlockIs we3 cb3 26 (cellsP { q3 with wrong := (m : Nat) })) := Lib.hid (by rw [← hwe3]; exact HFB3.out.near 2 _)
      have HGE3 : Hid (Grow wc3 we3) := Lib.hid (by rw [← hwe3]; exact HGD3.out.setC (p := ⟨cb3, 2, none⟩) (by omega) _)
      have HPE3 : Hid (BlockIs we3 w.heap.size 26 (cellsP p)) := Lib.hid (by rw [← hwe3]; exact HFD3.out.far (p := ⟨cb3, 2, none⟩) (by show w.heap.size ≠ cb3; omega) _)
      rw [hwe3]
      clear hwe3 hcf3 hcd3 HFB3 HFD3
      have hcd := HFE3.out.cell
      go_wp2_with fail
      refine (HRC3.out _ HGE3.out (HGC3.out.trans HGE3.out)).mono ?_
      rintro e wf3 ⟨rfl, hbf3⟩
      have HGF3 : Hid (Grow w wf3) := Lib.hid ((HGC3.out.trans HGE3.out).trans hbf3)
      have HPF3 := Lib.hid ((show Grow we3 wf3 from hbf3).block HPE3.out)
      clear hbf3 hcd
      have HN3 := Lib.hid (HMN.out q3 hqd3 (by omega))
      rw [HN3.out]
      go_upto_region 17 with fail
      obtain ⟨wg3, hwg3, hgg3, _, _⟩ := one_block wf3 33 #[.int .i64 (rangeV { q3 with wrong := (m : Nat) }).1, .int .i64 (rangeV { q3 with wrong := (m : Nat) }).2]
      rw [hwg3]
      clear hwg3
      have HGG3 : Hid (Grow w wg3) := Lib.hid (HGF3.out.trans hgg3)
      clear hgg3
      go_wp2_with fail
      refine (HWK.out _ HGG3.out).mono ?_
      rintro e w9 ⟨rfl, hb9⟩
      have HG9 : Hid (Grow w w9) := Lib.hid ((HGG3.out).trans hb9)
      clear hb9
      go_wp2_with fail
      go_ret
      exact ⟨rfl, HG9.out⟩

end Go.Proofs.YthehkgpnnndboaaDoor
