/- MoreLaw: the law ExamsMore answers true at any paper and any change; written by wip/tools/morelaw9.py. -/
import Derived.Test.YthehkgpnnndboaaDoorMoreMem
import Derived.Deep.DeepCutAuto
namespace Go.Proofs.YthehkgpnnndboaaDoor
open Go.RowKit

theorem ok_of {d : PaperI} (G : GoodP d) (h : ascL d.grades = true) : okPaper d = true := by
  unfold okPaper
  simp only [Bool.and_eq_true, List.all_eq_true, inB_iff]
  have i1 := G.i1; have i4 := G.i4; have j4 := G.j4; have gr := G.gr
  refine ⟨⟨⟨⟨⟨by omega, fun x hx => ?_⟩, by omega, fun j hj => ?_⟩, G.wr⟩, by omega, fun g hg => ?_⟩, h⟩
  · unfold okItem
    rw [Bool.and_eq_true, inB_iff, inB_iff]
    exact G.it x hx
  · obtain ⟨⟨q1, q2, q3⟩, q4, q5, q6⟩ := G.ju j hj
    unfold okJudge
    simp only [Bool.and_eq_true, decide_eq_true_eq, List.all_eq_true, inB_iff]
    refine ⟨⟨⟨⟨q1, q2⟩, q3⟩, q4⟩, by omega, fun m hm => ?_⟩
    unfold okMark
    rw [inB_iff]
    exact q6 m hm
  · unfold okLimit
    rw [inB_iff]
    exact G.gb g hg
theorem asc_of {d : PaperI} (h : okPaper d = true) : ascL d.grades = true := by
  unfold okPaper at h
  rw [Bool.and_eq_true] at h
  exact h.2
/-- the numbers of what Range hands back, and its error, by cases -/
theorem num_cases {p : PaperR} (ok : okPaper p.d = true) : (truthsL p.d = [] ∧ numErr p 0 0 = 3 ∧ rangeV p = (0, 0)) ∨ (truthsL p.d ≠ [] ∧ numErr p 0 0 = 0 ∧ rangeV p = rangeD p.d) := by
  by_cases h : truthsL p.d = []
  · left
    have h3 := num_none ok h
    refine ⟨h, h3, ?_⟩
    unfold rangeV
    rw [h3]
    rfl
  · right
    have h3 := num_some ok h
    refine ⟨h, h3, ?_⟩
    unfold rangeV
    rw [h3]
    rfl

set_option maxRecDepth 100000 in
set_option maxHeartbeats 64000000 in
theorem more_any (p : PaperR) (lo hi err : Int) (ma : Option Addr) (mc : Nat) (marks : List Int) (wr wh xe wi : Int) (hwh : -9223372036854775808 ≤ wh ∧ wh ≤ 9223372036854775807) (w : World) (hA : PaperAt w w.heap.size p) (hM : Ints w w.heap.size ma marks) (hG : Glob w) :
    Calls Tryd.prog 9 #[paperV p, .agg #[.int .i64 lo, .int .i64 hi, .int .i64 err, .slice ma marks.length mc, .int .i64 wr, .int .i64 wh, .int .i64 xe, .int .i64 wi]] w fun e w' => e = .returned (.bool true) ∧ Below w.heap.size w w' := by
  obtain ⟨i0, hi0, hz0, hz1, hz2⟩ := info_parts Tryd.infoInt
  obtain ⟨p0, hpi, hpz0, hpz1, hpz2⟩ := info_parts Tryd.infoJudge
  have HWK := Lib.hid (fun (w0 : World) (hw : Grow w w0) => works_any w0 (hG.grow hw))
  have HRY := Lib.hid (fun (w0 : World) (hw : Grow w w0) => ready_any p w0 (hA.grow hw))
  have HPA := Lib.hid (fun (w0 : World) (hw : Grow w w0) => hA.grow hw)
  have HGL := Lib.hid (fun (w0 : World) (hw : Grow w w0) => hG.grow hw)
  have HMK := Lib.hid (fun (w0 : World) (hw : Grow w w0) => (hM.below hw).more hw.size)
  obtain ⟨rd, hrd⟩ : ∃ z, readyP p = z := ⟨_, rfl⟩
  have HRD : Hid (readyP p = rd) := Lib.hid hrd
  rw [hrd] at HRY
  clear hrd hA hM hG hi0 hz0 hz1 hz2
  go_enter Tryd.func9, Tryd.ntmps9
  go_upto_region 1 with fail
  obtain ⟨W, hW, hgr, hf, hm, hsz⟩ := two_blocks w 26 62 (cellsP p) #[.int .i64 lo, .int .i64 hi, .int .i64 err, .slice ma marks.length mc, .int .i64 wr, .int .i64 wh, .int .i64 xe, .int .i64 wi]
  rw [hW]
  clear hW
  have HG := Lib.hid hgr
  have HF := Lib.hid hf
  have HM := Lib.hid hm
  have hcc := hf.cell
  have hmc := hm.cell
  clear hgr hf hm
  go_wp2_with fail
  refine (HRY.out W HG.out).mono ?_
  rintro e w1 ⟨rfl, hb1⟩
  have HG1 : Hid (Grow w w1) := Lib.hid (HG.out.trans hb1)
  have HF1 := Lib.hid ((show Grow W w1 from hb1).block HF.out)
  have HM1 := Lib.hid ((show Grow W w1 from hb1).block HM.out)
  clear hb1 hcc hmc HG HF HM HRY
  have hcc := HF1.out.cell
  have hmc := HM1.out.cell
  cases rd with
  | false =>
    go_wp2_with fail
    refine (HWK.out _ HG1.out).mono ?_
    rintro e w9 ⟨rfl, hb9⟩
    have HG9 : Hid (Grow w w9) := Lib.hid ((HG1.out).trans hb9)
    clear hb9
    go_wp2_with fail
    go_ret
    exact ⟨rfl, HG9.out⟩
  | true =>
  obtain ⟨hok, G, hs, hj3⟩ := ready_parts HRD.out
  by_cases j2 : 2 < p.judges.length
  · have hd1 : decide ((2 : Int) < (p.judges.length : Int)) = true := decide_eq_true (by omega)
    go_wp2_with fail
    refine (HWK.out _ HG1.out).mono ?_
    rintro e w9 ⟨rfl, hb9⟩
    have HG9 : Hid (Grow w w9) := Lib.hid ((HG1.out).trans hb9)
    clear hb9
    go_wp2_with fail
    go_ret
    exact ⟨rfl, HG9.out⟩
  have hd1 : decide ((2 : Int) < (p.judges.length : Int)) = false := decide_eq_false (by omega)
  by_cases m20 : 20 < marks.length
  · have hd2 : decide ((20 : Int) < (marks.length : Int)) = true := decide_eq_true (by omega)
    go_wp2_with fail
    refine (HWK.out _ HG1.out).mono ?_
    rintro e w9 ⟨rfl, hb9⟩
    have HG9 : Hid (Grow w w9) := Lib.hid ((HG1.out).trans hb9)
    clear hb9
    go_wp2_with fail
    go_ret
    exact ⟨rfl, HG9.out⟩
  have hd2 : decide ((20 : Int) < (marks.length : Int)) = false := decide_eq_false (by omega)
  by_cases c0 : wr < 0
  · have hc0 : decide (wr < 0) = true := decide_eq_true c0
    go_wp2_with fail
    refine (HWK.out _ HG1.out).mono ?_
    rintro e w9 ⟨rfl, hb9⟩
    have HG9 : Hid (Grow w w9) := Lib.hid ((HG1.out).trans hb9)
    clear hb9
    go_wp2_with fail
    go_ret
    exact ⟨rfl, HG9.out⟩
  have hc0 : decide (wr < 0) = false := decide_eq_false c0
  by_cases c1 : 9 < wr
  · have hc1 : decide (9 < wr) = true := decide_eq_true c1
    go_wp2_with fail
    refine (HWK.out _ HG1.out).mono ?_
    rintro e w9 ⟨rfl, hb9⟩
    have HG9 : Hid (Grow w w9) := Lib.hid ((HG1.out).trans hb9)
    clear hb9
    go_wp2_with fail
    go_ret
    exact ⟨rfl, HG9.out⟩
  have hc1 : decide (9 < wr) = false := decide_eq_false c1
  by_cases c2 : xe < 0
  · have hc2 : decide (xe < 0) = true := decide_eq_true c2
    go_wp2_with fail
    refine (HWK.out _ HG1.out).mono ?_
    rintro e w9 ⟨rfl, hb9⟩
    have HG9 : Hid (Grow w w9) := Lib.hid ((HG1.out).trans hb9)
    clear hb9
    go_wp2_with fail
    go_ret
    exact ⟨rfl, HG9.out⟩
  have hc2 : decide (xe < 0) = false := decide_eq_false c2
  by_cases c3 : 9 < xe
  · have hc3 : decide (9 < xe) = true := decide_eq_true c3
    go_wp2_with fail
    refine (HWK.out _ HG1.out).mono ?_
    rintro e w9 ⟨rfl, hb9⟩
    have HG9 : Hid (Grow w w9) := Lib.hid ((HG1.out).trans hb9)
    clear hb9
    go_wp2_with fail
    go_ret
    exact ⟨rfl, HG9.out⟩
  have hc3 : decide (9 < xe) = false := decide_eq_false c3
  by_cases c4 : wi < 0
  · have hc4 : decide (wi < 0) = true := decide_eq_true c4
    go_wp2_with fail
    refine (HWK.out _ HG1.out).mono ?_
    rintro e w9 ⟨rfl, hb9⟩
    have HG9 : Hid (Grow w w9) := Lib.hid ((HG1.out).trans hb9)
    clear hb9
    go_wp2_with fail
    go_ret
    exact ⟨rfl, HG9.out⟩
  have hc4 : decide (wi < 0) = false := decide_eq_false c4
  by_cases c5 : 9 < wi
  · have hc5 : decide (9 < wi) = true := decide_eq_true c5
    go_wp2_with fail
    refine (HWK.out _ HG1.out).mono ?_
    rintro e w9 ⟨rfl, hb9⟩
    have HG9 : Hid (Grow w w9) := Lib.hid ((HG1.out).trans hb9)
    clear hb9
    go_wp2_with fail
    go_ret
    exact ⟨rfl, HG9.out⟩
  have hc5 : decide (9 < wi) = false := decide_eq_false c5
  have HRG := Lib.hid (fun (w0 : World) (hw : Grow w w0) => rangeApi_any p w0 (HPA.out w0 hw) hs (HGL.out w0 hw))
  have HCP := Lib.hid (fun (w0 : World) (hw : Grow w w0) => rCopy_any p w0.heap.size w0 (HPA.out w0 hw) (Nat.le_refl _) (by have : p.items.length ≤ 4 := G.i4; omega) (by omega) (by have : p.grades.length ≤ 5 := G.gr; omega) (fun x hx => by have h := (G.ju x.d (List.mem_map_of_mem hx)).2.2.1; have h2 := G.i4; omega))
  have hwrb := G.wr
  have HSH : Hid (∀ (q : PaperR), q.d = p.d → q.items.length = p.items.length ∧ q.judges.length = p.judges.length ∧ q.grades.length = p.grades.length ∧ ∀ x ∈ q.judges, x.d.marks.length ≤ 4 ∧ (-3 ≤ x.d.lo ∧ x.d.lo ≤ x.d.hi ∧ x.d.hi ≤ 3) ∧ (0 ≤ x.d.err ∧ x.d.err ≤ 5)) := Lib.hid (fun q hq => by
    have e1 : q.items = p.items := congrArg PaperI.items hq
    have e2 : q.grades = p.grades := congrArg PaperI.grades hq
    have e3 : q.judges.map JudgeR.d = p.d.judges := congrArg PaperI.judges hq
    have e4 : q.judges.length = p.judges.length := by have := congrArg List.length e3; rw [List.length_map, d_len] at this; exact this
    refine ⟨by rw [e1], e4, by rw [e2], fun x hx => ?_⟩
    have hx2 : x.d ∈ p.d.judges := by rw [← e3]; exact List.mem_map_of_mem hx
    have h := G.ju x.d hx2
    have h2 := G.i4
    exact ⟨by omega, h.1, h.2.1⟩)
  have HMR : Hid (∀ (j : JudgeI), okPaper (moreD p.d j) = true → truthsL (moreD p.d j) ≠ [] → truthsL p.d ≠ [] ∧ (rangeD p.d).1 ≤ (rangeD (moreD p.d j)).1 ∧ (rangeD (moreD p.d j)).2 ≤ (rangeD p.d).2) := Lib.hid (fun j h1 h2 => more_range G (good_of h1) h2)
  have HWO : Hid (okPaper (wideD p.d wr wh xe wi) = true) := Lib.hid (ok_of (good_wide G (by omega) (by omega) (by omega)) (show ascL p.d.grades = true from asc_of hok))
  have HWR : Hid (truthsL p.d ≠ [] → truthsL (wideD p.d wr wh xe wi) ≠ [] ∧ (rangeD (wideD p.d wr wh xe wi)).1 ≤ (rangeD p.d).1 ∧ (rangeD p.d).2 ≤ (rangeD (wideD p.d wr wh xe wi)).2) := Lib.hid (fun h => wide_range G (by omega) (by omega) (by omega) h)
  have HOK := Lib.hid hok
  obtain ⟨nw, hnw⟩ : ∃ z, (if p.wrong + wr < 2 then p.wrong + wr else 2) = z := ⟨_, rfl⟩
  have HNW : Hid (nw = min 2 (p.wrong + wr)) := Lib.hid (by rw [← hnw]; split <;> omega)
  have hww : IntKind.i64.wrap (p.wrong + wr) = p.wrong + wr := IntWalk.i64_in _ (by have : 0 ≤ p.wrong ∧ p.wrong ≤ 2 := hwrb; omega)
  have hj2 : p.judges.length ≤ 2 := by omega
  have hm20 : marks.length ≤ 20 := by omega
  rcases num_cases hok with ⟨hT, hn, hrv⟩ | ⟨hT, hn, hrv⟩
  · rw [hn, hrv] at HRG
    have HTE := Lib.hid hT
    clear hn hrv hT hwrb hs
    go_wp2_with fail
    refine (HRG.out _ HG1.out).mono ?_
    rintro e w2 ⟨rfl, hb2⟩
    have HG2 : Hid (Grow w w2) := Lib.hid (HG1.out.trans hb2)
    have HF2 := Lib.hid ((show Grow w1 w2 from hb2).block HF1.out)
    have HM2 := Lib.hid ((show Grow w1 w2 from hb2).block HM1.out)
    clear hb2 hcc hmc HF1 HM1 hd1 hd2 hc0 hc1 hc2 hc3 hc4 hc5
    go_upto_region 4 with fail
    obtain ⟨w3, hw3, hg3, hf3, hs3⟩ := one_block w2 33 #[.int .i64 0, .int .i64 0]
    rw [show w2.alloc (.cells #[.int .i64 0, .int .i64 0] 33) = w3 from hw3]
    clear hw3
    obtain ⟨sb, hsb⟩ : ∃ z, w2.heap.size = z := ⟨_, rfl⟩
    rw [hsb] at hf3 hs3 ⊢
    have hsb1 : w.heap.size + 1 < sb := by have := HM2.out.lt; omega
    have HG3 : Hid (Grow w w3) := Lib.hid (HG2.out.trans hg3)
    have HF3 := Lib.hid (hg3.block HF2.out)
    have HM3 := Lib.hid (hg3.block HM2.out)
    have HS3 := Lib.hid hf3
    clear hg3 hf3 hsb HF2 HM2 HG2
    have hcc := HF3.out.cell
    go_wp2_with fail
    refine (HCP.out _ HG3.out).mono ?_
    rintro e wc ⟨q, rfl, hqd, hnp, hbc⟩
    obtain ⟨lo3, hlo3⟩ : ∃ z, w3.heap.size = z := ⟨_, rfl⟩
    rw [hlo3] at hnp
    have HLO := Lib.hid hlo3
    have hlow : w.heap.size ≤ lo3 := by have := HG3.out.size; omega
    have HQ := Lib.hid (HSH.out q hqd)
    have hq2 : q.judges.length ≤ 2 := by have := HQ.out.2.1; omega
    have HGC : Hid (Grow w3 wc) := Lib.hid hbc
    have HNP := Lib.hid hnp
    have HQD := Lib.hid hqd
    have hlc : lo3 ≤ wc.heap.size := by have := HGC.out.size; omega
    clear hbc hnp hcc hqd
    go_upto_region 7 with fail
    obtain ⟨wd, hwd, hgd, hfd, hsd⟩ := one_block wc 26 (cellsP q)
    rw [show wc.alloc (.cells (cellsP q) 26) = wd from hwd]
    clear hwd
    obtain ⟨cb, hcb⟩ : ∃ z, wc.heap.size = z := ⟨_, rfl⟩
    rw [hcb] at hfd hsd hlc ⊢
    have HFB := Lib.hid hfd
    have HGD : Hid (Grow w3 wd) := Lib.hid (HGC.out.trans hgd)
    have HND := Lib.hid (HNP.out.grow hgd)
    have hcd := hfd.cell
    have hmc := (HGD.out.block HM3.out).cell
    clear hgd hfd hcb
    obtain ⟨wx, hwx⟩ : ∃ z, wd.alloc (.cells (cellsJ ⟨⟨lo, hi, err, marks⟩, ma, mc⟩) 60) = z := ⟨_, rfl⟩
    have HGX : Hid (Grow wd wx) := Lib.hid (by rw [← hwx]; exact Grow.alloc _ _)
    have HJX : Hid (BlockIs wx wd.heap.size 60 (cellsJ ⟨⟨lo, hi, err, marks⟩, ma, mc⟩)) := Lib.hid (by rw [← hwx]; exact BlockIs.new _ _ _)
    have HROW := Lib.hid (own_keep HND.out.judges (.of_grow HGX.out))
    have hzx : lo3 ≤ wx.heap.size := by have := HGX.out.size; omega
    go_wp2_with (at_builtin; go_loud (refine wpList_append_own _ rfl _ _ 23 rfl lo3 60 p0 (.agg #[.int .i64 0, .int .i64 0, .int .i64 0, .slice none 0 0]) 4 48 Tryd.underlying23 hpi hpz0 hpz1 hpz2 rfl (by omega) _ q.judges.length (q.judges.flatMap cellsJL) rfl ?d0 ⟨wd.heap.size, 0, none⟩ 1 1 (cellsJL ⟨⟨lo, hi, err, marks⟩, ma, mc⟩) rfl rfl ?d1 ?d2 ?d3 ?d4 ?d5 ?_))
    case d0 => exact HROW.out
    case d1 => exact news_judge HJX.out
    case d2 => exact one_judge _
    case d3 => unfold maxLen; omega
    case d4 => omega
    case d5 => exact hzx
    intro v' w7 hown hgr _
    obtain ⟨A7, c7, rfl⟩ := own_form hown
    have HG7 : Hid (Grow w3 w7) := Lib.hid (by
      have h := below_grown (base := lo3) (by have h2 := HGD.out.trans HGX.out; have h3 := HLO.out; rw [← h3]; exact h2) HROW.out hgr hzx
      show Below w3.heap.size w3 w7
      rw [HLO.out]
      exact h)
    have KI := Lib.hid (KeepTy.grown (t := 3) HROW.out hgr (by decide))
    have KL := Lib.hid (KeepTy.grown (t := 78) HROW.out hgr (by decide))
    have KC := Lib.hid (KeepTy.grown (t := 26) HROW.out hgr (by decide))
    have HOB := Lib.hid (KC.out _ _ (HGX.out.block HFB.out))
    obtain ⟨w8, hw8⟩ : ∃ z, w7.setCell ⟨cb, 1, none⟩ (.slice A7 (q.judges.length + 1) c7) = z := ⟨_, rfl⟩
    obtain ⟨more, hmore⟩ : ∃ z : PaperR, ⟨q.items, q.judges ++ [⟨⟨lo, hi, err, marks⟩, ma, mc⟩], q.wrong, q.grades, q.ia, q.ic, A7, c7, q.ga, q.gc⟩ = z := ⟨_, rfl⟩
    have HOWN := Lib.hid hown
    have HG8 : Hid (Grow w3 w8) := Lib.hid (by rw [← hw8]; exact HG7.out.setC (p := ⟨cb, 1, none⟩) (by have := HLO.out; show w3.heap.size ≤ cb; omega) _)
    have HM8 : Hid (BlockIs w8 cb 26 (cellsP more)) := Lib.hid (by
      rw [← hw8, ← hmore]
      show BlockIs _ cb _ #[_, .slice A7 (q.judges ++ [(⟨⟨lo, hi, err, marks⟩, ma, mc⟩ : JudgeR)]).length c7, _, _]
      rw [List.length_append]
      exact HOB.out.near 1 _)
    have HP8 : Hid (PaperAt w8 w8.heap.size more) := Lib.hid (by
      have S1 := KeepTy.store HOB.out (t := 3) (by decide) 1 (.slice A7 (q.judges.length + 1) c7)
      have S2 := KeepTy.store HOB.out (t := 78) (by decide) 1 (.slice A7 (q.judges.length + 1) c7)
      have S3 := KeepTy.store HOB.out (t := 60) (by decide) 1 (.slice A7 (q.judges.length + 1) c7)
      rw [hw8] at S1 S2 S3
      rw [← hmore]
      refine at_own (lo := lo3) (own_keep HND.out.items (((KeepTy.of_grow HGX.out).trans KL.out).trans S2)) ?_ (fun x hx => ?_) (own_keep HND.out.grades (((KeepTy.of_grow HGX.out).trans KI.out).trans S1))
      · have h := own_keep HOWN.out S3
        show World.ownsRow _ _ _ _ (.slice A7 (q.judges ++ [(⟨⟨lo, hi, err, marks⟩, ma, mc⟩ : JudgeR)]).length c7) (q.judges ++ [(⟨⟨lo, hi, err, marks⟩, ma, mc⟩ : JudgeR)]).length _
        rw [List.length_append, List.flatMap_append, List.flatMap_singleton]
        exact h
      · rcases List.mem_append.1 hx with h | h
        · exact (HND.out.rows.keep (((KeepTy.of_grow HGX.out).trans KI.out).trans S1)).mem h
        · obtain rfl := List.mem_singleton.1 h
          exact HMK.out w8 (HG3.out.trans HG8.out))
    have HMD : Hid (more.d = moreD p.d ⟨lo, hi, err, marks⟩) := Lib.hid (by
      rw [← hmore, ← HQD.out]
      show (⟨q.items, (q.judges ++ [(⟨⟨lo, hi, err, marks⟩, ma, mc⟩ : JudgeR)]).map JudgeR.d, q.wrong, q.grades⟩ : PaperI) = ⟨q.items, q.judges.map JudgeR.d ++ [⟨lo, hi, err, marks⟩], q.wrong, q.grades⟩
      rw [List.map_append]
      rfl)
    have HSM : Hid (Short more) := Lib.hid (by
      obtain ⟨a1, a2, a3, a4⟩ := HQ.out
      rw [← hmore]
      have b1 : p.items.length ≤ 4 := G.i4
      have b3 : p.grades.length ≤ 5 := G.gr
      refine ⟨by show q.items.length ≤ _; omega, by show (q.judges ++ [(⟨⟨lo, hi, err, marks⟩, ma, mc⟩ : JudgeR)]).length ≤ _; rw [List.length_append]; show q.judges.length + 1 ≤ _; omega, by show q.grades.length ≤ _; omega, fun x hx => ?_⟩
      rcases List.mem_append.1 hx with h | h
      · have := (a4 x h).1; omega
      · obtain rfl := List.mem_singleton.1 h
        show marks.length ≤ _
        omega)
    have HCM := Lib.hid (fun (w0 : World) (hw : Grow w8 w0) => rCheck_any more w0 (HP8.out.grow hw) HSM.out)
    have HRM := Lib.hid (fun (w0 : World) (hw : Grow w8 w0) => rangeApi_any more w0 (HP8.out.grow hw) HSM.out (HGL.out w0 ((HG3.out.trans HG8.out).trans hw)))
    have HE0 : Hid (paperErr more = if okPaper more.d then 0 else 90) := Lib.hid rfl
    have HNC := Lib.hid (fun (h : okPaper more.d = true) => num_cases h)
    have HM0 : Hid (okPaper more.d = true → truthsL more.d ≠ [] → truthsL p.d ≠ [] ∧ ((rangeD p.d).1 ≤ (rangeD more.d).1 ∧ (rangeD more.d).2 ≤ (rangeD p.d).2)) := Lib.hid (fun h1 h2 => by rw [HMD.out] at h1 h2 ⊢; exact HMR.out _ h1 h2)
    have hoc := HOB.out.cell
    have hof := HOB.out.frozen
    clear hown hgr HROW HOWN KI KL KC HOB hmore  hcd
    obtain ⟨er2, her2⟩ : ∃ z, paperErr more = z := ⟨_, rfl⟩
    rw [her2] at HCM HE0
    clear her2
    go_upto_region 8 with fail
    clear hw8 hoc hof
    have hmo := HM8.out.cell
    go_wp2_with fail
    refine (HCM.out _ (Grow.refl _)).mono ?_
    rintro e w10 ⟨rfl, hb10⟩
    have HG10 : Hid (Grow w8 w10) := Lib.hid hb10
    have HM10 := Lib.hid ((show Grow w8 w10 from hb10).block HM8.out)
    clear hb10 hmo
    have hmo := HM10.out.cell
    have hs10 := ((HG8.out.trans HG10.out).block HS3.out).cell
    obtain ⟨ck, hck⟩ : ∃ z, (er2 == 0) = z := ⟨_, rfl⟩
    have HCK := Lib.hid hck
    go_upto_if 83 with fail
    clear hck
    go_cut [8, 9] (fun _ _ wx => Grow w10 wx)
    case first =>
      cases hok2 : okPaper more.d with
      | false =>
        have h90 : er2 = 90 := by rw [HE0.out, hok2]; rfl
        obtain rfl : ck = false := by rw [← HCK.out, h90]; rfl
        clear h90
        go_wp2
        go_meet
        exact Grow.refl _
      | true =>
        have h00 : er2 = 0 := by rw [HE0.out, hok2]; rfl
        obtain rfl : ck = true := by rw [← HCK.out, h00]; rfl
        have HMR3 := Lib.hid (HM0.out hok2)
        have HNC2 := Lib.hid (HNC.out hok2)
        clear h00 hok2
        rcases HNC2.out with ⟨hT, hn, hrv⟩ | ⟨hT, hn, hrv⟩
        · rw [hn, hrv] at HRM
          clear hT hn hrv
          go_wp2_with fail
          refine (HRM.out _ HG10.out).mono ?_
          rintro e w11 ⟨rfl, hb11⟩
          have HG11 : Hid (Grow w10 w11) := Lib.hid hb11
          clear hb11
          go_upto_region 10 with fail
          have HG12 : Hid (Grow w10 (w11.alloc (.cells #[.int .i64 0, .int .i64 0] 33))) := Lib.hid (HG11.out.trans (Grow.alloc _ _))
          go_wp2
          go_meet
          exact HG12.out
        · exact absurd HTE.out (HMR3.out hT).1
    case rest =>
      have hgx := hcut
      rename World => wx
      have HGX2 : Hid (Grow w3 wx) := Lib.hid ((HG8.out.trans HG10.out).trans hgx)
      clear hcut hgx hmo hs10 HM0 HNC HRM HCM HE0 HCK HM8 HM10 HP8 HSM HMD HG8 HG10 HG7 HND HGD HGX HJX HFB HNP HGC
      have HF4 := Lib.hid (HGX2.out.block HF3.out)
      have HM4 := Lib.hid (HGX2.out.block HM3.out)
      have HS4 := Lib.hid (HGX2.out.block HS3.out)
      have HG4 : Hid (Grow w wx) := Lib.hid (HG3.out.trans HGX2.out)
      have hcc := HF4.out.cell
      clear HF3 HM3 HS3 HGX2 HQ hq2 HQD hlc hzx
      go_wp2_with fail
      refine (HCP.out _ HG4.out).mono ?_
      rintro e wy ⟨q2, rfl, hqd2, hnp2, hby⟩
      have HQ2 := Lib.hid (HSH.out q2 hqd2)
      obtain ⟨qi, qj, qw, qg, ia, ic, ja, jc, ga, gc⟩ := q2
      obtain rfl : qi = p.items := congrArg PaperI.items hqd2
      obtain rfl : qw = p.wrong := congrArg PaperI.wrong hqd2
      obtain rfl : qg = p.grades := congrArg PaperI.grades hqd2
      have HQJ : Hid (qj.map JudgeR.d = p.d.judges) := Lib.hid (congrArg PaperI.judges hqd2)
      obtain ⟨lo4, hlo4⟩ : ∃ z, wx.heap.size = z := ⟨_, rfl⟩
      rw [hlo4] at hnp2
      have hlow4 : w.heap.size + 1 < lo4 := by have := HM4.out.lt; omega
      have hsb4 : sb < lo4 := by have := HS4.out.lt; omega
      have HGY : Hid (Grow wx wy) := Lib.hid hby
      have HNY := Lib.hid hnp2
      have hly : lo4 ≤ wy.heap.size := by have := HGY.out.size; omega
      have HLO4 := Lib.hid hlo4
      have hqj2 : qj.length ≤ 2 := by have : qj.length = p.judges.length := HQ2.out.2.1; omega
      clear hqd2 hnp2 hby hlo4 hcc
      go_upto_region 13 with fail
      obtain ⟨wz, hwz, hgz, hfz, hsz2⟩ := one_block wy 26 (cellsP ⟨p.items, qj, p.wrong, p.grades, ia, ic, ja, jc, ga, gc⟩)
      rw [show wy.alloc (.cells (cellsP ⟨p.items, qj, p.wrong, p.grades, ia, ic, ja, jc, ga, gc⟩) 26) = wz from hwz]
      clear hwz
      obtain ⟨eb, heb⟩ : ∃ z, wy.heap.size = z := ⟨_, rfl⟩
      rw [heb] at hfz hsz2 hly ⊢
      have HFZ := Lib.hid hfz
      have HGZ : Hid (Grow wx wz) := Lib.hid (HGY.out.trans hgz)
      have HNZ := Lib.hid (HNY.out.grow hgz)
      have hcz := hfz.cell
      have hcf := hfz.frozen
      have hmc := (HGZ.out.block HM4.out).cell
      clear hgz hfz heb HNY HGY
      go_upto_region 14 with fail
      obtain ⟨wa, hwa⟩ : ∃ z, wz.setCell ⟨eb, 2, none⟩ (.int .i64 nw) = z := ⟨_, rfl⟩
      have HFA : Hid (BlockIs wa eb 26 #[.slice ia p.items.length ic, .slice ja qj.length jc, .int .i64 nw, .slice ga p.grades.length gc]) := Lib.hid (by rw [← hwa]; exact HFZ.out.near 2 _)
      have HGA' : Hid (Grow wx wa) := Lib.hid (by rw [← hwa]; exact HGZ.out.setC (p := ⟨eb, 2, none⟩) (by have := HLO4.out; show wx.heap.size ≤ eb; omega) _)
      have HGA4 : Hid (Grow w wa) := Lib.hid (HG4.out.trans HGA'.out)
      have HIA := Lib.hid (own_keep HNZ.out.items (by have h := KeepTy.store HFZ.out (t := 78) (by decide) 2 (.int .i64 nw); rwa [hwa] at h))
      have HJA := Lib.hid (own_keep HNZ.out.judges (by have h := KeepTy.store HFZ.out (t := 60) (by decide) 2 (.int .i64 nw); rwa [hwa] at h))
      have HGA := Lib.hid (own_keep HNZ.out.grades (by have h := KeepTy.store HFZ.out (t := 3) (by decide) 2 (.int .i64 nw); rwa [hwa] at h))
      have HRA := Lib.hid (HNZ.out.rows.keep (by have h := KeepTy.store HFZ.out (t := 3) (by decide) 2 (.int .i64 nw); rwa [hwa] at h))
      have HMA := Lib.hid (HGA'.out.block HM4.out)
      have HSA := Lib.hid (HGA'.out.block HS4.out)
      have HSQ : Hid (Short ⟨p.items, qj, nw, p.grades, ia, ic, ja, jc, ga, gc⟩) := Lib.hid (by
        have b1 : p.items.length ≤ 4 := G.i4
        have b3 : p.grades.length ≤ 5 := G.gr
        refine ⟨by show p.items.length ≤ _; omega, by show qj.length ≤ _; omega, by show p.grades.length ≤ _; omega, fun x hx => ?_⟩
        have := (HQ2.out.2.2.2 x hx).1
        omega)
      rw [hwa]
      clear hwa hcz hcf hmc HNZ HFZ HGZ HM4 HS4 HF4
      have hmc := HMA.out.cell
      have hfc := HFA.out.cell
      by_cases h0 : wh < 0
      · have hd0 : decide (0 ≤ wh) = false := decide_eq_false (by omega)
        obtain ⟨wide, hwide⟩ : ∃ z : PaperR, ⟨p.items, qj, nw, p.grades, ia, ic, ja, jc, ga, gc⟩ = z := ⟨_, rfl⟩
        have HFW : Hid (BlockIs wa eb 26 (cellsP wide)) := Lib.hid (by rw [← hwide]; exact HFA.out)
        have HPW : Hid (PaperAt wa wa.heap.size wide) := Lib.hid (by rw [← hwide]; exact at_own (lo := lo4) HIA.out HJA.out (fun x hx => HRA.out.mem hx) HGA.out)
        have HDW : Hid (wide.d = wideD p.d wr wh xe wi) := Lib.hid (by
          rw [← hwide]
          show (⟨p.items, qj.map JudgeR.d, nw, p.grades⟩ : PaperI) = ⟨p.items, if 0 ≤ wh ∧ wh < p.d.judges.length then p.d.judges.set wh.toNat (widen (p.d.judges.getD wh.toNat ⟨0, 0, 0, []⟩) xe wi) else p.d.judges, min 2 (p.wrong + wr), p.grades⟩
          have hl : p.d.judges.length = qj.length := by rw [← HQJ.out, List.length_map]
          rw [if_neg (by rw [hl]; omega), HQJ.out, HNW.out])
        have HSHW : Hid (Short wide) := Lib.hid (by rw [← hwide]; exact HSQ.out)
        clear hwide hfc
        have HRW := Lib.hid (fun (w0 : World) (hw : Grow wa w0) => rangeApi_any wide w0 (HPW.out.grow hw) HSHW.out (HGL.out w0 ((HGA4.out).trans hw)))
        have hfw := HFW.out.cell
        rcases num_cases (p := wide) (by rw [HDW.out]; exact HWO.out) with ⟨hT2, hn2, hrv2⟩ | ⟨hT2, hn2, hrv2⟩
        · rw [hn2, hrv2] at HRW
          clear hT2 hn2 hrv2
          go_wp2_with fail
          refine (HRW.out _ (Grow.refl _)).mono ?_
          rintro e wg ⟨rfl, hbg⟩
          have HGG : Hid (Grow w wg) := Lib.hid ((HGA4.out).trans hbg)
          have HSG := Lib.hid ((show Grow wa wg from hbg).block (HSA.out))
          clear hbg hfw
          go_upto_region 20 with fail
          obtain ⟨wh2, hwh2, hgh2, hfh2, _⟩ := one_block wg 33 #[.int .i64 0, .int .i64 0]
          rw [hwh2]
          have HGH : Hid (Grow w wh2) := Lib.hid (HGG.out.trans hgh2)
          have hsh1 := (hgh2.block HSG.out).cell
          have hsh2 := hfh2.cell
          clear hwh2 hgh2 hfh2
          go_wp2_with fail
          refine (HWK.out _ HGH.out).mono ?_
          rintro e w9 ⟨rfl, hb9⟩
          have HG9 : Hid (Grow w w9) := Lib.hid ((HGH.out).trans hb9)
          clear hb9
          go_wp2_with fail
          go_ret
          exact ⟨rfl, HG9.out⟩
        · rw [hn2, hrv2] at HRW
          obtain ⟨⟨m1, m2⟩, hmm⟩ : ∃ z, rangeD wide.d = z := ⟨_, rfl⟩
          rw [hmm] at HRW
          clear hmm
          clear hT2 hn2 hrv2
          go_wp2_with fail
          refine (HRW.out _ (Grow.refl _)).mono ?_
          rintro e wg ⟨rfl, hbg⟩
          have HGG : Hid (Grow w wg) := Lib.hid ((HGA4.out).trans hbg)
          have HSG := Lib.hid ((show Grow wa wg from hbg).block (HSA.out))
          clear hbg hfw
          go_upto_region 20 with fail
          obtain ⟨wh2, hwh2, hgh2, hfh2, _⟩ := one_block wg 33 #[.int .i64 m1, .int .i64 m2]
          rw [hwh2]
          have HGH : Hid (Grow w wh2) := Lib.hid (HGG.out.trans hgh2)
          have hsh1 := (hgh2.block HSG.out).cell
          have hsh2 := hfh2.cell
          clear hwh2 hgh2 hfh2
          go_wp2_with fail
          refine (HWK.out _ HGH.out).mono ?_
          rintro e w9 ⟨rfl, hb9⟩
          have HG9 : Hid (Grow w w9) := Lib.hid ((HGH.out).trans hb9)
          clear hb9
          go_wp2_with fail
          go_ret
          exact ⟨rfl, HG9.out⟩
      have hd0 : decide (0 ≤ wh) = true := decide_eq_true (by omega)
      by_cases h1 : (qj.length : Int) ≤ wh
      · have hd1 : decide (wh < (qj.length : Int)) = false := decide_eq_false (by omega)
        obtain ⟨wide, hwide⟩ : ∃ z : PaperR, ⟨p.items, qj, nw, p.grades, ia, ic, ja, jc, ga, gc⟩ = z := ⟨_, rfl⟩
        have HFW : Hid (BlockIs wa eb 26 (cellsP wide)) := Lib.hid (by rw [← hwide]; exact HFA.out)
        have HPW : Hid (PaperAt wa wa.heap.size wide) := Lib.hid (by rw [← hwide]; exact at_own (lo := lo4) HIA.out HJA.out (fun x hx => HRA.out.mem hx) HGA.out)
        have HDW : Hid (wide.d = wideD p.d wr wh xe wi) := Lib.hid (by
          rw [← hwide]
          show (⟨p.items, qj.map JudgeR.d, nw, p.grades⟩ : PaperI) = ⟨p.items, if 0 ≤ wh ∧ wh < p.d.judges.length then p.d.judges.set wh.toNat (widen (p.d.judges.getD wh.toNat ⟨0, 0, 0, []⟩) xe wi) else p.d.judges, min 2 (p.wrong + wr), p.grades⟩
          have hl : p.d.judges.length = qj.length := by rw [← HQJ.out, List.length_map]
          rw [if_neg (by rw [hl]; omega), HQJ.out, HNW.out])
        have HSHW : Hid (Short wide) := Lib.hid (by rw [← hwide]; exact HSQ.out)
        have hd1w : decide (wh < (wide.judges.length : Int)) = false := by
          rw [← hwide]
          exact hd1
        clear hwide hfc
        have HRW := Lib.hid (fun (w0 : World) (hw : Grow wa w0) => rangeApi_any wide w0 (HPW.out.grow hw) HSHW.out (HGL.out w0 ((HGA4.out).trans hw)))
        have hfw := HFW.out.cell
        rcases num_cases (p := wide) (by rw [HDW.out]; exact HWO.out) with ⟨hT2, hn2, hrv2⟩ | ⟨hT2, hn2, hrv2⟩
        · rw [hn2, hrv2] at HRW
          clear hT2 hn2 hrv2
          go_wp2_with fail
          refine (HRW.out _ (Grow.refl _)).mono ?_
          rintro e wg ⟨rfl, hbg⟩
          have HGG : Hid (Grow w wg) := Lib.hid ((HGA4.out).trans hbg)
          have HSG := Lib.hid ((show Grow wa wg from hbg).block (HSA.out))
          clear hbg hfw
          go_upto_region 20 with fail
          obtain ⟨wh2, hwh2, hgh2, hfh2, _⟩ := one_block wg 33 #[.int .i64 0, .int .i64 0]
          rw [hwh2]
          have HGH : Hid (Grow w wh2) := Lib.hid (HGG.out.trans hgh2)
          have hsh1 := (hgh2.block HSG.out).cell
          have hsh2 := hfh2.cell
          clear hwh2 hgh2 hfh2
          go_wp2_with fail
          refine (HWK.out _ HGH.out).mono ?_
          rintro e w9 ⟨rfl, hb9⟩
          have HG9 : Hid (Grow w w9) := Lib.hid ((HGH.out).trans hb9)
          clear hb9
          go_wp2_with fail
          go_ret
          exact ⟨rfl, HG9.out⟩
        · rw [hn2, hrv2] at HRW
          obtain ⟨⟨m1, m2⟩, hmm⟩ : ∃ z, rangeD wide.d = z := ⟨_, rfl⟩
          rw [hmm] at HRW
          clear hmm
          clear hT2 hn2 hrv2
          go_wp2_with fail
          refine (HRW.out _ (Grow.refl _)).mono ?_
          rintro e wg ⟨rfl, hbg⟩
          have HGG : Hid (Grow w wg) := Lib.hid ((HGA4.out).trans hbg)
          have HSG := Lib.hid ((show Grow wa wg from hbg).block (HSA.out))
          clear hbg hfw
          go_upto_region 20 with fail
          obtain ⟨wh2, hwh2, hgh2, hfh2, _⟩ := one_block wg 33 #[.int .i64 m1, .int .i64 m2]
          rw [hwh2]
          have HGH : Hid (Grow w wh2) := Lib.hid (HGG.out.trans hgh2)
          have hsh1 := (hgh2.block HSG.out).cell
          have hsh2 := hfh2.cell
          clear hwh2 hgh2 hfh2
          go_wp2_with fail
          refine (HWK.out _ HGH.out).mono ?_
          rintro e w9 ⟨rfl, hb9⟩
          have HG9 : Hid (Grow w w9) := Lib.hid ((HGH.out).trans hb9)
          clear hb9
          go_wp2_with fail
          go_ret
          exact ⟨rfl, HG9.out⟩
      have hd1 : decide (wh < (qj.length : Int)) = true := decide_eq_true (by omega)
      obtain ⟨n, rfl⟩ : ∃ n : Nat, wh = (n : Int) := ⟨wh.toNat, by omega⟩
      have hn : n < qj.length := by omega
      have hn0 : (0 : Int) ≤ (n : Int) := by omega
      have hn1 : (n : Int) < (qj.length : Int) := by omega
      have hd1' : decide (n < qj.length) = true := decide_eq_true hn
      rcases own_flat (enc := cellsJL) (fun _ => rfl) HJA.out rfl with e | ⟨jb, cs, hja, hjb, hB, hcap, hcs, hc⟩
      · have e : qj = [] := e
        rw [e] at hn
        exact absurd hn (by simp)
      dsimp only at hja
      subst hja
      have hx : qj[n]? = some qj[n] := List.getElem?_eq_getElem hn
      obtain ⟨⟨⟨xlo, xhi, xerr, xm⟩, xa, xc⟩, hxx⟩ : ∃ x, qj[n] = x := ⟨_, rfl⟩
      rw [hxx] at hx
      have HXX := Lib.hid hx
      obtain ⟨hx4, ⟨hl1, hl2, hl3⟩, hl4, hl5⟩ := HQ2.out.2.2.2 _ (List.mem_of_getElem? hx)
      dsimp only at hx4 hl1 hl2 hl3 hl4 hl5
      have e0 : wa.cell? ⟨jb, n * 4, none⟩ = some (.int .i64 xlo) := (hB.cell _).trans (hc n _ hx 0 (by omega))
      have e1 : wa.cell? ⟨jb, n * 4 + 1, none⟩ = some (.int .i64 xhi) := (hB.cell _).trans (hc n _ hx 1 (by omega))
      have e2 : wa.cell? ⟨jb, n * 4 + 2, none⟩ = some (.int .i64 xerr) := (hB.cell _).trans (hc n _ hx 2 (by omega))
      have e3 : wa.cell? ⟨jb, n * 4 + 3, none⟩ = some (.slice xa xm.length xc) := (hB.cell _).trans (hc n _ hx 3 (by omega))
      have HB := Lib.hid hB
      have HCS := Lib.hid hcs
      have HCC := Lib.hid hc
      have HCAP := Lib.hid hcap
      have hjlt : jb < wa.heap.size := hB.lt
      obtain ⟨ne5, hne5⟩ : ∃ z, (if xerr + xe < 5 then xerr + xe else 5) = z := ⟨_, rfl⟩
      obtain ⟨nlo, hnlo⟩ : ∃ z, (if -3 < xlo - wi then xlo - wi else -3) = z := ⟨_, rfl⟩
      obtain ⟨nhi, hnhi⟩ : ∃ z, (if xhi + wi < 3 then xhi + wi else 3) = z := ⟨_, rfl⟩
      have HY1 : Hid (ne5 = min 5 (xerr + xe)) := Lib.hid (by rw [← hne5]; split <;> omega)
      have HY2 : Hid (nlo = max (-3) (xlo - wi)) := Lib.hid (by rw [← hnlo]; split <;> omega)
      have HY3 : Hid (nhi = min 3 (xhi + wi)) := Lib.hid (by rw [← hnhi]; split <;> omega)
      have hw1 : IntKind.i64.wrap (xerr + xe) = xerr + xe := IntWalk.i64_in _ (by omega)
      have hw2 : IntKind.i64.wrap (xlo - wi) = xlo - wi := IntWalk.i64_in _ (by omega)
      have hw3 : IntKind.i64.wrap (xhi + wi) = xhi + wi := IntWalk.i64_in _ (by omega)
      clear hx hxx hB hc hcs hcap
      go_upto_region 16 with fail
      obtain ⟨wb, hwb, hgb, hfb, hsb2⟩ := one_block wa 60 (cellsJ ⟨⟨xlo, xhi, xerr, xm⟩, xa, xc⟩)
      rw [show wa.alloc (.cells #[.int .i64 xlo, .int .i64 xhi, .int .i64 xerr, .slice xa xm.length xc] 60) = wb from hwb]
      clear hwb
      obtain ⟨kb, hkb⟩ : ∃ z, wa.heap.size = z := ⟨_, rfl⟩
      rw [hkb] at hfb hsb2 hjlt ⊢
      have hekb : eb < kb := by have := HFA.out.lt; omega
      have hkbl : wa.heap.size ≤ kb := by omega
      have HFB := Lib.hid hfb
      have HGB := Lib.hid hgb
      have hkc := hfb.cell
      have hkf := hfb.frozen
      have hmc := (hgb.block HMA.out).cell
      clear hfb hgb hkb e0 e1 e2 e3 hfc
      go_upto_region 17 with fail
      obtain ⟨wb2, hwb2⟩ : ∃ z, wb.setCell ⟨kb, 2, none⟩ (.int .i64 ne5) = z := ⟨_, rfl⟩
      have HFB2 : Hid (BlockIs wb2 kb 60 #[.int .i64 xlo, .int .i64 xhi, .int .i64 ne5, .slice xa xm.length xc]) := Lib.hid (by rw [← hwb2]; exact HFB.out.near 2 _)
      have HGB2 : Hid (Grow wa wb2) := Lib.hid (by rw [← hwb2]; exact HGB.out.setC (p := ⟨kb, 2, none⟩) (by show wa.heap.size ≤ kb; omega) _)
      rw [hwb2]
      clear hwb2 hkc hkf hmc HFB HGB
      have hkc := HFB2.out.cell
      have hmc := (HGB2.out.block HMA.out).cell
      go_wp2_with fail
      refine (span_any _ _ _).mono ?_
      rintro e wb3 ⟨rfl, hb3⟩
      have HFB3 := Lib.hid ((show Grow wb2 wb3 from hb3).block HFB2.out)
      have HGB3 : Hid (Grow wa wb3) := Lib.hid (HGB2.out.trans hb3)
      clear hb3 hkc hmc
      have hkc := HFB3.out.cell
      have hkf := HFB3.out.frozen
      go_upto_region 18 with fail
      obtain ⟨wb4, hwb4⟩ : ∃ z, (wb3.setCell ⟨kb, 0, none⟩ (.int .i64 nlo)).setCell ⟨kb, 1, none⟩ (.int .i64 nhi) = z := ⟨_, rfl⟩
      have HFB4 : Hid (BlockIs wb4 kb 60 #[.int .i64 nlo, .int .i64 nhi, .int .i64 ne5, .slice xa xm.length xc]) := Lib.hid (by rw [← hwb4]; exact (HFB3.out.near 0 _).near 1 _)
      have HGB4 : Hid (Grow wa wb4) := Lib.hid (by rw [← hwb4]; exact (HGB3.out.setC (p := ⟨kb, 0, none⟩) (by show wa.heap.size ≤ kb; omega) _).setC (p := ⟨kb, 1, none⟩) (by show wa.heap.size ≤ kb; omega) _)
      rw [hwb4]
      clear hwb4 hkc hkf HFB2 HFB3 HGB2 HGB3
      have hkc := HFB4.out.cell
      have hmc := (HGB4.out.block HMA.out).cell
      have HJB4 := Lib.hid (HGB4.out.block HB.out)
      have hfc := (HGB4.out.block HFA.out).cell
      have hjf := HJB4.out.frozen
      have e0 : wb4.cell? ⟨jb, n * 4, none⟩ = some (.int .i64 xlo) := (HJB4.out.cell _).trans (HCC.out n _ HXX.out 0 (by omega))
      have e1 : wb4.cell? ⟨jb, n * 4 + 1, none⟩ = some (.int .i64 xhi) := (HJB4.out.cell _).trans (HCC.out n _ HXX.out 1 (by omega))
      have e2 : wb4.cell? ⟨jb, n * 4 + 2, none⟩ = some (.int .i64 xerr) := (HJB4.out.cell _).trans (HCC.out n _ HXX.out 2 (by omega))
      have e3 : wb4.cell? ⟨jb, n * 4 + 3, none⟩ = some (.slice xa xm.length xc) := (HJB4.out.cell _).trans (HCC.out n _ HXX.out 3 (by omega))
      go_upto_region 19 with fail
      obtain ⟨wv, hwv⟩ : ∃ z, (((wb4.setCell ⟨jb, n * 4, none⟩ (.int .i64 nlo)).setCell ⟨jb, n * 4 + 1, none⟩ (.int .i64 nhi)).setCell ⟨jb, n * 4 + 2, none⟩ (.int .i64 ne5)).setCell ⟨jb, n * 4 + 3, none⟩ (.slice xa xm.length xc) = z := ⟨_, rfl⟩
      have HWV := Lib.hid hwv
      rw [hwv]
      clear hwv hkc hmc hfc hjf e0 e1 e2 e3 hne5 hnlo hnhi hw1 hw2 hw3
      obtain ⟨wide, hwide⟩ : ∃ z : PaperR, ⟨p.items, qj.set n ⟨⟨nlo, nhi, ne5, xm⟩, xa, xc⟩, nw, p.grades, ia, ic, some ⟨jb, 0, none⟩, jc, ga, gc⟩ = z := ⟨_, rfl⟩
      have hne1 : eb ≠ jb := block_ne HFA.out HB.out (by decide)
      have hne2 : sb ≠ jb := by omega
      have HPW : Hid (PaperAt wv wv.heap.size wide) := Lib.hid (by
        rw [← hwide]
        exact at_set (p := ⟨p.items, qj, p.wrong, p.grades, ia, ic, some ⟨jb, 0, none⟩, jc, ga, gc⟩) (lo := lo4) (y := ⟨⟨nlo, nhi, ne5, xm⟩, xa, xc⟩) (own_keep HIA.out (.of_grow HGB4.out)) HJB4.out rfl (by have h1 := HCS.out; have h2 : qj.length ≤ jc := HCAP.out; show qj.length * 4 ≤ _; omega) HCC.out hn (HRA.out.keep (.of_grow HGB4.out)) HXX.out rfl rfl (own_keep HGA.out (.of_grow HGB4.out)) nw wv HWV.out)
      have HFW : Hid (BlockIs wv eb 26 (cellsP wide)) := Lib.hid (by
        rw [← hwide, ← HWV.out]
        show BlockIs _ eb _ #[_, .slice (some ⟨jb, 0, none⟩) (qj.set n ⟨⟨nlo, nhi, ne5, xm⟩, xa, xc⟩).length jc, _, _]
        rw [List.length_set]
        exact ((((HGB4.out.block HFA.out).far (p := ⟨jb, n * 4, none⟩) hne1 _).far (p := ⟨jb, n * 4 + 1, none⟩) hne1 _).far (p := ⟨jb, n * 4 + 2, none⟩) hne1 _).far (p := ⟨jb, n * 4 + 3, none⟩) hne1 _)
      have HSV : Hid (BlockIs wv sb 33 #[.int .i64 0, .int .i64 0]) := Lib.hid (by
        rw [← HWV.out]
        exact ((((HGB4.out.block HSA.out).far (p := ⟨jb, n * 4, none⟩) hne2 _).far (p := ⟨jb, n * 4 + 1, none⟩) hne2 _).far (p := ⟨jb, n * 4 + 2, none⟩) hne2 _).far (p := ⟨jb, n * 4 + 3, none⟩) hne2 _)
      have HGV : Hid (Grow w wv) := Lib.hid (by
        rw [← HWV.out]
        exact ((((HGA4.out.trans HGB4.out).setC (p := ⟨jb, n * 4, none⟩) (by show w.heap.size ≤ jb; omega) _).setC (p := ⟨jb, n * 4 + 1, none⟩) (by show w.heap.size ≤ jb; omega) _).setC (p := ⟨jb, n * 4 + 2, none⟩) (by show w.heap.size ≤ jb; omega) _).setC (p := ⟨jb, n * 4 + 3, none⟩) (by show w.heap.size ≤ jb; omega) _)
      have HDW : Hid (wide.d = wideD p.d wr (n : Int) xe wi) := Lib.hid (by
        rw [← hwide]
        show (⟨p.items, (qj.set n ⟨⟨nlo, nhi, ne5, xm⟩, xa, xc⟩).map JudgeR.d, nw, p.grades⟩ : PaperI) = ⟨p.items, if 0 ≤ (n : Int) ∧ (n : Int) < p.d.judges.length then p.d.judges.set (n : Int).toNat (widen (p.d.judges.getD (n : Int).toNat ⟨0, 0, 0, []⟩) xe wi) else p.d.judges, min 2 (p.wrong + wr), p.grades⟩
        have hl : p.d.judges.length = qj.length := by rw [← HQJ.out, List.length_map]
        have hg : p.d.judges.getD n ⟨0, 0, 0, []⟩ = ⟨xlo, xhi, xerr, xm⟩ := by rw [← HQJ.out, List.getD_eq_getElem?_getD, List.getElem?_map, HXX.out]; rfl
        rw [if_pos (by rw [hl]; omega), List.map_set, HQJ.out, HNW.out, Int.toNat_natCast, hg]
        unfold widen
        rw [HY1.out, HY2.out, HY3.out])
      have HSHW : Hid (Short wide) := Lib.hid (by
        obtain ⟨a1, a2, a3, a4⟩ := HSQ.out
        rw [← hwide]
        refine ⟨a1, by show (qj.set n _).length ≤ _; rw [List.length_set]; exact a2, a3, fun z hz => ?_⟩
        rcases List.mem_or_eq_of_mem_set hz with h | rfl
        · exact a4 z h
        · show xm.length ≤ _
          omega)
      clear hwide hd0 hd1 hd1'
      have HRW := Lib.hid (fun (w0 : World) (hw : Grow wv w0) => rangeApi_any wide w0 (HPW.out.grow hw) HSHW.out (HGL.out w0 ((HGV.out).trans hw)))
      have hfw := HFW.out.cell
      rcases num_cases (p := wide) (by rw [HDW.out]; exact HWO.out) with ⟨hT2, hn2, hrv2⟩ | ⟨hT2, hn2, hrv2⟩
      · rw [hn2, hrv2] at HRW
        clear hT2 hn2 hrv2
        go_wp2_with fail
        refine (HRW.out _ (Grow.refl _)).mono ?_
        rintro e wg ⟨rfl, hbg⟩
        have HGG : Hid (Grow w wg) := Lib.hid ((HGV.out).trans hbg)
        have HSG := Lib.hid ((show Grow wv wg from hbg).block (HSV.out))
        clear hbg hfw
        go_upto_region 20 with fail
        obtain ⟨wh2, hwh2, hgh2, hfh2, _⟩ := one_block wg 33 #[.int .i64 0, .int .i64 0]
        rw [hwh2]
        have HGH : Hid (Grow w wh2) := Lib.hid (HGG.out.trans hgh2)
        have hsh1 := (hgh2.block HSG.out).cell
        have hsh2 := hfh2.cell
        clear hwh2 hgh2 hfh2
        go_wp2_with fail
        refine (HWK.out _ HGH.out).mono ?_
        rintro e w9 ⟨rfl, hb9⟩
        have HG9 : Hid (Grow w w9) := Lib.hid ((HGH.out).trans hb9)
        clear hb9
        go_wp2_with fail
        go_ret
        exact ⟨rfl, HG9.out⟩
      · rw [hn2, hrv2] at HRW
        obtain ⟨⟨m1, m2⟩, hmm⟩ : ∃ z, rangeD wide.d = z := ⟨_, rfl⟩
        rw [hmm] at HRW
        clear hmm
        clear hT2 hn2 hrv2
        go_wp2_with fail
        refine (HRW.out _ (Grow.refl _)).mono ?_
        rintro e wg ⟨rfl, hbg⟩
        have HGG : Hid (Grow w wg) := Lib.hid ((HGV.out).trans hbg)
        have HSG := Lib.hid ((show Grow wv wg from hbg).block (HSV.out))
        clear hbg hfw
        go_upto_region 20 with fail
        obtain ⟨wh2, hwh2, hgh2, hfh2, _⟩ := one_block wg 33 #[.int .i64 m1, .int .i64 m2]
        rw [hwh2]
        have HGH : Hid (Grow w wh2) := Lib.hid (HGG.out.trans hgh2)
        have hsh1 := (hgh2.block HSG.out).cell
        have hsh2 := hfh2.cell
        clear hwh2 hgh2 hfh2
        go_wp2_with fail
        refine (HWK.out _ HGH.out).mono ?_
        rintro e w9 ⟨rfl, hb9⟩
        have HG9 : Hid (Grow w w9) := Lib.hid ((HGH.out).trans hb9)
        clear hb9
        go_wp2_with fail
        go_ret
        exact ⟨rfl, HG9.out⟩
  · rw [hn, hrv] at HRG
    have HTE := Lib.hid hT
    have HRP : Hid ((rangeD p.d).1 = (rangeD p.d).1) := Lib.hid rfl
    obtain ⟨⟨r1, r2⟩, hrr⟩ : ∃ z, rangeD p.d = z := ⟨_, rfl⟩
    rw [hrr] at HRG HMR HWR
    clear hn hrv hT hwrb hs hrr HRP
    go_wp2_with fail
    refine (HRG.out _ HG1.out).mono ?_
    rintro e w2 ⟨rfl, hb2⟩
    have HG2 : Hid (Grow w w2) := Lib.hid (HG1.out.trans hb2)
    have HF2 := Lib.hid ((show Grow w1 w2 from hb2).block HF1.out)
    have HM2 := Lib.hid ((show Grow w1 w2 from hb2).block HM1.out)
    clear hb2 hcc hmc HF1 HM1 hd1 hd2 hc0 hc1 hc2 hc3 hc4 hc5
    go_upto_region 4 with fail
    obtain ⟨w3, hw3, hg3, hf3, hs3⟩ := one_block w2 33 #[.int .i64 r1, .int .i64 r2]
    rw [show w2.alloc (.cells #[.int .i64 r1, .int .i64 r2] 33) = w3 from hw3]
    clear hw3
    obtain ⟨sb, hsb⟩ : ∃ z, w2.heap.size = z := ⟨_, rfl⟩
    rw [hsb] at hf3 hs3 ⊢
    have hsb1 : w.heap.size + 1 < sb := by have := HM2.out.lt; omega
    have HG3 : Hid (Grow w w3) := Lib.hid (HG2.out.trans hg3)
    have HF3 := Lib.hid (hg3.block HF2.out)
    have HM3 := Lib.hid (hg3.block HM2.out)
    have HS3 := Lib.hid hf3
    clear hg3 hf3 hsb HF2 HM2 HG2
    have hcc := HF3.out.cell
    go_wp2_with fail
    refine (HCP.out _ HG3.out).mono ?_
    rintro e wc ⟨q, rfl, hqd, hnp, hbc⟩
    obtain ⟨lo3, hlo3⟩ : ∃ z, w3.heap.size = z := ⟨_, rfl⟩
    rw [hlo3] at hnp
    have HLO := Lib.hid hlo3
    have hlow : w.heap.size ≤ lo3 := by have := HG3.out.size; omega
    have HQ := Lib.hid (HSH.out q hqd)
    have hq2 : q.judges.length ≤ 2 := by have := HQ.out.2.1; omega
    have HGC : Hid (Grow w3 wc) := Lib.hid hbc
    have HNP := Lib.hid hnp
    have HQD := Lib.hid hqd
    have hlc : lo3 ≤ wc.heap.size := by have := HGC.out.size; omega
    clear hbc hnp hcc hqd
    go_upto_region 7 with fail
    obtain ⟨wd, hwd, hgd, hfd, hsd⟩ := one_block wc 26 (cellsP q)
    rw [show wc.alloc (.cells (cellsP q) 26) = wd from hwd]
    clear hwd
    obtain ⟨cb, hcb⟩ : ∃ z, wc.heap.size = z := ⟨_, rfl⟩
    rw [hcb] at hfd hsd hlc ⊢
    have HFB := Lib.hid hfd
    have HGD : Hid (Grow w3 wd) := Lib.hid (HGC.out.trans hgd)
    have HND := Lib.hid (HNP.out.grow hgd)
    have hcd := hfd.cell
    have hmc := (HGD.out.block HM3.out).cell
    clear hgd hfd hcb
    obtain ⟨wx, hwx⟩ : ∃ z, wd.alloc (.cells (cellsJ ⟨⟨lo, hi, err, marks⟩, ma, mc⟩) 60) = z := ⟨_, rfl⟩
    have HGX : Hid (Grow wd wx) := Lib.hid (by rw [← hwx]; exact Grow.alloc _ _)
    have HJX : Hid (BlockIs wx wd.heap.size 60 (cellsJ ⟨⟨lo, hi, err, marks⟩, ma, mc⟩)) := Lib.hid (by rw [← hwx]; exact BlockIs.new _ _ _)
    have HROW := Lib.hid (own_keep HND.out.judges (.of_grow HGX.out))
    have hzx : lo3 ≤ wx.heap.size := by have := HGX.out.size; omega
    go_wp2_with (at_builtin; go_loud (refine wpList_append_own _ rfl _ _ 23 rfl lo3 60 p0 (.agg #[.int .i64 0, .int .i64 0, .int .i64 0, .slice none 0 0]) 4 48 Tryd.underlying23 hpi hpz0 hpz1 hpz2 rfl (by omega) _ q.judges.length (q.judges.flatMap cellsJL) rfl ?d0 ⟨wd.heap.size, 0, none⟩ 1 1 (cellsJL ⟨⟨lo, hi, err, marks⟩, ma, mc⟩) rfl rfl ?d1 ?d2 ?d3 ?d4 ?d5 ?_))
    case d0 => exact HROW.out
    case d1 => exact news_judge HJX.out
    case d2 => exact one_judge _
    case d3 => unfold maxLen; omega
    case d4 => omega
    case d5 => exact hzx
    intro v' w7 hown hgr _
    obtain ⟨A7, c7, rfl⟩ := own_form hown
    have HG7 : Hid (Grow w3 w7) := Lib.hid (by
      have h := below_grown (base := lo3) (by have h2 := HGD.out.trans HGX.out; have h3 := HLO.out; rw [← h3]; exact h2) HROW.out hgr hzx
      show Below w3.heap.size w3 w7
      rw [HLO.out]
      exact h)
    have KI := Lib.hid (KeepTy.grown (t := 3) HROW.out hgr (by decide))
    have KL := Lib.hid (KeepTy.grown (t := 78) HROW.out hgr (by decide))
    have KC := Lib.hid (KeepTy.grown (t := 26) HROW.out hgr (by decide))
    have HOB := Lib.hid (KC.out _ _ (HGX.out.block HFB.out))
    obtain ⟨w8, hw8⟩ : ∃ z, w7.setCell ⟨cb, 1, none⟩ (.slice A7 (q.judges.length + 1) c7) = z := ⟨_, rfl⟩
    obtain ⟨more, hmore⟩ : ∃ z : PaperR, ⟨q.items, q.judges ++ [⟨⟨lo, hi, err, marks⟩, ma, mc⟩], q.wrong, q.grades, q.ia, q.ic, A7, c7, q.ga, q.gc⟩ = z := ⟨_, rfl⟩
    have HOWN := Lib.hid hown
    have HG8 : Hid (Grow w3 w8) := Lib.hid (by rw [← hw8]; exact HG7.out.setC (p := ⟨cb, 1, none⟩) (by have := HLO.out; show w3.heap.size ≤ cb; omega) _)
    have HM8 : Hid (BlockIs w8 cb 26 (cellsP more)) := Lib.hid (by
      rw [← hw8, ← hmore]
      show BlockIs _ cb _ #[_, .slice A7 (q.judges ++ [(⟨⟨lo, hi, err, marks⟩, ma, mc⟩ : JudgeR)]).length c7, _, _]
      rw [List.length_append]
      exact HOB.out.near 1 _)
    have HP8 : Hid (PaperAt w8 w8.heap.size more) := Lib.hid (by
      have S1 := KeepTy.store HOB.out (t := 3) (by decide) 1 (.slice A7 (q.judges.length + 1) c7)
      have S2 := KeepTy.store HOB.out (t := 78) (by decide) 1 (.slice A7 (q.judges.length + 1) c7)
      have S3 := KeepTy.store HOB.out (t := 60) (by decide) 1 (.slice A7 (q.judges.length + 1) c7)
      rw [hw8] at S1 S2 S3
      rw [← hmore]
      refine at_own (lo := lo3) (own_keep HND.out.items (((KeepTy.of_grow HGX.out).trans KL.out).trans S2)) ?_ (fun x hx => ?_) (own_keep HND.out.grades (((KeepTy.of_grow HGX.out).trans KI.out).trans S1))
      · have h := own_keep HOWN.out S3
        show World.ownsRow _ _ _ _ (.slice A7 (q.judges ++ [(⟨⟨lo, hi, err, marks⟩, ma, mc⟩ : JudgeR)]).length c7) (q.judges ++ [(⟨⟨lo, hi, err, marks⟩, ma, mc⟩ : JudgeR)]).length _
        rw [List.length_append, List.flatMap_append, List.flatMap_singleton]
        exact h
      · rcases List.mem_append.1 hx with h | h
        · exact (HND.out.rows.keep (((KeepTy.of_grow HGX.out).trans KI.out).trans S1)).mem h
        · obtain rfl := List.mem_singleton.1 h
          exact HMK.out w8 (HG3.out.trans HG8.out))
    have HMD : Hid (more.d = moreD p.d ⟨lo, hi, err, marks⟩) := Lib.hid (by
      rw [← hmore, ← HQD.out]
      show (⟨q.items, (q.judges ++ [(⟨⟨lo, hi, err, marks⟩, ma, mc⟩ : JudgeR)]).map JudgeR.d, q.wrong, q.grades⟩ : PaperI) = ⟨q.items, q.judges.map JudgeR.d ++ [⟨lo, hi, err, marks⟩], q.wrong, q.grades⟩
      rw [List.map_append]
      rfl)
    have HSM : Hid (Short more) := Lib.hid (by
      obtain ⟨a1, a2, a3, a4⟩ := HQ.out
      rw [← hmore]
      have b1 : p.items.length ≤ 4 := G.i4
      have b3 : p.grades.length ≤ 5 := G.gr
      refine ⟨by show q.items.length ≤ _; omega, by show (q.judges ++ [(⟨⟨lo, hi, err, marks⟩, ma, mc⟩ : JudgeR)]).length ≤ _; rw [List.length_append]; show q.judges.length + 1 ≤ _; omega, by show q.grades.length ≤ _; omega, fun x hx => ?_⟩
      rcases List.mem_append.1 hx with h | h
      · have := (a4 x h).1; omega
      · obtain rfl := List.mem_singleton.1 h
        show marks.length ≤ _
        omega)
    have HCM := Lib.hid (fun (w0 : World) (hw : Grow w8 w0) => rCheck_any more w0 (HP8.out.grow hw) HSM.out)
    have HRM := Lib.hid (fun (w0 : World) (hw : Grow w8 w0) => rangeApi_any more w0 (HP8.out.grow hw) HSM.out (HGL.out w0 ((HG3.out.trans HG8.out).trans hw)))
    have HEr2 : Hid (paperErr more = if okPaper more.d then 0 else 90) := Lib.hid rfl
    have HNC := Lib.hid (fun (h : okPaper more.d = true) => num_cases h)
    have HMr2 : Hid (okPaper more.d = true → truthsL more.d ≠ [] → truthsL p.d ≠ [] ∧ (r1 ≤ (rangeD more.d).1 ∧ (rangeD more.d).2 ≤ r2)) := Lib.hid (fun h1 h2 => by rw [HMD.out] at h1 h2 ⊢; exact HMR.out _ h1 h2)
    have hoc := HOB.out.cell
    have hof := HOB.out.frozen
    clear hown hgr HROW HOWN KI KL KC HOB hmore  hcd
    obtain ⟨er2, her2⟩ : ∃ z, paperErr more = z := ⟨_, rfl⟩
    rw [her2] at HCM HEr2
    clear her2
    go_upto_region 8 with fail
    clear hw8 hoc hof
    have hmo := HM8.out.cell
    go_wp2_with fail
    refine (HCM.out _ (Grow.refl _)).mono ?_
    rintro e w10 ⟨rfl, hb10⟩
    have HG10 : Hid (Grow w8 w10) := Lib.hid hb10
    have HM10 := Lib.hid ((show Grow w8 w10 from hb10).block HM8.out)
    clear hb10 hmo
    have hmo := HM10.out.cell
    have hs10 := ((HG8.out.trans HG10.out).block HS3.out).cell
    obtain ⟨ck, hck⟩ : ∃ z, (er2 == 0) = z := ⟨_, rfl⟩
    have HCK := Lib.hid hck
    go_upto_if 83 with fail
    clear hck
    go_cut [8, 9] (fun _ _ wx => Grow w10 wx)
    case first =>
      cases hok2 : okPaper more.d with
      | false =>
        have h90 : er2 = 90 := by rw [HEr2.out, hok2]; rfl
        obtain rfl : ck = false := by rw [← HCK.out, h90]; rfl
        clear h90
        go_wp2
        go_meet
        exact Grow.refl _
      | true =>
        have h00 : er2 = 0 := by rw [HEr2.out, hok2]; rfl
        obtain rfl : ck = true := by rw [← HCK.out, h00]; rfl
        have HMR3 := Lib.hid (HMr2.out hok2)
        have HNC2 := Lib.hid (HNC.out hok2)
        clear h00 hok2
        rcases HNC2.out with ⟨hT, hn, hrv⟩ | ⟨hT, hn, hrv⟩
        · rw [hn, hrv] at HRM
          clear hT hn hrv
          go_wp2_with fail
          refine (HRM.out _ HG10.out).mono ?_
          rintro e w11 ⟨rfl, hb11⟩
          have HG11 : Hid (Grow w10 w11) := Lib.hid hb11
          clear hb11
          go_upto_region 10 with fail
          have HG12 : Hid (Grow w10 (w11.alloc (.cells #[.int .i64 0, .int .i64 0] 33))) := Lib.hid (HG11.out.trans (Grow.alloc _ _))
          go_wp2
          go_meet
          exact HG12.out
        · have hb := (HMR3.out hT).2
          rw [hn, hrv] at HRM
          obtain ⟨⟨m1, m2⟩, hmm⟩ : ∃ z, rangeD more.d = z := ⟨_, rfl⟩
          rw [hmm] at HRM hb
          have hb1 : decide (m1 < r1) = false := decide_eq_false (by have := hb.1; show ¬ m1 < r1; dsimp only at this; omega)
          have hb2 : decide (r2 < m2) = false := decide_eq_false (by have := hb.2; show ¬ r2 < m2; dsimp only at this; omega)
          clear hT hn hrv hmm hb
          go_wp2_with fail
          refine (HRM.out _ HG10.out).mono ?_
          rintro e w11 ⟨rfl, hb11⟩
          have HG11 : Hid (Grow w10 w11) := Lib.hid hb11
          have HS11 := Lib.hid ((show Grow w10 w11 from hb11).block ((HG8.out.trans HG10.out).block HS3.out))
          clear hb11
          go_upto_region 10 with fail
          obtain ⟨w12, hw12, hg12, hf12, _⟩ := one_block w11 33 #[.int .i64 m1, .int .i64 m2]
          rw [hw12]
          have HG12 : Hid (Grow w10 w12) := Lib.hid (HG11.out.trans hg12)
          have hs12 := (hg12.block HS11.out).cell
          have hf12c := hf12.cell
          clear hw12 hg12 hf12
          go_wp2
          go_meet
          exact HG12.out
    case rest =>
      have hgx := hcut
      rename World => wx
      have HGX2 : Hid (Grow w3 wx) := Lib.hid ((HG8.out.trans HG10.out).trans hgx)
      clear hcut hgx hmo hs10 HMr2 HNC HRM HCM HEr2 HCK HM8 HM10 HP8 HSM HMD HG8 HG10 HG7 HND HGD HGX HJX HFB HNP HGC
      have HF4 := Lib.hid (HGX2.out.block HF3.out)
      have HM4 := Lib.hid (HGX2.out.block HM3.out)
      have HS4 := Lib.hid (HGX2.out.block HS3.out)
      have HG4 : Hid (Grow w wx) := Lib.hid (HG3.out.trans HGX2.out)
      have hcc := HF4.out.cell
      clear HF3 HM3 HS3 HGX2 HQ hq2 HQD hlc hzx
      go_wp2_with fail
      refine (HCP.out _ HG4.out).mono ?_
      rintro e wy ⟨q2, rfl, hqd2, hnp2, hby⟩
      have HQ2 := Lib.hid (HSH.out q2 hqd2)
      obtain ⟨qi, qj, qw, qg, ia, ic, ja, jc, ga, gc⟩ := q2
      obtain rfl : qi = p.items := congrArg PaperI.items hqd2
      obtain rfl : qw = p.wrong := congrArg PaperI.wrong hqd2
      obtain rfl : qg = p.grades := congrArg PaperI.grades hqd2
      have HQJ : Hid (qj.map JudgeR.d = p.d.judges) := Lib.hid (congrArg PaperI.judges hqd2)
      obtain ⟨lo4, hlo4⟩ : ∃ z, wx.heap.size = z := ⟨_, rfl⟩
      rw [hlo4] at hnp2
      have hlow4 : w.heap.size + 1 < lo4 := by have := HM4.out.lt; omega
      have hsb4 : sb < lo4 := by have := HS4.out.lt; omega
      have HGY : Hid (Grow wx wy) := Lib.hid hby
      have HNY := Lib.hid hnp2
      have hly : lo4 ≤ wy.heap.size := by have := HGY.out.size; omega
      have HLO4 := Lib.hid hlo4
      have hqj2 : qj.length ≤ 2 := by have : qj.length = p.judges.length := HQ2.out.2.1; omega
      clear hqd2 hnp2 hby hlo4 hcc
      go_upto_region 13 with fail
      obtain ⟨wz, hwz, hgz, hfz, hsz2⟩ := one_block wy 26 (cellsP ⟨p.items, qj, p.wrong, p.grades, ia, ic, ja, jc, ga, gc⟩)
      rw [show wy.alloc (.cells (cellsP ⟨p.items, qj, p.wrong, p.grades, ia, ic, ja, jc, ga, gc⟩) 26) = wz from hwz]
      clear hwz
      obtain ⟨eb, heb⟩ : ∃ z, wy.heap.size = z := ⟨_, rfl⟩
      rw [heb] at hfz hsz2 hly ⊢
      have HFZ := Lib.hid hfz
      have HGZ : Hid (Grow wx wz) := Lib.hid (HGY.out.trans hgz)
      have HNZ := Lib.hid (HNY.out.grow hgz)
      have hcz := hfz.cell
      have hcf := hfz.frozen
      have hmc := (HGZ.out.block HM4.out).cell
      clear hgz hfz heb HNY HGY
      go_upto_region 14 with fail
      obtain ⟨wa, hwa⟩ : ∃ z, wz.setCell ⟨eb, 2, none⟩ (.int .i64 nw) = z := ⟨_, rfl⟩
      have HFA : Hid (BlockIs wa eb 26 #[.slice ia p.items.length ic, .slice ja qj.length jc, .int .i64 nw, .slice ga p.grades.length gc]) := Lib.hid (by rw [← hwa]; exact HFZ.out.near 2 _)
      have HGA' : Hid (Grow wx wa) := Lib.hid (by rw [← hwa]; exact HGZ.out.setC (p := ⟨eb, 2, none⟩) (by have := HLO4.out; show wx.heap.size ≤ eb; omega) _)
      have HGA4 : Hid (Grow w wa) := Lib.hid (HG4.out.trans HGA'.out)
      have HIA := Lib.hid (own_keep HNZ.out.items (by have h := KeepTy.store HFZ.out (t := 78) (by decide) 2 (.int .i64 nw); rwa [hwa] at h))
      have HJA := Lib.hid (own_keep HNZ.out.judges (by have h := KeepTy.store HFZ.out (t := 60) (by decide) 2 (.int .i64 nw); rwa [hwa] at h))
      have HGA := Lib.hid (own_keep HNZ.out.grades (by have h := KeepTy.store HFZ.out (t := 3) (by decide) 2 (.int .i64 nw); rwa [hwa] at h))
      have HRA := Lib.hid (HNZ.out.rows.keep (by have h := KeepTy.store HFZ.out (t := 3) (by decide) 2 (.int .i64 nw); rwa [hwa] at h))
      have HMA := Lib.hid (HGA'.out.block HM4.out)
      have HSA := Lib.hid (HGA'.out.block HS4.out)
      have HSQ : Hid (Short ⟨p.items, qj, nw, p.grades, ia, ic, ja, jc, ga, gc⟩) := Lib.hid (by
        have b1 : p.items.length ≤ 4 := G.i4
        have b3 : p.grades.length ≤ 5 := G.gr
        refine ⟨by show p.items.length ≤ _; omega, by show qj.length ≤ _; omega, by show p.grades.length ≤ _; omega, fun x hx => ?_⟩
        have := (HQ2.out.2.2.2 x hx).1
        omega)
      rw [hwa]
      clear hwa hcz hcf hmc HNZ HFZ HGZ HM4 HS4 HF4
      have hmc := HMA.out.cell
      have hfc := HFA.out.cell
      by_cases h0 : wh < 0
      · have hd0 : decide (0 ≤ wh) = false := decide_eq_false (by omega)
        obtain ⟨wide, hwide⟩ : ∃ z : PaperR, ⟨p.items, qj, nw, p.grades, ia, ic, ja, jc, ga, gc⟩ = z := ⟨_, rfl⟩
        have HFW : Hid (BlockIs wa eb 26 (cellsP wide)) := Lib.hid (by rw [← hwide]; exact HFA.out)
        have HPW : Hid (PaperAt wa wa.heap.size wide) := Lib.hid (by rw [← hwide]; exact at_own (lo := lo4) HIA.out HJA.out (fun x hx => HRA.out.mem hx) HGA.out)
        have HDW : Hid (wide.d = wideD p.d wr wh xe wi) := Lib.hid (by
          rw [← hwide]
          show (⟨p.items, qj.map JudgeR.d, nw, p.grades⟩ : PaperI) = ⟨p.items, if 0 ≤ wh ∧ wh < p.d.judges.length then p.d.judges.set wh.toNat (widen (p.d.judges.getD wh.toNat ⟨0, 0, 0, []⟩) xe wi) else p.d.judges, min 2 (p.wrong + wr), p.grades⟩
          have hl : p.d.judges.length = qj.length := by rw [← HQJ.out, List.length_map]
          rw [if_neg (by rw [hl]; omega), HQJ.out, HNW.out])
        have HSHW : Hid (Short wide) := Lib.hid (by rw [← hwide]; exact HSQ.out)
        clear hwide hfc
        have HRW := Lib.hid (fun (w0 : World) (hw : Grow wa w0) => rangeApi_any wide w0 (HPW.out.grow hw) HSHW.out (HGL.out w0 ((HGA4.out).trans hw)))
        have hfw := HFW.out.cell
        rcases num_cases (p := wide) (by rw [HDW.out]; exact HWO.out) with ⟨hT2, hn2, hrv2⟩ | ⟨hT2, hn2, hrv2⟩
        · exact absurd hT2 (by rw [HDW.out]; exact (HWR.out HTE.out).1)
        · have HBW : Hid ((rangeD wide.d).1 ≤ r1 ∧ r2 ≤ (rangeD wide.d).2) := Lib.hid (by rw [HDW.out]; exact (HWR.out HTE.out).2)
          rw [hn2, hrv2] at HRW
          obtain ⟨⟨m1, m2⟩, hmm⟩ : ∃ z, rangeD wide.d = z := ⟨_, rfl⟩
          rw [hmm] at HRW HBW
          have hb1 : decide (m1 ≤ r1) = true := decide_eq_true (by have := HBW.out.1; dsimp only at this; omega)
          have hb2 : decide (r2 ≤ m2) = true := decide_eq_true (by have := HBW.out.2; dsimp only at this; omega)
          clear hmm
          clear hT2 hn2 hrv2
          go_wp2_with fail
          refine (HRW.out _ (Grow.refl _)).mono ?_
          rintro e wg ⟨rfl, hbg⟩
          have HGG : Hid (Grow w wg) := Lib.hid ((HGA4.out).trans hbg)
          have HSG := Lib.hid ((show Grow wa wg from hbg).block (HSA.out))
          clear hbg hfw
          go_upto_region 20 with fail
          obtain ⟨wh2, hwh2, hgh2, hfh2, _⟩ := one_block wg 33 #[.int .i64 m1, .int .i64 m2]
          rw [hwh2]
          have HGH : Hid (Grow w wh2) := Lib.hid (HGG.out.trans hgh2)
          have hsh1 := (hgh2.block HSG.out).cell
          have hsh2 := hfh2.cell
          clear hwh2 hgh2 hfh2
          go_wp2_with fail
          refine (HWK.out _ HGH.out).mono ?_
          rintro e w9 ⟨rfl, hb9⟩
          have HG9 : Hid (Grow w w9) := Lib.hid ((HGH.out).trans hb9)
          clear hb9
          go_wp2_with fail
          go_ret
          exact ⟨rfl, HG9.out⟩
      have hd0 : decide (0 ≤ wh) = true := decide_eq_true (by omega)
      by_cases h1 : (qj.length : Int) ≤ wh
      · have hd1 : decide (wh < (qj.length : Int)) = false := decide_eq_false (by omega)
        obtain ⟨wide, hwide⟩ : ∃ z : PaperR, ⟨p.items, qj, nw, p.grades, ia, ic, ja, jc, ga, gc⟩ = z := ⟨_, rfl⟩
        have HFW : Hid (BlockIs wa eb 26 (cellsP wide)) := Lib.hid (by rw [← hwide]; exact HFA.out)
        have HPW : Hid (PaperAt wa wa.heap.size wide) := Lib.hid (by rw [← hwide]; exact at_own (lo := lo4) HIA.out HJA.out (fun x hx => HRA.out.mem hx) HGA.out)
        have HDW : Hid (wide.d = wideD p.d wr wh xe wi) := Lib.hid (by
          rw [← hwide]
          show (⟨p.items, qj.map JudgeR.d, nw, p.grades⟩ : PaperI) = ⟨p.items, if 0 ≤ wh ∧ wh < p.d.judges.length then p.d.judges.set wh.toNat (widen (p.d.judges.getD wh.toNat ⟨0, 0, 0, []⟩) xe wi) else p.d.judges, min 2 (p.wrong + wr), p.grades⟩
          have hl : p.d.judges.length = qj.length := by rw [← HQJ.out, List.length_map]
          rw [if_neg (by rw [hl]; omega), HQJ.out, HNW.out])
        have HSHW : Hid (Short wide) := Lib.hid (by rw [← hwide]; exact HSQ.out)
        have hd1w : decide (wh < (wide.judges.length : Int)) = false := by
          rw [← hwide]
          exact hd1
        clear hwide hfc
        have HRW := Lib.hid (fun (w0 : World) (hw : Grow wa w0) => rangeApi_any wide w0 (HPW.out.grow hw) HSHW.out (HGL.out w0 ((HGA4.out).trans hw)))
        have hfw := HFW.out.cell
        rcases num_cases (p := wide) (by rw [HDW.out]; exact HWO.out) with ⟨hT2, hn2, hrv2⟩ | ⟨hT2, hn2, hrv2⟩
        · exact absurd hT2 (by rw [HDW.out]; exact (HWR.out HTE.out).1)
        · have HBW : Hid ((rangeD wide.d).1 ≤ r1 ∧ r2 ≤ (rangeD wide.d).2) := Lib.hid (by rw [HDW.out]; exact (HWR.out HTE.out).2)
          rw [hn2, hrv2] at HRW
          obtain ⟨⟨m1, m2⟩, hmm⟩ : ∃ z, rangeD wide.d = z := ⟨_, rfl⟩
          rw [hmm] at HRW HBW
          have hb1 : decide (m1 ≤ r1) = true := decide_eq_true (by have := HBW.out.1; dsimp only at this; omega)
          have hb2 : decide (r2 ≤ m2) = true := decide_eq_true (by have := HBW.out.2; dsimp only at this; omega)
          clear hmm
          clear hT2 hn2 hrv2
          go_wp2_with fail
          refine (HRW.out _ (Grow.refl _)).mono ?_
          rintro e wg ⟨rfl, hbg⟩
          have HGG : Hid (Grow w wg) := Lib.hid ((HGA4.out).trans hbg)
          have HSG := Lib.hid ((show Grow wa wg from hbg).block (HSA.out))
          clear hbg hfw
          go_upto_region 20 with fail
          obtain ⟨wh2, hwh2, hgh2, hfh2, _⟩ := one_block wg 33 #[.int .i64 m1, .int .i64 m2]
          rw [hwh2]
          have HGH : Hid (Grow w wh2) := Lib.hid (HGG.out.trans hgh2)
          have hsh1 := (hgh2.block HSG.out).cell
          have hsh2 := hfh2.cell
          clear hwh2 hgh2 hfh2
          go_wp2_with fail
          refine (HWK.out _ HGH.out).mono ?_
          rintro e w9 ⟨rfl, hb9⟩
          have HG9 : Hid (Grow w w9) := Lib.hid ((HGH.out).trans hb9)
          clear hb9
          go_wp2_with fail
          go_ret
          exact ⟨rfl, HG9.out⟩
      have hd1 : decide (wh < (qj.length : Int)) = true := decide_eq_true (by omega)
      obtain ⟨n, rfl⟩ : ∃ n : Nat, wh = (n : Int) := ⟨wh.toNat, by omega⟩
      have hn : n < qj.length := by omega
      have hn0 : (0 : Int) ≤ (n : Int) := by omega
      have hn1 : (n : Int) < (qj.length : Int) := by omega
      have hd1' : decide (n < qj.length) = true := decide_eq_true hn
      rcases own_flat (enc := cellsJL) (fun _ => rfl) HJA.out rfl with e | ⟨jb, cs, hja, hjb, hB, hcap, hcs, hc⟩
      · have e : qj = [] := e
        rw [e] at hn
        exact absurd hn (by simp)
      dsimp only at hja
      subst hja
      have hx : qj[n]? = some qj[n] := List.getElem?_eq_getElem hn
      obtain ⟨⟨⟨xlo, xhi, xerr, xm⟩, xa, xc⟩, hxx⟩ : ∃ x, qj[n] = x := ⟨_, rfl⟩
      rw [hxx] at hx
      have HXX := Lib.hid hx
      obtain ⟨hx4, ⟨hl1, hl2, hl3⟩, hl4, hl5⟩ := HQ2.out.2.2.2 _ (List.mem_of_getElem? hx)
      dsimp only at hx4 hl1 hl2 hl3 hl4 hl5
      have e0 : wa.cell? ⟨jb, n * 4, none⟩ = some (.int .i64 xlo) := (hB.cell _).trans (hc n _ hx 0 (by omega))
      have e1 : wa.cell? ⟨jb, n * 4 + 1, none⟩ = some (.int .i64 xhi) := (hB.cell _).trans (hc n _ hx 1 (by omega))
      have e2 : wa.cell? ⟨jb, n * 4 + 2, none⟩ = some (.int .i64 xerr) := (hB.cell _).trans (hc n _ hx 2 (by omega))
      have e3 : wa.cell? ⟨jb, n * 4 + 3, none⟩ = some (.slice xa xm.length xc) := (hB.cell _).trans (hc n _ hx 3 (by omega))
      have HB := Lib.hid hB
      have HCS := Lib.hid hcs
      have HCC := Lib.hid hc
      have HCAP := Lib.hid hcap
      have hjlt : jb < wa.heap.size := hB.lt
      obtain ⟨ne5, hne5⟩ : ∃ z, (if xerr + xe < 5 then xerr + xe else 5) = z := ⟨_, rfl⟩
      obtain ⟨nlo, hnlo⟩ : ∃ z, (if -3 < xlo - wi then xlo - wi else -3) = z := ⟨_, rfl⟩
      obtain ⟨nhi, hnhi⟩ : ∃ z, (if xhi + wi < 3 then xhi + wi else 3) = z := ⟨_, rfl⟩
      have HY1 : Hid (ne5 = min 5 (xerr + xe)) := Lib.hid (by rw [← hne5]; split <;> omega)
      have HY2 : Hid (nlo = max (-3) (xlo - wi)) := Lib.hid (by rw [← hnlo]; split <;> omega)
      have HY3 : Hid (nhi = min 3 (xhi + wi)) := Lib.hid (by rw [← hnhi]; split <;> omega)
      have hw1 : IntKind.i64.wrap (xerr + xe) = xerr + xe := IntWalk.i64_in _ (by omega)
      have hw2 : IntKind.i64.wrap (xlo - wi) = xlo - wi := IntWalk.i64_in _ (by omega)
      have hw3 : IntKind.i64.wrap (xhi + wi) = xhi + wi := IntWalk.i64_in _ (by omega)
      clear hx hxx hB hc hcs hcap
      go_upto_region 16 with fail
      obtain ⟨wb, hwb, hgb, hfb, hsb2⟩ := one_block wa 60 (cellsJ ⟨⟨xlo, xhi, xerr, xm⟩, xa, xc⟩)
      rw [show wa.alloc (.cells #[.int .i64 xlo, .int .i64 xhi, .int .i64 xerr, .slice xa xm.length xc] 60) = wb from hwb]
      clear hwb
      obtain ⟨kb, hkb⟩ : ∃ z, wa.heap.size = z := ⟨_, rfl⟩
      rw [hkb] at hfb hsb2 hjlt ⊢
      have hekb : eb < kb := by have := HFA.out.lt; omega
      have hkbl : wa.heap.size ≤ kb := by omega
      have HFB := Lib.hid hfb
      have HGB := Lib.hid hgb
      have hkc := hfb.cell
      have hkf := hfb.frozen
      have hmc := (hgb.block HMA.out).cell
      clear hfb hgb hkb e0 e1 e2 e3 hfc
      go_upto_region 17 with fail
      obtain ⟨wb2, hwb2⟩ : ∃ z, wb.setCell ⟨kb, 2, none⟩ (.int .i64 ne5) = z := ⟨_, rfl⟩
      have HFB2 : Hid (BlockIs wb2 kb 60 #[.int .i64 xlo, .int .i64 xhi, .int .i64 ne5, .slice xa xm.length xc]) := Lib.hid (by rw [← hwb2]; exact HFB.out.near 2 _)
      have HGB2 : Hid (Grow wa wb2) := Lib.hid (by rw [← hwb2]; exact HGB.out.setC (p := ⟨kb, 2, none⟩) (by show wa.heap.size ≤ kb; omega) _)
      rw [hwb2]
      clear hwb2 hkc hkf hmc HFB HGB
      have hkc := HFB2.out.cell
      have hmc := (HGB2.out.block HMA.out).cell
      go_wp2_with fail
      refine (span_any _ _ _).mono ?_
      rintro e wb3 ⟨rfl, hb3⟩
      have HFB3 := Lib.hid ((show Grow wb2 wb3 from hb3).block HFB2.out)
      have HGB3 : Hid (Grow wa wb3) := Lib.hid (HGB2.out.trans hb3)
      clear hb3 hkc hmc
      have hkc := HFB3.out.cell
      have hkf := HFB3.out.frozen
      go_upto_region 18 with fail
      obtain ⟨wb4, hwb4⟩ : ∃ z, (wb3.setCell ⟨kb, 0, none⟩ (.int .i64 nlo)).setCell ⟨kb, 1, none⟩ (.int .i64 nhi) = z := ⟨_, rfl⟩
      have HFB4 : Hid (BlockIs wb4 kb 60 #[.int .i64 nlo, .int .i64 nhi, .int .i64 ne5, .slice xa xm.length xc]) := Lib.hid (by rw [← hwb4]; exact (HFB3.out.near 0 _).near 1 _)
      have HGB4 : Hid (Grow wa wb4) := Lib.hid (by rw [← hwb4]; exact (HGB3.out.setC (p := ⟨kb, 0, none⟩) (by show wa.heap.size ≤ kb; omega) _).setC (p := ⟨kb, 1, none⟩) (by show wa.heap.size ≤ kb; omega) _)
      rw [hwb4]
      clear hwb4 hkc hkf HFB2 HFB3 HGB2 HGB3
      have hkc := HFB4.out.cell
      have hmc := (HGB4.out.block HMA.out).cell
      have HJB4 := Lib.hid (HGB4.out.block HB.out)
      have hfc := (HGB4.out.block HFA.out).cell
      have hjf := HJB4.out.frozen
      have e0 : wb4.cell? ⟨jb, n * 4, none⟩ = some (.int .i64 xlo) := (HJB4.out.cell _).trans (HCC.out n _ HXX.out 0 (by omega))
      have e1 : wb4.cell? ⟨jb, n * 4 + 1, none⟩ = some (.int .i64 xhi) := (HJB4.out.cell _).trans (HCC.out n _ HXX.out 1 (by omega))
      have e2 : wb4.cell? ⟨jb, n * 4 + 2, none⟩ = some (.int .i64 xerr) := (HJB4.out.cell _).trans (HCC.out n _ HXX.out 2 (by omega))
      have e3 : wb4.cell? ⟨jb, n * 4 + 3, none⟩ = some (.slice xa xm.length xc) := (HJB4.out.cell _).trans (HCC.out n _ HXX.out 3 (by omega))
      go_upto_region 19 with fail
      obtain ⟨wv, hwv⟩ : ∃ z, (((wb4.setCell ⟨jb, n * 4, none⟩ (.int .i64 nlo)).setCell ⟨jb, n * 4 + 1, none⟩ (.int .i64 nhi)).setCell ⟨jb, n * 4 + 2, none⟩ (.int .i64 ne5)).setCell ⟨jb, n * 4 + 3, none⟩ (.slice xa xm.length xc) = z := ⟨_, rfl⟩
      have HWV := Lib.hid hwv
      rw [hwv]
      clear hwv hkc hmc hfc hjf e0 e1 e2 e3 hne5 hnlo hnhi hw1 hw2 hw3
      obtain ⟨wide, hwide⟩ : ∃ z : PaperR, ⟨p.items, qj.set n ⟨⟨nlo, nhi, ne5, xm⟩, xa, xc⟩, nw, p.grades, ia, ic, some ⟨jb, 0, none⟩, jc, ga, gc⟩ = z := ⟨_, rfl⟩
      have hne1 : eb ≠ jb := block_ne HFA.out HB.out (by decide)
      have hne2 : sb ≠ jb := by omega
      have HPW : Hid (PaperAt wv wv.heap.size wide) := Lib.hid (by
        rw [← hwide]
        exact at_set (p := ⟨p.items, qj, p.wrong, p.grades, ia, ic, some ⟨jb, 0, none⟩, jc, ga, gc⟩) (lo := lo4) (y := ⟨⟨nlo, nhi, ne5, xm⟩, xa, xc⟩) (own_keep HIA.out (.of_grow HGB4.out)) HJB4.out rfl (by have h1 := HCS.out; have h2 : qj.length ≤ jc := HCAP.out; show qj.length * 4 ≤ _; omega) HCC.out hn (HRA.out.keep (.of_grow HGB4.out)) HXX.out rfl rfl (own_keep HGA.out (.of_grow HGB4.out)) nw wv HWV.out)
      have HFW : Hid (BlockIs wv eb 26 (cellsP wide)) := Lib.hid (by
        rw [← hwide, ← HWV.out]
        show BlockIs _ eb _ #[_, .slice (some ⟨jb, 0, none⟩) (qj.set n ⟨⟨nlo, nhi, ne5, xm⟩, xa, xc⟩).length jc, _, _]
        rw [List.length_set]
        exact ((((HGB4.out.block HFA.out).far (p := ⟨jb, n * 4, none⟩) hne1 _).far (p := ⟨jb, n * 4 + 1, none⟩) hne1 _).far (p := ⟨jb, n * 4 + 2, none⟩) hne1 _).far (p := ⟨jb, n * 4 + 3, none⟩) hne1 _)
      have HSV : Hid (BlockIs wv sb 33 #[.int .i64 r1, .int .i64 r2]) := Lib.hid (by
        rw [← HWV.out]
        exact ((((HGB4.out.block HSA.out).far (p := ⟨jb, n * 4, none⟩) hne2 _).far (p := ⟨jb, n * 4 + 1, none⟩) hne2 _).far (p := ⟨jb, n * 4 + 2, none⟩) hne2 _).far (p := ⟨jb, n * 4 + 3, none⟩) hne2 _)
      have HGV : Hid (Grow w wv) := Lib.hid (by
        rw [← HWV.out]
        exact ((((HGA4.out.trans HGB4.out).setC (p := ⟨jb, n * 4, none⟩) (by show w.heap.size ≤ jb; omega) _).setC (p := ⟨jb, n * 4 + 1, none⟩) (by show w.heap.size ≤ jb; omega) _).setC (p := ⟨jb, n * 4 + 2, none⟩) (by show w.heap.size ≤ jb; omega) _).setC (p := ⟨jb, n * 4 + 3, none⟩) (by show w.heap.size ≤ jb; omega) _)
      have HDW : Hid (wide.d = wideD p.d wr (n : Int) xe wi) := Lib.hid (by
        rw [← hwide]
        show (⟨p.items, (qj.set n ⟨⟨nlo, nhi, ne5, xm⟩, xa, xc⟩).map JudgeR.d, nw, p.grades⟩ : PaperI) = ⟨p.items, if 0 ≤ (n : Int) ∧ (n : Int) < p.d.judges.length then p.d.judges.set (n : Int).toNat (widen (p.d.judges.getD (n : Int).toNat ⟨0, 0, 0, []⟩) xe wi) else p.d.judges, min 2 (p.wrong + wr), p.grades⟩
        have hl : p.d.judges.length = qj.length := by rw [← HQJ.out, List.length_map]
        have hg : p.d.judges.getD n ⟨0, 0, 0, []⟩ = ⟨xlo, xhi, xerr, xm⟩ := by rw [← HQJ.out, List.getD_eq_getElem?_getD, List.getElem?_map, HXX.out]; rfl
        rw [if_pos (by rw [hl]; omega), List.map_set, HQJ.out, HNW.out, Int.toNat_natCast, hg]
        unfold widen
        rw [HY1.out, HY2.out, HY3.out])
      have HSHW : Hid (Short wide) := Lib.hid (by
        obtain ⟨a1, a2, a3, a4⟩ := HSQ.out
        rw [← hwide]
        refine ⟨a1, by show (qj.set n _).length ≤ _; rw [List.length_set]; exact a2, a3, fun z hz => ?_⟩
        rcases List.mem_or_eq_of_mem_set hz with h | rfl
        · exact a4 z h
        · show xm.length ≤ _
          omega)
      clear hwide hd0 hd1 hd1'
      have HRW := Lib.hid (fun (w0 : World) (hw : Grow wv w0) => rangeApi_any wide w0 (HPW.out.grow hw) HSHW.out (HGL.out w0 ((HGV.out).trans hw)))
      have hfw := HFW.out.cell
      rcases num_cases (p := wide) (by rw [HDW.out]; exact HWO.out) with ⟨hT2, hn2, hrv2⟩ | ⟨hT2, hn2, hrv2⟩
      · exact absurd hT2 (by rw [HDW.out]; exact (HWR.out HTE.out).1)
      · have HBW : Hid ((rangeD wide.d).1 ≤ r1 ∧ r2 ≤ (rangeD wide.d).2) := Lib.hid (by rw [HDW.out]; exact (HWR.out HTE.out).2)
        rw [hn2, hrv2] at HRW
        obtain ⟨⟨m1, m2⟩, hmm⟩ : ∃ z, rangeD wide.d = z := ⟨_, rfl⟩
        rw [hmm] at HRW HBW
        have hb1 : decide (m1 ≤ r1) = true := decide_eq_true (by have := HBW.out.1; dsimp only at this; omega)
        have hb2 : decide (r2 ≤ m2) = true := decide_eq_true (by have := HBW.out.2; dsimp only at this; omega)
        clear hmm
        clear hT2 hn2 hrv2
        go_wp2_with fail
        refine (HRW.out _ (Grow.refl _)).mono ?_
        rintro e wg ⟨rfl, hbg⟩
        have HGG : Hid (Grow w wg) := Lib.hid ((HGV.out).trans hbg)
        have HSG := Lib.hid ((show Grow wv wg from hbg).block (HSV.out))
        clear hbg hfw
        go_upto_region 20 with fail
        obtain ⟨wh2, hwh2, hgh2, hfh2, _⟩ := one_block wg 33 #[.int .i64 m1, .int .i64 m2]
        rw [hwh2]
        have HGH : Hid (Grow w wh2) := Lib.hid (HGG.out.trans hgh2)
        have hsh1 := (hgh2.block HSG.out).cell
        have hsh2 := hfh2.cell
        clear hwh2 hgh2 hfh2
        go_wp2_with fail
        refine (HWK.out _ HGH.out).mono ?_
        rintro e w9 ⟨rfl, hb9⟩
        have HG9 : Hid (Grow w w9) := Lib.hid ((HGH.out).trans hb9)
        clear hb9
        go_wp2_with fail
        go_ret
        exact ⟨rfl, HG9.out⟩

end Go.Proofs.YthehkgpnnndboaaDoor
