/- RCheck: the specification's Check; written by wip/tools/rcheck9.py. -/
import Derived.Test.YthehkgpnnndboaaDoorRPoss
import Derived.Test.YthehkgpnnndboaaDoorReads
namespace Go.Proofs.YthehkgpnnndboaaDoor
open Go.RowKit

theorem all_no {α : Type} {l : List α} {k : Nat} {x : α} {f : α → Bool} (hx : l[k]? = some x) (h : f x = false) : l.all f = false := by
  rw [Bool.eq_false_iff]
  intro ha
  have := List.all_eq_true.1 ha x (List.mem_of_getElem? hx)
  rw [h] at this
  cases this
/-- the first k of a list are all so -/
def allTo {α : Type} (l : List α) (f : α → Bool) (k : Nat) : Prop := ∀ i x, i < k → l[i]? = some x → f x = true
theorem allTo_zero {α : Type} (l : List α) (f : α → Bool) : allTo l f 0 := fun i x hi _ => by omega
theorem allTo_succ {α : Type} {l : List α} {f : α → Bool} {k : Nat} {x : α} (h : allTo l f k) (hx : l[k]? = some x) (hf : f x = true) : allTo l f (k + 1) := fun i y hi hy => by
  by_cases e : i = k
  · subst e
    rw [hx] at hy
    cases hy
    exact hf
  · exact h i y (by omega) hy
theorem allTo_all {α : Type} {l : List α} {f : α → Bool} (h : allTo l f l.length) : l.all f = true := List.all_eq_true.2 fun x hx => by
  obtain ⟨i, hi, e⟩ := List.getElem_of_mem hx
  exact h i x hi (by rw [List.getElem?_eq_getElem hi, e])
theorem ok_parts (p : PaperR) : okPaper p.d = (((inB p.items.length 1 4 && p.items.all okItem) && (inB p.judges.length 0 4 && p.judges.all (fun x => okJudge p.items.length x.d))) && inB p.wrong 0 2 && (inB p.grades.length 0 5 && p.grades.all okLimit) && ascL p.grades) := by
  show (((inB p.items.length 1 4 && p.items.all okItem) && (inB (p.judges.map JudgeR.d).length 0 4 && (p.judges.map JudgeR.d).all (okJudge p.items.length))) && inB p.wrong 0 2 && (inB p.grades.length 0 5 && p.grades.all okLimit) && ascL p.grades) = _
  rw [List.length_map, List.all_map]
  rfl
set_option maxRecDepth 100000 in
set_option maxHeartbeats 16000000 in
theorem rCheck_any (p : PaperR) (w : World) (hA : PaperAt w w.heap.size p) (hs : Short p) :
    Calls Tryd.prog 17 #[paperV p] w fun e w' => e = .returned (.int .i64 (paperErr p)) ∧ Below w.heap.size w w' := by
  obtain ⟨s1, s2, s3, s4⟩ := hs
  have HPA := Lib.hid (fun (w0 : World) (hw : Grow w w0) => hA.grow hw)
  have HS4 := Lib.hid s4
  have HER : Hid (paperErr p = if okPaper p.d then 0 else 90) := Lib.hid rfl
  have HPT := Lib.hid (ok_parts p)
  have HNO : Hid (okPaper p.d = false → paperErr p = 90) := Lib.hid (fun h => by rw [HER.out, h]; rfl)
  have HNI := Lib.hid (fun (k : Nat) (x : ItemI) (hx : p.items[k]? = some x) (h : okItem x = false) => HNO.out (by rw [HPT.out, all_no hx h]; simp))
  have HNJ := Lib.hid (fun (k : Nat) (x : JudgeR) (hx : p.judges[k]? = some x) (h : okJudge p.items.length x.d = false) => HNO.out (by rw [HPT.out, all_no (f := fun x : JudgeR => okJudge p.items.length x.d) hx h]; simp))
  have HNL := Lib.hid (fun (k : Nat) (x : Int) (hx : p.grades[k]? = some x) (h : okLimit x = false) => HNO.out (by rw [HPT.out, all_no hx h]; simp))
  have HNA := Lib.hid (fun (h : ascL p.grades = false) => HNO.out (by rw [HPT.out, h]; simp))
  have H1 := Lib.hid (fun w0 => rwithin_any p.items.length 1 4 w0)
  have H3 := Lib.hid (fun w0 => rwithin_any p.wrong 0 2 w0)
  have HYES : Hid (inB p.items.length 1 4 = true → inB p.judges.length 0 4 = true → inB p.wrong 0 2 = true → inB p.grades.length 0 5 = true → allTo p.items okItem p.items.length → allTo p.judges (fun x => okJudge p.items.length x.d) p.judges.length → allTo p.grades okLimit p.grades.length → ascL p.grades = true → paperErr p = 0) := Lib.hid (fun h1 h2 h3 h4 h5 h6 h7 h8 => by
    rw [HER.out, HPT.out, h1, h2, h3, h4, h8, allTo_all h5, allTo_all h6, allTo_all h7]
    rfl)
  have HB1 : Hid (inB p.items.length 1 4 = false → paperErr p = 90) := Lib.hid (fun h => HNO.out (by rw [HPT.out, h]; simp))
  have HB2 : Hid (inB p.judges.length 0 4 = false → paperErr p = 90) := Lib.hid (fun h => HNO.out (by rw [HPT.out, h]; simp))
  have HB3 : Hid (inB p.wrong 0 2 = false → paperErr p = 90) := Lib.hid (fun h => HNO.out (by rw [HPT.out, h]; simp))
  have HB4 : Hid (inB p.grades.length 0 5 = false → paperErr p = 90) := Lib.hid (fun h => HNO.out (by rw [HPT.out, h]; simp))
  obtain ⟨er, her⟩ : ∃ z, paperErr p = z := ⟨_, rfl⟩
  rw [her] at HNI HNJ HNL HNA HYES HB1 HB2 HB3 HB4 ⊢
  obtain ⟨b1, hb1⟩ : ∃ z, inB p.items.length 1 4 = z := ⟨_, rfl⟩
  obtain ⟨b3, hb3⟩ : ∃ z, inB p.wrong 0 2 = z := ⟨_, rfl⟩
  rw [hb1] at H1 HB1 HYES
  rw [hb3] at H3 HB3 HYES
  have HI4 : Hid (b1 = true → p.items.length ≤ 4) := Lib.hid (fun h => by rw [← hb1, inB_iff] at h; omega)
  clear hb1 hb3 her hA s4 HNO HPT HER
  go_enter Tryd.func17, Tryd.ntmps17
  go_upto_region 1 with fail
  obtain ⟨W, hW, hgr, hf, hsz⟩ := one_block w 26 (cellsP p)
  rw [hW]
  clear hW
  have hcc := hf.cell
  have HF := Lib.hid hf
  have HG := Lib.hid hgr
  clear hf hgr
  go_wp2_with fail
  refine (H1.out _).mono ?_
  rintro e w1 ⟨rfl, rfl⟩
  cases b1 with
  | false =>
    go_wp2
    go_ret
    exact ⟨ret_int (HB1.out (by simp)).symm, HG.out⟩
  | true =>
  by_cases c2 : (4 : Int) < (p.judges.length : Int)
  · have hd2 : decide ((4 : Int) < (p.judges.length : Int)) = true := decide_eq_true c2
    have HE := Lib.hid (HB2.out (by rw [Bool.eq_false_iff]; intro h; rw [inB_iff] at h; omega))
    go_wp2
    go_ret
    exact ⟨ret_int HE.out.symm, HG.out⟩
  have hd2 : decide ((4 : Int) < (p.judges.length : Int)) = false := decide_eq_false c2
  have HJ4 : Hid (inB p.judges.length 0 4 = true) := Lib.hid (inB_iff.2 (by omega))
  have hj4 : p.judges.length ≤ 4 := by omega
  have hi4 := HI4.out rfl
  go_wp2_with fail
  refine (H3.out _).mono ?_
  rintro e w1 ⟨rfl, rfl⟩
  cases b3 with
  | false =>
    go_wp2
    go_ret
    exact ⟨ret_int (HB3.out (by simp)).symm, HG.out⟩
  | true =>
  by_cases c4 : (5 : Int) < (p.grades.length : Int)
  · have hd4 : decide ((5 : Int) < (p.grades.length : Int)) = true := decide_eq_true c4
    have HE := Lib.hid (HB4.out (by rw [Bool.eq_false_iff]; intro h; rw [inB_iff] at h; omega))
    go_wp2
    go_ret
    exact ⟨ret_int HE.out.symm, HG.out⟩
  have hd4 : decide ((5 : Int) < (p.grades.length : Int)) = false := decide_eq_false c4
  have HG5 : Hid (inB p.grades.length 0 5 = true) := Lib.hid (inB_iff.2 (by omega))
  have hg5 : p.grades.length ≤ 5 := by omega
  go_wp2_with fail
  clear hd2 hd4 c2 c4 H1 H3 HB1 HB2 HB3 HB4 HI4 s1 s2 s3
  go_loopw [3] (fun iv wr => ∃ k : Nat, k ≤ p.items.length ∧ iv = .int .i64 (k : Nat) ∧ Hid (allTo p.items okItem k) ∧ Grow W wr) (fun iv _ => p.items.length - (intOf iv).toNat)
  case atStart => exact ⟨0, Nat.zero_le _, rfl, allTo_zero _ _, Grow.refl _⟩
  case round =>
    obtain ⟨k, hk, rfl, HAT, hgr⟩ := hrel
    have HGR := Lib.hid hgr
    have hcc := (hgr.block HF.out).cell
    clear hgr
    have hk0 : (0 : Int) ≤ (k : Int) := by omega
    by_cases hlt : k < p.items.length
    · have hd : decide ((k : Int) < (p.items.length : Int)) = true := decide_eq_true (by omega)
      have hk1 : (k : Int) < (p.items.length : Int) := by omega
      obtain ⟨b, off, x, hia, hb, c0, c1, HX⟩ := item_at (HPA.out wr (HG.out.trans HGR.out)) hlt
      have hia1 : wr.cell? ⟨w.heap.size, 0, none⟩ = some (.slice (some ⟨b, off, none⟩) p.items.length p.ic) := (hcc 0).trans (by show some (Value.slice p.ia p.items.length p.ic) = _; rw [hia])
      clear hia hcc
      have HW1 := Lib.hid (fun w0 => rwithin_any x.w 0 10 w0)
      have HW2 := Lib.hid (fun w0 => rwithin_any x.m 0 30 w0)
      have HOKI : Hid (okItem x = (inB x.w 0 10 && inB x.m 0 30)) := Lib.hid rfl
      have HNX := Lib.hid (HNI.out k x HX.out)
      have HYX := Lib.hid (allTo_succ HAT.out HX.out)
      rw [HOKI.out] at HNX HYX
      generalize inB x.w 0 10 = q1 at HW1 HNX HYX
      generalize inB x.m 0 30 = q2 at HW2 HNX HYX
      clear HOKI
      go_wp2_with fail
      refine (HW1.out _).mono ?_
      rintro e w1 ⟨rfl, rfl⟩
      cases q1 with
      | false =>
        go_wp2
        go_ret
        exact ⟨ret_int (HNX.out (by simp)).symm, HG.out.trans HGR.out⟩
      | true =>
      go_wp2_with fail
      refine (HW2.out _).mono ?_
      rintro e w1 ⟨rfl, rfl⟩
      cases q2 with
      | false =>
        go_wp2
        go_ret
        exact ⟨ret_int (HNX.out (by simp)).symm, HG.out.trans HGR.out⟩
      | true =>
      go_wp2
      go_roundw
      case rel => exact ⟨k + 1, by omega, by go_num, HYX.out (by simp), HGR.out⟩
      case measure => simp [intOf]; omega
    · obtain rfl : k = p.items.length := by omega
      have hd : decide ((p.items.length : Int) < (p.items.length : Int)) = false := decide_eq_false (by omega)
      have HIT := Lib.hid HAT.out
      have HGR1 := Lib.hid HGR.out
      clear HAT HGR hk hlt hk0 HNI
      rename World => W2
      go_wp2_with fail
      go_loopw [4] (fun iv wr => ∃ k : Nat, k ≤ p.judges.length ∧ iv = .int .i64 (k : Nat) ∧ Hid (allTo p.judges (fun x => okJudge p.items.length x.d) k) ∧ Grow W wr) (fun iv _ => p.judges.length - (intOf iv).toNat)
      case atStart => exact ⟨0, Nat.zero_le _, rfl, allTo_zero _ _, HGR1.out⟩
      case round =>
        obtain ⟨k, hk, rfl, HAT, hgr⟩ := hrel
        have HGR := Lib.hid hgr
        have hcc := (hgr.block HF.out).cell
        clear hgr
        have hk0 : (0 : Int) ≤ (k : Int) := by omega
        by_cases hlt : k < p.judges.length
        · have hd : decide ((k : Int) < (p.judges.length : Int)) = true := decide_eq_true (by omega)
          have hk1 : (k : Int) < (p.judges.length : Int) := by omega
          obtain ⟨b, off, x, hja, hb, c0, c1, c2, c3, HX, _⟩ := judge_at (HPA.out wr (HG.out.trans HGR.out)) hlt
          have hja1 : wr.cell? ⟨w.heap.size, 1, none⟩ = some (.slice (some ⟨b, off, none⟩) p.judges.length p.jc) := (hcc 1).trans (by show some (Value.slice p.ja p.judges.length p.jc) = _; rw [hja])
          have hcc0 := hcc
          clear hcc hja hcc0
          have HMK := Lib.hid (fun (w0 : World) (hw : Grow w w0) => (HPA.out w0 hw).marks x (List.mem_of_getElem? HX.out))
          have hsm : x.d.marks.length ≤ 1000000 := HS4.out x (List.mem_of_getElem? HX.out)
          have HNX := Lib.hid (HNJ.out k x HX.out)
          have HYX := Lib.hid (allTo_succ HAT.out HX.out)
          obtain ⟨⟨lo, hi, err, marks⟩, ma, mc⟩ := x
          dsimp only at c0 c1 c2 c3 HMK HNX HYX hsm
          have HOKJ : Hid (okJudge p.items.length ⟨lo, hi, err, marks⟩ = ((decide (-3 ≤ lo) && decide (lo ≤ hi) && decide (hi ≤ 3)) && inB err 0 5 && (inB marks.length p.items.length p.items.length && marks.all okMark))) := Lib.hid rfl
          rw [HOKJ.out] at HNX HYX
          clear HOKJ HX
          have HWE := Lib.hid (fun w0 => rwithin_any err 0 5 w0)
          go_upto_region 12 with fail
          obtain ⟨W4, hW4, hg4, hf4, hs4⟩ := one_block wr 60 (cellsJ ⟨⟨lo, hi, err, marks⟩, ma, mc⟩)
          rw [show wr.alloc (.cells #[.int .i64 lo, .int .i64 hi, .int .i64 err, .slice ma marks.length mc] 60) = W4 from hW4]
          clear hW4
          obtain ⟨jb, hjb⟩ : ∃ z, wr.heap.size = z := ⟨_, rfl⟩
          rw [hjb] at hf4 hs4 ⊢
          have HJB := Lib.hid hf4
          have HG4 : Hid (Grow W W4) := Lib.hid (HGR.out.trans hg4)
          have hcj := hf4.cell
          have hcc := (HG4.out.block HF.out).cell
          clear hg4 hf4 hjb c0 c1 c2 c3 hja1 HGR
          by_cases q1 : lo < -3
          · have hq1 : decide (lo < -3) = true := decide_eq_true q1
            have HE := Lib.hid (HNX.out (by rw [decide_eq_false (by omega : ¬ -3 ≤ lo)]; simp))
            go_wp2
            go_ret
            exact ⟨ret_int HE.out.symm, HG.out.trans HG4.out⟩
          have hq1 : decide (lo < -3) = false := decide_eq_false q1
          by_cases q2 : hi < lo
          · have hq2 : decide (hi < lo) = true := decide_eq_true q2
            have HE := Lib.hid (HNX.out (by rw [decide_eq_false (by omega : ¬ lo ≤ hi)]; simp))
            go_wp2
            go_ret
            exact ⟨ret_int HE.out.symm, HG.out.trans HG4.out⟩
          have hq2 : decide (hi < lo) = false := decide_eq_false q2
          by_cases q3 : 3 < hi
          · have hq3 : decide (3 < hi) = true := decide_eq_true q3
            have HE := Lib.hid (HNX.out (by rw [decide_eq_false (by omega : ¬ hi ≤ 3)]; simp))
            go_wp2
            go_ret
            exact ⟨ret_int HE.out.symm, HG.out.trans HG4.out⟩
          have hq3 : decide (3 < hi) = false := decide_eq_false q3
          rw [decide_eq_true (by omega : -3 ≤ lo), decide_eq_true (by omega : lo ≤ hi), decide_eq_true (by omega : hi ≤ 3)] at HNX HYX
          generalize inB err 0 5 = q4 at HWE HNX HYX
          go_wp2_with fail
          refine (HWE.out _).mono ?_
          rintro e w1 ⟨rfl, rfl⟩
          cases q4 with
          | false =>
            go_wp2
            go_ret
            exact ⟨ret_int (HNX.out (by simp)).symm, HG.out.trans HG4.out⟩
          | true =>
          by_cases q5 : marks.length = p.items.length
          · have hq5 : ((marks.length : Int) != (p.items.length : Int)) = false := by rw [bne_eq_false_iff_eq]; omega
            have hq6 : (marks.length : Int) = (p.items.length : Int) := by omega
            have HM1 : Hid (inB marks.length p.items.length p.items.length = true) := Lib.hid (inB_iff.2 (by omega))
            rw [HM1.out] at HNX HYX
            have HNM := Lib.hid (fun (i : Nat) (m : Int) (hm : marks[i]? = some m) (h : okMark m = false) => HNX.out (by rw [all_no hm h]; rfl))
            have HYM := Lib.hid (fun (h : allTo marks okMark marks.length) => HYX.out (by rw [allTo_all h]; rfl))
            clear HNX HYX HM1
            go_wp2_with fail
            clear q1 q2 q3 hq1 hq2 hq3
            go_loopw [6] (fun iv wi => ∃ i : Nat, i ≤ marks.length ∧ iv = .int .i64 (i : Nat) ∧ Hid (allTo marks okMark i) ∧ Grow W4 wi) (fun iv _ => marks.length - (intOf iv).toNat)
            case atStart => exact ⟨0, Nat.zero_le _, rfl, allTo_zero _ _, Grow.refl _⟩
            case round =>
              obtain ⟨i, hi', rfl, HAM, hgi⟩ := hrel
              rename World => wi
              have HGI := Lib.hid hgi
              have hcj := (hgi.block HJB.out).cell
              clear hgi hcc
              have hi0 : (0 : Int) ≤ (i : Int) := by omega
              by_cases hil : i < marks.length
              · have hdi : decide ((i : Int) < (marks.length : Int)) = true := decide_eq_true (by omega)
                have hi1 : (i : Int) < (marks.length : Int) := by omega
                obtain ⟨mb, mo, m, rfl, hmb, hmc, HM⟩ := (HMK.out wi (HG.out.trans (HG4.out.trans HGI.out))).at_ hil
                have HWM := Lib.hid (fun w0 => rwithin_any m (-1) 50 w0)
                have HOKM : Hid (okMark m = inB m (-1) 50) := Lib.hid rfl
                have HN1 := Lib.hid (HNM.out i m HM.out)
                have HY1 := Lib.hid (allTo_succ HAM.out HM.out)
                rw [HOKM.out] at HN1 HY1
                generalize inB m (-1) 50 = q7 at HWM HN1 HY1
                clear HOKM HM
                go_wp2_with fail
                refine (HWM.out _).mono ?_
                rintro e w1 ⟨rfl, rfl⟩
                cases q7 with
                | false =>
                  go_wp2
                  go_ret
                  exact ⟨ret_int (HN1.out (by simp)).symm, HG.out.trans (HG4.out.trans HGI.out)⟩
                | true =>
                  go_wp2
                  go_roundw
                  case rel => exact ⟨i + 1, by omega, by go_num, HY1.out (by simp), HGI.out⟩
                  case measure => simp [intOf]; omega
              · obtain rfl : i = marks.length := by omega
                have hdi : decide ((marks.length : Int) < (marks.length : Int)) = false := decide_eq_false (by omega)
                have HY2 := Lib.hid (HYM.out HAM.out)
                clear hq5 hq6
                go_wp2
                go_roundw
                case rel => exact ⟨k + 1, by omega, by go_num, HY2.out, HG4.out.trans HGI.out⟩
                case measure => simp [intOf]; omega
          · have hq5 : ((marks.length : Int) != (p.items.length : Int)) = true := by rw [bne_iff_ne]; omega
            have hq6 : ¬ (marks.length : Int) = (p.items.length : Int) := by omega
            have HE := Lib.hid (HNX.out (by
              have h : inB marks.length p.items.length p.items.length = false := by rw [Bool.eq_false_iff]; intro h; rw [inB_iff] at h; omega
              rw [h]
              rfl))
            go_wp2
            go_ret
            exact ⟨ret_int HE.out.symm, HG.out.trans HG4.out⟩
        · obtain rfl : k = p.judges.length := by omega
          have hd : decide ((p.judges.length : Int) < (p.judges.length : Int)) = false := decide_eq_false (by omega)
          have HJU := Lib.hid HAT.out
          have HGR2 := Lib.hid HGR.out
          clear HAT HGR hk hlt hk0 HNJ HGR1
          rename World => W3
          go_wp2_with fail
          go_loopw [7] (fun iv wr => ∃ k : Nat, k ≤ p.grades.length ∧ iv = .int .i64 (k : Nat) ∧ Hid (allTo p.grades okLimit k) ∧ Hid (ascTo p.grades (k - 1)) ∧ Grow W wr) (fun iv _ => p.grades.length - (intOf iv).toNat)
          case atStart => exact ⟨0, Nat.zero_le _, rfl, allTo_zero _ _, fun i x y hi _ _ => by omega, HGR2.out⟩
          case round =>
            obtain ⟨k, hk, rfl, HAT, HAS, hgr⟩ := hrel
            have HGR := Lib.hid hgr
            have hcc := (hgr.block HF.out).cell
            have HF3 := Lib.hid (hgr.block HF.out)
            clear hgr
            have hk0 : (0 : Int) ≤ (k : Int) := by omega
            by_cases hlt : k < p.grades.length
            · have hd : decide ((k : Int) < (p.grades.length : Int)) = true := decide_eq_true (by omega)
              have hk1 : (k : Int) < (p.grades.length : Int) := by omega
              obtain ⟨gb, go', g, hga, hgb, hgc, HX⟩ := (HPA.out wr (HG.out.trans HGR.out)).grades.at_ hlt
              have HW1 := Lib.hid (fun w0 => rwithin_any g 0 1200 w0)
              have HOKL : Hid (okLimit g = inB g 0 1200) := Lib.hid rfl
              have HNX := Lib.hid (HNL.out k g HX.out)
              have HYX := Lib.hid (allTo_succ HAT.out HX.out)
              rw [HOKL.out] at HNX HYX
              generalize inB g 0 1200 = q1 at HW1 HNX HYX
              clear HOKL
              have hga1 : wr.cell? ⟨w.heap.size, 3, none⟩ = some (.slice (some ⟨gb, go', none⟩) p.grades.length p.gc) := (hcc 3).trans (by show some (Value.slice p.ga p.grades.length p.gc) = _; rw [hga])
              have HGA := Lib.hid hga1
              have HGC := Lib.hid hgc
              cases q1 with
              | false =>
                clear hgc hcc hga
                go_wp2_with fail
                refine wp_region_lit 25 [[], [(0, 123)], [], [(1, 124), (2, 125)], [(3, 126)], [(4, 127)], [(5, 128)], [(6, 129)], [(7, 130)], [(7, 130), (8, 131)], [(7, 130), (9, 132)], [(10, 133)], [(10, 133), (11, 134)], [(10, 133)], [(10, 133), (13, 136)], [(10, 133), (12, 135), (14, 137)], [(10, 133), (15, 138)], [(10, 133)], [(10, 133), (17, 140)], [(10, 133)], [(10, 133), (18, 141), (19, 142)], [(10, 133), (20, 143)], [(10, 133), (16, 139), (21, 144)], [(7, 130), (10, 133), (22, 145)], [(7, 130), (23, 146)]] Grow (fun qi v w' => match qi with
                    | 0 => v = .pointer (some ⟨w.heap.size, 3, none⟩)
                    | 1 => v = .slice (some ⟨gb, go', none⟩) p.grades.length p.gc
                    | 2 => v = .int .i64 (k : Nat)
                    | 3 => v = .pointer (some ⟨gb, go' + k, none⟩)
                    | 4 => v = .int .i64 g
                    | 5 => v = .bool false
                    | 6 => v = .bool true
                    | 7 => v = .bool true
                    | 8 => v = undef
                    | 9 => v = undef
                    | 10 => v = undef
                    | 11 => v = undef
                    | 12 => v = undef
                    | 13 => v = undef
                    | 14 => v = undef
                    | 15 => v = undef
                    | 16 => v = undef
                    | 17 => v = undef
                    | 18 => v = undef
                    | 19 => v = undef
                    | 20 => v = undef
                    | 21 => v = undef
                    | 22 => v = undef
                    | 23 => v = undef
                    | 24 => v = .bool true
                    | _ => False) (by kernel_rfl) (by kernel_rfl) (fun _ _ _ => Grow.trans) Grow.refl ?_ ?_ ?_
                · intro i v y y' h k
                  match i, h with
                  | 0, h | 1, h | 2, h | 3, h | 4, h | 5, h | 6, h | 7, h | 8, h | 9, h | 10, h | 11, h | 12, h | 13, h | 14, h | 15, h | 16, h | 17, h | 18, h | 19, h | 20, h | 21, h | 22, h | 23, h | 24, h => exact h
                · simp only [StepsLit, List.take_succ_cons, List.take_zero]
                  refine ⟨?_, ?_, ?_, ?_, ?_, ?_, ?_, ?_, ?_, ?_, ?_, ?_, ?_, ?_, ?_, ?_, ?_, ?_, ?_, ?_, ?_, ?_, ?_, ?_, ?_, trivial⟩
                  · intro w5 hR
                    have hGw : Grow wr w5 := hR.of_drew
                    have HGW := Lib.hid hGw
                    have hga1 := HGW.out.cell HGA.out
                    have hgc := HGW.out.cell HGC.out
                    clear hR hGw
                    simp only [depV]
                    try go_simp
                    all_goals first
                      | (with_reducible exact Grow.refl _)
                      | (with_reducible exact ⟨Grow.refl _, rfl⟩)
                  · intro w5 hR
                    have hGw : Grow wr w5 := hR.of_drew
                    have HGW := Lib.hid hGw
                    have hga1 := HGW.out.cell HGA.out
                    have hgc := HGW.out.cell HGC.out
                    clear hR hGw
                    simp only [depV]
                    rintro _ rfl
                    try go_simp
                    all_goals first
                      | (with_reducible exact Grow.refl _)
                      | (with_reducible exact ⟨Grow.refl _, rfl⟩)
                  · intro w5 hR
                    have hGw : Grow wr w5 := hR.of_drew
                    have HGW := Lib.hid hGw
                    have hga1 := HGW.out.cell HGA.out
                    have hgc := HGW.out.cell HGC.out
                    clear hR hGw
                    simp only [depV]
                    try go_simp
                    all_goals first
                      | (with_reducible exact Grow.refl _)
                      | (with_reducible exact ⟨Grow.refl _, rfl⟩)
                  · intro w5 hR
                    have hGw : Grow wr w5 := hR.of_drew
                    have HGW := Lib.hid hGw
                    have hga1 := HGW.out.cell HGA.out
                    have hgc := HGW.out.cell HGC.out
                    clear hR hGw
                    simp only [depV]
                    rintro _ rfl
                    rintro _ rfl
                    try go_simp
                    all_goals first
                      | (with_reducible exact Grow.refl _)
                      | (with_reducible exact ⟨Grow.refl _, rfl⟩)
                  · intro w5 hR
                    have hGw : Grow wr w5 := hR.of_drew
                    have HGW := Lib.hid hGw
                    have hga1 := HGW.out.cell HGA.out
                    have hgc := HGW.out.cell HGC.out
                    clear hR hGw
                    simp only [depV]
                    rintro _ rfl
                    try go_simp
                    all_goals first
                      | (with_reducible exact Grow.refl _)
                      | (with_reducible exact ⟨Grow.refl _, rfl⟩)
                  · intro w5 hR
                    have hGw : Grow wr w5 := hR.of_drew
                    have HGW := Lib.hid hGw
                    have hga1 := HGW.out.cell HGA.out
                    have hgc := HGW.out.cell HGC.out
                    clear hR hGw
                    simp only [depV]
                    rintro _ rfl
                    try go_simp
                    refine (HW1.out w5).mono ?_
                    rintro e w6 ⟨rfl, rfl⟩
                    exact ⟨Grow.refl _, rfl⟩
                  · intro w5 hR
                    have hGw : Grow wr w5 := hR.of_drew
                    have HGW := Lib.hid hGw
                    have hga1 := HGW.out.cell HGA.out
                    have hgc := HGW.out.cell HGC.out
                    clear hR hGw
                    simp only [depV]
                    rintro _ rfl
                    try go_simp
                    all_goals first
                      | (with_reducible exact Grow.refl _)
                      | (with_reducible exact ⟨Grow.refl _, rfl⟩)
                  · intro w5 hR
                    have hGw : Grow wr w5 := hR.of_drew
                    have HGW := Lib.hid hGw
                    have hga1 := HGW.out.cell HGA.out
                    have hgc := HGW.out.cell HGC.out
                    clear hR hGw
                    simp only [depV]
                    rintro _ rfl
                    try go_simp
                    all_goals first
                      | (with_reducible exact Grow.refl _)
                      | (with_reducible exact ⟨Grow.refl _, rfl⟩)
                  · intro w5 hR
                    have hGw : Grow wr w5 := hR.of_drew
                    have HGW := Lib.hid hGw
                    have hga1 := HGW.out.cell HGA.out
                    have hgc := HGW.out.cell HGC.out
                    clear hR hGw
                    simp only [depV]
                    rintro _ rfl
                    try go_simp
                    all_goals first
                      | (with_reducible exact Grow.refl _)
                      | (with_reducible exact ⟨Grow.refl _, rfl⟩)
                  · intro w5 hR
                    have hGw : Grow wr w5 := hR.of_drew
                    have HGW := Lib.hid hGw
                    have hga1 := HGW.out.cell HGA.out
                    have hgc := HGW.out.cell HGC.out
                    clear hR hGw
                    simp only [depV]
                    rintro _ rfl
                    rintro _ rfl
                    try go_simp
                    all_goals first
                      | (with_reducible exact Grow.refl _)
                      | (with_reducible exact ⟨Grow.refl _, rfl⟩)
                  · intro w5 hR
                    have hGw : Grow wr w5 := hR.of_drew
                    have HGW := Lib.hid hGw
                    have hga1 := HGW.out.cell HGA.out
                    have hgc := HGW.out.cell HGC.out
                    clear hR hGw
                    simp only [depV]
                    rintro _ rfl
                    rintro _ rfl
                    try go_simp
                    all_goals first
                      | (with_reducible exact Grow.refl _)
                      | (with_reducible exact ⟨Grow.refl _, rfl⟩)
                  · intro w5 hR
                    have hGw : Grow wr w5 := hR.of_drew
                    have HGW := Lib.hid hGw
                    have hga1 := HGW.out.cell HGA.out
                    have hgc := HGW.out.cell HGC.out
                    clear hR hGw
                    simp only [depV]
                    rintro _ rfl
                    try go_simp
                    intro h
                    exact absurd (show (none : Option Bool) = some true from h) (by simp)
                  · intro w5 hR
                    have hGw : Grow wr w5 := hR.of_drew
                    have HGW := Lib.hid hGw
                    have hga1 := HGW.out.cell HGA.out
                    have hgc := HGW.out.cell HGC.out
                    clear hR hGw
                    simp only [depV]
                    rintro _ rfl
                    rintro _ rfl
                    try go_simp
                    intro h
                    exact absurd (show (none : Option Bool) = some true from h) (by simp)
                  · intro w5 hR
                    have hGw : Grow wr w5 := hR.of_drew
                    have HGW := Lib.hid hGw
                    have hga1 := HGW.out.cell HGA.out
                    have hgc := HGW.out.cell HGC.out
                    clear hR hGw
                    simp only [depV]
                    rintro _ rfl
                    try go_simp
                    intro h
                    exact absurd (show (none : Option Bool) = some true from h) (by simp)
                  · intro w5 hR
                    have hGw : Grow wr w5 := hR.of_drew
                    have HGW := Lib.hid hGw
                    have hga1 := HGW.out.cell HGA.out
                    have hgc := HGW.out.cell HGC.out
                    clear hR hGw
                    simp only [depV]
                    rintro _ rfl
                    rintro _ rfl
                    try go_simp
                    intro h
                    exact absurd (show (none : Option Bool) = some true from h) (by simp)
                  · intro w5 hR
                    have hGw : Grow wr w5 := hR.of_drew
                    have HGW := Lib.hid hGw
                    have hga1 := HGW.out.cell HGA.out
                    have hgc := HGW.out.cell HGC.out
                    clear hR hGw
                    simp only [depV]
                    rintro _ rfl
                    rintro _ rfl
                    rintro _ rfl
                    try go_simp
                    intro h
                    exact absurd (show (none : Option Bool) = some true from h) (by simp)
                  · intro w5 hR
                    have hGw : Grow wr w5 := hR.of_drew
                    have HGW := Lib.hid hGw
                    have hga1 := HGW.out.cell HGA.out
                    have hgc := HGW.out.cell HGC.out
                    clear hR hGw
                    simp only [depV]
                    rintro _ rfl
                    rintro _ rfl
                    try go_simp
                    intro h
                    exact absurd (show (none : Option Bool) = some true from h) (by simp)
                  · intro w5 hR
                    have hGw : Grow wr w5 := hR.of_drew
                    have HGW := Lib.hid hGw
                    have hga1 := HGW.out.cell HGA.out
                    have hgc := HGW.out.cell HGC.out
                    clear hR hGw
                    simp only [depV]
                    rintro _ rfl
                    try go_simp
                    intro h
                    exact absurd (show (none : Option Bool) = some true from h) (by simp)
                  · intro w5 hR
                    have hGw : Grow wr w5 := hR.of_drew
                    have HGW := Lib.hid hGw
                    have hga1 := HGW.out.cell HGA.out
                    have hgc := HGW.out.cell HGC.out
                    clear hR hGw
                    simp only [depV]
                    rintro _ rfl
                    rintro _ rfl
                    try go_simp
                    intro h
                    exact absurd (show (none : Option Bool) = some true from h) (by simp)
                  · intro w5 hR
                    have hGw : Grow wr w5 := hR.of_drew
                    have HGW := Lib.hid hGw
                    have hga1 := HGW.out.cell HGA.out
                    have hgc := HGW.out.cell HGC.out
                    clear hR hGw
                    simp only [depV]
                    rintro _ rfl
                    try go_simp
                    intro h
                    exact absurd (show (none : Option Bool) = some true from h) (by simp)
                  · intro w5 hR
                    have hGw : Grow wr w5 := hR.of_drew
                    have HGW := Lib.hid hGw
                    have hga1 := HGW.out.cell HGA.out
                    have hgc := HGW.out.cell HGC.out
                    clear hR hGw
                    simp only [depV]
                    rintro _ rfl
                    rintro _ rfl
                    rintro _ rfl
                    try go_simp
                    intro h
                    exact absurd (show (none : Option Bool) = some true from h) (by simp)
                  · intro w5 hR
                    have hGw : Grow wr w5 := hR.of_drew
                    have HGW := Lib.hid hGw
                    have hga1 := HGW.out.cell HGA.out
                    have hgc := HGW.out.cell HGC.out
                    clear hR hGw
                    simp only [depV]
                    rintro _ rfl
                    rintro _ rfl
                    try go_simp
                    intro h
                    exact absurd (show (none : Option Bool) = some true from h) (by simp)
                  · intro w5 hR
                    have hGw : Grow wr w5 := hR.of_drew
                    have HGW := Lib.hid hGw
                    have hga1 := HGW.out.cell HGA.out
                    have hgc := HGW.out.cell HGC.out
                    clear hR hGw
                    simp only [depV]
                    rintro _ rfl
                    rintro _ rfl
                    rintro _ rfl
                    try go_simp
                    intro h
                    exact absurd (show (none : Option Bool) = some true from h) (by simp)
                  · intro w5 hR
                    have hGw : Grow wr w5 := hR.of_drew
                    have HGW := Lib.hid hGw
                    have hga1 := HGW.out.cell HGA.out
                    have hgc := HGW.out.cell HGC.out
                    clear hR hGw
                    simp only [depV]
                    rintro _ rfl
                    rintro _ rfl
                    rintro _ rfl
                    try go_simp
                    all_goals first
                      | (with_reducible exact Grow.refl _)
                      | (with_reducible exact ⟨Grow.refl _, rfl⟩)
                  · intro w5 hR
                    have hGw : Grow wr w5 := hR.of_drew
                    have HGW := Lib.hid hGw
                    have hga1 := HGW.out.cell HGA.out
                    have hgc := HGW.out.cell HGC.out
                    clear hR hGw
                    simp only [depV]
                    rintro _ rfl
                    rintro _ rfl
                    try go_simp
                    all_goals first
                      | (with_reducible exact Grow.refl _)
                      | (with_reducible exact ⟨Grow.refl _, rfl⟩)
                · intro w5 hR
                  have HG5b : Hid (Grow wr w5) := Lib.hid hR.of_drew
                  clear hR
                  simp only [finVC, List.take_succ_cons, List.take_zero, List.drop_succ_cons, List.drop_zero]
                  rintro _ rfl
                  rintro _ rfl
                  rintro _ rfl
                  rintro _ rfl
                  rintro _ rfl
                  rintro _ rfl
                  rintro _ rfl
                  rintro _ rfl
                  rintro _ rfl
                  rintro _ rfl
                  rintro _ rfl
                  rintro _ rfl
                  rintro _ rfl
                  rintro _ rfl
                  rintro _ rfl
                  rintro _ rfl
                  rintro _ rfl
                  rintro _ rfl
                  rintro _ rfl
                  rintro _ rfl
                  rintro _ rfl
                  rintro _ rfl
                  rintro _ rfl
                  rintro _ rfl
                  rintro _ rfl
                  simp only [Act.put, List.setIfInBounds_toArray, List.set_cons_succ, List.set_cons_zero]
                  go_wp2_with fail
                  go_ret
                  exact ⟨ret_int (HNX.out (by simp)).symm, (HG.out.trans HGR.out).trans HG5b.out⟩
              | true =>
              by_cases hz : k = 0
              · subst hz
                have hd0 : decide ((0 : Int) < (p.grades.length : Int)) = true := decide_eq_true (by omega)
                have hd1 : decide (0 < p.grades.length) = true := decide_eq_true (by omega)
                clear hgc hcc hga
                go_wp2_with fail
                refine wp_region_lit 25 [[], [(0, 123)], [], [(1, 124), (2, 125)], [(3, 126)], [(4, 127)], [(5, 128)], [(6, 129)], [(7, 130)], [(7, 130), (8, 131)], [(7, 130), (9, 132)], [(10, 133)], [(10, 133), (11, 134)], [(10, 133)], [(10, 133), (13, 136)], [(10, 133), (12, 135), (14, 137)], [(10, 133), (15, 138)], [(10, 133)], [(10, 133), (17, 140)], [(10, 133)], [(10, 133), (18, 141), (19, 142)], [(10, 133), (20, 143)], [(10, 133), (16, 139), (21, 144)], [(7, 130), (10, 133), (22, 145)], [(7, 130), (23, 146)]] Grow (fun qi v w' => match qi with
                    | 0 => v = .pointer (some ⟨w.heap.size, 3, none⟩)
                    | 1 => v = .slice (some ⟨gb, go', none⟩) p.grades.length p.gc
                    | 2 => v = .int .i64 (0)
                    | 3 => v = .pointer (some ⟨gb, go', none⟩)
                    | 4 => v = .int .i64 g
                    | 5 => v = .bool true
                    | 6 => v = .bool false
                    | 7 => v = .bool false
                    | 8 => v = .int .i64 0
                    | 9 => v = .bool false
                    | 10 => v = .bool false
                    | 11 => v = undef
                    | 12 => v = undef
                    | 13 => v = undef
                    | 14 => v = undef
                    | 15 => v = undef
                    | 16 => v = undef
                    | 17 => v = undef
                    | 18 => v = undef
                    | 19 => v = undef
                    | 20 => v = undef
                    | 21 => v = undef
                    | 22 => v = undef
                    | 23 => v = .bool false
                    | 24 => v = .bool false
                    | _ => False) (by kernel_rfl) (by kernel_rfl) (fun _ _ _ => Grow.trans) Grow.refl ?_ ?_ ?_
                · intro i v y y' h k
                  match i, h with
                  | 0, h | 1, h | 2, h | 3, h | 4, h | 5, h | 6, h | 7, h | 8, h | 9, h | 10, h | 11, h | 12, h | 13, h | 14, h | 15, h | 16, h | 17, h | 18, h | 19, h | 20, h | 21, h | 22, h | 23, h | 24, h => exact h
                · simp only [StepsLit, List.take_succ_cons, List.take_zero]
                  refine ⟨?_, ?_, ?_, ?_, ?_, ?_, ?_, ?_, ?_, ?_, ?_, ?_, ?_, ?_, ?_, ?_, ?_, ?_, ?_, ?_, ?_, ?_, ?_, ?_, ?_, trivial⟩
                  · intro w5 hR
                    have hGw : Grow wr w5 := hR.of_drew
                    have HGW := Lib.hid hGw
                    have hga1 := HGW.out.cell HGA.out
                    have hgc : w5.cell? ⟨gb, go', none⟩ = some (.int .i64 g) := by simpa using HGW.out.cell HGC.out
                    clear hR hGw
                    simp only [depV]
                    try go_simp
                    all_goals first
                      | (with_reducible exact Grow.refl _)
                      | (with_reducible exact ⟨Grow.refl _, rfl⟩)
                  · intro w5 hR
                    have hGw : Grow wr w5 := hR.of_drew
                    have HGW := Lib.hid hGw
                    have hga1 := HGW.out.cell HGA.out
                    have hgc : w5.cell? ⟨gb, go', none⟩ = some (.int .i64 g) := by simpa using HGW.out.cell HGC.out
                    clear hR hGw
                    simp only [depV]
                    rintro _ rfl
                    try go_simp
                    all_goals first
                      | (with_reducible exact Grow.refl _)
                      | (with_reducible exact ⟨Grow.refl _, rfl⟩)
                  · intro w5 hR
                    have hGw : Grow wr w5 := hR.of_drew
                    have HGW := Lib.hid hGw
                    have hga1 := HGW.out.cell HGA.out
                    have hgc : w5.cell? ⟨gb, go', none⟩ = some (.int .i64 g) := by simpa using HGW.out.cell HGC.out
                    clear hR hGw
                    simp only [depV]
                    try go_simp
                    all_goals first
                      | (with_reducible exact Grow.refl _)
                      | (with_reducible exact ⟨Grow.refl _, rfl⟩)
                  · intro w5 hR
                    have hGw : Grow wr w5 := hR.of_drew
                    have HGW := Lib.hid hGw
                    have hga1 := HGW.out.cell HGA.out
                    have hgc : w5.cell? ⟨gb, go', none⟩ = some (.int .i64 g) := by simpa using HGW.out.cell HGC.out
                    clear hR hGw
                    simp only [depV]
                    rintro _ rfl
                    rintro _ rfl
                    try go_simp
                    all_goals first
                      | (with_reducible exact Grow.refl _)
                      | (with_reducible exact ⟨Grow.refl _, rfl⟩)
                  · intro w5 hR
                    have hGw : Grow wr w5 := hR.of_drew
                    have HGW := Lib.hid hGw
                    have hga1 := HGW.out.cell HGA.out
                    have hgc : w5.cell? ⟨gb, go', none⟩ = some (.int .i64 g) := by simpa using HGW.out.cell HGC.out
                    clear hR hGw
                    simp only [depV]
                    rintro _ rfl
                    try go_simp
                    all_goals first
                      | (with_reducible exact Grow.refl _)
                      | (with_reducible exact ⟨Grow.refl _, rfl⟩)
                  · intro w5 hR
                    have hGw : Grow wr w5 := hR.of_drew
                    have HGW := Lib.hid hGw
                    have hga1 := HGW.out.cell HGA.out
                    have hgc : w5.cell? ⟨gb, go', none⟩ = some (.int .i64 g) := by simpa using HGW.out.cell HGC.out
                    clear hR hGw
                    simp only [depV]
                    rintro _ rfl
                    try go_simp
                    refine (HW1.out w5).mono ?_
                    rintro e w6 ⟨rfl, rfl⟩
                    exact ⟨Grow.refl _, rfl⟩
                  · intro w5 hR
                    have hGw : Grow wr w5 := hR.of_drew
                    have HGW := Lib.hid hGw
                    have hga1 := HGW.out.cell HGA.out
                    have hgc : w5.cell? ⟨gb, go', none⟩ = some (.int .i64 g) := by simpa using HGW.out.cell HGC.out
                    clear hR hGw
                    simp only [depV]
                    rintro _ rfl
                    try go_simp
                    all_goals first
                      | (with_reducible exact Grow.refl _)
                      | (with_reducible exact ⟨Grow.refl _, rfl⟩)
                  · intro w5 hR
                    have hGw : Grow wr w5 := hR.of_drew
                    have HGW := Lib.hid hGw
                    have hga1 := HGW.out.cell HGA.out
                    have hgc : w5.cell? ⟨gb, go', none⟩ = some (.int .i64 g) := by simpa using HGW.out.cell HGC.out
                    clear hR hGw
                    simp only [depV]
                    rintro _ rfl
                    try go_simp
                    all_goals first
                      | (with_reducible exact Grow.refl _)
                      | (with_reducible exact ⟨Grow.refl _, rfl⟩)
                  · intro w5 hR
                    have hGw : Grow wr w5 := hR.of_drew
                    have HGW := Lib.hid hGw
                    have hga1 := HGW.out.cell HGA.out
                    have hgc : w5.cell? ⟨gb, go', none⟩ = some (.int .i64 g) := by simpa using HGW.out.cell HGC.out
                    clear hR hGw
                    simp only [depV]
                    rintro _ rfl
                    try go_simp
                    all_goals first
                      | (with_reducible exact Grow.refl _)
                      | (with_reducible exact ⟨Grow.refl _, rfl⟩)
                  · intro w5 hR
                    have hGw : Grow wr w5 := hR.of_drew
                    have HGW := Lib.hid hGw
                    have hga1 := HGW.out.cell HGA.out
                    have hgc : w5.cell? ⟨gb, go', none⟩ = some (.int .i64 g) := by simpa using HGW.out.cell HGC.out
                    clear hR hGw
                    simp only [depV]
                    rintro _ rfl
                    rintro _ rfl
                    try go_simp
                    all_goals first
                      | (with_reducible exact Grow.refl _)
                      | (with_reducible exact ⟨Grow.refl _, rfl⟩)
                  · intro w5 hR
                    have hGw : Grow wr w5 := hR.of_drew
                    have HGW := Lib.hid hGw
                    have hga1 := HGW.out.cell HGA.out
                    have hgc : w5.cell? ⟨gb, go', none⟩ = some (.int .i64 g) := by simpa using HGW.out.cell HGC.out
                    clear hR hGw
                    simp only [depV]
                    rintro _ rfl
                    rintro _ rfl
                    try go_simp
                    all_goals first
                      | (with_reducible exact Grow.refl _)
                      | (with_reducible exact ⟨Grow.refl _, rfl⟩)
                  · intro w5 hR
                    have hGw : Grow wr w5 := hR.of_drew
                    have HGW := Lib.hid hGw
                    have hga1 := HGW.out.cell HGA.out
                    have hgc : w5.cell? ⟨gb, go', none⟩ = some (.int .i64 g) := by simpa using HGW.out.cell HGC.out
                    clear hR hGw
                    simp only [depV]
                    rintro _ rfl
                    try go_simp
                    all_goals first
                      | (with_reducible exact Grow.refl _)
                      | (with_reducible exact ⟨Grow.refl _, rfl⟩)
                  · intro w5 hR
                    have hGw : Grow wr w5 := hR.of_drew
                    have HGW := Lib.hid hGw
                    have hga1 := HGW.out.cell HGA.out
                    have hgc : w5.cell? ⟨gb, go', none⟩ = some (.int .i64 g) := by simpa using HGW.out.cell HGC.out
                    clear hR hGw
                    simp only [depV]
                    rintro _ rfl
                    rintro _ rfl
                    try go_simp
                    all_goals first
                      | (with_reducible exact Grow.refl _)
                      | (with_reducible exact ⟨Grow.refl _, rfl⟩)
                  · intro w5 hR
                    have hGw : Grow wr w5 := hR.of_drew
                    have HGW := Lib.hid hGw
                    have hga1 := HGW.out.cell HGA.out
                    have hgc : w5.cell? ⟨gb, go', none⟩ = some (.int .i64 g) := by simpa using HGW.out.cell HGC.out
                    clear hR hGw
                    simp only [depV]
                    rintro _ rfl
                    try go_simp
                    all_goals first
                      | (with_reducible exact Grow.refl _)
                      | (with_reducible exact ⟨Grow.refl _, rfl⟩)
                  · intro w5 hR
                    have hGw : Grow wr w5 := hR.of_drew
                    have HGW := Lib.hid hGw
                    have hga1 := HGW.out.cell HGA.out
                    have hgc : w5.cell? ⟨gb, go', none⟩ = some (.int .i64 g) := by simpa using HGW.out.cell HGC.out
                    clear hR hGw
                    simp only [depV]
                    rintro _ rfl
                    rintro _ rfl
                    try go_simp
                    all_goals first
                      | (with_reducible exact Grow.refl _)
                      | (with_reducible exact ⟨Grow.refl _, rfl⟩)
                  · intro w5 hR
                    have hGw : Grow wr w5 := hR.of_drew
                    have HGW := Lib.hid hGw
                    have hga1 := HGW.out.cell HGA.out
                    have hgc : w5.cell? ⟨gb, go', none⟩ = some (.int .i64 g) := by simpa using HGW.out.cell HGC.out
                    clear hR hGw
                    simp only [depV]
                    rintro _ rfl
                    rintro _ rfl
                    rintro _ rfl
                    try go_simp
                    all_goals first
                      | (with_reducible exact Grow.refl _)
                      | (with_reducible exact ⟨Grow.refl _, rfl⟩)
                  · intro w5 hR
                    have hGw : Grow wr w5 := hR.of_drew
                    have HGW := Lib.hid hGw
                    have hga1 := HGW.out.cell HGA.out
                    have hgc : w5.cell? ⟨gb, go', none⟩ = some (.int .i64 g) := by simpa using HGW.out.cell HGC.out
                    clear hR hGw
                    simp only [depV]
                    rintro _ rfl
                    rintro _ rfl
                    try go_simp
                    all_goals first
                      | (with_reducible exact Grow.refl _)
                      | (with_reducible exact ⟨Grow.refl _, rfl⟩)
                  · intro w5 hR
                    have hGw : Grow wr w5 := hR.of_drew
                    have HGW := Lib.hid hGw
                    have hga1 := HGW.out.cell HGA.out
                    have hgc : w5.cell? ⟨gb, go', none⟩ = some (.int .i64 g) := by simpa using HGW.out.cell HGC.out
                    clear hR hGw
                    simp only [depV]
                    rintro _ rfl
                    try go_simp
                    all_goals first
                      | (with_reducible exact Grow.refl _)
                      | (with_reducible exact ⟨Grow.refl _, rfl⟩)
                  · intro w5 hR
                    have hGw : Grow wr w5 := hR.of_drew
                    have HGW := Lib.hid hGw
                    have hga1 := HGW.out.cell HGA.out
                    have hgc : w5.cell? ⟨gb, go', none⟩ = some (.int .i64 g) := by simpa using HGW.out.cell HGC.out
                    clear hR hGw
                    simp only [depV]
                    rintro _ rfl
                    rintro _ rfl
                    try go_simp
                    all_goals first
                      | (with_reducible exact Grow.refl _)
                      | (with_reducible exact ⟨Grow.refl _, rfl⟩)
                  · intro w5 hR
                    have hGw : Grow wr w5 := hR.of_drew
                    have HGW := Lib.hid hGw
                    have hga1 := HGW.out.cell HGA.out
                    have hgc : w5.cell? ⟨gb, go', none⟩ = some (.int .i64 g) := by simpa using HGW.out.cell HGC.out
                    clear hR hGw
                    simp only [depV]
                    rintro _ rfl
                    try go_simp
                    all_goals first
                      | (with_reducible exact Grow.refl _)
                      | (with_reducible exact ⟨Grow.refl _, rfl⟩)
                  · intro w5 hR
                    have hGw : Grow wr w5 := hR.of_drew
                    have HGW := Lib.hid hGw
                    have hga1 := HGW.out.cell HGA.out
                    have hgc : w5.cell? ⟨gb, go', none⟩ = some (.int .i64 g) := by simpa using HGW.out.cell HGC.out
                    clear hR hGw
                    simp only [depV]
                    rintro _ rfl
                    rintro _ rfl
                    rintro _ rfl
                    try go_simp
                    all_goals first
                      | (with_reducible exact Grow.refl _)
                      | (with_reducible exact ⟨Grow.refl _, rfl⟩)
                  · intro w5 hR
                    have hGw : Grow wr w5 := hR.of_drew
                    have HGW := Lib.hid hGw
                    have hga1 := HGW.out.cell HGA.out
                    have hgc : w5.cell? ⟨gb, go', none⟩ = some (.int .i64 g) := by simpa using HGW.out.cell HGC.out
                    clear hR hGw
                    simp only [depV]
                    rintro _ rfl
                    rintro _ rfl
                    try go_simp
                    all_goals first
                      | (with_reducible exact Grow.refl _)
                      | (with_reducible exact ⟨Grow.refl _, rfl⟩)
                  · intro w5 hR
                    have hGw : Grow wr w5 := hR.of_drew
                    have HGW := Lib.hid hGw
                    have hga1 := HGW.out.cell HGA.out
                    have hgc : w5.cell? ⟨gb, go', none⟩ = some (.int .i64 g) := by simpa using HGW.out.cell HGC.out
                    clear hR hGw
                    simp only [depV]
                    rintro _ rfl
                    rintro _ rfl
                    rintro _ rfl
                    try go_simp
                    all_goals first
                      | (with_reducible exact Grow.refl _)
                      | (with_reducible exact ⟨Grow.refl _, rfl⟩)
                  · intro w5 hR
                    have hGw : Grow wr w5 := hR.of_drew
                    have HGW := Lib.hid hGw
                    have hga1 := HGW.out.cell HGA.out
                    have hgc : w5.cell? ⟨gb, go', none⟩ = some (.int .i64 g) := by simpa using HGW.out.cell HGC.out
                    clear hR hGw
                    simp only [depV]
                    rintro _ rfl
                    rintro _ rfl
                    rintro _ rfl
                    try go_simp
                    all_goals first
                      | (with_reducible exact Grow.refl _)
                      | (with_reducible exact ⟨Grow.refl _, rfl⟩)
                  · intro w5 hR
                    have hGw : Grow wr w5 := hR.of_drew
                    have HGW := Lib.hid hGw
                    have hga1 := HGW.out.cell HGA.out
                    have hgc : w5.cell? ⟨gb, go', none⟩ = some (.int .i64 g) := by simpa using HGW.out.cell HGC.out
                    clear hR hGw
                    simp only [depV]
                    rintro _ rfl
                    rintro _ rfl
                    try go_simp
                    all_goals first
                      | (with_reducible exact Grow.refl _)
                      | (with_reducible exact ⟨Grow.refl _, rfl⟩)
                · intro w5 hR
                  have HG5b : Hid (Grow wr w5) := Lib.hid hR.of_drew
                  clear hR
                  simp only [finVC, List.take_succ_cons, List.take_zero, List.drop_succ_cons, List.drop_zero]
                  rintro _ rfl
                  rintro _ rfl
                  rintro _ rfl
                  rintro _ rfl
                  rintro _ rfl
                  rintro _ rfl
                  rintro _ rfl
                  rintro _ rfl
                  rintro _ rfl
                  rintro _ rfl
                  rintro _ rfl
                  rintro _ rfl
                  rintro _ rfl
                  rintro _ rfl
                  rintro _ rfl
                  rintro _ rfl
                  rintro _ rfl
                  rintro _ rfl
                  rintro _ rfl
                  rintro _ rfl
                  rintro _ rfl
                  rintro _ rfl
                  rintro _ rfl
                  rintro _ rfl
                  rintro _ rfl
                  simp only [Act.put, List.setIfInBounds_toArray, List.set_cons_succ, List.set_cons_zero]
                  go_wp2_with fail
                  go_roundw
                  case rel => exact ⟨0 + 1, by omega, by go_num, HYX.out (by simp), fun i x y hi _ _ => by omega, HGR.out.trans HG5b.out⟩
                  case measure => simp [intOf]; omega
              · have hzd : decide (0 < (k : Int)) = true := decide_eq_true (by omega)
                have hkw : IntKind.i64.wrap ((k : Int) - 1) = ((k - 1 : Nat) : Int) := by rw [show ((k : Int) - 1) = ((k - 1 : Nat) : Int) by omega]; exact IntWalk.i64_in _ (by omega)
                have hk2 : (0 : Int) ≤ ((k - 1 : Nat) : Int) := by omega
                have hk3 : ((k - 1 : Nat) : Int) < (p.grades.length : Int) := by omega
                obtain ⟨gb2, go2, h, hga2, hgb2, hgc2, HX2⟩ := (HPA.out wr (HG.out.trans HGR.out)).grades.at_ (k := k - 1) (by omega)
                rw [hga] at hga2
                cases hga2
                have HGC2 := Lib.hid hgc2
                obtain ⟨k1, hk1e⟩ : ∃ k1, k = k1 + 1 := ⟨k - 1, by omega⟩
                have HLE : Hid (h < g → ascTo p.grades (k + 1 - 1)) := Lib.hid (fun hl i x y hi hx hy => by
                  by_cases e : i = k - 1
                  · subst e
                    rw [HX2.out] at hx
                    rw [show k - 1 + 1 = k by omega, HX.out] at hy
                    cases hx
                    cases hy
                    exact hl
                  · exact HAS.out i x y (by omega) hx hy)
                have HNE : Hid (¬ h < g → er = 90) := Lib.hid (fun hl => HNA.out (by
                  cases hq : ascL p.grades with
                  | false => rfl
                  | true => exact absurd (asc_iff.1 hq (k - 1) h g HX2.out (by rw [show k - 1 + 1 = k by omega]; exact HX.out)) hl))
                obtain ⟨km, hkm⟩ : ∃ km, k - 1 = km := ⟨_, rfl⟩
                rw [hkm] at hkw hk2 hk3 HGC2
                by_cases hl : g ≤ h
                · have hdl : decide (g ≤ h) = true := decide_eq_true hl
                  have HE := Lib.hid (HNE.out (by omega))
                  clear hgc hgc2 hcc hkm hga hk1e
                  go_wp2_with fail
                  refine wp_region_lit 25 [[], [(0, 123)], [], [(1, 124), (2, 125)], [(3, 126)], [(4, 127)], [(5, 128)], [(6, 129)], [(7, 130)], [(7, 130), (8, 131)], [(7, 130), (9, 132)], [(10, 133)], [(10, 133), (11, 134)], [(10, 133)], [(10, 133), (13, 136)], [(10, 133), (12, 135), (14, 137)], [(10, 133), (15, 138)], [(10, 133)], [(10, 133), (17, 140)], [(10, 133)], [(10, 133), (18, 141), (19, 142)], [(10, 133), (20, 143)], [(10, 133), (16, 139), (21, 144)], [(7, 130), (10, 133), (22, 145)], [(7, 130), (23, 146)]] Grow (fun qi v w' => match qi with
                      | 0 => v = .pointer (some ⟨w.heap.size, 3, none⟩)
                      | 1 => v = .slice (some ⟨gb, go', none⟩) p.grades.length p.gc
                      | 2 => v = .int .i64 (k : Nat)
                      | 3 => v = .pointer (some ⟨gb, go' + k, none⟩)
                      | 4 => v = .int .i64 g
                      | 5 => v = .bool true
                      | 6 => v = .bool false
                      | 7 => v = .bool false
                      | 8 => v = .int .i64 (k : Nat)
                      | 9 => v = .bool true
                      | 10 => v = .bool true
                      | 11 => v = .pointer (some ⟨w.heap.size, 3, none⟩)
                      | 12 => v = .slice (some ⟨gb, go', none⟩) p.grades.length p.gc
                      | 13 => v = .int .i64 (k : Nat)
                      | 14 => v = .int .i64 (km : Nat)
                      | 15 => v = .pointer (some ⟨gb, go' + km, none⟩)
                      | 16 => v = .int .i64 h
                      | 17 => v = .pointer (some ⟨w.heap.size, 3, none⟩)
                      | 18 => v = .slice (some ⟨gb, go', none⟩) p.grades.length p.gc
                      | 19 => v = .int .i64 (k : Nat)
                      | 20 => v = .pointer (some ⟨gb, go' + k, none⟩)
                      | 21 => v = .int .i64 g
                      | 22 => v = .bool true
                      | 23 => v = .bool true
                      | 24 => v = .bool true
                      | _ => False) (by kernel_rfl) (by kernel_rfl) (fun _ _ _ => Grow.trans) Grow.refl ?_ ?_ ?_
                  · intro i v y y' h k
                    match i, h with
                    | 0, h | 1, h | 2, h | 3, h | 4, h | 5, h | 6, h | 7, h | 8, h | 9, h | 10, h | 11, h | 12, h | 13, h | 14, h | 15, h | 16, h | 17, h | 18, h | 19, h | 20, h | 21, h | 22, h | 23, h | 24, h => exact h
                  · simp only [StepsLit, List.take_succ_cons, List.take_zero]
                    refine ⟨?_, ?_, ?_, ?_, ?_, ?_, ?_, ?_, ?_, ?_, ?_, ?_, ?_, ?_, ?_, ?_, ?_, ?_, ?_, ?_, ?_, ?_, ?_, ?_, ?_, trivial⟩
                    · intro w5 hR
                      have hGw : Grow wr w5 := hR.of_drew
                      have HGW := Lib.hid hGw
                      have hga1 := HGW.out.cell HGA.out
                      have hgc := HGW.out.cell HGC.out
                      have hgc2 := HGW.out.cell HGC2.out
                      clear hR hGw
                      simp only [depV]
                      try go_simp
                      all_goals first
                        | (with_reducible exact Grow.refl _)
                        | (with_reducible exact ⟨Grow.refl _, rfl⟩)
                    · intro w5 hR
                      have hGw : Grow wr w5 := hR.of_drew
                      have HGW := Lib.hid hGw
                      have hga1 := HGW.out.cell HGA.out
                      have hgc := HGW.out.cell HGC.out
                      have hgc2 := HGW.out.cell HGC2.out
                      clear hR hGw
                      simp only [depV]
                      rintro _ rfl
                      try go_simp
                      all_goals first
                        | (with_reducible exact Grow.refl _)
                        | (with_reducible exact ⟨Grow.refl _, rfl⟩)
                    · intro w5 hR
                      have hGw : Grow wr w5 := hR.of_drew
                      have HGW := Lib.hid hGw
                      have hga1 := HGW.out.cell HGA.out
                      have hgc := HGW.out.cell HGC.out
                      have hgc2 := HGW.out.cell HGC2.out
                      clear hR hGw
                      simp only [depV]
                      try go_simp
                      all_goals first
                        | (with_reducible exact Grow.refl _)
                        | (with_reducible exact ⟨Grow.refl _, rfl⟩)
                    · intro w5 hR
                      have hGw : Grow wr w5 := hR.of_drew
                      have HGW := Lib.hid hGw
                      have hga1 := HGW.out.cell HGA.out
                      have hgc := HGW.out.cell HGC.out
                      have hgc2 := HGW.out.cell HGC2.out
                      clear hR hGw
                      simp only [depV]
                      rintro _ rfl
                      rintro _ rfl
                      try go_simp
                      all_goals first
                        | (with_reducible exact Grow.refl _)
                        | (with_reducible exact ⟨Grow.refl _, rfl⟩)
                    · intro w5 hR
                      have hGw : Grow wr w5 := hR.of_drew
                      have HGW := Lib.hid hGw
                      have hga1 := HGW.out.cell HGA.out
                      have hgc := HGW.out.cell HGC.out
                      have hgc2 := HGW.out.cell HGC2.out
                      clear hR hGw
                      simp only [depV]
                      rintro _ rfl
                      try go_simp
                      all_goals first
                        | (with_reducible exact Grow.refl _)
                        | (with_reducible exact ⟨Grow.refl _, rfl⟩)
                    · intro w5 hR
                      have hGw : Grow wr w5 := hR.of_drew
                      have HGW := Lib.hid hGw
                      have hga1 := HGW.out.cell HGA.out
                      have hgc := HGW.out.cell HGC.out
                      have hgc2 := HGW.out.cell HGC2.out
                      clear hR hGw
                      simp only [depV]
                      rintro _ rfl
                      try go_simp
                      refine (HW1.out w5).mono ?_
                      rintro e w6 ⟨rfl, rfl⟩
                      exact ⟨Grow.refl _, rfl⟩
                    · intro w5 hR
                      have hGw : Grow wr w5 := hR.of_drew
                      have HGW := Lib.hid hGw
                      have hga1 := HGW.out.cell HGA.out
                      have hgc := HGW.out.cell HGC.out
                      have hgc2 := HGW.out.cell HGC2.out
                      clear hR hGw
                      simp only [depV]
                      rintro _ rfl
                      try go_simp
                      all_goals first
                        | (with_reducible exact Grow.refl _)
                        | (with_reducible exact ⟨Grow.refl _, rfl⟩)
                    · intro w5 hR
                      have hGw : Grow wr w5 := hR.of_drew
                      have HGW := Lib.hid hGw
                      have hga1 := HGW.out.cell HGA.out
                      have hgc := HGW.out.cell HGC.out
                      have hgc2 := HGW.out.cell HGC2.out
                      clear hR hGw
                      simp only [depV]
                      rintro _ rfl
                      try go_simp
                      all_goals first
                        | (with_reducible exact Grow.refl _)
                        | (with_reducible exact ⟨Grow.refl _, rfl⟩)
                    · intro w5 hR
                      have hGw : Grow wr w5 := hR.of_drew
                      have HGW := Lib.hid hGw
                      have hga1 := HGW.out.cell HGA.out
                      have hgc := HGW.out.cell HGC.out
                      have hgc2 := HGW.out.cell HGC2.out
                      clear hR hGw
                      simp only [depV]
                      rintro _ rfl
                      try go_simp
                      all_goals first
                        | (with_reducible exact Grow.refl _)
                        | (with_reducible exact ⟨Grow.refl _, rfl⟩)
                    · intro w5 hR
                      have hGw : Grow wr w5 := hR.of_drew
                      have HGW := Lib.hid hGw
                      have hga1 := HGW.out.cell HGA.out
                      have hgc := HGW.out.cell HGC.out
                      have hgc2 := HGW.out.cell HGC2.out
                      clear hR hGw
                      simp only [depV]
                      rintro _ rfl
                      rintro _ rfl
                      try go_simp
                      exact ⟨Grow.refl _, by omega⟩
                    · intro w5 hR
                      have hGw : Grow wr w5 := hR.of_drew
                      have HGW := Lib.hid hGw
                      have hga1 := HGW.out.cell HGA.out
                      have hgc := HGW.out.cell HGC.out
                      have hgc2 := HGW.out.cell HGC2.out
                      clear hR hGw
                      simp only [depV]
                      rintro _ rfl
                      rintro _ rfl
                      try go_simp
                      all_goals first
                        | (with_reducible exact Grow.refl _)
                        | (with_reducible exact ⟨Grow.refl _, rfl⟩)
                    · intro w5 hR
                      have hGw : Grow wr w5 := hR.of_drew
                      have HGW := Lib.hid hGw
                      have hga1 := HGW.out.cell HGA.out
                      have hgc := HGW.out.cell HGC.out
                      have hgc2 := HGW.out.cell HGC2.out
                      clear hR hGw
                      simp only [depV]
                      rintro _ rfl
                      try go_simp
                      all_goals first
                        | (with_reducible exact Grow.refl _)
                        | (with_reducible exact ⟨Grow.refl _, rfl⟩)
                    · intro w5 hR
                      have hGw : Grow wr w5 := hR.of_drew
                      have HGW := Lib.hid hGw
                      have hga1 := HGW.out.cell HGA.out
                      have hgc := HGW.out.cell HGC.out
                      have hgc2 := HGW.out.cell HGC2.out
                      clear hR hGw
                      simp only [depV]
                      rintro _ rfl
                      rintro _ rfl
                      try go_simp
                      all_goals first
                        | (with_reducible exact Grow.refl _)
                        | (with_reducible exact ⟨Grow.refl _, rfl⟩)
                    · intro w5 hR
                      have hGw : Grow wr w5 := hR.of_drew
                      have HGW := Lib.hid hGw
                      have hga1 := HGW.out.cell HGA.out
                      have hgc := HGW.out.cell HGC.out
                      have hgc2 := HGW.out.cell HGC2.out
                      clear hR hGw
                      simp only [depV]
                      rintro _ rfl
                      try go_simp
                      all_goals first
                        | (with_reducible exact Grow.refl _)
                        | (with_reducible exact ⟨Grow.refl _, rfl⟩)
                    · intro w5 hR
                      have hGw : Grow wr w5 := hR.of_drew
                      have HGW := Lib.hid hGw
                      have hga1 := HGW.out.cell HGA.out
                      have hgc := HGW.out.cell HGC.out
                      have hgc2 := HGW.out.cell HGC2.out
                      clear hR hGw
                      simp only [depV]
                      rintro _ rfl
                      rintro _ rfl
                      try go_simp
                      all_goals first
                        | (with_reducible exact Grow.refl _)
                        | (with_reducible exact ⟨Grow.refl _, rfl⟩)
                    · intro w5 hR
                      have hGw : Grow wr w5 := hR.of_drew
                      have HGW := Lib.hid hGw
                      have hga1 := HGW.out.cell HGA.out
                      have hgc := HGW.out.cell HGC.out
                      have hgc2 := HGW.out.cell HGC2.out
                      clear hR hGw
                      simp only [depV]
                      rintro _ rfl
                      rintro _ rfl
                      rintro _ rfl
                      try go_simp
                      all_goals first
                        | (with_reducible exact Grow.refl _)
                        | (with_reducible exact ⟨Grow.refl _, rfl⟩)
                    · intro w5 hR
                      have hGw : Grow wr w5 := hR.of_drew
                      have HGW := Lib.hid hGw
                      have hga1 := HGW.out.cell HGA.out
                      have hgc := HGW.out.cell HGC.out
                      have hgc2 := HGW.out.cell HGC2.out
                      clear hR hGw
                      simp only [depV]
                      rintro _ rfl
                      rintro _ rfl
                      try go_simp
                      all_goals first
                        | (with_reducible exact Grow.refl _)
                        | (with_reducible exact ⟨Grow.refl _, rfl⟩)
                    · intro w5 hR
                      have hGw : Grow wr w5 := hR.of_drew
                      have HGW := Lib.hid hGw
                      have hga1 := HGW.out.cell HGA.out
                      have hgc := HGW.out.cell HGC.out
                      have hgc2 := HGW.out.cell HGC2.out
                      clear hR hGw
                      simp only [depV]
                      rintro _ rfl
                      try go_simp
                      all_goals first
                        | (with_reducible exact Grow.refl _)
                        | (with_reducible exact ⟨Grow.refl _, rfl⟩)
                    · intro w5 hR
                      have hGw : Grow wr w5 := hR.of_drew
                      have HGW := Lib.hid hGw
                      have hga1 := HGW.out.cell HGA.out
                      have hgc := HGW.out.cell HGC.out
                      have hgc2 := HGW.out.cell HGC2.out
                      clear hR hGw
                      simp only [depV]
                      rintro _ rfl
                      rintro _ rfl
                      try go_simp
                      all_goals first
                        | (with_reducible exact Grow.refl _)
                        | (with_reducible exact ⟨Grow.refl _, rfl⟩)
                    · intro w5 hR
                      have hGw : Grow wr w5 := hR.of_drew
                      have HGW := Lib.hid hGw
                      have hga1 := HGW.out.cell HGA.out
                      have hgc := HGW.out.cell HGC.out
                      have hgc2 := HGW.out.cell HGC2.out
                      clear hR hGw
                      simp only [depV]
                      rintro _ rfl
                      try go_simp
                      all_goals first
                        | (with_reducible exact Grow.refl _)
                        | (with_reducible exact ⟨Grow.refl _, rfl⟩)
                    · intro w5 hR
                      have hGw : Grow wr w5 := hR.of_drew
                      have HGW := Lib.hid hGw
                      have hga1 := HGW.out.cell HGA.out
                      have hgc := HGW.out.cell HGC.out
                      have hgc2 := HGW.out.cell HGC2.out
                      clear hR hGw
                      simp only [depV]
                      rintro _ rfl
                      rintro _ rfl
                      rintro _ rfl
                      try go_simp
                      all_goals first
                        | (with_reducible exact Grow.refl _)
                        | (with_reducible exact ⟨Grow.refl _, rfl⟩)
                    · intro w5 hR
                      have hGw : Grow wr w5 := hR.of_drew
                      have HGW := Lib.hid hGw
                      have hga1 := HGW.out.cell HGA.out
                      have hgc := HGW.out.cell HGC.out
                      have hgc2 := HGW.out.cell HGC2.out
                      clear hR hGw
                      simp only [depV]
                      rintro _ rfl
                      rintro _ rfl
                      try go_simp
                      all_goals first
                        | (with_reducible exact Grow.refl _)
                        | (with_reducible exact ⟨Grow.refl _, rfl⟩)
                    · intro w5 hR
                      have hGw : Grow wr w5 := hR.of_drew
                      have HGW := Lib.hid hGw
                      have hga1 := HGW.out.cell HGA.out
                      have hgc := HGW.out.cell HGC.out
                      have hgc2 := HGW.out.cell HGC2.out
                      clear hR hGw
                      simp only [depV]
                      rintro _ rfl
                      rintro _ rfl
                      rintro _ rfl
                      try go_simp
                      all_goals first
                        | (with_reducible exact Grow.refl _)
                        | (with_reducible exact ⟨Grow.refl _, rfl⟩)
                    · intro w5 hR
                      have hGw : Grow wr w5 := hR.of_drew
                      have HGW := Lib.hid hGw
                      have hga1 := HGW.out.cell HGA.out
                      have hgc := HGW.out.cell HGC.out
                      have hgc2 := HGW.out.cell HGC2.out
                      clear hR hGw
                      simp only [depV]
                      rintro _ rfl
                      rintro _ rfl
                      rintro _ rfl
                      try go_simp
                      all_goals first
                        | (with_reducible exact Grow.refl _)
                        | (with_reducible exact ⟨Grow.refl _, rfl⟩)
                    · intro w5 hR
                      have hGw : Grow wr w5 := hR.of_drew
                      have HGW := Lib.hid hGw
                      have hga1 := HGW.out.cell HGA.out
                      have hgc := HGW.out.cell HGC.out
                      have hgc2 := HGW.out.cell HGC2.out
                      clear hR hGw
                      simp only [depV]
                      rintro _ rfl
                      rintro _ rfl
                      try go_simp
                      all_goals first
                        | (with_reducible exact Grow.refl _)
                        | (with_reducible exact ⟨Grow.refl _, rfl⟩)
                  · intro w5 hR
                    have HG5b : Hid (Grow wr w5) := Lib.hid hR.of_drew
                    clear hR
                    simp only [finVC, List.take_succ_cons, List.take_zero, List.drop_succ_cons, List.drop_zero]
                    rintro _ rfl
                    rintro _ rfl
                    rintro _ rfl
                    rintro _ rfl
                    rintro _ rfl
                    rintro _ rfl
                    rintro _ rfl
                    rintro _ rfl
                    rintro _ rfl
                    rintro _ rfl
                    rintro _ rfl
                    rintro _ rfl
                    rintro _ rfl
                    rintro _ rfl
                    rintro _ rfl
                    rintro _ rfl
                    rintro _ rfl
                    rintro _ rfl
                    rintro _ rfl
                    rintro _ rfl
                    rintro _ rfl
                    rintro _ rfl
                    rintro _ rfl
                    rintro _ rfl
                    rintro _ rfl
                    simp only [Act.put, List.setIfInBounds_toArray, List.set_cons_succ, List.set_cons_zero]
                    go_wp2_with fail
                    go_ret
                    exact ⟨ret_int (HE.out).symm, (HG.out.trans HGR.out).trans HG5b.out⟩
                · have hdl : decide (g ≤ h) = false := decide_eq_false hl
                  have HE := Lib.hid (HLE.out (by omega))
                  clear hgc hgc2 hcc hkm hga hk1e
                  go_wp2_with fail
                  refine wp_region_lit 25 [[], [(0, 123)], [], [(1, 124), (2, 125)], [(3, 126)], [(4, 127)], [(5, 128)], [(6, 129)], [(7, 130)], [(7, 130), (8, 131)], [(7, 130), (9, 132)], [(10, 133)], [(10, 133), (11, 134)], [(10, 133)], [(10, 133), (13, 136)], [(10, 133), (12, 135), (14, 137)], [(10, 133), (15, 138)], [(10, 133)], [(10, 133), (17, 140)], [(10, 133)], [(10, 133), (18, 141), (19, 142)], [(10, 133), (20, 143)], [(10, 133), (16, 139), (21, 144)], [(7, 130), (10, 133), (22, 145)], [(7, 130), (23, 146)]] Grow (fun qi v w' => match qi with
                      | 0 => v = .pointer (some ⟨w.heap.size, 3, none⟩)
                      | 1 => v = .slice (some ⟨gb, go', none⟩) p.grades.length p.gc
                      | 2 => v = .int .i64 (k : Nat)
                      | 3 => v = .pointer (some ⟨gb, go' + k, none⟩)
                      | 4 => v = .int .i64 g
                      | 5 => v = .bool true
                      | 6 => v = .bool false
                      | 7 => v = .bool false
                      | 8 => v = .int .i64 (k : Nat)
                      | 9 => v = .bool true
                      | 10 => v = .bool true
                      | 11 => v = .pointer (some ⟨w.heap.size, 3, none⟩)
                      | 12 => v = .slice (some ⟨gb, go', none⟩) p.grades.length p.gc
                      | 13 => v = .int .i64 (k : Nat)
                      | 14 => v = .int .i64 (km : Nat)
                      | 15 => v = .pointer (some ⟨gb, go' + km, none⟩)
                      | 16 => v = .int .i64 h
                      | 17 => v = .pointer (some ⟨w.heap.size, 3, none⟩)
                      | 18 => v = .slice (some ⟨gb, go', none⟩) p.grades.length p.gc
                      | 19 => v = .int .i64 (k : Nat)
                      | 20 => v = .pointer (some ⟨gb, go' + k, none⟩)
                      | 21 => v = .int .i64 g
                      | 22 => v = .bool false
                      | 23 => v = .bool false
                      | 24 => v = .bool false
                      | _ => False) (by kernel_rfl) (by kernel_rfl) (fun _ _ _ => Grow.trans) Grow.refl ?_ ?_ ?_
                  · intro i v y y' h k
                    match i, h with
                    | 0, h | 1, h | 2, h | 3, h | 4, h | 5, h | 6, h | 7, h | 8, h | 9, h | 10, h | 11, h | 12, h | 13, h | 14, h | 15, h | 16, h | 17, h | 18, h | 19, h | 20, h | 21, h | 22, h | 23, h | 24, h => exact h
                  · simp only [StepsLit, List.take_succ_cons, List.take_zero]
                    refine ⟨?_, ?_, ?_, ?_, ?_, ?_, ?_, ?_, ?_, ?_, ?_, ?_, ?_, ?_, ?_, ?_, ?_, ?_, ?_, ?_, ?_, ?_, ?_, ?_, ?_, trivial⟩
                    · intro w5 hR
                      have hGw : Grow wr w5 := hR.of_drew
                      have HGW := Lib.hid hGw
                      have hga1 := HGW.out.cell HGA.out
                      have hgc := HGW.out.cell HGC.out
                      have hgc2 := HGW.out.cell HGC2.out
                      clear hR hGw
                      simp only [depV]
                      try go_simp
                      all_goals first
                        | (with_reducible exact Grow.refl _)
                        | (with_reducible exact ⟨Grow.refl _, rfl⟩)
                    · intro w5 hR
                      have hGw : Grow wr w5 := hR.of_drew
                      have HGW := Lib.hid hGw
                      have hga1 := HGW.out.cell HGA.out
                      have hgc := HGW.out.cell HGC.out
                      have hgc2 := HGW.out.cell HGC2.out
                      clear hR hGw
                      simp only [depV]
                      rintro _ rfl
                      try go_simp
                      all_goals first
                        | (with_reducible exact Grow.refl _)
                        | (with_reducible exact ⟨Grow.refl _, rfl⟩)
                    · intro w5 hR
                      have hGw : Grow wr w5 := hR.of_drew
                      have HGW := Lib.hid hGw
                      have hga1 := HGW.out.cell HGA.out
                      have hgc := HGW.out.cell HGC.out
                      have hgc2 := HGW.out.cell HGC2.out
                      clear hR hGw
                      simp only [depV]
                      try go_simp
                      all_goals first
                        | (with_reducible exact Grow.refl _)
                        | (with_reducible exact ⟨Grow.refl _, rfl⟩)
                    · intro w5 hR
                      have hGw : Grow wr w5 := hR.of_drew
                      have HGW := Lib.hid hGw
                      have hga1 := HGW.out.cell HGA.out
                      have hgc := HGW.out.cell HGC.out
                      have hgc2 := HGW.out.cell HGC2.out
                      clear hR hGw
                      simp only [depV]
                      rintro _ rfl
                      rintro _ rfl
                      try go_simp
                      all_goals first
                        | (with_reducible exact Grow.refl _)
                        | (with_reducible exact ⟨Grow.refl _, rfl⟩)
                    · intro w5 hR
                      have hGw : Grow wr w5 := hR.of_drew
                      have HGW := Lib.hid hGw
                      have hga1 := HGW.out.cell HGA.out
                      have hgc := HGW.out.cell HGC.out
                      have hgc2 := HGW.out.cell HGC2.out
                      clear hR hGw
                      simp only [depV]
                      rintro _ rfl
                      try go_simp
                      all_goals first
                        | (with_reducible exact Grow.refl _)
                        | (with_reducible exact ⟨Grow.refl _, rfl⟩)
                    · intro w5 hR
                      have hGw : Grow wr w5 := hR.of_drew
                      have HGW := Lib.hid hGw
                      have hga1 := HGW.out.cell HGA.out
                      have hgc := HGW.out.cell HGC.out
                      have hgc2 := HGW.out.cell HGC2.out
                      clear hR hGw
                      simp only [depV]
                      rintro _ rfl
                      try go_simp
                      refine (HW1.out w5).mono ?_
                      rintro e w6 ⟨rfl, rfl⟩
                      exact ⟨Grow.refl _, rfl⟩
                    · intro w5 hR
                      have hGw : Grow wr w5 := hR.of_drew
                      have HGW := Lib.hid hGw
                      have hga1 := HGW.out.cell HGA.out
                      have hgc := HGW.out.cell HGC.out
                      have hgc2 := HGW.out.cell HGC2.out
                      clear hR hGw
                      simp only [depV]
                      rintro _ rfl
                      try go_simp
                      all_goals first
                        | (with_reducible exact Grow.refl _)
                        | (with_reducible exact ⟨Grow.refl _, rfl⟩)
                    · intro w5 hR
                      have hGw : Grow wr w5 := hR.of_drew
                      have HGW := Lib.hid hGw
                      have hga1 := HGW.out.cell HGA.out
                      have hgc := HGW.out.cell HGC.out
                      have hgc2 := HGW.out.cell HGC2.out
                      clear hR hGw
                      simp only [depV]
                      rintro _ rfl
                      try go_simp
                      all_goals first
                        | (with_reducible exact Grow.refl _)
                        | (with_reducible exact ⟨Grow.refl _, rfl⟩)
                    · intro w5 hR
                      have hGw : Grow wr w5 := hR.of_drew
                      have HGW := Lib.hid hGw
                      have hga1 := HGW.out.cell HGA.out
                      have hgc := HGW.out.cell HGC.out
                      have hgc2 := HGW.out.cell HGC2.out
                      clear hR hGw
                      simp only [depV]
                      rintro _ rfl
                      try go_simp
                      all_goals first
                        | (with_reducible exact Grow.refl _)
                        | (with_reducible exact ⟨Grow.refl _, rfl⟩)
                    · intro w5 hR
                      have hGw : Grow wr w5 := hR.of_drew
                      have HGW := Lib.hid hGw
                      have hga1 := HGW.out.cell HGA.out
                      have hgc := HGW.out.cell HGC.out
                      have hgc2 := HGW.out.cell HGC2.out
                      clear hR hGw
                      simp only [depV]
                      rintro _ rfl
                      rintro _ rfl
                      try go_simp
                      exact ⟨Grow.refl _, by omega⟩
                    · intro w5 hR
                      have hGw : Grow wr w5 := hR.of_drew
                      have HGW := Lib.hid hGw
                      have hga1 := HGW.out.cell HGA.out
                      have hgc := HGW.out.cell HGC.out
                      have hgc2 := HGW.out.cell HGC2.out
                      clear hR hGw
                      simp only [depV]
                      rintro _ rfl
                      rintro _ rfl
                      try go_simp
                      all_goals first
                        | (with_reducible exact Grow.refl _)
                        | (with_reducible exact ⟨Grow.refl _, rfl⟩)
                    · intro w5 hR
                      have hGw : Grow wr w5 := hR.of_drew
                      have HGW := Lib.hid hGw
                      have hga1 := HGW.out.cell HGA.out
                      have hgc := HGW.out.cell HGC.out
                      have hgc2 := HGW.out.cell HGC2.out
                      clear hR hGw
                      simp only [depV]
                      rintro _ rfl
                      try go_simp
                      all_goals first
                        | (with_reducible exact Grow.refl _)
                        | (with_reducible exact ⟨Grow.refl _, rfl⟩)
                    · intro w5 hR
                      have hGw : Grow wr w5 := hR.of_drew
                      have HGW := Lib.hid hGw
                      have hga1 := HGW.out.cell HGA.out
                      have hgc := HGW.out.cell HGC.out
                      have hgc2 := HGW.out.cell HGC2.out
                      clear hR hGw
                      simp only [depV]
                      rintro _ rfl
                      rintro _ rfl
                      try go_simp
                      all_goals first
                        | (with_reducible exact Grow.refl _)
                        | (with_reducible exact ⟨Grow.refl _, rfl⟩)
                    · intro w5 hR
                      have hGw : Grow wr w5 := hR.of_drew
                      have HGW := Lib.hid hGw
                      have hga1 := HGW.out.cell HGA.out
                      have hgc := HGW.out.cell HGC.out
                      have hgc2 := HGW.out.cell HGC2.out
                      clear hR hGw
                      simp only [depV]
                      rintro _ rfl
                      try go_simp
                      all_goals first
                        | (with_reducible exact Grow.refl _)
                        | (with_reducible exact ⟨Grow.refl _, rfl⟩)
                    · intro w5 hR
                      have hGw : Grow wr w5 := hR.of_drew
                      have HGW := Lib.hid hGw
                      have hga1 := HGW.out.cell HGA.out
                      have hgc := HGW.out.cell HGC.out
                      have hgc2 := HGW.out.cell HGC2.out
                      clear hR hGw
                      simp only [depV]
                      rintro _ rfl
                      rintro _ rfl
                      try go_simp
                      all_goals first
                        | (with_reducible exact Grow.refl _)
                        | (with_reducible exact ⟨Grow.refl _, rfl⟩)
                    · intro w5 hR
                      have hGw : Grow wr w5 := hR.of_drew
                      have HGW := Lib.hid hGw
                      have hga1 := HGW.out.cell HGA.out
                      have hgc := HGW.out.cell HGC.out
                      have hgc2 := HGW.out.cell HGC2.out
                      clear hR hGw
                      simp only [depV]
                      rintro _ rfl
                      rintro _ rfl
                      rintro _ rfl
                      try go_simp
                      all_goals first
                        | (with_reducible exact Grow.refl _)
                        | (with_reducible exact ⟨Grow.refl _, rfl⟩)
                    · intro w5 hR
                      have hGw : Grow wr w5 := hR.of_drew
                      have HGW := Lib.hid hGw
                      have hga1 := HGW.out.cell HGA.out
                      have hgc := HGW.out.cell HGC.out
                      have hgc2 := HGW.out.cell HGC2.out
                      clear hR hGw
                      simp only [depV]
                      rintro _ rfl
                      rintro _ rfl
                      try go_simp
                      all_goals first
                        | (with_reducible exact Grow.refl _)
                        | (with_reducible exact ⟨Grow.refl _, rfl⟩)
                    · intro w5 hR
                      have hGw : Grow wr w5 := hR.of_drew
                      have HGW := Lib.hid hGw
                      have hga1 := HGW.out.cell HGA.out
                      have hgc := HGW.out.cell HGC.out
                      have hgc2 := HGW.out.cell HGC2.out
                      clear hR hGw
                      simp only [depV]
                      rintro _ rfl
                      try go_simp
                      all_goals first
                        | (with_reducible exact Grow.refl _)
                        | (with_reducible exact ⟨Grow.refl _, rfl⟩)
                    · intro w5 hR
                      have hGw : Grow wr w5 := hR.of_drew
                      have HGW := Lib.hid hGw
                      have hga1 := HGW.out.cell HGA.out
                      have hgc := HGW.out.cell HGC.out
                      have hgc2 := HGW.out.cell HGC2.out
                      clear hR hGw
                      simp only [depV]
                      rintro _ rfl
                      rintro _ rfl
                      try go_simp
                      all_goals first
                        | (with_reducible exact Grow.refl _)
                        | (with_reducible exact ⟨Grow.refl _, rfl⟩)
                    · intro w5 hR
                      have hGw : Grow wr w5 := hR.of_drew
                      have HGW := Lib.hid hGw
                      have hga1 := HGW.out.cell HGA.out
                      have hgc := HGW.out.cell HGC.out
                      have hgc2 := HGW.out.cell HGC2.out
                      clear hR hGw
                      simp only [depV]
                      rintro _ rfl
                      try go_simp
                      all_goals first
                        | (with_reducible exact Grow.refl _)
                        | (with_reducible exact ⟨Grow.refl _, rfl⟩)
                    · intro w5 hR
                      have hGw : Grow wr w5 := hR.of_drew
                      have HGW := Lib.hid hGw
                      have hga1 := HGW.out.cell HGA.out
                      have hgc := HGW.out.cell HGC.out
                      have hgc2 := HGW.out.cell HGC2.out
                      clear hR hGw
                      simp only [depV]
                      rintro _ rfl
                      rintro _ rfl
                      rintro _ rfl
                      try go_simp
                      all_goals first
                        | (with_reducible exact Grow.refl _)
                        | (with_reducible exact ⟨Grow.refl _, rfl⟩)
                    · intro w5 hR
                      have hGw : Grow wr w5 := hR.of_drew
                      have HGW := Lib.hid hGw
                      have hga1 := HGW.out.cell HGA.out
                      have hgc := HGW.out.cell HGC.out
                      have hgc2 := HGW.out.cell HGC2.out
                      clear hR hGw
                      simp only [depV]
                      rintro _ rfl
                      rintro _ rfl
                      try go_simp
                      all_goals first
                        | (with_reducible exact Grow.refl _)
                        | (with_reducible exact ⟨Grow.refl _, rfl⟩)
                    · intro w5 hR
                      have hGw : Grow wr w5 := hR.of_drew
                      have HGW := Lib.hid hGw
                      have hga1 := HGW.out.cell HGA.out
                      have hgc := HGW.out.cell HGC.out
                      have hgc2 := HGW.out.cell HGC2.out
                      clear hR hGw
                      simp only [depV]
                      rintro _ rfl
                      rintro _ rfl
                      rintro _ rfl
                      try go_simp
                      all_goals first
                        | (with_reducible exact Grow.refl _)
                        | (with_reducible exact ⟨Grow.refl _, rfl⟩)
                    · intro w5 hR
                      have hGw : Grow wr w5 := hR.of_drew
                      have HGW := Lib.hid hGw
                      have hga1 := HGW.out.cell HGA.out
                      have hgc := HGW.out.cell HGC.out
                      have hgc2 := HGW.out.cell HGC2.out
                      clear hR hGw
                      simp only [depV]
                      rintro _ rfl
                      rintro _ rfl
                      rintro _ rfl
                      try go_simp
                      all_goals first
                        | (with_reducible exact Grow.refl _)
                        | (with_reducible exact ⟨Grow.refl _, rfl⟩)
                    · intro w5 hR
                      have hGw : Grow wr w5 := hR.of_drew
                      have HGW := Lib.hid hGw
                      have hga1 := HGW.out.cell HGA.out
                      have hgc := HGW.out.cell HGC.out
                      have hgc2 := HGW.out.cell HGC2.out
                      clear hR hGw
                      simp only [depV]
                      rintro _ rfl
                      rintro _ rfl
                      try go_simp
                      all_goals first
                        | (with_reducible exact Grow.refl _)
                        | (with_reducible exact ⟨Grow.refl _, rfl⟩)
                  · intro w5 hR
                    have HG5b : Hid (Grow wr w5) := Lib.hid hR.of_drew
                    clear hR
                    simp only [finVC, List.take_succ_cons, List.take_zero, List.drop_succ_cons, List.drop_zero]
                    rintro _ rfl
                    rintro _ rfl
                    rintro _ rfl
                    rintro _ rfl
                    rintro _ rfl
                    rintro _ rfl
                    rintro _ rfl
                    rintro _ rfl
                    rintro _ rfl
                    rintro _ rfl
                    rintro _ rfl
                    rintro _ rfl
                    rintro _ rfl
                    rintro _ rfl
                    rintro _ rfl
                    rintro _ rfl
                    rintro _ rfl
                    rintro _ rfl
                    rintro _ rfl
                    rintro _ rfl
                    rintro _ rfl
                    rintro _ rfl
                    rintro _ rfl
                    rintro _ rfl
                    rintro _ rfl
                    simp only [Act.put, List.setIfInBounds_toArray, List.set_cons_succ, List.set_cons_zero]
                    go_wp2_with fail
                    go_roundw
                    case rel => exact ⟨k + 1, by omega, by go_num, HYX.out (by simp), HE.out, HGR.out.trans HG5b.out⟩
                    case measure => simp [intOf]; omega
            · obtain rfl : k = p.grades.length := by omega
              have hd : decide ((p.grades.length : Int) < (p.grades.length : Int)) = false := decide_eq_false (by omega)
              have HE := Lib.hid (HYES.out (by simp) HJ4.out (by simp) HG5.out HIT.out HJU.out HAT.out (asc_iff.2 fun i x y hx hy => HAS.out i x y (by have := (List.getElem?_eq_some_iff.1 hy).1; omega) hx hy))
              go_wp2
              go_ret
              exact ⟨ret_int HE.out.symm, HG.out.trans HGR.out⟩

end Go.Proofs.YthehkgpnnndboaaDoor
