/- Far: which papers are larger than a statement looks at, and which are valid, in the law's words. -/
import Derived.Test.YthehkgpnnndboaaDoorRCheck
namespace Go.Proofs.YthehkgpnnndboaaDoor
open Go.RowKit

def longJ (x : JudgeR) : Bool := decide (20 < x.d.marks.length)
def farP (p : PaperR) : Bool := (decide (20 < p.items.length) || decide (20 < p.judges.length) || decide (20 < p.grades.length)) || (p.judges.any longJ || (okPaper p.d && decide (3 < p.judges.length)))
theorem far_parts {p : PaperR} (h : farP p = false) : p.items.length ≤ 20 ∧ p.judges.length ≤ 20 ∧ p.grades.length ≤ 20 ∧ (∀ x, x ∈ p.judges → x.d.marks.length ≤ 20) ∧ (okPaper p.d = true → p.judges.length ≤ 3) := by
  unfold farP at h
  simp only [Bool.or_eq_false_iff, decide_eq_false_iff_not, List.any_eq_false] at h
  obtain ⟨⟨⟨h1, h2⟩, h3⟩, h4, h5⟩ := h
  refine ⟨by omega, by omega, by omega, fun x hx => ?_, fun hok => ?_⟩
  · have := h4 x hx
    unfold longJ at this
    simp only [decide_eq_true_eq] at this
    omega
  · rw [hok, Bool.true_and, decide_eq_false_iff_not] at h5
    omega
theorem far_short {p : PaperR} (h : farP p = false) : Short p := by
  obtain ⟨a, b, c, d, _⟩ := far_parts h
  exact ⟨by omega, by omega, by omega, fun x hx => by have := d x hx; omega⟩
theorem noTo_any {α : Type} {l : List α} {f : α → Bool} (h : allTo l (fun x => !f x) l.length) : l.any f = false := by
  rw [List.any_eq_false]
  intro x hx
  have := List.all_eq_true.1 (allTo_all h) x hx
  simpa using this
theorem any_at {α : Type} {l : List α} {k : Nat} {x : α} {f : α → Bool} (hx : l[k]? = some x) (h : f x = true) : l.any f = true := List.any_eq_true.2 ⟨x, List.mem_of_getElem? hx, h⟩

set_option maxRecDepth 100000 in
set_option maxHeartbeats 16000000 in
theorem far_any (p : PaperR) (w : World) (hA : PaperAt w w.heap.size p) :
    Calls Tryd.prog 13 #[paperV p] w fun e w' => e = .returned (.bool (farP p)) ∧ Below w.heap.size w w' := by
  have HPA := Lib.hid (fun (w0 : World) (hw : Grow w w0) => hA.grow hw)
  have HFA : Hid (farP p = ((decide (20 < p.items.length) || decide (20 < p.judges.length) || decide (20 < p.grades.length)) || (p.judges.any longJ || (okPaper p.d && decide (3 < p.judges.length))))) := Lib.hid rfl
  obtain ⟨fr, hfr⟩ : ∃ z, farP p = z := ⟨_, rfl⟩
  rw [hfr] at HFA ⊢
  clear hfr hA
  go_enter Tryd.func13, Tryd.ntmps13
  go_upto_region 1 with fail
  obtain ⟨W, hW, hgr, hf, hsz⟩ := one_block w 26 (cellsP p)
  rw [hW]
  clear hW
  have hcc := hf.cell
  have HFR := Lib.hid hf
  have HG := Lib.hid hgr
  clear hf hgr
  by_cases h1 : 20 < p.items.length
  · have hd1 : decide ((20 : Int) < (p.items.length : Int)) = true := decide_eq_true (by omega)
    have HX : Hid (fr = true) := Lib.hid (by rw [HFA.out, decide_eq_true h1]; rfl)
    go_wp2
    go_ret
    exact ⟨ret_bool HX.out.symm, HG.out⟩
  have hd1 : decide ((20 : Int) < (p.items.length : Int)) = false := decide_eq_false (by omega)
  by_cases h2 : 20 < p.judges.length
  · have hd2 : decide ((20 : Int) < (p.judges.length : Int)) = true := decide_eq_true (by omega)
    have HX : Hid (fr = true) := Lib.hid (by rw [HFA.out, decide_eq_true h2]; simp)
    go_wp2
    go_ret
    exact ⟨ret_bool HX.out.symm, HG.out⟩
  have hd2 : decide ((20 : Int) < (p.judges.length : Int)) = false := decide_eq_false (by omega)
  by_cases h3 : 20 < p.grades.length
  · have hd3 : decide ((20 : Int) < (p.grades.length : Int)) = true := decide_eq_true (by omega)
    have HX : Hid (fr = true) := Lib.hid (by rw [HFA.out, decide_eq_true h3]; simp)
    go_wp2
    go_ret
    exact ⟨ret_bool HX.out.symm, HG.out⟩
  have hd3 : decide ((20 : Int) < (p.grades.length : Int)) = false := decide_eq_false (by omega)
  have HFB : Hid (fr = (p.judges.any longJ || (okPaper p.d && decide (3 < p.judges.length)))) := Lib.hid (by rw [HFA.out, decide_eq_false h1, decide_eq_false h2, decide_eq_false h3]; rfl)
  clear HFA
  go_wp2_with fail
  clear hd1 hd2 hd3
  go_loopw [3] (fun iv wr => ∃ k : Nat, k ≤ p.judges.length ∧ iv = .int .i64 (k : Nat) ∧ Hid (allTo p.judges (fun x => !longJ x) k) ∧ wr = W) (fun iv _ => p.judges.length - (intOf iv).toNat)
  case atStart => exact ⟨0, Nat.zero_le _, rfl, allTo_zero _ _, rfl⟩
  case round =>
    obtain ⟨k, hk, rfl, HA, rfl⟩ := hrel
    rename World => W
    have hk0 : (0 : Int) ≤ (k : Int) := by omega
    by_cases hlt : k < p.judges.length
    · have hd : decide ((k : Int) < (p.judges.length : Int)) = true := decide_eq_true (by omega)
      have hk1 : (k : Int) < (p.judges.length : Int) := by omega
      obtain ⟨b, off, x, hja, hb, c0, c1, c2, c3, HX, _⟩ := judge_at (HPA.out W HG.out) hlt
      have hja1 : W.cell? ⟨w.heap.size, 1, none⟩ = some (.slice (some ⟨b, off, none⟩) p.judges.length p.jc) := (hcc 1).trans (by show some (Value.slice p.ja p.judges.length p.jc) = _; rw [hja])
      clear hja hcc c0 c1 c2
      by_cases h4 : 20 < x.d.marks.length
      · have hd4 : decide ((20 : Int) < (x.d.marks.length : Int)) = true := decide_eq_true (by omega)
        have HY : Hid (fr = true) := Lib.hid (by rw [HFB.out, any_at HX.out (f := longJ) (decide_eq_true h4)]; rfl)
        go_wp2
        go_ret
        exact ⟨ret_bool HY.out.symm, HG.out⟩
      · have hd4 : decide ((20 : Int) < (x.d.marks.length : Int)) = false := decide_eq_false (by omega)
        have HY := Lib.hid (allTo_succ HA.out HX.out (by show (!longJ x) = true; unfold longJ; simp [h4]))
        go_wp2
        go_roundw
        case rel => exact ⟨k + 1, by omega, by go_num, HY.out, by simp⟩
        case measure => simp [intOf]; omega
    · obtain rfl : k = p.judges.length := by omega
      have hd : decide ((p.judges.length : Int) < (p.judges.length : Int)) = false := decide_eq_false (by omega)
      have HN := Lib.hid (noTo_any HA.out)
      have HFC : Hid (fr = (okPaper p.d && decide (3 < p.judges.length))) := Lib.hid (by rw [HFB.out, HN.out]; rfl)
      have hsh : Short p := ⟨by omega, by omega, by omega, fun x hx => by
        have := List.any_eq_false.1 HN.out x hx
        unfold longJ at this
        simp only [decide_eq_true_eq] at this
        omega⟩
      have HC := Lib.hid (fun (w0 : World) (hw : Grow w w0) => rCheck_any p w0 (HPA.out w0 hw) hsh)
      clear HFB HN hsh
      have HER : Hid (paperErr p = if okPaper p.d then 0 else 90) := Lib.hid rfl
      obtain ⟨ok, hok⟩ : ∃ z, okPaper p.d = z := ⟨_, rfl⟩
      obtain ⟨er, her⟩ : ∃ z, paperErr p = z := ⟨_, rfl⟩
      rw [hok] at HFC HER
      rw [her] at HER HC
      clear hok her
      go_wp2_with fail
      refine (HC.out _ HG.out).mono ?_
      rintro e w1 ⟨rfl, hb1⟩
      have HG1 : Hid (Grow w w1) := Lib.hid (HG.out.trans hb1)
      have hcc1 := ((show Grow W w1 from hb1).block HFR.out).cell
      clear hb1 hcc
      cases ok with
      | true =>
        obtain rfl : er = 0 := by rw [HER.out]; rfl
        by_cases h5 : 3 < p.judges.length
        · have hd5 : decide ((3 : Int) < (p.judges.length : Int)) = true := decide_eq_true (by omega)
          go_wp2
          go_ret
          exact ⟨ret_bool (by rw [HFC.out, decide_eq_true h5]; rfl), HG1.out⟩
        · have hd5 : decide ((3 : Int) < (p.judges.length : Int)) = false := decide_eq_false (by omega)
          go_wp2
          go_ret
          exact ⟨ret_bool (by rw [HFC.out, decide_eq_false h5]; rfl), HG1.out⟩
      | false =>
        obtain rfl : er = 90 := by rw [HER.out]; rfl
        go_wp2
        go_ret
        exact ⟨ret_bool (by rw [HFC.out]; rfl), HG1.out⟩

/-- ready: valid, and of a size that a statement looks at -/
def readyP (p : PaperR) : Bool := !farP p && okPaper p.d
set_option maxRecDepth 100000 in
set_option maxHeartbeats 4000000 in
theorem ready_any (p : PaperR) (w : World) (hA : PaperAt w w.heap.size p) :
    Calls Tryd.prog 39 #[paperV p] w fun e w' => e = .returned (.bool (readyP p)) ∧ Below w.heap.size w w' := by
  have HFR := Lib.hid (fun (w0 : World) (hw : Grow w w0) => far_any p w0 (hA.grow hw))
  have HCH := Lib.hid (fun (h : farP p = false) (w0 : World) (hw : Grow w w0) => rCheck_any p w0 (hA.grow hw) (far_short h))
  have HRD : Hid (readyP p = (!farP p && okPaper p.d)) := Lib.hid rfl
  have HER : Hid (paperErr p = if okPaper p.d then 0 else 90) := Lib.hid rfl
  obtain ⟨fr, hfr⟩ : ∃ z, farP p = z := ⟨_, rfl⟩
  obtain ⟨ok, hok⟩ : ∃ z, okPaper p.d = z := ⟨_, rfl⟩
  obtain ⟨er, her⟩ : ∃ z, paperErr p = z := ⟨_, rfl⟩
  obtain ⟨rd, hrd⟩ : ∃ z, readyP p = z := ⟨_, rfl⟩
  rw [hrd] at HRD ⊢
  rw [hfr] at HRD HCH HFR
  rw [hok] at HRD HER
  rw [her] at HCH HER
  clear hfr hok her hrd hA
  go_enter Tryd.func39, Tryd.ntmps39
  go_upto_region 1 with fail
  obtain ⟨W, hW, hgr, hf, hsz⟩ := one_block w 26 (cellsP p)
  rw [hW]
  clear hW
  have hcc := hf.cell
  have HF := Lib.hid hf
  have HG := Lib.hid hgr
  clear hf hgr
  go_wp2_with fail
  refine (HFR.out _ HG.out).mono ?_
  rintro e w1 ⟨rfl, hb1⟩
  have HG1 : Hid (Grow w w1) := Lib.hid (HG.out.trans hb1)
  have hcc1 := ((show Grow W w1 from hb1).block HF.out).cell
  clear hb1 hcc
  cases fr with
  | true =>
    go_wp2
    go_ret
    exact ⟨ret_bool (by rw [HRD.out]; rfl), HG1.out⟩
  | false =>
    go_wp2_with fail
    refine (HCH.out (by simp) _ HG1.out).mono ?_
    rintro e w2 ⟨rfl, hb2⟩
    have HG2 : Hid (Grow w w2) := Lib.hid (HG1.out.trans hb2)
    clear hb2 hcc1
    cases ok with
    | true =>
      obtain rfl : er = 0 := by rw [HER.out]; rfl
      go_wp2
      go_ret
      exact ⟨ret_bool (by rw [HRD.out]; rfl), HG2.out⟩
    | false =>
      obtain rfl : er = 90 := by rw [HER.out]; rfl
      go_wp2
      go_ret
      exact ⟨ret_bool (by rw [HRD.out]; rfl), HG2.out⟩
theorem ready_parts {p : PaperR} (h : readyP p = true) : okPaper p.d = true ∧ GoodP p.d ∧ Short p ∧ p.judges.length ≤ 3 := by
  unfold readyP at h
  rw [Bool.and_eq_true, Bool.not_eq_true'] at h
  exact ⟨h.2, good_of h.2, far_short h.1, (far_parts h.1).2.2.2.2 h.2⟩

end Go.Proofs.YthehkgpnnndboaaDoor
