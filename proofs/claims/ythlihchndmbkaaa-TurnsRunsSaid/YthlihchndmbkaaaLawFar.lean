/- LawFar: Far and valid of the laws; the specification's IsRota. -/
import Derived.Test.YthlihchndmbkaaaFar
import Derived.Test.YthlihchndmbkaaaRota
import Derived.BigQuiet
namespace Go.Proofs.Ythlihchndmbkaaa
open Go.RowKit

def farD (t : TaskD) : Bool := decide (20 < t.hands.length) || (decide (20 < t.parts.length) || (okTask t && decide (6 < t.parts.length)))
def validD (t : TaskD) : Bool := !farD t && okTask t
theorem validD_iff {t : TaskD} : validD t = true ↔ okTask t = true ∧ t.parts.length ≤ 6 := by
  unfold validD farD
  constructor
  · intro h
    simp at h
    refine ⟨h.2, ?_⟩
    rcases h.1.2.2 with g | g
    · rw [h.2] at g; simp at g
    · exact g
  · rintro ⟨h1, h2⟩
    have := okTask_parts h1
    simp [h1]
    omega

set_option maxRecDepth 100000 in
set_option maxHeartbeats 4000000 in
theorem far_any (t : TaskR) (n : Nat) (w : World) (ht : TaskAt w n t) (hn : n ≤ w.heap.size) :
    Calls Try.prog 29 #[taskV t] w fun e w' => e = .returned (.bool (farD t.d)) ∧ Below w.heap.size w w' := by
  have HC := Lib.hid (fun (w0 : World) (hw : Grow w w0) => rCheck_any t w.heap.size w0 ((ht.more hn).below hw) hw.size)
  clear ht hn
  obtain ⟨⟨hs, ps, limit, rest, swap⟩, A, ca, B, cb⟩ := t
  dsimp only at HC ⊢
  have HF : Hid (farD ⟨hs, ps, limit, rest, swap⟩ = (decide (20 < hs.length) || (decide (20 < ps.length) || (okTask ⟨hs, ps, limit, rest, swap⟩ && decide (6 < ps.length))))) := rfl
  generalize okTask ⟨hs, ps, limit, rest, swap⟩ = ok at HC HF
  generalize farD ⟨hs, ps, limit, rest, swap⟩ = fd at HF ⊢
  by_cases h1 : 20 < hs.length
  · have d1 : decide ((20 : Int) < (hs.length : Int)) = true := decide_eq_true (by omega)
    have HFD : Hid (fd = true) := Lib.hid (by rw [HF.out, decide_eq_true h1]; rfl)
    clear HF HC
    go_enter Try.func29, Try.ntmps29
    go_upto_region 1 with fail
    obtain ⟨W, hW, hg, hf, hsz⟩ := one_block w 25 (cellsT ⟨⟨hs, ps, limit, rest, swap⟩, A, ca, B, cb⟩)
    rw [hW]
    clear hW
    have hcc := hf.cell
    have HG := Lib.hid hg
    clear hf hg
    go_wp2
    go_ret
    exact ⟨ret_bool HFD.out.symm, HG.out⟩
  · have d1 : decide ((20 : Int) < (hs.length : Int)) = false := decide_eq_false (by omega)
    by_cases h2 : 20 < ps.length
    · have d2 : decide ((20 : Int) < (ps.length : Int)) = true := decide_eq_true (by omega)
      have HFD : Hid (fd = true) := Lib.hid (by rw [HF.out, decide_eq_true h2]; simp)
      clear HF HC
      go_enter Try.func29, Try.ntmps29
      go_upto_region 1 with fail
      obtain ⟨W, hW, hg, hf, hsz⟩ := one_block w 25 (cellsT ⟨⟨hs, ps, limit, rest, swap⟩, A, ca, B, cb⟩)
      rw [hW]
      clear hW
      have hcc := hf.cell
      have HG := Lib.hid hg
      clear hf hg
      go_wp2
      go_ret
      exact ⟨ret_bool HFD.out.symm, HG.out⟩
    · have d2 : decide ((20 : Int) < (ps.length : Int)) = false := decide_eq_false (by omega)
      have HFD : Hid (fd = (ok && decide (6 < ps.length))) := Lib.hid (by rw [HF.out, decide_eq_false h1, decide_eq_false h2]; rfl)
      clear HF
      cases ok
      all_goals
        simp only [if_true, if_false, Bool.false_eq_true, Bool.true_and, Bool.false_and] at HC HFD
        go_enter Try.func29, Try.ntmps29
        go_upto_region 1 with fail
        obtain ⟨W, hW, hg, hf, hsz⟩ := one_block w 25 (cellsT ⟨⟨hs, ps, limit, rest, swap⟩, A, ca, B, cb⟩)
        rw [hW]
        clear hW
        have hcc := hf.cell
        have HG := Lib.hid hg
        have HB := Lib.hid hf
        clear hf hg
        go_wp2_with fail
        refine (HC.out _ HG.out).mono ?_
        rintro e w2 ⟨rfl, hb2⟩
        have HG2 : Hid (Grow w w2) := HG.out.trans hb2
        clear hcc
        have hcc := (Grow.block hb2 HB.out).cell
        clear hb2
      · go_wp2
        go_ret
        exact ⟨ret_bool HFD.out.symm, HG2.out⟩
      · by_cases h3 : 6 < ps.length
        · have d3 : decide ((6 : Int) < (ps.length : Int)) = true := decide_eq_true (by omega)
          have HFE : Hid (fd = true) := Lib.hid (by rw [HFD.out]; simp [h3])
          go_wp2
          go_ret
          exact ⟨ret_bool HFE.out.symm, HG2.out⟩
        · have d3 : decide ((6 : Int) < (ps.length : Int)) = false := decide_eq_false (by omega)
          have HFE : Hid (fd = false) := Lib.hid (by rw [HFD.out]; simp [h3])
          go_wp2
          go_ret
          exact ⟨ret_bool HFE.out.symm, HG2.out⟩

set_option maxRecDepth 100000 in
set_option maxHeartbeats 4000000 in
theorem valid_any (t : TaskR) (n : Nat) (w : World) (ht : TaskAt w n t) (hn : n ≤ w.heap.size) :
    Calls Try.prog 11 #[taskV t] w fun e w' => e = .returned (.bool (validD t.d)) ∧ Below w.heap.size w w' := by
  have HC := Lib.hid (fun (w0 : World) (hw : Grow w w0) => rCheck_any t w.heap.size w0 ((ht.more hn).below hw) hw.size)
  have HFR := Lib.hid (fun (w0 : World) (hw : Grow w w0) => far_any t w.heap.size w0 ((ht.more hn).below hw) hw.size)
  clear ht hn
  obtain ⟨⟨hs, ps, limit, rest, swap⟩, A, ca, B, cb⟩ := t
  dsimp only at HC HFR ⊢
  have HF : Hid (validD ⟨hs, ps, limit, rest, swap⟩ = (!farD ⟨hs, ps, limit, rest, swap⟩ && okTask ⟨hs, ps, limit, rest, swap⟩)) := rfl
  generalize okTask ⟨hs, ps, limit, rest, swap⟩ = ok at HC HF
  generalize farD ⟨hs, ps, limit, rest, swap⟩ = fd at HF HFR
  generalize validD ⟨hs, ps, limit, rest, swap⟩ = vd at HF ⊢
  cases fd
  · cases ok
    all_goals
      simp only [if_true, if_false, Bool.false_eq_true, Bool.not_false, Bool.and_true, Bool.and_false] at HC HF
      go_enter Try.func11, Try.ntmps11
      go_upto_region 1 with fail
      obtain ⟨W, hW, hg, hf, hsz⟩ := one_block w 25 (cellsT ⟨⟨hs, ps, limit, rest, swap⟩, A, ca, B, cb⟩)
      rw [hW]
      clear hW
      have hcc := hf.cell
      have HG := Lib.hid hg
      have HB := Lib.hid hf
      clear hf hg
      go_wp2_with fail
      refine (HFR.out _ HG.out).mono ?_
      rintro e w2 ⟨rfl, hb2⟩
      have HG2 : Hid (Grow w w2) := HG.out.trans hb2
      clear hcc
      have hcc := (Grow.block hb2 HB.out).cell
      clear hb2
      go_wp2_with fail
      refine (HC.out _ HG2.out).mono ?_
      rintro e w3 ⟨rfl, hb3⟩
      have HG3 : Hid (Grow w w3) := HG2.out.trans hb3
      clear hb3 hcc
      go_wp2
      go_ret
      exact ⟨ret_bool HF.out.symm, HG3.out⟩
  · go_enter Try.func11, Try.ntmps11
    go_upto_region 1 with fail
    obtain ⟨W, hW, hg, hf, hsz⟩ := one_block w 25 (cellsT ⟨⟨hs, ps, limit, rest, swap⟩, A, ca, B, cb⟩)
    rw [hW]
    clear hW
    have hcc := hf.cell
    have HG := Lib.hid hg
    clear hf hg
    go_wp2_with fail
    refine (HFR.out _ HG.out).mono ?_
    rintro e w2 ⟨rfl, hb2⟩
    have HG2 : Hid (Grow w w2) := HG.out.trans hb2
    clear hb2
    go_wp2
    go_ret
    exact ⟨ret_bool HF.out.symm, HG2.out⟩

end Go.Proofs.Ythlihchndmbkaaa
