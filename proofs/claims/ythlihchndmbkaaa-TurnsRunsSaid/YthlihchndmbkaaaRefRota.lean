/- RefRota: the specification's CheckRota and Right. -/
import Derived.Test.YthlihchndmbkaaaIsRight
import Derived.Test.YthlihchndmbkaaaIsRota
import Derived.Test.YthlihchndmbkaaaFar
import Derived.Test.YthlihchndmbkaaaLimit
import Derived.Test.YthlihchndmbkaaaApi
namespace Go.Proofs.Ythlihchndmbkaaa
open Go.RowKit

def rotaErr (t : TaskD) (xs : List Int) : Int := if okTask t = true then if okRota t xs = true then 0 else 41 else 40
theorem rotaErr_cases (t : TaskD) (xs : List Int) : (okTask t = true ∧ okRota t xs = true ∧ rotaErr t xs = 0) ∨ ((rotaErr t xs = 40 ∨ rotaErr t xs = 41) ∧ ¬ (okTask t = true ∧ okRota t xs = true)) := by
  unfold rotaErr
  cases okTask t <;> cases okRota t xs <;> simp

set_option maxRecDepth 100000 in
set_option maxHeartbeats 4000000 in
theorem checkRota_any (t : TaskR) (xs : List Int) (A1 : Option Addr) (c1 n : Nat) (w : World) (ht : TaskAt w n t) (h1 : Ints w n A1 xs) (hn : n ≤ w.heap.size) (hl : xs.length ≤ 20) :
    Calls Try.prog 53 #[taskV t, .slice A1 xs.length c1] w fun e w' => e = .returned (.int .i64 (rotaErr t.d xs)) ∧ Below w.heap.size w w' := by
  have HC := Lib.hid (fun (w0 : World) (hw : Grow w w0) => rCheck_any t w.heap.size w0 ((ht.more hn).below hw) hw.size)
  unfold rotaErr
  cases hk : okTask t.d with
  | false =>
    rw [hk] at HC
    simp only [if_false, Bool.false_eq_true] at HC ⊢
    clear ht h1 hn hl hk
    go_enter Try.func53, Try.ntmps53
    go_upto_region 1 with fail
    obtain ⟨W, hW, hg, hf, hsz⟩ := one_block w 25 (cellsT t)
    rw [hW]
    clear hW
    have hcc := hf.cell
    have HG := Lib.hid hg
    clear hf hg
    go_wp2_with fail
    refine (HC.out _ HG.out).mono ?_
    rintro e w2 ⟨rfl, hb2⟩
    have HG2 : Hid (Grow w w2) := HG.out.trans hb2
    clear hcc hb2
    go_wp2
    go_ret
    exact ⟨rfl, HG2.out⟩
  | true =>
    have HI := Lib.hid (fun (w0 : World) (hw : Grow w w0) => isRota_any t xs A1 c1 w.heap.size w0 ((h1.more hn).below hw) hw.size hl (okTask_parts hk).1.2)
    rw [hk] at HC
    generalize okRota t.d xs = ok at HI ⊢
    simp only [if_true] at HC ⊢
    clear ht h1 hn hl hk
    cases ok
    all_goals
      simp only [if_true, if_false, Bool.false_eq_true]
      go_enter Try.func53, Try.ntmps53
      go_upto_region 1 with fail
      obtain ⟨W, hW, hg, hf, hsz⟩ := one_block w 25 (cellsT t)
      rw [hW]
      clear hW
      have hcc := hf.cell
      have HF := Lib.hid hf
      have HG := Lib.hid hg
      clear hf hg
      go_wp2_with fail
      refine (HC.out _ HG.out).mono ?_
      rintro e w2 ⟨rfl, hb2⟩
      have HG2 : Hid (Grow W w2) := hb2
      clear hcc hb2
      have hcc := (HG2.out.block HF.out).cell
      go_wp2_with fail
      refine (HI.out _ (HG.out.trans HG2.out)).mono ?_
      rintro e w3 ⟨rfl, hb3⟩
      have HG3 : Hid (Grow W w3) := HG2.out.trans hb3
      clear hcc hb3
      go_wp2
      go_ret
      exact ⟨rfl, HG.out.trans HG3.out⟩

theorem rightApi_ref {t : TaskD} {xs : List Int} (hk : okTask t = true) (hr : okRota t xs = true) : rightApiD t xs = (isRightD t xs, 0) := by
  unfold rightApiD
  rw [if_pos hk, if_pos hr]
  obtain ⟨_, q2, q3⟩ := okRota_parts hr
  have h := isRight_right (okTask_parts hk).2.2.2.2.1.1 (natsOf xs) q3
  rw [q2] at h
  rw [h]
theorem rightApi_err {t : TaskD} {xs : List Int} (h : ¬ (okTask t = true ∧ okRota t xs = true)) : rightApiD t xs = (false, rotaErr t xs) := by
  unfold rightApiD rotaErr
  cases h1 : okTask t <;> cases h2 : okRota t xs <;> simp_all

set_option maxRecDepth 100000 in
set_option maxHeartbeats 4000000 in
theorem rRight_any (t : TaskR) (xs : List Int) (A1 : Option Addr) (c1 n : Nat) (w : World) (ht : TaskAt w n t) (h1 : Ints w n A1 xs) (hn : n ≤ w.heap.size) (hl : xs.length ≤ 20) :
    Calls Try.prog 31 #[taskV t, .slice A1 xs.length c1] w fun e w' => e = .returned (.tuple #[.bool (rightApiD t.d xs).1, .int .i64 (rightApiD t.d xs).2]) ∧ Below w.heap.size w w' := by
  have HC := Lib.hid (fun (w0 : World) (hw : Grow w w0) => checkRota_any t xs A1 c1 w.heap.size w0 ((ht.more hn).below hw) ((h1.more hn).below hw) hw.size hl)
  rcases rotaErr_cases t.d xs with ⟨hk, hr, he⟩ | ⟨he, hb⟩
  · have hp := okTask_parts hk
    have HI := Lib.hid (fun (w0 : World) (hw : Grow w w0) => isRight_any t xs A1 c1 w.heap.size w0 ((h1.more hn).below hw) hw.size hl hp.1.2 (by omega))
    rw [he] at HC
    rw [rightApi_ref hk hr]
    generalize isRightD t.d xs = ok at HI ⊢
    clear ht h1 hn hl hk hr he hp
    dsimp only
    go_enter Try.func31, Try.ntmps31
    go_upto_region 1 with fail
    obtain ⟨W, hW, hg, hf, hsz⟩ := one_block w 25 (cellsT t)
    rw [hW]
    clear hW
    have hcc := hf.cell
    have HF := Lib.hid hf
    have HG := Lib.hid hg
    clear hf hg
    go_wp2_with fail
    refine (HC.out _ HG.out).mono ?_
    rintro e w2 ⟨rfl, hb2⟩
    have HG2 : Hid (Grow W w2) := hb2
    clear hcc hb2
    have hcc := (HG2.out.block HF.out).cell
    go_wp2_with fail
    refine (HI.out _ (HG.out.trans HG2.out)).mono ?_
    rintro e w3 ⟨rfl, hb3⟩
    have HG3 : Hid (Grow W w3) := HG2.out.trans hb3
    clear hcc hb3
    go_wp2
    go_ret2
    exact ⟨rfl, HG.out.trans HG3.out⟩
  · rw [rightApi_err hb]
    clear ht h1 hn hl hb
    dsimp only
    generalize rotaErr t.d xs = er at HC he ⊢
    rcases he with rfl | rfl
    all_goals
      go_enter Try.func31, Try.ntmps31
      go_upto_region 1 with fail
      obtain ⟨W, hW, hg, hf, hsz⟩ := one_block w 25 (cellsT t)
      rw [hW]
      clear hW
      have hcc := hf.cell
      have HG := Lib.hid hg
      clear hf hg
      go_wp2_with fail
      refine (HC.out _ HG.out).mono ?_
      rintro e w2 ⟨rfl, hb2⟩
      have HG2 : Hid (Grow W w2) := hb2
      clear hcc hb2
      go_wp2
      go_ret2
      exact ⟨rfl, HG.out.trans HG2.out⟩

end Go.Proofs.Ythlihchndmbkaaa
