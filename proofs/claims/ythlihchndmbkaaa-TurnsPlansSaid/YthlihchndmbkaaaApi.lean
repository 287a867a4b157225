/- Api: turns.Right, turns.Check. -/
import Derived.Test.YthlihchndmbkaaaRight
import Derived.Test.YthlihchndmbkaaaMist
namespace Go.Proofs.Ythlihchndmbkaaa
open Go.RowKit

def rightApiD (t : TaskD) (xs : List Int) : Bool × Int :=
  if okTask t = true then if okRota t xs = true then (rightD t xs, 0) else (false, 41) else (false, 40)
theorem readRota_bad2 {t : TaskR} {xs : List Int} (h : ¬ (okTask t.d = true ∧ okRota t.d xs = true)) : ∃ er, (er = 40 ∨ er = 41) ∧ readRotaV t xs = .tuple #[zeroTV, .int .i64 er] ∧ rightApiD t.d xs = (false, er) := by
  unfold readRotaV rightApiD
  rw [if_neg h]
  cases h1 : okTask t.d
  · exact ⟨40, .inl rfl, rfl, rfl⟩
  · cases h2 : okRota t.d xs
    · exact ⟨41, .inr rfl, rfl, rfl⟩
    · exact absurd ⟨h1, h2⟩ h

set_option maxRecDepth 100000 in
set_option maxHeartbeats 8000000 in
theorem rightApi_any (t : TaskR) (xs : List Int) (A1 : Option Addr) (c1 n : Nat) (w : World) (ht : TaskAt w n t) (h1 : Ints w n A1 xs) (hn : n ≤ w.heap.size) (hc : xs.length ≤ c1) :
    Calls Try.prog 16 #[taskV t, .slice A1 xs.length c1] w fun e w' => e = .returned (.tuple #[.bool (rightApiD t.d xs).1, .int .i64 (rightApiD t.d xs).2]) ∧ Below w.heap.size w w' := by
  have HV := Lib.hid (fun (w0 : World) (hw : Grow w w0) => readRota_any t xs A1 c1 w.heap.size w0 ((ht.more hn).below hw) ((h1.more hn).below hw) hw.size)
  by_cases hgood : okTask t.d = true ∧ okRota t.d xs = true
  · obtain ⟨hk, hr⟩ := hgood
    have hp := okTask_parts hk
    obtain ⟨q1, _, _⟩ := okRota_parts hr
    have g1 := (readRota_good hk hr).1
    have g2 : rightApiD t.d xs = (rightD t.d xs, 0) := by unfold rightApiD; rw [if_pos hk, if_pos hr]
    rw [g1] at HV
    rw [g2]
    have HRG := Lib.hid (fun (w0 : World) (hw : Grow w w0) => right_any t xs A1 c1 w.heap.size w0 ((h1.more hn).below hw) hw.size (by omega) hc hp.2.2.2.2.1)
    clear hp q1 g1 g2 hk hr ht h1 hn
    generalize rightD t.d xs = rd at HRG ⊢
    obtain ⟨⟨hs, ps, limit, rest, swap⟩, A, ca, B, cb⟩ := t
    try dsimp only
    go_enter Try.func16, Try.ntmps16
    go_upto_region 1 with fail
    obtain ⟨W, hW, hg, hf, hsz⟩ := one_block w 25 (cellsT ⟨⟨hs, ps, limit, rest, swap⟩, A, ca, B, cb⟩)
    rw [hW]
    clear hW
    have hcc := hf.cell
    have HG := Lib.hid hg
    clear hf hg
    go_wp2_with fail
    refine (HV.out _ HG.out).mono ?_
    rintro e w2 ⟨rfl, hb2⟩
    have HG2 : Hid (Grow w w2) := HG.out.trans hb2
    clear hcc hb2
    go_upto_region 2 with fail
    obtain ⟨W3, hW3, hg3, hS3, hsz3⟩ := one_block w2 67 (cellsT ⟨⟨hs, ps, limit, rest, swap⟩, A, ca, B, cb⟩)
    rw [hW3]
    clear hW3
    have HG3 : Hid (Grow w W3) := HG2.out.trans hg3
    have hcc := hS3.cell
    clear hg3 hS3
    go_wp2_with fail
    refine (HRG.out _ HG3.out).mono ?_
    rintro e w4 ⟨rfl, hb4⟩
    have HG4 : Hid (Grow w w4) := HG3.out.trans hb4
    clear hcc hb4
    go_wp2
    go_ret2
    exact ⟨rfl, HG4.out⟩
  · obtain ⟨er, her, g1, g2⟩ := readRota_bad2 hgood
    rw [g1] at HV
    rw [g2]
    clear hgood g1 g2 ht h1 hn
    obtain ⟨⟨hs, ps, limit, rest, swap⟩, A, ca, B, cb⟩ := t
    try dsimp only
    go_enter Try.func16, Try.ntmps16
    go_upto_region 1 with fail
    obtain ⟨W, hW, hg, hf, hsz⟩ := one_block w 25 (cellsT ⟨⟨hs, ps, limit, rest, swap⟩, A, ca, B, cb⟩)
    rw [hW]
    clear hW
    have hcc := hf.cell
    have HG := Lib.hid hg
    clear hf hg
    go_wp2_with fail
    refine (HV.out _ HG.out).mono ?_
    rintro e w2 ⟨rfl, hb2⟩
    have HG2 : Hid (Grow w w2) := HG.out.trans hb2
    clear hcc hb2
    rcases her with rfl | rfl
    all_goals
      go_upto_region 2 with fail
      obtain ⟨W3, hW3, hg3, hS3, hsz3⟩ := one_block w2 67 #[.slice none 0 0, .slice none 0 0, .int .i64 0, .int .i64 0, .int .i64 0]
      rw [hW3]
      clear hW3
      have HG3 : Hid (Grow w W3) := HG2.out.trans hg3
      clear hg3 hS3
      go_wp2
      go_ret2
      exact ⟨rfl, HG3.out⟩

set_option maxHeartbeats 4000000 in
theorem check_any (t : TaskR) (n : Nat) (w : World) (ht : TaskAt w n t) (hn : n ≤ w.heap.size) :
    Calls Try.prog 30 #[taskV t] w fun e w' => e = .returned (.int .i64 (if okTask t.d = true then 0 else 40)) ∧ Below w.heap.size w w' := by
  have HV := Lib.hid (fun (w0 : World) (hw : Grow w w0) => read_any t w.heap.size w0 ((ht.more hn).below hw) hw.size)
  clear ht hn
  obtain ⟨⟨hs, ps, limit, rest, swap⟩, A, ca, B, cb⟩ := t
  dsimp only at HV ⊢
  generalize okTask ⟨hs, ps, limit, rest, swap⟩ = ok at HV ⊢
  cases ok
  all_goals
    simp only [if_true, if_false, Bool.false_eq_true] at HV ⊢
    go_enter Try.func30, Try.ntmps30
    go_upto_region 1 with fail
    obtain ⟨W, hW, hg, hf, hsz⟩ := one_block w 25 (cellsT ⟨⟨hs, ps, limit, rest, swap⟩, A, ca, B, cb⟩)
    rw [hW]
    clear hW
    have hcc := hf.cell
    have HG := Lib.hid hg
    clear hf hg
    go_wp2_with fail
    refine (HV.out _ HG.out).mono ?_
    rintro e w2 ⟨rfl, hb2⟩
    have HG2 : Hid (Grow w w2) := HG.out.trans hb2
    clear hcc hb2
    go_wp2
    go_ret
    exact ⟨rfl, HG2.out.trans (Grow.alloc _ _)⟩

end Go.Proofs.Ythlihchndmbkaaa
