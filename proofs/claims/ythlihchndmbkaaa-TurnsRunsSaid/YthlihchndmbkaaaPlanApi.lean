/- PlanApi: turns.Plan. -/
import Derived.Test.YthlihchndmbkaaaPlan
namespace Go.Proofs.Ythlihchndmbkaaa
open Go.RowKit

def PlanApiV (t : TaskD) (lo : Nat) (v m : Value) (er : Int) (w : World) : Prop :=
  if okTask t = true then match planD t with
    | none => v = .slice none 0 0 ∧ m = .int .i64 0 ∧ er = 3
    | some (xs, k) => ∃ b off cap, v = .slice (some ⟨b, off, none⟩) xs.length cap ∧ IntsFc w lo (some ⟨b, off, none⟩) cap xs ∧ m = .int .i64 k ∧ er = 0
  else v = .slice none 0 0 ∧ m = .int .i64 0 ∧ er = 40
theorem results_three234 {fn : Func} (h : fn.results = #[.tmp 2, .tmp 3, .tmp 4]) (t : Array Value) (W : World) (u1 u2 u3 : Value) (h1 : t.getD 2 undef = u1) (h2 : t.getD 3 undef = u2) (h3 : t.getD 4 undef = u3) :
    (results fn t).run Try.prog W = .ok (.tuple #[u1, u2, u3]) W := by
  simp only [results, h]
  simp at h1 h2 h3
  simp [go_sem, h1, h2, h3]

set_option maxRecDepth 100000 in
set_option maxHeartbeats 8000000 in
theorem planApi_any (t : TaskR) (n : Nat) (w : World) (ht : TaskAt w n t) (hn : n ≤ w.heap.size) :
    Calls Try.prog 13 #[taskV t] w fun e w' => ∃ v m er, e = .returned (.tuple #[v, m, .int .i64 er]) ∧ PlanApiV t.d w.heap.size v m er w' ∧ Below w.heap.size w w' := by
  have HV := Lib.hid (fun (w0 : World) (hw : Grow w w0) => read_any t w.heap.size w0 ((ht.more hn).below hw) hw.size)
  by_cases hk : okTask t.d = true
  · have HPL := Lib.hid (fun (w0 : World) (hw : Grow w w0) => plan_any t w.heap.size w0 ((ht.more hn).below hw) hw.size hk)
    rw [if_pos hk, if_pos hk] at HV
    have HOK := Lib.hid hk
    clear ht hn hk
    go_enter Try.func13, Try.ntmps13
    go_upto_region 1 with fail
    obtain ⟨W, hW, hg, hf, hsz⟩ := one_block w 25 (cellsT t)
    rw [hW]
    clear hW
    have hcc := hf.cell
    have HG := Lib.hid hg
    clear hf hg
    go_wp2_with fail
    refine (HV.out _ HG.out).mono ?_
    rintro e w2 ⟨rfl, hb2⟩
    have HG2 : Hid (Grow w w2) := HG.out.trans hb2
    clear hcc hb2
    go_upto_region 2 with fail
    obtain ⟨W3, hW3, hg3, hS3, hsz3⟩ := one_block w2 67 (cellsT t)
    rw [hW3]
    clear hW3
    have HG3 : Hid (Grow w W3) := HG2.out.trans hg3
    have hcc := hS3.cell
    clear hg3 hS3
    go_wp2_with fail
    refine (HPL.out _ HG3.out).mono ?_
    rintro e w4 ⟨v, m, rfl, hpv, hb4⟩
    have HG4 : Hid (Grow w w4) := HG3.out.trans hb4
    have HLE : Hid (w.heap.size ≤ W3.heap.size) := HG3.out.size
    clear hcc hb4
    unfold PlanV at hpv
    cases hpd : planD t.d with
    | none =>
      rw [hpd] at hpv
      obtain ⟨rfl, u, rfl⟩ := hpv
      have HPD := Lib.hid hpd
      clear hpd
      have hnil := none_eql_nil
      go_wp2
      exact bodyPost_ret (results_three234 Try.results13 _ _ _ _ _ rfl rfl rfl) rfl ⟨_, _, _, rfl, by unfold PlanApiV; rw [if_pos HOK.out, HPD.out]; exact ⟨rfl, rfl, rfl⟩, HG4.out⟩
    | some p =>
      obtain ⟨xs, k⟩ := p
      rw [hpd] at hpv
      obtain ⟨b, off, cap, rfl, hF, rfl⟩ := hpv
      have HPD := Lib.hid hpd
      have HF := Lib.hid hF
      clear hpd hF
      have hnil := some_eql_nil
      go_wp2
      exact bodyPost_ret (results_three234 Try.results13 _ _ _ _ _ rfl rfl rfl) rfl ⟨_, _, _, rfl, by unfold PlanApiV; rw [if_pos HOK.out, HPD.out]; exact ⟨b, off, cap, rfl, HF.out.mono HLE.out, rfl, rfl⟩, HG4.out⟩
  · rw [if_neg hk, if_neg hk] at HV
    have HOK := Lib.hid hk
    clear ht hn hk
    go_enter Try.func13, Try.ntmps13
    go_upto_region 1 with fail
    obtain ⟨W, hW, hg, hf, hsz⟩ := one_block w 25 (cellsT t)
    rw [hW]
    clear hW
    have hcc := hf.cell
    have HG := Lib.hid hg
    clear hf hg
    go_wp2_with fail
    refine (HV.out _ HG.out).mono ?_
    rintro e w2 ⟨rfl, hb2⟩
    have HG2 : Hid (Grow w w2) := HG.out.trans hb2
    clear hcc hb2
    go_upto_region 2 with fail
    obtain ⟨W3, hW3, hg3, hS3, hsz3⟩ := one_block w2 67 #[.slice none 0 0, .slice none 0 0, .int .i64 0, .int .i64 0, .int .i64 0]
    rw [hW3]
    clear hW3
    have HG3 : Hid (Grow w W3) := HG2.out.trans hg3
    clear hg3 hS3
    go_wp2
    exact bodyPost_ret (results_three234 Try.results13 _ _ _ _ _ rfl rfl rfl) rfl ⟨_, _, _, rfl, by unfold PlanApiV; rw [if_neg HOK.out]; exact ⟨rfl, rfl, rfl⟩, HG3.out⟩

end Go.Proofs.Ythlihchndmbkaaa
