/- HandsApi: turns.Hands. -/
import Derived.Test.YthlihchndmbkaaaFewest
import Derived.Test.YthlihchndmbkaaaLongM
namespace Go.Proofs.Ythlihchndmbkaaa
open Go.RowKit

/-- what turns.Hands answers -/
def HandsV (t : TaskD) (most : Int) (v : Value) (er : Int) (w : World) : Prop :=
  if mostErr t most = 0 then FewR w v (fewD t most) ∧ er = (if (fewD t most).isSome = true then 0 else 3)
  else v = .slice none 0 0 ∧ er = mostErr t most

set_option maxRecDepth 100000 in
set_option maxHeartbeats 8000000 in
theorem handsApi_any (t : TaskR) (most : Int) (n : Nat) (w : World) (ht : TaskAt w n t) (hn : n ≤ w.heap.size) :
    Calls Try.prog 26 #[taskV t, .int .i64 most] w fun e w' => ∃ v er, e = .returned (.tuple #[v, .int .i64 er]) ∧ HandsV t.d most v er w' ∧ Below w.heap.size w w' := by
  by_cases hb : mostErr t.d most = 0
  · obtain ⟨hok, hm⟩ := mostErr_zero hb
    have HB := Lib.hid hb
    have HV := Lib.hid (fun (w0 : World) (hw : Grow w w0) => readMost_any t most w.heap.size w0 ((ht.more hn).below hw) hw.size hok hm)
    have HFE := Lib.hid (fun (w0 : World) (hw : Grow w w0) => fewest_any t most w.heap.size w0 ((ht.more hn).below hw) hw.size hok)
    clear ht hn hok hm hb
    go_enter Try.func26, Try.ntmps26
    go_upto_region 1 with fail
    obtain ⟨W, hW, hg, hf, hsz⟩ := one_block w 25 (cellsT t)
    rw [hW]
    clear hW
    have htc := hf.cell
    have HG := Lib.hid hg
    clear hf hg
    go_wp2_with fail
    refine (HV.out _ HG.out).mono ?_
    rintro e w2 ⟨rfl, hb2⟩
    have HG2 : Hid (Grow W w2) := hb2
    clear htc hb2
    go_upto_region 2 with fail
    obtain ⟨W3, hW3, hg3, hs3, hsz3⟩ := one_block w2 67 (cellsT t)
    rw [hW3]
    clear hW3
    have HG3 : Hid (Grow w W3) := Lib.hid (HG.out.trans (HG2.out.trans hg3))
    have hsc := hs3.cell
    clear hg3 hs3
    go_wp2_with fail
    refine (HFE.out _ HG3.out).mono ?_
    rintro e w4 ⟨v, rfl, hfv, hb4⟩
    have HG4 : Hid (Grow w w4) := Lib.hid (HG3.out.trans hb4)
    clear hsc hb4
    cases hfd : fewD t.d most with
    | none =>
      rw [hfd] at hfv
      obtain rfl : v = .slice none 0 0 := hfv
      have HFD := Lib.hid hfd
      clear hfd
      have hnil := none_eql_nil
      go_wp2
      exact bodyPost_ret (results_pair45 Try.results26 _ _ _ _ rfl rfl) rfl ⟨_, _, rfl, by unfold HandsV; rw [if_pos HB.out, HFD.out]; exact ⟨rfl, rfl⟩, HG4.out⟩
    | some p =>
      obtain ⟨l, m⟩ := p
      rw [hfd] at hfv
      obtain ⟨b, c, rfl, hi⟩ := hfv
      have HFD := Lib.hid hfd
      have HI := Lib.hid hi
      clear hfd hi
      have hnil := some_eql_nil
      go_wp2
      exact bodyPost_ret (results_pair45 Try.results26 _ _ _ _ rfl rfl) rfl ⟨_, _, rfl, by unfold HandsV; rw [if_pos HB.out, HFD.out]; exact ⟨⟨b, c, rfl, HI.out⟩, rfl⟩, HG4.out⟩
  · have HB := Lib.hid hb
    have HV := Lib.hid (fun (w0 : World) (hw : Grow w w0) => readMost_bad t most w.heap.size w0 ((ht.more hn).below hw) hw.size hb)
    obtain ⟨er, her⟩ : ∃ q, mostErr t.d most = q := ⟨_, rfl⟩
    have HER := Lib.hid her
    rw [her] at HV hb
    have hne : decide (er = 0) = false := decide_eq_false hb
    clear ht hn her
    go_enter Try.func26, Try.ntmps26
    go_upto_region 1 with fail
    obtain ⟨W, hW, hg, hf, hsz⟩ := one_block w 25 (cellsT t)
    rw [hW]
    clear hW
    have htc := hf.cell
    have HG := Lib.hid hg
    clear hf hg
    go_wp2_with fail
    refine (HV.out _ HG.out).mono ?_
    rintro e w2 ⟨rfl, hb2⟩
    have HG2 : Hid (Grow W w2) := hb2
    clear htc hb2
    go_upto_region 2 with fail
    obtain ⟨W3, hW3, hg3, hs3, hsz3⟩ := one_block w2 67 #[.slice none 0 0, .slice none 0 0, .int .i64 0, .int .i64 0, .int .i64 0]
    rw [hW3]
    clear hW3
    have HG3 : Hid (Grow w W3) := Lib.hid (HG.out.trans (HG2.out.trans hg3))
    clear hg3 hs3
    go_wp2
    exact bodyPost_ret (results_pair45 Try.results26 _ _ _ _ rfl rfl) rfl ⟨_, _, rfl, by unfold HandsV; rw [if_neg HB.out]; exact ⟨rfl, HER.out.symm⟩, HG3.out⟩

end Go.Proofs.Ythlihchndmbkaaa
