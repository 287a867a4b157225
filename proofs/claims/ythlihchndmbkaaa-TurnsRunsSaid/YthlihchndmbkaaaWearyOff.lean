/- WearyOff: turns.Weary where it answers an error. -/
import Derived.Test.YthlihchndmbkaaaWeary
import Derived.Test.YthlihchndmbkaaaApi
import Derived.Test.YthlihchndmbkaaaRefRota
namespace Go.Proofs.Ythlihchndmbkaaa
open Go.RowKit

theorem readRota_err {t : TaskR} {xs : List Int} (h : ¬ (okTask t.d = true ∧ okRota t.d xs = true)) : readRotaV t xs = .tuple #[zeroTV, .int .i64 (rotaErr t.d xs)] := by
  obtain ⟨er, _, h1, h2⟩ := readRota_bad2 h
  rw [rightApi_err h] at h2
  rw [h1, ← (Prod.mk.inj h2).2]

set_option maxRecDepth 100000 in
set_option maxHeartbeats 8000000 in
theorem weary_err (t : TaskR) (xs : List Int) (A1 : Option Addr) (c1 : Nat) (part : Int) (n : Nat) (w : World) (ht : TaskAt w n t) (h1 : Ints w n A1 xs) (hn : n ≤ w.heap.size) (hbad : ¬ (okTask t.d = true ∧ okRota t.d xs = true)) :
    Calls Try.prog 22 #[taskV t, .slice A1 xs.length c1, .int .i64 part] w fun e w' => e = .returned (.tuple #[.slice none 0 0, .int .i64 (rotaErr t.d xs)]) ∧ Below w.heap.size w w' := by
  have HV := Lib.hid (fun (w0 : World) (hw : Grow w w0) => readRota_any t xs A1 c1 w.heap.size w0 ((ht.more hn).below hw) ((h1.more hn).below hw) hw.size)
  rw [readRota_err hbad] at HV
  have her := (rotaErr_cases t.d xs).resolve_left (fun h => hbad ⟨h.1, h.2.1⟩)
  generalize rotaErr t.d xs = er at HV her ⊢
  have her := her.1
  clear ht h1 hn hbad
  rcases her with rfl | rfl
  all_goals
    go_enter Try.func22, Try.ntmps22
    go_upto_region 1 with fail
    obtain ⟨W, hW, hg, hf, hsz⟩ := one_block w 25 (cellsT t)
    rw [hW]
    clear hW
    have htc := hf.cell
    have HG := Lib.hid hg
    clear hf hg
    go_wp2_with fail
    refine (HV.out _ HG.out).mono ?_
    rintro e w2 ⟨rfl, hb2⟩
    have HG2 : Hid (Grow W w2) := hb2
    clear htc hb2
    go_upto_region 2 with fail
    obtain ⟨W3, hW3, hg3, hs3, hsz3⟩ := one_block w2 67 #[.slice none 0 0, .slice none 0 0, .int .i64 0, .int .i64 0, .int .i64 0]
    rw [hW3]
    clear hW3
    have HG3 : Hid (Grow W W3) := HG2.out.trans hg3
    clear hg3 hs3
    go_wp2
    go_ret2
    exact ⟨rfl, HG.out.trans HG3.out⟩

set_option maxRecDepth 100000 in
set_option maxHeartbeats 8000000 in
theorem weary_far (t : TaskR) (xs : List Int) (A1 : Option Addr) (c1 : Nat) (part : Int) (n : Nat) (w : World) (ht : TaskAt w n t) (h1 : Ints w n A1 xs) (hn : n ≤ w.heap.size) (hok : okTask t.d = true) (hr : okRota t.d xs = true) (hp : inB part 0 t.d.parts.length = false) :
    Calls Try.prog 22 #[taskV t, .slice A1 xs.length c1, .int .i64 part] w fun e w' => e = .returned (.tuple #[.slice none 0 0, .int .i64 1]) ∧ Below w.heap.size w w' := by
  have HV := Lib.hid (fun (w0 : World) (hw : Grow w w0) => readRota_any t xs A1 c1 w.heap.size w0 ((ht.more hn).below hw) ((h1.more hn).below hw) hw.size)
  rw [(readRota_good hok hr).1] at HV
  have HIN := Lib.hid hp
  clear ht h1 hn hok hr hp
  go_enter Try.func22, Try.ntmps22
  go_upto_region 1 with fail
  obtain ⟨W, hW, hg, hf, hsz⟩ := one_block w 25 (cellsT t)
  rw [hW]
  clear hW
  have htc := hf.cell
  have HG := Lib.hid hg
  clear hf hg
  go_wp2_with fail
  refine (HV.out _ HG.out).mono ?_
  rintro e w2 ⟨rfl, hb2⟩
  have HG2 : Hid (Grow W w2) := hb2
  clear htc hb2
  go_upto_region 2 with fail
  obtain ⟨W3, hW3, hg3, hs3, hsz3⟩ := one_block w2 67 (cellsT t)
  rw [hW3]
  clear hW3
  have HG3 : Hid (Grow W W3) := HG2.out.trans hg3
  have hsc := hs3.cell
  clear hg3 hs3
  go_wp2_with fail
  refine (within_any _ _ _ _).mono ?_
  rintro e w' ⟨rfl, rfl⟩
  rw [HIN.out]
  go_wp2
  go_ret2
  exact ⟨rfl, HG.out.trans HG3.out⟩

end Go.Proofs.Ythlihchndmbkaaa
