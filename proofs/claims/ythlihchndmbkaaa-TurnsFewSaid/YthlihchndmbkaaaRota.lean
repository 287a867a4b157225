/- Rota: best, readRota. -/
import Derived.Test.YthlihchndmbkaaaRead
namespace Go.Proofs.Ythlihchndmbkaaa
open Go.RowKit

set_option maxHeartbeats 4000000 in
theorem best_any (t : TaskR) (w : World) : Calls Try.prog 45 #[taskV t] w fun e w' => e = .returned (courseV 67 68 t) ∧ Below w.heap.size w w' := by
  obtain ⟨⟨hs, ps, limit, rest, swap⟩, A, ca, B, cb⟩ := t
  go_enter Try.func45, Try.ntmps45
  go_upto_region 1 with fail
  obtain ⟨W, hW, hg, hf, hf', hsz⟩ := two_blocks w 67 80 (cellsT ⟨⟨hs, ps, limit, rest, swap⟩, A, ca, B, cb⟩) #[.slice none 0 0, .slice none 0 0, .int .i64 0, .int .i64 0, .int .i64 0, .nilFunc, .nilFunc]
  rw [hW]
  clear hW
  obtain ⟨b1, e1⟩ : ∃ b, w.heap.size + 1 = b := ⟨_, rfl⟩
  rw [e1] at hf' hsz ⊢
  have h01 : w.heap.size < b1 := by omega
  clear e1
  have hcc := hf.cell
  have hrc := hf'.cell
  have hrf := hf'.frozen
  have H7 := Lib.hid (seven_stores hf' (.slice A hs.length ca) (.slice B ps.length cb) (.int .i64 limit) (.int .i64 rest) (.int .i64 swap) (endV 67) (endV 68))
  have HG := Lib.hid hg
  clear hf hf' hg
  go_wp2
  refine bodyPost_ret (results_course Try.results45 _ _ b1 _ _ _ _ _ _ _ H7.out rfl) rfl ⟨rfl, ?_⟩
  exact (((((((HG.out.setC (p := ⟨b1, 0, none⟩) (Nat.le_of_lt h01) _).setC (p := ⟨b1, 1, none⟩) (Nat.le_of_lt h01) _).setC (p := ⟨b1, 2, none⟩) (Nat.le_of_lt h01) _).setC (p := ⟨b1, 3, none⟩) (Nat.le_of_lt h01) _).setC (p := ⟨b1, 4, none⟩) (Nat.le_of_lt h01) _).setC (p := ⟨b1, 5, none⟩) (Nat.le_of_lt h01) _).setC (p := ⟨b1, 6, none⟩) (Nat.le_of_lt h01) _)

set_option maxHeartbeats 800000 in
theorem stranger_any (x : Int) (b : Nat) (t : TaskR) (w : World) (hb : BlockIs w b 67 (cellsT t)) (h1 : 1 ≤ t.d.hands.length) (h3 : t.d.hands.length ≤ 3) :
    Calls Try.prog 65 #[.int .i64 x, .pointer (some ⟨b, 0, none⟩)] w fun e w' => e = .returned (.bool (!inB x 0 (t.d.hands.length - 1))) ∧ w = w' := by
  obtain ⟨⟨hs, ps, limit, rest, swap⟩, A, ca, B, cb⟩ := t
  dsimp only at h1 h3
  have hcc := hb.cell
  clear hb
  go_enter Try.func65, Try.ntmps65
  go_wp2_with (first | (go_at_call 48; refine (within_any _ _ _ _).mono ?_; rintro e w' ⟨rfl, rfl⟩))
  go_ret
  exact ⟨ret_bool rfl, rfl⟩

def okRota (t : TaskD) (xs : List Int) : Bool := decide (xs.length = t.parts.length) && xs.all fun x => inB x 0 ((t.hands.length : Int) - 1)
abbrev readRotaV (t : TaskR) (xs : List Int) : Value := .tuple #[if okTask t.d = true ∧ okRota t.d xs = true then taskV t else zeroTV, .int .i64 (if okTask t.d = true then if okRota t.d xs = true then 0 else 41 else 40)]

set_option maxRecDepth 100000 in
set_option maxHeartbeats 8000000 in
theorem readRota_any (t : TaskR) (xs : List Int) (A1 : Option Addr) (c1 n : Nat) (w : World) (ht : TaskAt w n t) (h1 : Ints w n A1 xs) (hn : n ≤ w.heap.size) :
    Calls Try.prog 43 #[taskV t, .slice A1 xs.length c1] w fun e w' => e = .returned (readRotaV t xs) ∧ Below w.heap.size w w' := by
  have HV := Lib.hid (fun (w0 : World) (hw : Grow w w0) => read_any t w.heap.size w0 ((ht.more hn).below hw) hw.size)
  have HP := Lib.hid (fun (h : okTask t.d = true) => okTask_parts h)
  have HCI := Lib.hid (fun (w0 : World) (hw : Grow w w0) (b : Nat) (hb : BlockIs w0 b 67 (cellsT t)) (hl : xs.length ≤ 10) (k1 : 1 ≤ t.d.hands.length) (k3 : t.d.hands.length ≤ 3) =>
    containsInt1_any A1 c1 w.heap.size xs w0 ((h1.more hn).below hw) (by omega) 65 (.pointer (some ⟨b, 0, none⟩)) (fun x => !inB x 0 ((t.d.hands.length : Int) - 1)) (fun _ _ => by kernel_rfl) (fun x => stranger_any x b t w0 hb k1 k3))
  have e2 : (xs.any fun x => !inB x 0 ((t.d.hands.length : Int) - 1)) = !xs.all fun x => inB x 0 ((t.d.hands.length : Int) - 1) := any_not _ _
  rw [e2] at HCI
  clear e2 ht h1 hn
  have HOR : Hid (okRota t.d xs = (decide (xs.length = t.d.parts.length) && xs.all fun x => inB x 0 ((t.d.hands.length : Int) - 1))) := rfl
  generalize (xs.all fun x => inB x 0 ((t.d.hands.length : Int) - 1)) = q at HCI HOR
  unfold readRotaV
  generalize okRota t.d xs = rok at HOR ⊢
  obtain ⟨⟨hs, ps, limit, rest, swap⟩, A, ca, B, cb⟩ := t
  dsimp only at HV HP HCI HOR ⊢
  generalize okTask ⟨hs, ps, limit, rest, swap⟩ = ok at HV HP ⊢
  obtain ⟨V1, hV1⟩ : ∃ v, (if ok = true ∧ rok = true then taskV ⟨⟨hs, ps, limit, rest, swap⟩, A, ca, B, cb⟩ else zeroTV) = v := ⟨_, rfl⟩
  obtain ⟨N1, hN1⟩ : ∃ v, (if ok = true then if rok = true then 0 else 41 else 40 : Int) = v := ⟨_, rfl⟩
  rw [hV1, hN1]
  have HV1 := Lib.hid hV1
  have HN1 := Lib.hid hN1
  clear hV1 hN1
  go_enter Try.func43, Try.ntmps43
  go_upto_region 1 with fail
  obtain ⟨W, hW, hg, hf, hf', hsz⟩ := two_blocks w 25 67 (cellsT ⟨⟨hs, ps, limit, rest, swap⟩, A, ca, B, cb⟩) #[.slice none 0 0, .slice none 0 0, .int .i64 0, .int .i64 0, .int .i64 0]
  rw [hW]
  clear hW
  obtain ⟨b1, e1⟩ : ∃ b, w.heap.size + 1 = b := ⟨_, rfl⟩
  rw [e1] at hf' hsz ⊢
  have h01 : w.heap.size < b1 := by omega
  clear e1
  have hcc := hf.cell
  have HF := Lib.hid hf
  have HR := Lib.hid hf'
  have HG := Lib.hid hg
  clear hf hf' hg
  go_wp2_with fail
  refine (HV.out _ HG.out).mono ?_
  rintro e w2 ⟨rfl, hb2⟩
  have HG2 : Hid (Grow w w2) := HG.out.trans hb2
  have HR2 := Lib.hid (Grow.block hb2 HR.out)
  have hz2 := Below.size hb2
  clear hcc hb2
  cases ok
  · simp only [Bool.false_eq_true, if_false]
    go_upto_region 2 with fail
    obtain ⟨W3, hW3, hg3, hS3, hsz3⟩ := one_block w2 67 #[.slice none 0 0, .slice none 0 0, .int .i64 0, .int .i64 0, .int .i64 0]
    rw [hW3]
    clear hW3
    have hR3 := Grow.block hg3 HR2.out
    have HG3 : Hid (Grow w W3) := HG2.out.trans hg3
    have hrc := hR3.cell
    have hrf := hR3.frozen
    have H5 := Lib.hid (five_stores hR3 (.slice none 0 0) (.slice none 0 0) (.int .i64 0) (.int .i64 0) (.int .i64 0))
    have HF5 : Hid (Below w.heap.size w _) := Lib.hid (HG3.out.trans' (five_below (w := W3) (B := w.heap.size) (b := b1) (by omega) (.slice none 0 0) (.slice none 0 0) (.int .i64 0) (.int .i64 0) (.int .i64 0)))
    clear hR3 hg3 hS3
    go_wp2
    exact bodyPost_ret (results_task4 Try.results43 _ _ b1 _ _ _ _ _ _ H5.out rfl rfl) rfl ⟨by rw [← HV1.out, ← HN1.out]; cases rok <;> rfl, HF5.out⟩
  · simp only [if_true]
    go_upto_region 2 with fail
    obtain ⟨W3, hW3, hg3, hS3, hsz3⟩ := one_block w2 67 (cellsT ⟨⟨hs, ps, limit, rest, swap⟩, A, ca, B, cb⟩)
    rw [hW3]
    clear hW3
    obtain ⟨b6, e6⟩ : ∃ b, w2.heap.size = b := ⟨_, rfl⟩
    rw [e6] at hS3 hsz3 ⊢
    have hb16 : b1 < b6 := by have := HR2.out.lt; omega
    clear e6
    have hp := HP.out rfl
    have hl1 : 1 ≤ hs.length := hp.1.1
    have hl3 : hs.length ≤ 3 := hp.1.2
    have hq3 : ps.length ≤ 10 := hp.2.2.1.2
    clear hp
    have HG3 : Hid (Grow w W3) := HG2.out.trans hg3
    have hR3 := Grow.block hg3 HR2.out
    have hcc := hS3.cell
    have HCC := Lib.hid (fun hl => HCI.out W3 HG3.out b6 hS3 hl hl1 hl3)
    have hrc := hR3.cell
    have hrf := hR3.frozen
    have H5 := Lib.hid (five_stores hR3 (.slice none 0 0) (.slice none 0 0) (.int .i64 0) (.int .i64 0) (.int .i64 0))
    have HF5 : Hid (Below w.heap.size w _) := Lib.hid (HG3.out.trans' (five_below (w := W3) (B := w.heap.size) (b := b1) (by omega) (.slice none 0 0) (.slice none 0 0) (.int .i64 0) (.int .i64 0) (.int .i64 0)))
    have H6 := Lib.hid (five_stores hR3 (.slice A hs.length ca) (.slice B ps.length cb) (.int .i64 limit) (.int .i64 rest) (.int .i64 swap))
    have HF6 : Hid (Below w.heap.size w _) := Lib.hid (HG3.out.trans' (five_below (w := W3) (B := w.heap.size) (b := b1) (by omega) (.slice A hs.length ca) (.slice B ps.length cb) (.int .i64 limit) (.int .i64 rest) (.int .i64 swap)))
    clear hR3 hg3 hS3
    by_cases hlen : xs.length = ps.length
    · have hd : decide ((xs.length : Int) = (ps.length : Int)) = true := decide_eq_true (by omega)
      have HD : Hid (decide (xs.length = ps.length) = true) := decide_eq_true hlen
      have hx : xs.length ≤ 10 := by omega
      clear hlen
      have hd2 : (!decide ((xs.length : Int) = (ps.length : Int))) = false := by rw [hd]; rfl
      have hb2 : ((xs.length : Int) != (ps.length : Int)) = false := by simpa using hd
      go_wp2_with fail
      refine (HCC.out hx).mono ?_
      rintro e w4 ⟨rfl, rfl⟩
      cases q
      · obtain rfl : rok = false := by rw [HOR.out, HD.out]; rfl
        go_wp2
        exact bodyPost_ret (results_task4 Try.results43 _ _ b1 _ _ _ _ _ _ H5.out rfl rfl) rfl ⟨by rw [← HV1.out, ← HN1.out]; rfl, HF5.out⟩
      · obtain rfl : rok = true := by rw [HOR.out, HD.out]; rfl
        go_wp2
        exact bodyPost_ret (results_task4 Try.results43 _ _ b1 _ _ _ _ _ _ H6.out rfl rfl) rfl ⟨by rw [← HV1.out, ← HN1.out]; rfl, HF6.out⟩
    · have hd : decide ((xs.length : Int) = (ps.length : Int)) = false := decide_eq_false (by omega)
      have HD : Hid (decide (xs.length = ps.length) = false) := decide_eq_false hlen
      have hni : ¬ (xs.length : Int) = (ps.length : Int) := by omega
      have hb2 : ((xs.length : Int) != (ps.length : Int)) = true := by simpa using hni
      obtain rfl : rok = false := by rw [HOR.out, HD.out]; rfl
      go_wp2_with fail
      exact bodyPost_ret (results_task4 Try.results43 _ _ b1 _ _ _ _ _ _ H5.out rfl rfl) rfl ⟨by rw [← HV1.out, ← HN1.out]; rfl, HF5.out⟩

end Go.Proofs.Ythlihchndmbkaaa
