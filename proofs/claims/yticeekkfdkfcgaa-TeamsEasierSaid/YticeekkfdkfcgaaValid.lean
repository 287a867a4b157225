/- Valid: whether a crew and a job are valid, as the program says. -/
import Derived.Test.YticeekkfdkfcgaaAll
import Derived.Deep.DeepCutAuto
namespace Go.Proofs.Yticeekkfdkfcgaa
open Go.RowKit

set_option maxHeartbeats 400000 in
theorem validLevel_any (n : Int) (w : World) : Calls Try.prog 67 #[.int .i64 n] w fun e w' => e = .returned (.bool (inB n 0 5)) ∧ w = w' := by
  go_enter Try.func67, Try.ntmps67
  go_wp2_with (first | (go_at_call 58; refine (within_any _ _ _ _).mono ?_; rintro e w' ⟨rfl, rfl⟩))
  go_ret
  exact ⟨rfl, rfl⟩
set_option maxHeartbeats 400000 in
theorem validClient_any (n : Int) (w : World) : Calls Try.prog 68 #[.int .i64 n] w fun e w' => e = .returned (.bool (inB n 0 99)) ∧ w = w' := by
  go_enter Try.func68, Try.ntmps68
  go_wp2_with (first | (go_at_call 58; refine (within_any _ _ _ _).mono ?_; rintro e w' ⟨rfl, rfl⟩))
  go_ret
  exact ⟨rfl, rfl⟩
set_option maxHeartbeats 400000 in
theorem validSize_any (n : Int) (w : World) : Calls Try.prog 72 #[.int .i64 n] w fun e w' => e = .returned (.bool (inB n 1 8)) ∧ w = w' := by
  go_enter Try.func72, Try.ntmps72
  go_wp2_with (first | (go_at_call 58; refine (within_any _ _ _ _).mono ?_; rintro e w' ⟨rfl, rfl⟩))
  go_ret
  exact ⟨rfl, rfl⟩
set_option maxHeartbeats 400000 in
theorem validLaw_any (l : LawD) (w : World) : Calls Try.prog 71 #[lawV l] w fun e w' => e = .returned (.bool (okLaw l)) ∧ Below w.heap.size w w' := by
  obtain ⟨lv, sz, df⟩ := l
  unfold okLaw
  dsimp only
  have HA := Lib.hid (fun w0 => within_any lv 1 5 w0)
  have HB := Lib.hid (fun w0 => validSize_any sz w0)
  generalize inB lv 1 5 = a at HA ⊢
  generalize inB sz 1 8 = b at HB ⊢
  go_enter Try.func71, Try.ntmps71
  go_upto_region 1 with fail
  obtain ⟨W, hW, hg, hf, hsz⟩ := one_block w 58 (cellsL ⟨lv, sz, df⟩)
  rw [hW]
  clear hW
  have hcc := hf.cell
  have HG := Lib.hid hg
  clear hf hg
  cases a
  · go_wp2_with fail
    refine (HA.out _).mono ?_
    rintro e w' ⟨rfl, rfl⟩
    go_wp2
    go_ret
    exact ⟨rfl, HG.out⟩
  · go_wp2_with fail
    refine (HA.out _).mono ?_
    rintro e w' ⟨rfl, rfl⟩
    go_wp2_with fail
    refine (HB.out _).mono ?_
    rintro e w' ⟨rfl, rfl⟩
    go_wp2
    go_ret
    exact ⟨rfl, HG.out⟩

theorem inB_same (a n : Int) : inB a n n = decide (a = n) := by
  unfold inB
  by_cases h : a = n
  · subst h; simp
  · rw [decide_eq_false h]
    by_cases h1 : n ≤ a
    · have : ¬ a ≤ n := by omega
      simp [this]
    · simp [h1]
theorem inB_upto (a : Nat) (n : Nat) : inB (a : Int) 0 n = decide (a ≤ n) := by
  unfold inB
  have h0 : decide ((0 : Int) ≤ (a : Int)) = true := decide_eq_true (by omega)
  rw [h0, Bool.true_and]
  by_cases h : a ≤ n
  · rw [decide_eq_true h, decide_eq_true (by omega)]
  · rw [decide_eq_false h, decide_eq_false (by omega)]

set_option maxRecDepth 100000 in
set_option maxHeartbeats 4000000 in
theorem validPerson_any (c : CrewR) (cb : Nat) (x : PersonR) (w : World) (hc : BlockIs w cb 25 (cellsC c)) (hx : PersonAt w w.heap.size x) (hl : x.d.levels.length ≤ 1000000) (ht : x.d.ties.length ≤ 1000000) :
    Calls Try.prog 65 #[personV x, .pointer (some ⟨cb, 0, none⟩)] w fun e w' => e = .returned (.bool (okPerson c.languages x.d)) ∧ Below w.heap.size w w' := by
  have HA := Lib.hid (fun (w0 : World) (hw : Grow w w0) => allInt_any x.la x.lc w0.heap.size x.d.levels c.languages c.languages w0 ((hx.1.below hw).more hw.size) hl (Nat.le_refl _) 67 (fun n => inB n 0 5) (fun _ _ => by kernel_rfl) (fun n w1 => validLevel_any n w1))
  have HD := Lib.hid (fun (w0 : World) (hw : Grow w w0) => allInt_any x.ta x.tc w0.heap.size x.d.ties 0 10 w0 ((hx.2.below hw).more hw.size) ht (Nat.le_refl _) 68 (fun n => inB n 0 99) (fun _ _ => by kernel_rfl) (fun n w1 => validClient_any n w1))
  have HB := Lib.hid (fun w0 => within_any x.d.fields 0 255 w0)
  have HC := Lib.hid (fun w0 => within_any x.d.clears 0 255 w0)
  have HE := Lib.hid (fun w0 => within_any x.d.fee 0 1000 w0)
  have HO : Hid (okPerson c.languages x.d = ((inB x.d.levels.length c.languages c.languages && x.d.levels.all fun n => inB n 0 5) && (inB x.d.fields 0 255 && inB x.d.clears 0 255) && (inB x.d.ties.length 0 10 && x.d.ties.all fun n => inB n 0 99) && inB x.d.fee 0 1000)) := by
    show okPerson _ _ = _
    unfold okPerson
    rw [inB_same, show (10 : Int) = ((10 : Nat) : Int) from rfl, inB_upto]
  generalize (inB x.d.levels.length c.languages c.languages && x.d.levels.all fun n => inB n 0 5) = a at HA HO
  generalize (inB x.d.ties.length 0 10 && x.d.ties.all fun n => inB n 0 99) = d at HD HO
  generalize inB x.d.fields 0 255 = b at HB HO
  generalize inB x.d.clears 0 255 = c1 at HC HO
  generalize inB x.d.fee 0 1000 = f at HE HO
  have HCB := Lib.hid hc
  clear hc hx
  go_enter Try.func65, Try.ntmps65
  go_upto_region 1 with fail
  obtain ⟨W, hW, hg, hf, hsz⟩ := one_block w 52 (cellsP x)
  rw [hW]
  clear hW
  have HG := Lib.hid hg
  have HF := Lib.hid hf
  have hcc := hf.cell
  have hcb := (hg.block HCB.out).cell
  clear hf hg
  go_wp2_with fail
  refine (HA.out _ HG.out).mono ?_
  rintro e w1 ⟨rfl, hb1⟩
  have HG1 : Hid (Grow W w1) := hb1
  clear hb1 hcc hcb
  have hcc := (HG1.out.block HF.out).cell
  go_upto_region 2 with fail
  go_cut [5] (fun v wx => v = .bool (b && c1) ∧ wx = w1)
  case first =>
    cases b
    · go_wp2_with fail
      refine (HB.out _).mono ?_
      rintro e w' ⟨rfl, rfl⟩
      go_wp2
      go_meet
      exact ⟨rfl, rfl⟩
    · go_wp2_with fail
      refine (HB.out _).mono ?_
      rintro e w' ⟨rfl, rfl⟩
      go_wp2_with fail
      refine (HC.out _).mono ?_
      rintro e w' ⟨rfl, rfl⟩
      go_wp2
      go_meet
      exact ⟨rfl, rfl⟩
  case rest =>
    obtain ⟨rfl, rfl⟩ := hcut
    obtain ⟨bc, hbc⟩ : ∃ z, (b && c1) = z := ⟨_, rfl⟩
    rw [hbc] at HO ⊢
    clear hbc HB HC
    cases a
    · go_wp2
      go_ret
      exact ⟨ret_bool (by rw [HO.out]; simp), HG.out.trans HG1.out⟩
    · cases bc
      · go_wp2
        go_ret
        exact ⟨ret_bool (by rw [HO.out]; simp), HG.out.trans HG1.out⟩
      · cases d
        · go_wp2_with fail
          refine (HD.out _ (HG.out.trans HG1.out)).mono ?_
          rintro e w2 ⟨rfl, hb2⟩
          have HG2 : Hid (Grow W w2) := Lib.hid (HG1.out.trans hb2)
          clear hb2
          go_wp2
          go_ret
          exact ⟨ret_bool (by rw [HO.out]; simp), HG.out.trans HG2.out⟩
        · go_wp2_with fail
          refine (HD.out _ (HG.out.trans HG1.out)).mono ?_
          rintro e w2 ⟨rfl, hb2⟩
          have HG2 : Hid (Grow W w2) := Lib.hid (HG1.out.trans hb2)
          clear hb2 hcc
          have hcc := (HG2.out.block HF.out).cell
          go_wp2_with fail
          refine (HE.out _).mono ?_
          rintro e w' ⟨rfl, rfl⟩
          go_wp2
          go_ret
          exact ⟨ret_bool (by rw [HO.out]; simp), HG.out.trans HG2.out⟩

theorem all_people (n : Int) (l : List PersonR) : (l.all fun x => okPerson n x.d) = (l.map (·.d)).all (okPerson n) := by rw [List.all_map]; rfl
/-- no slice of a crew is too long for a walk -/
def Short (c : CrewR) : Prop := c.people.length ≤ 1000000 ∧ c.laws.length ≤ 1000000 ∧ ∀ x ∈ c.people, x.d.levels.length ≤ 1000000 ∧ x.d.ties.length ≤ 1000000

set_option maxRecDepth 100000 in
set_option maxHeartbeats 4000000 in
theorem validCrew_any (c : CrewR) (n : Nat) (w : World) (hA : CrewAt w n c) (hn : n ≤ w.heap.size) (hs : Short c) :
    Calls Try.prog 54 #[crewV c] w fun e w' => e = .returned (.bool (okCrew c.d)) ∧ Below w.heap.size w w' := by
  have hA := hA.more hn
  obtain ⟨hs1, hs2, hs3⟩ := hs
  have HB := Lib.hid (fun (cb : Nat) (w0 : World) (hw : Grow w w0) (hc : BlockIs w0 cb 25 (cellsC c)) => allPerson_any c.pa c.pc w0.heap.size c.people 0 8 w0 ((hA.1.below hw).more hw.size) hs1 (Nat.le_refl _) 65 #[.pointer (some ⟨cb, 0, none⟩)] (fun x => okPerson c.languages x.d) (fun _ _ => by kernel_rfl)
    (fun x w' hx hw' => validPerson_any c cb x w' (hw'.block hc) (((hA.1.2 x hx).below (hw.trans hw')).more (hw.trans hw').size) (hs3 x hx).1 (hs3 x hx).2))
  have HC := Lib.hid (fun (w0 : World) (hw : Grow w w0) => allLaw_any c.wa c.wc w0.heap.size c.laws 4 4 w0 ((hA.2.below hw).more hw.size) hs2 (Nat.le_refl _) 71 #[] okLaw (fun _ _ => by kernel_rfl) (fun x w' _ _ => validLaw_any x w'))
  have HA := Lib.hid (fun w0 => within_any c.languages 2 5 w0)
  have HO : Hid (okCrew c.d = ((inB c.languages 2 5 && (inB c.people.length 0 8 && c.people.all fun x => okPerson c.languages x.d)) && (inB c.laws.length 4 4 && c.laws.all okLaw))) := by
    show okCrew _ = _
    unfold okCrew
    rw [all_people, show (8 : Int) = ((8 : Nat) : Int) from rfl, inB_upto, inB_same, List.length_map]
    congr 2
    by_cases h : c.laws.length = 4
    · rw [decide_eq_true h, decide_eq_true (by omega)]
    · rw [decide_eq_false h, decide_eq_false (by omega)]
  generalize (inB c.people.length 0 8 && c.people.all fun x => okPerson c.languages x.d) = b at HB HO
  generalize (inB c.laws.length 4 4 && c.laws.all okLaw) = d at HC HO
  generalize inB c.languages 2 5 = a at HA HO
  clear hA hn hs3
  go_enter Try.func54, Try.ntmps54
  go_upto_region 1 with fail
  obtain ⟨W, hW, hg, hf, hsz⟩ := one_block w 25 (cellsC c)
  rw [hW]
  clear hW
  have HG := Lib.hid hg
  have HF := Lib.hid hf
  have hcc := hf.cell
  clear hf hg
  cases a
  · go_wp2_with fail
    refine (HA.out _).mono ?_
    rintro e w' ⟨rfl, rfl⟩
    go_wp2
    go_ret
    exact ⟨ret_bool (by rw [HO.out]; simp), HG.out⟩
  · go_wp2_with fail
    refine (HA.out _).mono ?_
    rintro e w' ⟨rfl, rfl⟩
    go_wp2_with fail
    refine (HB.out _ _ HG.out HF.out).mono ?_
    rintro e w1 ⟨rfl, hb1⟩
    have HG1 : Hid (Grow W w1) := hb1
    clear hb1 hcc
    have hcc := (HG1.out.block HF.out).cell
    cases b
    · go_wp2
      go_ret
      exact ⟨ret_bool (by rw [HO.out]; simp), HG.out.trans HG1.out⟩
    · go_wp2_with fail
      refine (HC.out _ (HG.out.trans HG1.out)).mono ?_
      rintro e w2 ⟨rfl, hb2⟩
      have HG2 : Hid (Grow W w2) := Lib.hid (HG1.out.trans hb2)
      clear hb2
      go_wp2
      go_ret
      exact ⟨ret_bool (by rw [HO.out]; simp), HG.out.trans HG2.out⟩

end Go.Proofs.Yticeekkfdkfcgaa
