/- Far: the specification's Check, and which tasks the laws look at. LawFar: Far and valid of the laws; the specification's IsRota. -/
import Derived.Test.YthlihchndmbkaaaRead
import Derived.Test.YthlihchndmbkaaaRota
import Derived.BigQuiet
namespace Go.Proofs.Ythlihchndmbkaaa
open Go.RowKit

set_option maxHeartbeats 800000 in
theorem isSpan_any (lo hi most : Int) (w : World) :
    Calls Try.prog 49 #[spanV lo hi, .int .i64 most] w fun e w' => e = .returned (.bool (okSpan lo hi most)) ∧ Below w.heap.size w w' := by
  have HO : Hid (okSpan lo hi most = (decide (0 ≤ lo) && (decide (lo ≤ hi) && decide (hi ≤ most)))) := rfl
  generalize okSpan lo hi most = ok at HO ⊢
  go_enter Try.func49, Try.ntmps49
  go_upto_region 1 with fail
  obtain ⟨W, hW, hg, hf, hsz⟩ := one_block w 47 #[.int .i64 lo, .int .i64 hi]
  rw [hW]
  clear hW
  have HG := Lib.hid hg
  have hfc := hf.cell
  clear hg hf
  by_cases h1 : 0 ≤ lo
  · have d1 : decide (0 ≤ lo) = true := decide_eq_true h1
    by_cases h2 : lo ≤ hi
    · have d2 : decide (lo ≤ hi) = true := decide_eq_true h2
      by_cases h3 : hi ≤ most
      · have d3 : decide (hi ≤ most) = true := decide_eq_true h3
        go_wp2
        go_ret
        exact ⟨ret_bool (by rw [HO.out, d1, d2, d3]; rfl), HG.out⟩
      · have d3 : decide (hi ≤ most) = false := decide_eq_false h3
        go_wp2
        go_ret
        exact ⟨ret_bool (by rw [HO.out, d1, d2, d3]; rfl), HG.out⟩
    · have d2 : decide (lo ≤ hi) = false := decide_eq_false h2
      go_wp2
      go_ret
      exact ⟨ret_bool (by rw [HO.out, d1, d2]; rfl), HG.out⟩
  · have d1 : decide (0 ≤ lo) = false := decide_eq_false h1
    go_wp2
    go_ret
    exact ⟨ret_bool (by rw [HO.out, d1]; rfl), HG.out⟩

-- rcheck4.py

set_option maxRecDepth 100000 in
set_option maxHeartbeats 8000000 in
theorem rCheck_any (t : TaskR) (n : Nat) (w : World) (ht : TaskAt w n t) (hn : n ≤ w.heap.size) :
    Calls Try.prog 25 #[taskV t] w fun e w' => e = .returned (.int .i64 (if okTask t.d = true then 0 else 40)) ∧ Below w.heap.size w w' := by
  obtain ⟨⟨hs, ps, limit, rest, swap⟩, A, ca, B, cb⟩ := t
  have HT := Lib.hid (ht.more hn)
  clear ht hn
  have HO : Hid (okTask ⟨hs, ps, limit, rest, swap⟩ = ((inB hs.length 1 3 && hs.all okHand) && (inB ps.length 1 10 && ps.all fun p => inB p 0 10) && (inB limit 1 10 && inB rest 1 10) && inB swap 0 100)) := rfl
  have HH3 : Hid (inB hs.length 1 3 = true → hs.length ≤ 3) := fun h => by have := inB_iff.1 h; omega
  have HP10 : Hid (inB ps.length 1 10 = true → ps.length ≤ 10) := fun h => by have := inB_iff.1 h; omega
  have HB1 := Lib.hid (fun w0 => rwithin_any hs.length 1 3 w0)
  have HB2 := Lib.hid (fun w0 => rwithin_any ps.length 1 10 w0)
  have HB3 := Lib.hid (fun w0 => rwithin_any limit 1 10 w0)
  have HB4 := Lib.hid (fun w0 => rwithin_any rest 1 10 w0)
  have HB5 := Lib.hid (fun w0 => rwithin_any swap 0 100 w0)

  generalize inB (hs.length : Int) 1 3 = b1 at HO HB1 HH3
  generalize inB (ps.length : Int) 1 10 = b2 at HO HB2 HP10
  generalize inB limit 1 10 = b3 at HO HB3
  generalize inB rest 1 10 = b4 at HO HB4
  generalize inB swap 0 100 = b5 at HO HB5
  generalize okTask ⟨hs, ps, limit, rest, swap⟩ = ok at HO ⊢
  obtain ⟨er, her⟩ : ∃ er : Int, (if ok = true then (0 : Int) else 40) = er := ⟨_, rfl⟩
  rw [her]
  have HER := Lib.hid her
  clear her
  go_enter Try.func25, Try.ntmps25
  go_upto_region 1 with fail
  obtain ⟨W, hW, hg, hf, hsz⟩ := one_block w 25 (cellsT ⟨⟨hs, ps, limit, rest, swap⟩, A, ca, B, cb⟩)
  rw [hW]
  clear hW
  have hcc := hf.cell
  have HF := Lib.hid hf
  have HG := Lib.hid hg
  clear hf hg
  go_cut [35] (fun v wx => v = .bool (!(b1 && b2 && b3 && b4 && b5)) ∧ W = wx)
  case first =>
    cases b1
    · go_wp2_with fail
      refine (HB1.out _).mono ?_
      rintro e w' ⟨rfl, rfl⟩
      go_wp2
      go_meet
      exact ⟨by simp, rfl⟩
    · go_wp2_with fail
      refine (HB1.out _).mono ?_
      rintro e w' ⟨rfl, rfl⟩
      cases b2
      · go_wp2_with fail
        refine (HB2.out _).mono ?_
        rintro e w' ⟨rfl, rfl⟩
        go_wp2
        go_meet
        exact ⟨by simp, rfl⟩
      · go_wp2_with fail
        refine (HB2.out _).mono ?_
        rintro e w' ⟨rfl, rfl⟩
        cases b3
        · go_wp2_with fail
          refine (HB3.out _).mono ?_
          rintro e w' ⟨rfl, rfl⟩
          go_wp2
          go_meet
          exact ⟨by simp, rfl⟩
        · go_wp2_with fail
          refine (HB3.out _).mono ?_
          rintro e w' ⟨rfl, rfl⟩
          cases b4
          · go_wp2_with fail
            refine (HB4.out _).mono ?_
            rintro e w' ⟨rfl, rfl⟩
            go_wp2
            go_meet
            exact ⟨by simp, rfl⟩
          · go_wp2_with fail
            refine (HB4.out _).mono ?_
            rintro e w' ⟨rfl, rfl⟩
            cases b5
            · go_wp2_with fail
              refine (HB5.out _).mono ?_
              rintro e w' ⟨rfl, rfl⟩
              go_wp2
              go_meet
              exact ⟨by simp, rfl⟩
            · go_wp2_with fail
              refine (HB5.out _).mono ?_
              rintro e w' ⟨rfl, rfl⟩
              go_wp2
              go_meet
              exact ⟨by simp, rfl⟩
  case rest =>
    obtain ⟨rfl, rfl⟩ := hcut
    obtain ⟨x, HX⟩ : ∃ x, Hid ((b1 && b2 && b3 && b4 && b5) = x) := ⟨_, rfl⟩
    rw [HX.out]
    cases x
    all_goals simp only [Bool.not_false, Bool.not_true]
    · have HF0 : Hid (ok = false) := Lib.hid (by
        have h := HX.out
        rw [HO.out]
        clear HO HX HB1 HB2 HB3 HB4 HB5
        revert h
        cases b1 <;> cases b2 <;> cases b3 <;> cases b4 <;> cases b5 <;> simp)
      go_wp2
      go_ret
      exact ⟨ret_int (by rw [← HER.out, HF0.out]; rfl), HG.out⟩
    · obtain ⟨rfl, rfl, rfl, rfl, rfl⟩ : b1 = true ∧ b2 = true ∧ b3 = true ∧ b4 = true ∧ b5 = true := by
        have h := HX.out
        clear HO HX HB1 HB2 HB3 HB4 HB5
        revert h
        cases b1 <;> cases b2 <;> cases b3 <;> cases b4 <;> cases b5 <;> simp
      have hl3 := HH3.out rfl
      have hl10 := HP10.out rfl
      have HO2 : Hid (ok = (hs.all okHand && ps.all fun p => inB p 0 10)) := Lib.hid (by rw [HO.out]; simp)
      clear HO HX HB1 HB2 HB3 HB4 HB5 HH3 HP10
      have HBAD1 : Hid (hs.all okHand = false → ok = false) := fun h => by rw [HO2.out, h]; rfl
      have HBAD2 : Hid ((ps.all fun p => inB p 0 10) = false → ok = false) := fun h => by rw [HO2.out, h, Bool.and_false]
      have HGOOD : Hid (hs.all okHand = true → (ps.all fun p => inB p 0 10) = true → ok = true) := fun h h' => by rw [HO2.out, h, h']; rfl
      go_upto_region 4 with fail
      go_loopw [3] (fun iv wr => ∃ k : Nat, k ≤ hs.length ∧ iv = .int .i64 k ∧ (hs.take k).all okHand = true ∧ Grow W wr) (fun i _ => hs.length - (intOf i).toNat)
      case atStart => exact ⟨0, Nat.zero_le _, rfl, rfl, Grow.refl _⟩
      case round =>
        obtain ⟨k, hk, rfl, hall, hgr⟩ := hrel
        rename World => wr
        have HALL := Lib.hid hall
        have HGR := Lib.hid hgr
        clear hall hcc
        have hcc := (hgr.block HF.out).cell
        clear hgr
        by_cases hlt : k < hs.length
        · obtain ⟨b, off, x, hAe, hb, hc, HX⟩ := (HT.out.below (HG.out.trans HGR.out)).1.at_ hlt
          subst hAe
          have e0 := hc 0 (by omega); have e1 := hc 1 (by omega); have e2 := hc 2 (by omega); have e3 := hc 3 (by omega); have e4 := hc 4 (by omega); have e5 := hc 5 (by omega); have e6 := hc 6 (by omega)
          rw [Nat.add_zero] at e0
          clear hc hb
          obtain ⟨s0, s1, t0, t1, c0, c1, slip⟩ := x
          have HOH : Hid (okHand ⟨s0, s1, t0, t1, c0, c1, slip⟩ = (okSpan s0 s1 100 && okSpan t0 t1 20 && okSpan c0 c1 20 && inB slip 0 100)) := rfl
          have HALLN : Hid ((hs.take (k + 1)).all okHand = okHand ⟨s0, s1, t0, t1, c0, c1, slip⟩) := Lib.hid (by rw [take_snoc HX.out, List.all_append, HALL.out, Bool.true_and]; simp)
          have HNO : Hid (okHand ⟨s0, s1, t0, t1, c0, c1, slip⟩ = false → hs.all okHand = false) := fun h => List.all_eq_false.2 ⟨_, List.mem_of_getElem? HX.out, by rw [h]; simp⟩
          have HC1 := Lib.hid (fun w0 => isSpan_any s0 s1 100 w0)
          have HC2 := Lib.hid (fun w0 => isSpan_any t0 t1 20 w0)
          have HC3 := Lib.hid (fun w0 => isSpan_any c0 c1 20 w0)
          have HC4 := Lib.hid (fun w0 => rwithin_any slip 0 100 w0)
          generalize okHand ⟨s0, s1, t0, t1, c0, c1, slip⟩ = oh at HOH HALLN HNO
          generalize okSpan s0 s1 100 = c1' at HOH HC1
          generalize okSpan t0 t1 20 = c2' at HOH HC2
          generalize okSpan c0 c1 20 = c3' at HOH HC3
          generalize inB slip 0 100 = c4' at HOH HC4
          go_upto_region 7 with fail
          obtain ⟨W3, hW3, hg3, hx3, hsz3⟩ := one_block wr 52 (cellsH ⟨s0, s1, t0, t1, c0, c1, slip⟩)
          rw [hW3]
          clear hW3 e0 e1 e2 e3 e4 e5 e6 hcc
          have hxc := hx3.cell
          have HX3 := Lib.hid hx3
          have HG3 : Hid (Grow W W3) := Lib.hid (HGR.out.trans hg3)
          clear hg3 hx3
          go_cut [69] (fun v wx => v = .bool (!(c1' && c2' && c3' && c4')) ∧ Grow W3 wx)
          case first =>
            cases c1'
            · go_wp2_with fail
              refine (HC1.out _).mono ?_
              rintro e w' ⟨rfl, hb⟩
              go_wp2
              go_meet
              exact ⟨by simp, hb⟩
            · go_wp2_with fail
              refine (HC1.out _).mono ?_
              rintro e w' ⟨rfl, hb⟩
              have HG1 : Hid (Grow W3 w') := Lib.hid (hb)
              clear hb hxc
              have hxc := (HG1.out.block HX3.out).cell
              cases c2'
              · go_wp2_with fail
                refine (HC2.out _).mono ?_
                rintro e w' ⟨rfl, hb⟩
                go_wp2
                go_meet
                exact ⟨by simp, HG1.out.trans hb⟩
              · go_wp2_with fail
                refine (HC2.out _).mono ?_
                rintro e w' ⟨rfl, hb⟩
                have HG2 : Hid (Grow W3 w') := Lib.hid (HG1.out.trans hb)
                clear hb hxc
                have hxc := (HG2.out.block HX3.out).cell
                cases c3'
                · go_wp2_with fail
                  refine (HC3.out _).mono ?_
                  rintro e w' ⟨rfl, hb⟩
                  go_wp2
                  go_meet
                  exact ⟨by simp, HG2.out.trans hb⟩
                · go_wp2_with fail
                  refine (HC3.out _).mono ?_
                  rintro e w' ⟨rfl, hb⟩
                  have HG3 : Hid (Grow W3 w') := Lib.hid (HG2.out.trans hb)
                  clear hb hxc
                  have hxc := (HG3.out.block HX3.out).cell
                  cases c4'
                  · go_wp2_with fail
                    refine (HC4.out _).mono ?_
                    rintro e w' ⟨rfl, rfl⟩
                    go_wp2
                    go_meet
                    exact ⟨by simp, HG3.out⟩
                  · go_wp2_with fail
                    refine (HC4.out _).mono ?_
                    rintro e w' ⟨rfl, rfl⟩
                    go_wp2
                    go_meet
                    exact ⟨by simp, HG3.out⟩
          case rest =>
            obtain ⟨rfl, hg4⟩ := hcut
            have HG4 : Hid (Grow W _) := Lib.hid (HG3.out.trans hg4)
            clear hg4 hxc
            rw [← HOH.out]
            cases oh
            · have HF0 : Hid (ok = false) := Lib.hid (HBAD1.out (HNO.out rfl))
              go_wp2
              go_ret
              exact ⟨ret_int (by rw [← HER.out, HF0.out]; rfl), HG.out.trans HG4.out⟩
            · go_wp2
              go_roundw
              case rel => exact ⟨k + 1, by omega, by go_num, HALLN.out, HG4.out⟩
              case measure => simp [intOf]; omega
        · obtain rfl : k = hs.length := by omega
          have HALL2 : Hid (hs.all okHand = true) := Lib.hid (by have := HALL.out; rwa [List.take_length] at this)
          go_upto_region 10 with fail
          go_loop [5] (fun iv => ∃ k : Nat, k ≤ ps.length ∧ iv = .int .i64 k ∧ (ps.take k).all (fun p => inB p 0 10) = true) (fun i => ps.length - (intOf i).toNat)
          case atStart => exact ⟨0, Nat.zero_le _, rfl, rfl⟩
          case round =>
            obtain ⟨j, hj, rfl, hpl⟩ := hrel
            have HPL := Lib.hid hpl
            clear hpl
            by_cases hjt : j < ps.length
            · obtain ⟨b, off, y, hBe, hb, hc, HY⟩ := (HT.out.below (HG.out.trans HGR.out)).2.at_ hjt
              subst hBe
              have HPN : Hid ((ps.take (j + 1)).all (fun p => inB p 0 10) = inB y 0 10) := Lib.hid (by rw [take_snoc HY.out, List.all_append, HPL.out, Bool.true_and]; simp)
              have HNO : Hid (inB y 0 10 = false → (ps.all fun p => inB p 0 10) = false) := fun h => List.all_eq_false.2 ⟨_, List.mem_of_getElem? HY.out, by rw [h]; simp⟩
              have HW := Lib.hid (fun w0 => rwithin_any y 0 10 w0)
              generalize inB y 0 10 = oy at HPN HNO HW
              clear hb
              go_wp2_with fail
              refine (HW.out _).mono ?_
              rintro e w' ⟨rfl, rfl⟩
              cases oy
              · have HF0 : Hid (ok = false) := Lib.hid (HBAD2.out (HNO.out rfl))
                go_wp2
                go_ret
                exact ⟨ret_int (by rw [← HER.out, HF0.out]; rfl), HG.out.trans HGR.out⟩
              · go_wp2
                go_round
                case rel => exact ⟨j + 1, by omega, by go_num, HPN.out⟩
                case measure => simp [intOf]; omega
            · obtain rfl : j = ps.length := by omega
              have HF1 : Hid (ok = true) := Lib.hid (HGOOD.out HALL2.out (by have := HPL.out; rwa [List.take_length] at this))
              go_wp2
              go_ret
              exact ⟨ret_int (by rw [← HER.out, HF1.out]; rfl), HG.out.trans HGR.out⟩

end Go.Proofs.Ythlihchndmbkaaa

namespace Go.Proofs.Ythlihchndmbkaaa
open Go.RowKit

def farD (t : TaskD) : Bool := decide (20 < t.hands.length) || (decide (20 < t.parts.length) || (okTask t && decide (6 < t.parts.length)))
def validD (t : TaskD) : Bool := !farD t && okTask t
theorem validD_iff {t : TaskD} : validD t = true ↔ okTask t = true ∧ t.parts.length ≤ 6 := by
  unfold validD farD
  constructor
  · intro h
    simp at h
    refine ⟨h.2, ?_⟩
    rcases h.1.2.2 with g | g
    · rw [h.2] at g; simp at g
    · exact g
  · rintro ⟨h1, h2⟩
    have := okTask_parts h1
    simp [h1]
    omega

set_option maxRecDepth 100000 in
set_option maxHeartbeats 4000000 in
theorem far_any (t : TaskR) (n : Nat) (w : World) (ht : TaskAt w n t) (hn : n ≤ w.heap.size) :
    Calls Try.prog 29 #[taskV t] w fun e w' => e = .returned (.bool (farD t.d)) ∧ Below w.heap.size w w' := by
  have HC := Lib.hid (fun (w0 : World) (hw : Grow w w0) => rCheck_any t w.heap.size w0 ((ht.more hn).below hw) hw.size)
  clear ht hn
  obtain ⟨⟨hs, ps, limit, rest, swap⟩, A, ca, B, cb⟩ := t
  dsimp only at HC ⊢
  have HF : Hid (farD ⟨hs, ps, limit, rest, swap⟩ = (decide (20 < hs.length) || (decide (20 < ps.length) || (okTask ⟨hs, ps, limit, rest, swap⟩ && decide (6 < ps.length))))) := rfl
  generalize okTask ⟨hs, ps, limit, rest, swap⟩ = ok at HC HF
  generalize farD ⟨hs, ps, limit, rest, swap⟩ = fd at HF ⊢
  by_cases h1 : 20 < hs.length
  · have d1 : decide ((20 : Int) < (hs.length : Int)) = true := decide_eq_true (by omega)
    have HFD : Hid (fd = true) := Lib.hid (by rw [HF.out, decide_eq_true h1]; rfl)
    clear HF HC
    go_enter Try.func29, Try.ntmps29
    go_upto_region 1 with fail
    obtain ⟨W, hW, hg, hf, hsz⟩ := one_block w 25 (cellsT ⟨⟨hs, ps, limit, rest, swap⟩, A, ca, B, cb⟩)
    rw [hW]
    clear hW
    have hcc := hf.cell
    have HG := Lib.hid hg
    clear hf hg
    go_wp2
    go_ret
    exact ⟨ret_bool HFD.out.symm, HG.out⟩
  · have d1 : decide ((20 : Int) < (hs.length : Int)) = false := decide_eq_false (by omega)
    by_cases h2 : 20 < ps.length
    · have d2 : decide ((20 : Int) < (ps.length : Int)) = true := decide_eq_true (by omega)
      have HFD : Hid (fd = true) := Lib.hid (by rw [HF.out, decide_eq_true h2]; simp)
      clear HF HC
      go_enter Try.func29, Try.ntmps29
      go_upto_region 1 with fail
      obtain ⟨W, hW, hg, hf, hsz⟩ := one_block w 25 (cellsT ⟨⟨hs, ps, limit, rest, swap⟩, A, ca, B, cb⟩)
      rw [hW]
      clear hW
      have hcc := hf.cell
      have HG := Lib.hid hg
      clear hf hg
      go_wp2
      go_ret
      exact ⟨ret_bool HFD.out.symm, HG.out⟩
    · have d2 : decide ((20 : Int) < (ps.length : Int)) = false := decide_eq_false (by omega)
      have HFD : Hid (fd = (ok && decide (6 < ps.length))) := Lib.hid (by rw [HF.out, decide_eq_false h1, decide_eq_false h2]; rfl)
      clear HF
      cases ok
      all_goals
        simp only [if_true, if_false, Bool.false_eq_true, Bool.true_and, Bool.false_and] at HC HFD
        go_enter Try.func29, Try.ntmps29
        go_upto_region 1 with fail
        obtain ⟨W, hW, hg, hf, hsz⟩ := one_block w 25 (cellsT ⟨⟨hs, ps, limit, rest, swap⟩, A, ca, B, cb⟩)
        rw [hW]
        clear hW
        have hcc := hf.cell
        have HG := Lib.hid hg
        have HB := Lib.hid hf
        clear hf hg
        go_wp2_with fail
        refine (HC.out _ HG.out).mono ?_
        rintro e w2 ⟨rfl, hb2⟩
        have HG2 : Hid (Grow w w2) := HG.out.trans hb2
        clear hcc
        have hcc := (Grow.block hb2 HB.out).cell
        clear hb2
      · go_wp2
        go_ret
        exact ⟨ret_bool HFD.out.symm, HG2.out⟩
      · by_cases h3 : 6 < ps.length
        · have d3 : decide ((6 : Int) < (ps.length : Int)) = true := decide_eq_true (by omega)
          have HFE : Hid (fd = true) := Lib.hid (by rw [HFD.out]; simp [h3])
          go_wp2
          go_ret
          exact ⟨ret_bool HFE.out.symm, HG2.out⟩
        · have d3 : decide ((6 : Int) < (ps.length : Int)) = false := decide_eq_false (by omega)
          have HFE : Hid (fd = false) := Lib.hid (by rw [HFD.out]; simp [h3])
          go_wp2
          go_ret
          exact ⟨ret_bool HFE.out.symm, HG2.out⟩

set_option maxRecDepth 100000 in
set_option maxHeartbeats 4000000 in
theorem valid_any (t : TaskR) (n : Nat) (w : World) (ht : TaskAt w n t) (hn : n ≤ w.heap.size) :
    Calls Try.prog 11 #[taskV t] w fun e w' => e = .returned (.bool (validD t.d)) ∧ Below w.heap.size w w' := by
  have HC := Lib.hid (fun (w0 : World) (hw : Grow w w0) => rCheck_any t w.heap.size w0 ((ht.more hn).below hw) hw.size)
  have HFR := Lib.hid (fun (w0 : World) (hw : Grow w w0) => far_any t w.heap.size w0 ((ht.more hn).below hw) hw.size)
  clear ht hn
  obtain ⟨⟨hs, ps, limit, rest, swap⟩, A, ca, B, cb⟩ := t
  dsimp only at HC HFR ⊢
  have HF : Hid (validD ⟨hs, ps, limit, rest, swap⟩ = (!farD ⟨hs, ps, limit, rest, swap⟩ && okTask ⟨hs, ps, limit, rest, swap⟩)) := rfl
  generalize okTask ⟨hs, ps, limit, rest, swap⟩ = ok at HC HF
  generalize farD ⟨hs, ps, limit, rest, swap⟩ = fd at HF HFR
  generalize validD ⟨hs, ps, limit, rest, swap⟩ = vd at HF ⊢
  cases fd
  · cases ok
    all_goals
      simp only [if_true, if_false, Bool.false_eq_true, Bool.not_false, Bool.and_true, Bool.and_false] at HC HF
      go_enter Try.func11, Try.ntmps11
      go_upto_region 1 with fail
      obtain ⟨W, hW, hg, hf, hsz⟩ := one_block w 25 (cellsT ⟨⟨hs, ps, limit, rest, swap⟩, A, ca, B, cb⟩)
      rw [hW]
      clear hW
      have hcc := hf.cell
      have HG := Lib.hid hg
      have HB := Lib.hid hf
      clear hf hg
      go_wp2_with fail
      refine (HFR.out _ HG.out).mono ?_
      rintro e w2 ⟨rfl, hb2⟩
      have HG2 : Hid (Grow w w2) := HG.out.trans hb2
      clear hcc
      have hcc := (Grow.block hb2 HB.out).cell
      clear hb2
      go_wp2_with fail
      refine (HC.out _ HG2.out).mono ?_
      rintro e w3 ⟨rfl, hb3⟩
      have HG3 : Hid (Grow w w3) := HG2.out.trans hb3
      clear hb3 hcc
      go_wp2
      go_ret
      exact ⟨ret_bool HF.out.symm, HG3.out⟩
  · go_enter Try.func11, Try.ntmps11
    go_upto_region 1 with fail
    obtain ⟨W, hW, hg, hf, hsz⟩ := one_block w 25 (cellsT ⟨⟨hs, ps, limit, rest, swap⟩, A, ca, B, cb⟩)
    rw [hW]
    clear hW
    have hcc := hf.cell
    have HG := Lib.hid hg
    clear hf hg
    go_wp2_with fail
    refine (HFR.out _ HG.out).mono ?_
    rintro e w2 ⟨rfl, hb2⟩
    have HG2 : Hid (Grow w w2) := HG.out.trans hb2
    clear hb2
    go_wp2
    go_ret
    exact ⟨ret_bool HF.out.symm, HG2.out⟩

end Go.Proofs.Ythlihchndmbkaaa

