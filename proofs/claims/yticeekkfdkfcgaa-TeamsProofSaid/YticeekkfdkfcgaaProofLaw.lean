/- ProofLaw: TeamsProof. -/
import Derived.Test.YticeekkfdkfcgaaProofF
import Derived.Test.YticeekkfdkfcgaaWorks
import Derived.Test.YticeekkfdkfcgaaRBroken
import Derived.Deep.DeepCutAuto
namespace Go.Proofs.Yticeekkfdkfcgaa
open Go.RowKit

set_option maxRecDepth 100000 in
set_option maxHeartbeats 16000000 in
theorem proofLaw_any (c : CrewR) (j : JobD) (team other : Int) (n : Nat) (w : World) (hA : CrewAt w n c) (hn : n ≤ w.heap.size) :
    Calls Try.prog 6 #[crewV c, jobV j, .int .i64 team, .int .i64 other] w fun e w' => e = .returned (.bool true) ∧ Below w.heap.size w w' := by
  have HAT := Lib.hid (fun (w0 : World) (hw : Grow w w0) => ((hA.more hn).below hw).more hw.size)
  have HRD := Lib.hid (fun (w0 : World) (hw : Grow w w0) => ready_any c j w0.heap.size w0 (HAT.out w0 hw) (Nat.le_refl _))
  have HTE := Lib.hid (fun (hs : Short c) (w0 : World) (hw : Grow w w0) => team_flat c j w0.heap.size w0 (HAT.out w0 hw) (Nat.le_refl _) hs)
  have HWH := Lib.hid (fun (hs : Short c) (w0 : World) (hw : Grow w w0) => whyApi_any c j w0.heap.size w0 (HAT.out w0 hw) (Nat.le_refl _) hs)
  have HBR := Lib.hid (fun (hs : Short c) (w0 : World) (hw : Grow w w0) => broken_flat c j team w0.heap.size w0 (HAT.out w0 hw) (Nat.le_refl _) hs)
  have HIT := Lib.hid (fun (h : c.people.length ≤ 8) w0 => rIsTeam_any c team w0 h)
  have HKP := Lib.hid (fun (h : crewErr c.d j = 0) (hl : c.people.length ≤ 8) (r : Nat) (hr : r < 64) (w0 : World) (hw : Grow w w0) => rKept_any c j (brokenT c j) r w0 (rb_any (HAT.out w0 hw) (Nat.le_refl _) h) hl hr (fun t _ => brokenT_lt c j t))
  have HRF := Lib.hid (fun (h : readyC c j = true) => ready_facts h)
  have HTM := Lib.hid (fun (h : crewErr c.d j = 0) (hl : c.people.length ≤ 8) (hb : inB team 0 (2 ^ c.people.length - 1) = true) => team_of (team := team) h hl hb)
  obtain ⟨rd, hrd⟩ : ∃ z, readyC c j = z := ⟨_, rfl⟩
  rw [hrd] at HRD HRF
  clear hA hn hrd
  go_enter Try.func6, Try.ntmps6
  go_upto_region 1 with fail
  obtain ⟨W, hW, hg, hfr, hs1, _⟩ := two_blocks w 25 27 (cellsC c) (cellsJ j)
  rw [hW]
  clear hW
  have HG := Lib.hid hg
  have HF := Lib.hid hfr
  have HS := Lib.hid hs1
  have hcc := hfr.cell
  have hjc := hs1.cell
  clear hg hfr hs1
  go_wp2_with fail
  refine (HRD.out W HG.out).mono ?_
  rintro e w1 ⟨rfl, hb1⟩
  have HG1 : Hid (Grow w w1) := Lib.hid (HG.out.trans hb1)
  have HF1 := Lib.hid ((show Grow W w1 from hb1).block HF.out)
  have HS1 := Lib.hid ((show Grow W w1 from hb1).block HS.out)
  have hcc1 := HF1.out.cell
  have hjc1 := HS1.out.cell
  clear hb1 hcc hjc HRD HG HF HS
  cases rd with
  | false =>
    go_wp2_with fail
    refine (works_any _).mono ?_
    rintro e w2 ⟨rfl, hb2⟩
    have HG2 : Hid (Grow w w2) := Lib.hid (HG1.out.trans hb2)
    clear hb2
    go_wp2
    go_ret
    exact ⟨rfl, HG2.out⟩
  | true =>
    obtain ⟨hfa, he0, hok, hoj⟩ := HRF.out rfl
    have HE0 := Lib.hid he0
    have HSC := Lib.hid (far_short hfa)
    have HL8 : Hid (c.people.length ≤ 8) := Lib.hid (Nat.le_trans (five_people hfa hok) (by omega))
    have HFW := Lib.hid (fit_why he0 HL8.out)
    have HTE1 := Lib.hid (HTE.out HSC.out)
    have HWH1 := Lib.hid (HWH.out HSC.out)
    have HBR1 := Lib.hid (HBR.out HSC.out)
    have HIT1 := Lib.hid (HIT.out HL8.out)
    have HTM1 := Lib.hid (HTM.out HE0.out HL8.out)
    have HKP1 := Lib.hid (HKP.out HE0.out HL8.out)
    obtain ⟨tt, htt⟩ : ∃ z, tmT c j = z := ⟨_, rfl⟩
    obtain ⟨tf, htf⟩ : ∃ z, tmF c j = z := ⟨_, rfl⟩
    obtain ⟨te, hte⟩ : ∃ z, tmE c j = z := ⟨_, rfl⟩
    obtain ⟨wy, hwy⟩ : ∃ z, whY c j (brokenT c j) = z := ⟨_, rfl⟩
    obtain ⟨we, hwe⟩ : ∃ z, whE c j (brokenT c j) = z := ⟨_, rfl⟩
    rw [htt, htf, hte] at HTE1
    rw [hwy, hwe] at HWH1
    rw [hte, hwe, hwy] at HFW
    clear htt htf hte hwy hwe hfa he0 hok hoj HRF HTE HWH HBR HIT HTM HKP
    go_wp2_with fail
    refine (HTE1.out w1 HG1.out).mono ?_
    rintro e w2 ⟨rfl, hb2⟩
    have HG2 : Hid (Grow w w2) := Lib.hid (HG1.out.trans hb2)
    have HF2 := Lib.hid ((show Grow w1 w2 from hb2).block HF1.out)
    have HS2 := Lib.hid ((show Grow w1 w2 from hb2).block HS1.out)
    have hcc2 := HF2.out.cell
    have hjc2 := HS2.out.cell
    clear hb2 hcc1 hjc1 HTE1 HG1 HF1 HS1
    go_wp2_with fail
    refine (HWH1.out w2 HG2.out).mono ?_
    rintro e w3 ⟨rfl, hb3⟩
    have HG3 : Hid (Grow w w3) := Lib.hid (HG2.out.trans hb3)
    have HF3 := Lib.hid ((show Grow w2 w3 from hb3).block HF2.out)
    have HS3 := Lib.hid ((show Grow w2 w3 from hb3).block HS2.out)
    clear hb3 hcc2 hjc2 HWH1 HG2 HF2 HS2
    rcases HFW.out with ⟨rfl, rfl⟩ | ⟨rfl, rfl, hle⟩
    · clear HFW
      go_wp2_with fail
      refine (works_any _).mono ?_
      rintro e w4 ⟨rfl, hb4⟩
      have HG4 : Hid (Grow w w4) := Lib.hid (HG3.out.trans hb4)
      clear hb4
      go_wp2
      go_ret
      exact ⟨rfl, HG4.out⟩
    · have HLE := Lib.hid hle
      have hy64 : wy < 64 := hle.lt
      have d1 : decide ((wy : Int) < 0) = false := decide_eq_false (by omega)
      have d2 : decide ((63 : Int) < (wy : Int)) = false := decide_eq_false (by omega)
      have d3 : ¬ 63 < wy := by omega
      clear hle HFW
      go_upto_region 9 with fail
      clear d1 d2 d3
      have hcc3 := HF3.out.cell
      obtain ⟨ib, hib⟩ : ∃ z, inB team 0 (2 ^ c.people.length - 1) = z := ⟨_, rfl⟩
      rw [hib] at HIT1 HTM1
      clear hib
      go_cut [62] (fun v wx => v = .bool (decide (0 < team) && ib) ∧ Grow w3 wx)
      case first =>
        by_cases ht : 0 < team
        · have d1 : decide (0 < team) = true := decide_eq_true ht
          go_wp2_with fail
          refine (HIT1.out w3).mono ?_
          rintro e w4 ⟨rfl, hb4⟩
          go_wp2
          go_meet
          exact ⟨by rw [d1]; rfl, hb4⟩
        · have d1 : decide (0 < team) = false := decide_eq_false ht
          go_wp2
          go_meet
          exact ⟨by rw [d1]; rfl, Grow.refl _⟩
      case rest =>
        obtain ⟨rfl, hgr4⟩ := hcut
        rename World => w4
        have HG4 : Hid (Grow w w4) := Lib.hid (HG3.out.trans hgr4)
        have HF4 := Lib.hid (hgr4.block HF3.out)
        have HS4 := Lib.hid (hgr4.block HS3.out)
        have HTB : Hid ((decide (0 < team) && ib) = true → ∃ t : Nat, team = (t : Int) ∧ 1 ≤ t ∧ t < 2 ^ c.people.length ∧ t < 1024 ∧ teamErr c.d j team = 0) := Lib.hid (fun h => by
          rw [Bool.and_eq_true, decide_eq_true_eq] at h
          obtain ⟨h1, h2⟩ := h
          obtain ⟨h3, t, h4, h5, h6⟩ := HTM1.out h2
          exact ⟨t, h4, by omega, h5, h6, h3⟩)
        obtain ⟨tb, htb⟩ : ∃ z, (decide (0 < team) && ib) = z := ⟨_, rfl⟩
        rw [htb] at HTB ⊢
        clear hgr4 hcc3 htb HTM1 HIT1 HG3 HF3 HS3
        go_upto_if 62 with fail
        go_cut [8] (fun v wx => v = .bool false ∧ Grow w4 wx)
        case first =>
          cases tb with
          | false =>
            go_wp2
            go_meet
            exact ⟨rfl, Grow.refl _⟩
          | true =>
            obtain ⟨t, rfl, ht1, htp, ht2, hte⟩ := HTB.out rfl
            have hbb := HLE.out.bad t ht1 htp
            have hbl := brokenT_lt c j t
            have HB1 : Hid (∀ w0, Grow w w0 → Calls Try.prog 17 #[crewV c, jobV j, .int .i64 (t : Nat)] w0 fun e w' => e = .returned (.tuple #[.int .i64 (brokenT c j t : Nat), .int .i64 0]) ∧ Below w0.heap.size w0 w') := Lib.hid (fun w0 hw => by
              have h := HBR1.out w0 hw
              rw [show brY c j (t : Nat) = brokenT c j t by unfold brY; rw [if_neg (by rw [hte]; exact fun h => h rfl)]; rfl, hte] at h
              exact h)
            obtain ⟨br, hbr⟩ : ∃ z, brokenT c j t = z := ⟨_, rfl⟩
            rw [hbr] at hbb hbl HB1
            have ha := and_i64 br wy (by omega) (by omega)
            obtain ⟨z, hz⟩ : ∃ z, br &&& wy = z := ⟨_, rfl⟩
            rw [hz] at ha hbb
            have hcc4 := HF4.out.cell
            have hjc4 := HS4.out.cell
            have hq : ((z : Int) == 0) = false := by simpa using hbb
            clear hbr hz hte hbl ht1 htp ht2 HTB
            go_wp2_with fail
            refine (HB1.out w4 HG4.out).mono ?_
            rintro e w5 ⟨rfl, hb5⟩
            go_wp2
            go_meet
            exact ⟨rfl, hb5⟩
        case rest =>
          obtain ⟨rfl, hgr5⟩ := hcut
          rename World => w5
          have HG5 : Hid (Grow w w5) := Lib.hid (HG4.out.trans hgr5)
          have HF5 := Lib.hid (hgr5.block HF4.out)
          have HS5 := Lib.hid (hgr5.block HS4.out)
          clear hgr5 HTB HBR1 HG4 HF4 HS4
          go_upto_region 14 with fail
          go_loopw [16] (fun iv wx => ∃ k : Nat, k ≤ 6 ∧ iv = .int .i64 k ∧ Grow w5 wx) (fun v _ => 6 - (intOf v).toNat)
          case atStart => exact ⟨0, by omega, rfl, Grow.refl _⟩
          case round =>
            obtain ⟨k, hk, rfl, hgr⟩ := hrel
            rename World => wr
            have HGR := Lib.hid hgr
            have hccr := (hgr.block HF5.out).cell
            have hjcr := (hgr.block HS5.out).cell
            clear hgr
            by_cases hlt : k < 6
            · have d1 : decide ((k : Int) < 6) = true := decide_eq_true (by omega)
              have HHAS := Lib.hid (rHas_any wy k wr (by omega) (by omega))
              obtain ⟨hb, hhb⟩ : ∃ z, hasN wy k = z := ⟨_, rfl⟩
              rw [hhb] at HHAS
              go_wp2_with fail
              refine HHAS.out.mono ?_
              rintro e w6 ⟨rfl, rfl⟩
              cases hb with
              | false =>
                clear HHAS hhb hccr hjcr
                go_wp2
                go_roundw
                case rel => exact ⟨k + 1, by omega, by go_num, HGR.out⟩
                case measure => simp [intOf]; omega
              | true =>
                obtain ⟨hkd, hd64⟩ := HLE.out.drop k hlt hhb
                have hdb := drop_bits wy hy64 k hlt
                have HK1 := Lib.hid (HKP1.out (dropN wy k) hd64)
                rw [show keptTo (brokenT c j) (dropN wy k) (2 ^ c.people.length) = true from hkd] at HK1
                obtain ⟨dy, hdy⟩ : ∃ z, dropN wy k = z := ⟨_, rfl⟩
                rw [hdy] at hdb HK1
                have hcv : IntKind.u64.wrap (k : Int) = (k : Int) := IntWalk.u64_in _ (by omega)
                have hr0 : (0 : Int) ≤ (k : Int) := by omega
                have hr64 : k ≤ 64 := by omega
                have hpl : 2 ^ k < 64 := Nat.pow_lt_pow_right (a := 2) (m := k) (n := 6) (by omega) hlt
                have hpI : ((2 : Int) ^ k) = ((2 ^ k : Nat) : Int) := (Int.natCast_pow 2 k).symm
                obtain ⟨pw, hpw⟩ : ∃ z, 2 ^ k = z := ⟨_, rfl⟩
                rw [hpw] at hpI hpl hdb
                have hshl : IntKind.i64.wrap ((2 : Int) ^ k) = (pw : Int) := by
                  rw [hpI]
                  exact IntWalk.i64_in _ (by omega)
                clear HHAS hhb hkd hd64 hdy hpw hpl hpI
                go_wp2_with fail
                refine (HK1.out _ (HG5.out.trans HGR.out)).mono ?_
                rintro e w7 ⟨rfl, hb7⟩
                have HG7 : Hid (Grow w5 w7) := Lib.hid (HGR.out.trans hb7)
                clear hb7 hccr hjcr hdb hshl hcv hr0 hr64 HK1
                go_wp2
                go_roundw
                case rel => exact ⟨k + 1, by omega, by go_num, HG7.out⟩
                case measure => simp [intOf]; omega
            · obtain rfl : k = 6 := by omega
              clear hlt hk
              by_cases ho0 : other < 0
              · have d1 : decide (other < 0) = true := decide_eq_true ho0
                go_wp2_with fail
                refine (works_any _).mono ?_
                rintro e w8 ⟨rfl, hb8⟩
                have HG8 : Hid (Grow w w8) := Lib.hid (HG5.out.trans (HGR.out.trans hb8))
                clear hb8
                go_wp2
                go_ret
                exact ⟨rfl, HG8.out⟩
              · have d1 : decide (other < 0) = false := decide_eq_false ho0
                by_cases ho1 : 63 < other
                · have d2 : decide (63 < other) = true := decide_eq_true ho1
                  go_wp2_with fail
                  refine (works_any _).mono ?_
                  rintro e w8 ⟨rfl, hb8⟩
                  have HG8 : Hid (Grow w w8) := Lib.hid (HG5.out.trans (HGR.out.trans hb8))
                  clear hb8
                  go_wp2
                  go_ret
                  exact ⟨rfl, HG8.out⟩
                · have d2 : decide (63 < other) = false := decide_eq_false ho1
                  obtain ⟨o, rfl⟩ : ∃ z : Nat, other = (z : Int) := ⟨other.toNat, by omega⟩
                  have ho64 : o < 64 := by omega
                  have d3 : ¬ 63 < o := by omega
                  have HK1 := Lib.hid (HKP1.out o ho64)
                  have HLS := Lib.hid (HLE.out.least o ho64)
                  have hkk : keptP c (brokenT c j) o = keptTo (brokenT c j) o (2 ^ c.people.length) := rfl
                  rw [hkk] at HLS
                  obtain ⟨kb, hkb⟩ : ∃ z, keptTo (brokenT c j) o (2 ^ c.people.length) = z := ⟨_, rfl⟩
                  rw [hkb] at HK1 HLS
                  clear hkk hkb
                  go_wp2_with fail
                  refine (HK1.out _ (HG5.out.trans HGR.out)).mono ?_
                  rintro e w8 ⟨rfl, hb8⟩
                  have HG8 : Hid (Grow w w8) := Lib.hid (HG5.out.trans (HGR.out.trans hb8))
                  clear hb8 hccr hjcr HK1
                  cases kb with
                  | true =>
                    go_wp2_with fail
                    refine (works_any _).mono ?_
                    rintro e w9 ⟨rfl, hb9⟩
                    have HG9 : Hid (Grow w w9) := Lib.hid (HG8.out.trans hb9)
                    clear hb9
                    go_wp2
                    go_ret
                    exact ⟨rfl, HG9.out⟩
                  | false =>
                    have hls := HLS.out rfl
                    have HSO := Lib.hid (fun w0 => lsize_any o w0 (by omega))
                    have HSY := Lib.hid (fun w0 => lsize_any wy w0 (by omega))
                    obtain ⟨po, hpo⟩ : ∃ z, popD o = z := ⟨_, rfl⟩
                    obtain ⟨py, hpy⟩ : ∃ z, popD wy = z := ⟨_, rfl⟩
                    rw [hpo] at HSO hls
                    rw [hpy] at HSY hls
                    clear hpo hpy HLS d1 d2 d3 ho0 ho1 HLE
                    go_wp2_with fail
                    refine (HSO.out _).mono ?_
                    rintro e w9 ⟨rfl, rfl⟩
                    go_wp2_with fail
                    refine (HSY.out _).mono ?_
                    rintro e w9 ⟨rfl, rfl⟩
                    by_cases hlp : py < po
                    · have d4 : decide ((py : Int) < (po : Int)) = true := decide_eq_true (by omega)
                      clear hls HSO HSY
                      go_wp2_with fail
                      refine (works_any _).mono ?_
                      rintro e w9 ⟨rfl, hb9⟩
                      have HG9 : Hid (Grow w w9) := Lib.hid (HG8.out.trans hb9)
                      clear hb9
                      go_wp2
                      go_ret
                      exact ⟨rfl, HG9.out⟩
                    · have d4 : decide ((py : Int) < (po : Int)) = false := decide_eq_false (by omega)
                      obtain ⟨hpe, hyo⟩ : py = po ∧ wy ≤ o := by omega
                      subst hpe
                      have d5 : decide ((wy : Int) ≤ (o : Int)) = true := decide_eq_true (by omega)
                      clear hls
                      go_wp2_with fail
                      refine (HSO.out _).mono ?_
                      rintro e w9 ⟨rfl, rfl⟩
                      go_wp2_with fail
                      refine (HSY.out _).mono ?_
                      rintro e w9 ⟨rfl, rfl⟩
                      clear HSO HSY
                      go_wp2_with fail
                      refine (works_any _).mono ?_
                      rintro e w9 ⟨rfl, hb9⟩
                      have HG9 : Hid (Grow w w9) := Lib.hid (HG8.out.trans hb9)
                      clear hb9
                      go_wp2
                      go_ret
                      exact ⟨rfl, HG9.out⟩

end Go.Proofs.Yticeekkfdkfcgaa
