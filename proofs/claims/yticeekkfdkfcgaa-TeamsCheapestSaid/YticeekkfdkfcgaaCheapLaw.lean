/- CheapLaw: TeamsCheapest. -/
import Derived.Test.YticeekkfdkfcgaaCheapF
import Derived.Test.YticeekkfdkfcgaaWorks
import Derived.Test.YticeekkfdkfcgaaRBroken
import Derived.BigQuiet
namespace Go.Proofs.Yticeekkfdkfcgaa
open Go.RowKit

theorem natsL_len5 (l : List Nat) : (natsL l).length = l.length := List.length_map _

set_option maxRecDepth 100000 in
set_option maxHeartbeats 16000000 in
theorem cheapLaw_any (c : CrewR) (j : JobD) (other : Int) (n : Nat) (w : World) (hA : CrewAt w n c) (hn : n ≤ w.heap.size) :
    Calls Try.prog 5 #[crewV c, jobV j, .int .i64 other] w fun e w' => e = .returned (.bool true) ∧ Below w.heap.size w w' := by
  obtain ⟨i0, hi, hz0, hz1, hz2⟩ := info_parts Try.infoInt
  have HAT := Lib.hid (fun (w0 : World) (hw : Grow w w0) => ((hA.more hn).below hw).more hw.size)
  have HRD := Lib.hid (fun (w0 : World) (hw : Grow w w0) => ready_any c j w0.heap.size w0 (HAT.out w0 hw) (Nat.le_refl _))
  have HTE := Lib.hid (fun (hs : Short c) (w0 : World) (hw : Grow w w0) => team_flat c j w0.heap.size w0 (HAT.out w0 hw) (Nat.le_refl _) hs)
  have HMY := Lib.hid (fun (hs : Short c) (w0 : World) (hw : Grow w w0) => mayApi_any c j w0.heap.size w0 (HAT.out w0 hw) (Nat.le_refl _) hs)
  have HBR := Lib.hid (fun (hs : Short c) (t : Int) (w0 : World) (hw : Grow w w0) => broken_flat c j t w0.heap.size w0 (HAT.out w0 hw) (Nat.le_refl _) hs)
  have HIT := Lib.hid (fun (h : c.people.length ≤ 8) (t : Int) w0 => rIsTeam_any c t w0 h)
  have HFT := Lib.hid (fun (h : crewErr c.d j = 0) (o : Nat) (ho : o < 1024) (w0 : World) (hw : Grow w w0) => rFits_any c j (brokenT c j) o w0 (rb_any (HAT.out w0 hw) (Nat.le_refl _) h) ho)
  have HRF := Lib.hid (fun (h : readyC c j = true) => ready_facts h)
  have HTM := Lib.hid (fun (h : crewErr c.d j = 0) (hl : c.people.length ≤ 8) (hb : inB other 0 (2 ^ c.people.length - 1) = true) => team_of (team := other) h hl hb)
  obtain ⟨rd, hrd⟩ : ∃ z, readyC c j = z := ⟨_, rfl⟩
  rw [hrd] at HRD HRF
  clear hA hn hrd
  go_enter Try.func5, Try.ntmps5
  go_upto_region 1 with fail
  obtain ⟨W, hW, hg, hfr, hs1, _⟩ := two_blocks w 25 27 (cellsC c) (cellsJ j)
  rw [hW]
  clear hW
  have HG := Lib.hid hg
  have HF := Lib.hid hfr
  have HS := Lib.hid hs1
  have hcc := hfr.cell
  have hjc := hs1.cell
  clear hg hfr hs1
  go_wp2_with fail
  refine (HRD.out W HG.out).mono ?_
  rintro e w1 ⟨rfl, hb1⟩
  have HG1 : Hid (Grow w w1) := Lib.hid (HG.out.trans hb1)
  have HF1 := Lib.hid ((show Grow W w1 from hb1).block HF.out)
  have HS1 := Lib.hid ((show Grow W w1 from hb1).block HS.out)
  have hcc1 := HF1.out.cell
  have hjc1 := HS1.out.cell
  clear hb1 hcc hjc HRD HG HF HS
  cases rd with
  | false =>
    go_wp2_with fail
    refine (works_any _).mono ?_
    rintro e w2 ⟨rfl, hb2⟩
    have HG2 : Hid (Grow w w2) := Lib.hid (HG1.out.trans hb2)
    clear hb2
    go_wp2
    go_ret
    exact ⟨rfl, HG2.out⟩
  | true =>
    obtain ⟨hfa, he0, hok, hoj⟩ := HRF.out rfl
    have HE0 := Lib.hid he0
    have HGD := Lib.hid (good_ok hok hoj)
    have HSC := Lib.hid (far_short hfa)
    have HL5 := Lib.hid (five_people hfa hok)
    have HL8 : Hid (c.people.length ≤ 8) := Lib.hid (Nat.le_trans HL5.out (by omega))
    have HCH := Lib.hid (cheap_or he0 HL8.out)
    have HTE1 := Lib.hid (HTE.out HSC.out)
    have HMY1 := Lib.hid (HMY.out HSC.out)
    rw [he0] at HMY1
    have HIT1 := Lib.hid (HIT.out HL8.out other)
    have HTM1 := Lib.hid (HTM.out HE0.out HL8.out)
    have HFT1 := Lib.hid (HFT.out HE0.out)
    have HFE1 := Lib.hid (fun (o : Nat) (ho : o < 1024) (w0 : World) (hw : Grow w w0) => rFee_any c o w0 (HAT.out w0 hw).1 HL8.out ho HGD.out.fees)
    have HMLT := Lib.hid (mayL_lt c j)
    have HMLN := Lib.hid (mayL_len c j)
    have HMAY := Lib.hid (fun (t i : Nat) (hf : brokenT c j t = 0) (hi : i < c.people.length) (hb : hasN t i = true) => fit_may he0 hf hi hb)
    obtain ⟨l, hl⟩ : ∃ z, mayL c j = z := ⟨_, rfl⟩
    obtain ⟨tt, htt⟩ : ∃ z, tmT c j = z := ⟨_, rfl⟩
    obtain ⟨tf, htf⟩ : ∃ z, tmF c j = z := ⟨_, rfl⟩
    obtain ⟨te, hte⟩ : ∃ z, tmE c j = z := ⟨_, rfl⟩
    obtain ⟨ib, hib⟩ : ∃ z, inB other 0 (2 ^ c.people.length - 1) = z := ⟨_, rfl⟩
    rw [htt, htf, hte] at HTE1
    rw [hl] at HMY1 HMLT HMAY HMLN
    rw [hte, htt, htf] at HCH
    rw [hib] at HIT1 HTM1
    clear htt htf hte hl hib hfa he0 hok hoj HRF HTE HMY HTM HFT
    go_wp2_with fail
    refine (HTE1.out w1 HG1.out).mono ?_
    rintro e w2 ⟨rfl, hb2⟩
    have HG2 : Hid (Grow w w2) := Lib.hid (HG1.out.trans hb2)
    have HF2 := Lib.hid ((show Grow w1 w2 from hb2).block HF1.out)
    have HS2 := Lib.hid ((show Grow w1 w2 from hb2).block HS1.out)
    have hcc2 := HF2.out.cell
    have hjc2 := HS2.out.cell
    clear hb2 hcc1 hjc1 HTE1 HG1 HF1 HS1
    go_wp2_with fail
    refine (HMY1.out w2 HG2.out).mono ?_
    rintro e w3 ⟨A, cap, rfl, hi3, hb3⟩
    have HG3 : Hid (Grow w w3) := Lib.hid (HG2.out.trans hb3)
    have HF3 := Lib.hid ((show Grow w2 w3 from hb3).block HF2.out)
    have HS3 := Lib.hid ((show Grow w2 w3 from hb3).block HS2.out)
    have HI3 := Lib.hid hi3
    have hcc3 := HF3.out.cell
    have hjc3 := HS3.out.cell
    clear hb3 hi3 hcc2 hjc2 HMY1 HG2 HF2 HS2
    obtain ⟨m, hm⟩ : ∃ z, l.length = z := ⟨_, rfl⟩
    have HM := Lib.hid hm
    have hmn : m ≤ c.people.length := by rw [← hm]; exact HMLN.out
    have d1 : decide ((c.people.length : Int) < (m : Int)) = false := decide_eq_false (by omega)
    have d2 : decide (c.people.length < m) = false := decide_eq_false (by omega)
    rw [hm]
    clear hm
    rcases HCH.out with ⟨rfl, hno⟩ | ⟨rfl, hch⟩
    · have HNO := Lib.hid hno
      clear hno HCH
      go_wp2_with fail
      refine (HIT1.out _).mono ?_
      rintro e w4 ⟨rfl, hb4⟩
      have HG4 : Hid (Grow w w4) := Lib.hid (HG3.out.trans hb4)
      have hcc4 := ((show Grow w3 w4 from hb4).block HF3.out).cell
      have hjc4 := ((show Grow w3 w4 from hb4).block HS3.out).cell
      clear hb4 hcc3 hjc3
      cases ib with
      | false =>
        go_wp2_with fail
        refine (works_any _).mono ?_
        rintro e w5 ⟨rfl, hb5⟩
        have HG5 : Hid (Grow w w5) := Lib.hid (HG4.out.trans hb5)
        clear hb5
        go_wp2
        go_ret
        exact ⟨rfl, HG5.out⟩
      | true =>
        obtain ⟨_, o, rfl, hop, ho1⟩ := HTM1.out rfl
        have HF0 := Lib.hid (HFT1.out o ho1)
        rw [show decide (0 < o ∧ brokenT c j o = 0) = false from decide_eq_false (fun h => HNO.out o h.1 hop h.2)] at HF0
        go_wp2_with fail
        refine (HF0.out w4 HG4.out).mono ?_
        rintro e w5 ⟨rfl, hb5⟩
        have HG5 : Hid (Grow w w5) := Lib.hid (HG4.out.trans hb5)
        clear hb5 hcc4 hjc4
        go_wp2_with fail
        refine (works_any _).mono ?_
        rintro e w6 ⟨rfl, hb6⟩
        have HG6 : Hid (Grow w w6) := Lib.hid (HG5.out.trans hb6)
        clear hb6
        go_wp2
        go_ret
        exact ⟨rfl, HG6.out⟩
    · have HC := Lib.hid hch
      clear hch HCH
      go_upto_region 10 with fail
      clear d1 d2 hcc3 hjc3
      go_loopw [12, 13] (fun sv iv wx => ∃ k : Nat, k ≤ m ∧ iv = .int .i64 k ∧ sv = .int .i64 (maskN l k) ∧ Grow w3 wx) (fun _ v _ => m - (intOf v).toNat)
      case atStart => exact ⟨0, Nat.zero_le _, rfl, rfl, Grow.refl _⟩
      case round =>
        obtain ⟨k, hk, rfl, rfl, hgr⟩ := hrel
        rename World => wr
        have HGR := Lib.hid hgr
        clear hgr
        by_cases hlt : k < m
        · obtain ⟨xb, hxb⟩ : ∃ x, l[k]? = some x := ⟨l[k]'(by rw [HM.out]; exact hlt), List.getElem?_eq_getElem _⟩
          have hxl : xb < c.people.length := HMLT.out xb (List.mem_of_getElem? hxb)
          obtain ⟨ab, ao, rfl, hab, hic⟩ : ∃ ab ao, A = some ⟨ab, ao, none⟩ ∧ ab < w3.heap.size ∧ ∀ k x, l[k]? = some x → w3.cell? ⟨ab, ao + k, none⟩ = some (.int .i64 (x : Nat)) := by
            rcases HI3.out with h | ⟨b, o, rfl, hb, hc⟩
            · have h2 : l.length = 0 := by rw [← natsL_len5, h]; rfl
              have h3 := HM.out
              omega
            · exact ⟨b, o, rfl, hb, fun k x hx => hc k _ (by unfold natsL; rw [List.getElem?_map, hx]; rfl)⟩
          have cb := HGR.out.cell (hic k xb hxb)
          have hcr := (HGR.out.block HF3.out).cell
          have hk0 : (0 : Int) ≤ (k : Int) := by omega
          have hk1 : (k : Int) < (m : Int) := by omega
          have hn5 := HL5.out
          have d1 : decide ((xb : Int) < 0) = false := decide_eq_false (by omega)
          have d2 : decide ((c.people.length : Int) ≤ (xb : Int)) = false := decide_eq_false (by omega)
          have d3 : decide (c.people.length ≤ xb) = false := decide_eq_false (by omega)
          have hsu := maskN_succ hxb
          have hm32 : maskN l k < 2 ^ 5 := Nat.lt_of_lt_of_le (maskN_lt HMLT.out k) (Nat.pow_le_pow_right (by omega) hn5)
          have hcv : IntKind.u64.wrap (xb : Int) = (xb : Int) := IntWalk.u64_in _ (by omega)
          have hr0 : (0 : Int) ≤ (xb : Int) := by omega
          have hr64 : xb ≤ 64 := by omega
          have hpl : 2 ^ xb < 2 ^ 5 := Nat.pow_lt_pow_right (by omega) (by omega)
          have hpI : ((2 : Int) ^ xb) = ((2 ^ xb : Nat) : Int) := (Int.natCast_pow 2 xb).symm
          obtain ⟨pw, hpw⟩ : ∃ z, 2 ^ xb = z := ⟨_, rfl⟩
          rw [hpw] at hpI hpl hsu
          have hshl : IntKind.i64.wrap ((2 : Int) ^ xb) = (pw : Int) := by
            rw [hpI]
            exact IntWalk.i64_in _ (by omega)
          obtain ⟨mk, hmk⟩ : ∃ z, maskN l k = z := ⟨_, rfl⟩
          rw [hmk] at hsu hm32 ⊢
          have hor := or_i64 mk pw (by omega) (by omega)
          have HSU := Lib.hid hsu
          obtain ⟨mn, hmn2⟩ : ∃ z, mk ||| pw = z := ⟨_, rfl⟩
          rw [hmn2] at hor HSU
          clear hpI hpw hpl hmk hm32 hsu hmn2 hxb hxl hic hab
          go_upto_region 12 with fail
          go_quiet (fail)
          have cb2 : (wr.drewN nq).cell? ⟨ab, ao + k, none⟩ = some (.int .i64 (xb : Nat)) := cb
          clear d1 d2 d3 hcr cb
          go_wp2
          go_roundw
          case rel => exact ⟨k + 1, by omega, by go_num, by rw [HSU.out], HGR.out.trans (Below.drewN_ (Below.refl _ _) _)⟩
          case measure => simp [intOf]; omega
        · obtain rfl : k = m := by omega
          have HMK : Hid (bits .andNot .i64 (tt : Int) ((maskN l k : Nat) : Int) = 0) := Lib.hid (by
            have hn5 := HL5.out
            have h5 : 2 ^ c.people.length ≤ 2 ^ 5 := Nat.pow_le_pow_right (by omega) hn5
            refine andnot_zero tt (Nat.lt_of_lt_of_le HC.out.lt h5) _ (Nat.lt_of_lt_of_le (maskN_lt HMLT.out k) h5) (fun i _ hb => ?_)
            have hin : i < c.people.length := by
              rw [hasN_bit] at hb
              rcases Nat.lt_or_ge i c.people.length with h | h
              · exact h
              · have h6 := HC.out.lt
                have : tt < 2 ^ i := Nat.lt_of_lt_of_le h6 (Nat.pow_le_pow_right (by omega) h)
                rw [Nat.testBit_lt_two_pow this] at hb
                cases hb
            rw [← HM.out]
            exact maskN_has (HMAY.out tt i HC.out.fits hin hb))
          obtain ⟨mk, hmk⟩ : ∃ z, maskN l k = z := ⟨_, rfl⟩
          rw [hmk] at HMK ⊢
          have HTT : Hid (tt < 1024) := Lib.hid (by
            have h5 : 2 ^ c.people.length ≤ 2 ^ 5 := Nat.pow_le_pow_right (by omega) HL5.out
            have := HC.out.lt
            omega)
          have HIB : Hid (inB (tt : Nat) 0 (2 ^ c.people.length - 1) = true) := Lib.hid (inB_iff.2 (by
            have hpI : ((2 : Int) ^ c.people.length) = ((2 ^ c.people.length : Nat) : Int) := (Int.natCast_pow 2 _).symm
            have := HC.out.lt
            omega))
          have HB0 := Lib.hid (HBR.out HSC.out (tt : Nat))
          rw [show teamErr c.d j (tt : Nat) = 0 from teamErr_nat HE0.out HC.out.lt, show brY c j (tt : Nat) = 0 from by unfold brY; rw [if_neg (by rw [teamErr_nat HE0.out HC.out.lt]; exact fun h => h rfl)]; exact HC.out.fits] at HB0
          have HI0 := Lib.hid (HIT.out HL8.out (tt : Nat))
          rw [HIB.out] at HI0
          have HF0 := Lib.hid (HFE1.out tt HTT.out)
          rw [← HC.out.cost] at HF0
          have hccr := (HGR.out.block HF3.out).cell
          have hjcr := (HGR.out.block HS3.out).cell
          have HG4 := Lib.hid (HG3.out.trans HGR.out)
          clear hmk hlt hk HBR HIT
          go_wp2_with fail
          refine (HB0.out wr HG4.out).mono ?_
          rintro e w5 ⟨rfl, hb5⟩
          have HX5 : Hid (Grow w3 w5) := Lib.hid (HGR.out.trans hb5)
          have HG5 : Hid (Grow w w5) := Lib.hid (HG3.out.trans HX5.out)
          have hcc5 := (HX5.out.block HF3.out).cell
          have d1 : decide ((tt : Int) ≤ 0) = false := decide_eq_false (by have := HC.out.pos; omega)
          have d2 : decide (tt ≤ 0) = false := decide_eq_false (by have := HC.out.pos; omega)
          have d3 : tt ≠ 0 := by have := HC.out.pos; omega
          clear hb5 hccr hjcr HB0 HG4 HGR
          go_wp2_with fail
          refine (HI0.out w5).mono ?_
          rintro e w6 ⟨rfl, hb6⟩
          have HX6 : Hid (Grow w3 w6) := Lib.hid (HX5.out.trans hb6)
          have HG6 : Hid (Grow w w6) := Lib.hid (HG3.out.trans HX6.out)
          have hcc6 := (HX6.out.block HF3.out).cell
          have hmk := HMK.out
          clear hb6 hcc5 HI0 HX5 HG5
          go_wp2_with fail
          refine (HF0.out w6 HG6.out).mono ?_
          rintro e w7 ⟨rfl, hb7⟩
          have HX7 : Hid (Grow w3 w7) := Lib.hid (HX6.out.trans hb7)
          have HG7 : Hid (Grow w w7) := Lib.hid (HG3.out.trans HX7.out)
          have hcc7 := (HX7.out.block HF3.out).cell
          have hjc7 := (HX7.out.block HS3.out).cell
          have hq : (tf != tf) = false := by simp
          clear hb7 hcc6 hmk HMK HF0 HX6 HG6
          go_wp2_with fail
          refine (HIT1.out w7).mono ?_
          rintro e w8 ⟨rfl, hb8⟩
          have HX8 : Hid (Grow w3 w8) := Lib.hid (HX7.out.trans hb8)
          have HG8 : Hid (Grow w w8) := Lib.hid (HG3.out.trans HX8.out)
          have hcc8 := (HX8.out.block HF3.out).cell
          have hjc8 := (HX8.out.block HS3.out).cell
          clear hb8 hcc7 hjc7 HX7 HG7 hq d1 d2 d3
          cases ib with
          | false =>
            go_wp2_with fail
            refine (works_any _).mono ?_
            rintro e w9 ⟨rfl, hb9⟩
            have HG9 : Hid (Grow w w9) := Lib.hid (HG8.out.trans hb9)
            clear hb9
            go_wp2
            go_ret
            exact ⟨rfl, HG9.out⟩
          | true =>
            obtain ⟨_, o, rfl, hop, ho1⟩ := HTM1.out rfl
            have HF1 := Lib.hid (HFT1.out o ho1)
            have HLS := Lib.hid (fun (h : 0 < o ∧ brokenT c j o = 0) => HC.out.least o h.1 hop h.2)
            have HFO := Lib.hid (HFE1.out o ho1)
            obtain ⟨fb, hfb⟩ : ∃ z, decide (0 < o ∧ brokenT c j o = 0) = z := ⟨_, rfl⟩
            rw [hfb] at HF1
            have HFB : Hid (fb = true → tf < feeL (membersL c.people o) ∨ (tf = feeL (membersL c.people o) ∧ tt ≤ o)) := Lib.hid (fun h => HLS.out (of_decide_eq_true (hfb.trans h)))
            obtain ⟨fo, hfo⟩ : ∃ z, feeL (membersL c.people o) = z := ⟨_, rfl⟩
            rw [hfo] at HFB HFO
            clear hfb hfo HLS hop ho1 HTM1 HIT1
            go_wp2_with fail
            refine (HF1.out w8 HG8.out).mono ?_
            rintro e w9 ⟨rfl, hb9⟩
            have HG9 : Hid (Grow w w9) := Lib.hid (HG8.out.trans hb9)
            have hcc9 := ((HX8.out.trans hb9).block HF3.out).cell
            clear hb9 hcc8 hjc8 HF1 HX8 HG8
            cases fb with
            | false =>
              go_wp2_with fail
              refine (works_any _).mono ?_
              rintro e w10 ⟨rfl, hb10⟩
              have HG10 : Hid (Grow w w10) := Lib.hid (HG9.out.trans hb10)
              clear hb10
              go_wp2
              go_ret
              exact ⟨rfl, HG10.out⟩
            | true =>
              have hfb := HFB.out rfl
              clear HFB
              go_wp2_with fail
              refine (HFO.out w9 HG9.out).mono ?_
              rintro e w10 ⟨rfl, hb10⟩
              have HG10 : Hid (Grow w w10) := Lib.hid (HG9.out.trans hb10)
              clear hb10 hcc9 HFO
              by_cases hlt2 : tf < fo
              · have d1 : decide (tf < fo) = true := decide_eq_true hlt2
                clear hfb
                go_wp2_with fail
                refine (works_any _).mono ?_
                rintro e w11 ⟨rfl, hb11⟩
                have HG11 : Hid (Grow w w11) := Lib.hid (HG10.out.trans hb11)
                clear hb11
                go_wp2
                go_ret
                exact ⟨rfl, HG11.out⟩
              · have d1 : decide (tf < fo) = false := decide_eq_false hlt2
                obtain ⟨rfl, hto⟩ : tf = fo ∧ tt ≤ o := by
                  rcases hfb with h | h
                  · exact absurd h hlt2
                  · exact h
                have d2 : decide ((tt : Int) ≤ (o : Int)) = true := decide_eq_true (by omega)
                have d3 : decide (tt ≤ o) = true := decide_eq_true hto
                have hq : (tf == tf) = true := by simp
                clear hfb
                go_wp2_with fail
                refine (works_any _).mono ?_
                rintro e w11 ⟨rfl, hb11⟩
                have HG11 : Hid (Grow w w11) := Lib.hid (HG10.out.trans hb11)
                clear hb11
                go_wp2
                go_ret
                exact ⟨rfl, HG11.out⟩

end Go.Proofs.Yticeekkfdkfcgaa
