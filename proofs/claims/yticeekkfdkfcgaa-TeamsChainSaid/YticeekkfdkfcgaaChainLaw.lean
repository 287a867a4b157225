/- ChainLaw: TeamsChain; written by wip/tools/chainlaw3.py. -/
import Derived.Test.YticeekkfdkfcgaaFlip
import Derived.Test.YticeekkfdkfcgaaWorks
import Derived.BigQuiet
namespace Go.Proofs.Yticeekkfdkfcgaa
open Go.RowKit

theorem natsL_len3 (l : List Nat) : (natsL l).length = l.length := List.length_map _

set_option maxRecDepth 100000 in
set_option maxHeartbeats 16000000 in
theorem chainLaw_any (c : CrewR) (j : JobD) (team more : Int) (n : Nat) (w : World) (hA : CrewAt w n c) (hn : n ≤ w.heap.size) :
    Calls Try.prog 9 #[crewV c, jobV j, .int .i64 team, .int .i64 more] w fun e w' => e = .returned (.bool true) ∧ Below w.heap.size w w' := by
  obtain ⟨i0, hi, hz0, hz1, hz2⟩ := info_parts Try.infoInt
  have HAT := Lib.hid (fun (w0 : World) (hw : Grow w w0) => ((hA.more hn).below hw).more hw.size)
  have HRD := Lib.hid (fun (w0 : World) (hw : Grow w w0) => ready_any c j w0.heap.size w0 (HAT.out w0 hw) (Nat.le_refl _))
  have HCH := Lib.hid (fun (hs : Short c) (jj : JobD) (tt : Int) (w0 : World) (hw : Grow w w0) => chainApi_flat c jj tt w0.heap.size w0 (HAT.out w0 hw) (Nat.le_refl _) hs)
  have HBR := Lib.hid (fun (hs : Short c) (w0 : World) (hw : Grow w w0) => broken_flat c j team w0.heap.size w0 (HAT.out w0 hw) (Nat.le_refl _) hs)
  have HIT := Lib.hid (fun (h : c.people.length ≤ 8) w0 => rIsTeam_any c team w0 h)
  have HRF := Lib.hid (fun (h : readyC c j = true) => ready_facts h)
  have HTM := Lib.hid (fun (h : crewErr c.d j = 0) (hl : c.people.length ≤ 8) (hb : inB team 0 (2 ^ c.people.length - 1) = true) => team_of (team := team) h hl hb)
  have HONE := Lib.hid (fun (h : readyC c j = true) (t : Nat) (l : List Nat) (hl : chainT c j t = some l) => one_chain h hl)
  have HFLP := Lib.hid (fun (h : readyC c j = true) (t : Nat) (l : List Nat) (hl : chainT c j t = some l) => flip_chain h hl)
  have HMOR := Lib.hid (fun (h : readyC c j = true) (t m : Nat) (l : List Nat) (hl : chainT c j t = some l) => more_chain (m := m) h hl)
  obtain ⟨rd, hrd⟩ : ∃ z, readyC c j = z := ⟨_, rfl⟩
  rw [hrd] at HRD HRF HONE HFLP HMOR
  clear hA hn hrd
  go_enter Try.func9, Try.ntmps9
  go_upto_region 1 with fail
  obtain ⟨W, hW, hg, hfr, hs1, _⟩ := two_blocks w 25 27 (cellsC c) (cellsJ j)
  rw [hW]
  clear hW
  have HG := Lib.hid hg
  have HF := Lib.hid hfr
  have HS := Lib.hid hs1
  have hcc := hfr.cell
  have hjc := hs1.cell
  clear hg hfr hs1
  go_wp2_with fail
  refine (HRD.out W HG.out).mono ?_
  rintro e w1 ⟨rfl, hb1⟩
  have HG1 : Hid (Grow W w1) := Lib.hid hb1
  have hcc1 := (HG1.out.block HF.out).cell
  have hjc1 := (HG1.out.block HS.out).cell
  clear hb1 hcc hjc HRD
  cases rd with
  | false =>
    go_wp2_with fail
    refine (works_any _).mono ?_
    rintro e w2 ⟨rfl, hb2⟩
    have HG2 : Hid (Grow w w2) := Lib.hid (HG.out.trans (HG1.out.trans hb2))
    clear hb2
    go_wp2
    go_ret
    exact ⟨rfl, HG2.out⟩
  | true =>
    obtain ⟨hfa, he0, hok, hoj⟩ := HRF.out rfl
    have HE0 := Lib.hid he0
    have HGD := Lib.hid (good_ok hok hoj)
    have HOJ := Lib.hid hoj
    have HSC := Lib.hid (far_short hfa)
    have HL5 := Lib.hid (five_people hfa hok)
    have HON1 := Lib.hid (HONE.out rfl)
    have HFL1 := Lib.hid (HFLP.out rfl)
    have HMO1 := Lib.hid (HMOR.out rfl)
    clear hfa he0 hok hoj HRF HONE HFLP HMOR
    have HIT1 := Lib.hid (HIT.out (Nat.le_trans HL5.out (by omega)))
    have HTM1 := Lib.hid (HTM.out HE0.out (Nat.le_trans HL5.out (by omega)))
    clear HIT HTM
    obtain ⟨ib, hib⟩ : ∃ z, inB team 0 (2 ^ c.people.length - 1) = z := ⟨_, rfl⟩
    rw [hib] at HIT1 HTM1
    clear hib
    go_wp2_with fail
    refine (HIT1.out w1).mono ?_
    rintro e w2 ⟨rfl, hb2⟩
    have HG2 : Hid (Grow w w2) := Lib.hid (HG.out.trans (HG1.out.trans hb2))
    have HF2 := Lib.hid ((HG1.out.trans hb2).block HF.out)
    have HS2 := Lib.hid ((HG1.out.trans hb2).block HS.out)
    have hcc := HF2.out.cell
    have hjc := HS2.out.cell
    clear hb2 hcc1 hjc1 HIT1 HG HG1 HF HS
    cases ib with
    | false =>
      go_wp2_with fail
      refine (works_any _).mono ?_
      rintro e w3 ⟨rfl, hb3⟩
      have HG3 : Hid (Grow w w3) := Lib.hid (HG2.out.trans hb3)
      clear hb3
      go_wp2
      go_ret
      exact ⟨rfl, HG3.out⟩
    | true =>
      obtain ⟨ht0, t, rfl, htp, ht1⟩ := HTM1.out rfl
      have HTE := Lib.hid ht0
      have HTP := Lib.hid htp
      have HT1 := Lib.hid ht1
      have HB5 : Hid (brY c j (t : Nat) = brokenT c j t) := Lib.hid (by unfold brY; rw [if_neg (by rw [HTE.out]; exact fun h => h rfl)]; rfl)
      have HCB := Lib.hid (chain_bit c j t)
      have HBL := Lib.hid (brokenT_lt c j t)
      have HC0 := Lib.hid (HCH.out HSC.out j (t : Nat))
      have HCE := Lib.hid (chE_team HE0.out htp)
      have HB0 := Lib.hid (HBR.out HSC.out)
      rw [HB5.out, HTE.out] at HB0
      rw [HCE.out.1, HCE.out.2] at HC0
      obtain ⟨br, hbr⟩ : ∃ z, brokenT c j t = z := ⟨_, rfl⟩
      rw [hbr] at HCB HBL HB0
      clear ht0 htp ht1 hbr HB5 HTM1 HBR HCE HTE
      have hsh := shr_and (s := br) (e := 5) (by have := HBL.out; omega)
      rw [show ((2 : Int) ^ 5) = 32 by decide] at hsh
      cases hch : chainT c j t with
      | none =>
        rw [hch] at HCB HC0
        have hb32 := HCB.out.1 rfl
        have hq : br / 2 ^ 5 % 2 = 1 := by have := HBL.out; omega
        rw [hq] at hsh
        have HC1 : Hid (∀ w0, Grow w w0 → Calls Try.prog 19 #[crewV c, jobV j, .int .i64 (t : Nat)] w0 fun e w' => ∃ A cap, e = .returned (.tuple #[.slice A 0 cap, .int .i64 3]) ∧ Ints w' w'.heap.size A [] ∧ Below w0.heap.size w0 w') := Lib.hid (fun w0 hw => HC0.out w0 hw)
        clear hb32 hq HCB HBL HC0 HCH HON1 HFL1 HMO1 HGD HOJ HL5
        go_wp2_with fail
        refine (HC1.out w2 HG2.out).mono ?_
        rintro e w3 ⟨A, p, rfl, _, hb3⟩
        have HG3 : Hid (Grow w w3) := Lib.hid (HG2.out.trans hb3)
        have hcc3 := ((show Grow w2 w3 from hb3).block HF2.out).cell
        have hjc3 := ((show Grow w2 w3 from hb3).block HS2.out).cell
        clear hb3 hcc hjc HC1
        go_wp2_with fail
        refine (HB0.out w3 HG3.out).mono ?_
        rintro e w4 ⟨rfl, hb4⟩
        have HG4 : Hid (Grow w w4) := Lib.hid (HG3.out.trans hb4)
        clear hb4 hcc3 hjc3 HB0
        go_wp2_with fail
        refine (works_any _).mono ?_
        rintro e w5 ⟨rfl, hb5⟩
        have HG5 : Hid (Grow w w5) := Lib.hid (HG4.out.trans hb5)
        clear hb5
        go_wp2
        go_ret
        exact ⟨rfl, HG5.out⟩
      | some l =>
        rw [hch] at HCB HC0
        have HO := Lib.hid (HON1.out t l hch)
        have HFB := Lib.hid (HFL1.out t l hch)
        have HMB := Lib.hid (fun m => HMO1.out t m l hch)
        have hb32 := HCB.out.2 (fun h => by cases h)
        have hq : br / 2 ^ 5 % 2 = 0 := by omega
        rw [hq] at hsh
        have HC1 : Hid (∀ w0, Grow w w0 → Calls Try.prog 19 #[crewV c, jobV j, .int .i64 (t : Nat)] w0 fun e w' => ∃ A cap, e = .returned (.tuple #[.slice A l.length cap, .int .i64 0]) ∧ Ints w' w'.heap.size A (natsL l) ∧ Below w0.heap.size w0 w') := Lib.hid (fun w0 hw => HC0.out w0 hw)
        clear hb32 hq HCB HBL HC0 HON1 HFL1 HMO1 hch
        go_wp2_with fail
        refine (HC1.out w2 HG2.out).mono ?_
        rintro e w3 ⟨A, p, rfl, hi3, hb3⟩
        have HG3 : Hid (Grow w w3) := Lib.hid (HG2.out.trans hb3)
        have HF3 := Lib.hid ((show Grow w2 w3 from hb3).block HF2.out)
        have HS3 := Lib.hid ((show Grow w2 w3 from hb3).block HS2.out)
        have HI3 := Lib.hid hi3
        have hcc3 := HF3.out.cell
        have hjc3 := HS3.out.cell
        clear hb3 hi3 hcc hjc HC1 HF2 HS2 HG2
        go_wp2_with fail
        refine (HB0.out w3 HG3.out).mono ?_
        rintro e w4 ⟨rfl, hb4⟩
        have HG4 : Hid (Grow w w4) := Lib.hid (HG3.out.trans hb4)
        have HF4 := Lib.hid ((show Grow w3 w4 from hb4).block HF3.out)
        have HS4 := Lib.hid ((show Grow w3 w4 from hb4).block HS3.out)
        have HI4 := Lib.hid ((HI3.out.below hb4).more (show Grow w3 w4 from hb4).size)
        clear hb4 hcc3 hjc3 HB0 HI3 HF3 HS3 HG3
        obtain ⟨xs, hxs⟩ : ∃ z, natsL l = z := ⟨_, rfl⟩
        have HXS := Lib.hid hxs
        rw [hxs] at HI4
        clear hxs
        have h2 := HO.out.two
        have h5 : l.length ≤ 5 := Nat.le_trans HO.out.few HGD.out.n5
        obtain ⟨ab, ao, rfl, hab, hic⟩ : ∃ ab ao, A = some ⟨ab, ao, none⟩ ∧ ab < w4.heap.size ∧ ∀ k x, l[k]? = some x → w4.cell? ⟨ab, ao + k, none⟩ = some (.int .i64 (x : Nat)) := by
          rcases HI4.out with h | ⟨b, o, rfl, hb, hc⟩
          · rw [← HXS.out] at h
            have : l.length = 0 := by rw [← natsL_len3, h]; rfl
            omega
          · exact ⟨b, o, rfl, hb, fun k x hx => hc k _ (by rw [← HXS.out]; unfold natsL; rw [List.getElem?_map, hx]; rfl)⟩
        have HIC := Lib.hid hic
        have HAB := Lib.hid hab
        clear hic hab HI4 HXS
        have hl4 : j.kind.toNat < c.laws.length := lt_of_at (lawOf_at HGD.out.crew HGD.out.job)
        obtain ⟨lb, lo, lx, hla, hlb, hlc, HLX⟩ := (HAT.out w4 HG4.out).2.at_ hl4
        obtain rfl : lx = lawOf c.d j := by
          have h := HLX.out
          rw [show c.laws[j.kind.toNat]? = some (lawOf c.d j) from lawOf_at HGD.out.crew HGD.out.job] at h
          exact (Option.some.inj h).symm
        have l0 := hlc 0 (by omega)
        rw [Nat.add_zero] at l0
        have HJO := Lib.hid (fun (a b : Nat) (ha : a < c.languages.toNat) (hb : b < c.languages.toNat) (w0 : World) (hw : Grow w4 w0) => rJoins_any c t a b (lawOf c.d j).level w0 (HAT.out w0 (HG4.out.trans hw)).1 (Nat.le_trans HL5.out (by omega)) HT1.out (fun x hx => by rw [HGD.out.levels x hx]; exact ⟨ha, hb⟩))
        have HCC := Lib.hid (fun (jj : JobD) (tt : Nat) (w0 : World) (hw : Grow w4 w0) => HCH.out HSC.out jj (tt : Nat) w0 (HG4.out.trans hw))
        have HCV : Hid (crewV c = .agg #[.int .i64 c.languages, .slice c.pa c.people.length c.pc, .slice (some ⟨lb, lo, none⟩) c.laws.length c.wc]) := Lib.hid (by rw [← hla])
        rw [HCV.out] at HJO HCC
        have HKI : Hid (j.kind = (j.kind.toNat : Int)) := Lib.hid (by have := HGD.out.job.kind; omega)
        obtain ⟨jk, hjk⟩ : ∃ z, j.kind.toNat = z := ⟨_, rfl⟩
        rw [hjk] at hl4 l0 HKI
        have HLV := Lib.hid l0
        have HL4 := Lib.hid hl4
        clear hjk hlc HLX hlb hl4 l0 HCV HAT HCH
        go_upto_region 9 with fail
        have hcc := HF4.out.cell
        have hjc := HS4.out.cell
        have hh : l[0]? = some j.fr.toNat := by rw [← List.head?_eq_getElem?]; exact HO.out.head
        have hla : l[l.length - 1]? = some j.dest.toNat := by rw [← List.getLast?_eq_getElem?]; exact HO.out.last
        have c0 := HIC.out 0 _ hh
        have c9 := HIC.out (l.length - 1) _ hla
        rw [Nat.add_zero] at c0
        rw [← HGD.out.frI] at c0
        rw [← HGD.out.dstI] at c9
        obtain ⟨m, hm⟩ : ∃ z, l.length = z := ⟨_, rfl⟩
        have HM := Lib.hid hm
        rw [hm] at c9 h2 h5
        have HM5 := Lib.hid h5
        have hw1 : IntKind.i64.wrap ((m : Int) - 1) = ((m - 1 : Nat) : Int) := by rw [IntWalk.i64_in _ (by omega)]; omega
        have hi0 : (0 : Int) ≤ ((m - 1 : Nat) : Int) := by omega
        have hi1 : ((m - 1 : Nat) : Int) < (m : Int) := by omega
        have hz : (0 : Int) < (m : Int) := by omega
        have d1 : decide ((m : Int) < 2) = false := decide_eq_false (by omega)
        have d2 : decide (c.languages < (m : Int)) = false := decide_eq_false (by have h1 := HO.out.few; have h2 := HGD.out.lang; omega)
        rw [hm]
        obtain ⟨mk, hmk⟩ : ∃ z, m - 1 = z := ⟨_, rfl⟩
        rw [hmk] at c9 hw1 hi0 hi1
        clear hm hmk hh hla h2 h5
        go_quiet (fail)
        clear hcc hjc c0 c9 hw1 hi0 hi1 hz d1 d2 hsh
        go_upto_region 12 with fail
        go_loopw [13] (fun iv wx => ∃ k : Nat, 1 ≤ k ∧ k ≤ m ∧ iv = .int .i64 k ∧ Grow w4 wx) (fun v _ => m - (intOf v).toNat)
        case atStart => exact ⟨1, Nat.le_refl _, by have := HO.out.two; have := HM.out; omega, rfl, Below.drewN_ (Below.refl _ _) _⟩
        case round =>
          obtain ⟨k, hk1, hkm, rfl, hgr⟩ := hrel
          rename World => wr
          have HGR := Lib.hid hgr
          clear hgr
          by_cases hlt : k < m
          · have hka : k - 1 < l.length := by rw [HM.out]; omega
            have hkb : k < l.length := by rw [HM.out]; omega
            have hxa := List.getElem?_eq_getElem hka
            have hxb := List.getElem?_eq_getElem hkb
            obtain ⟨xa, hva⟩ : ∃ z, l[k - 1] = z := ⟨_, rfl⟩
            obtain ⟨xb, hvb⟩ : ∃ z, l[k] = z := ⟨_, rfl⟩
            rw [hva] at hxa
            rw [hvb] at hxb
            have hna := HO.out.all xa (List.mem_of_getElem? hxa)
            have hnb := HO.out.all xb (List.mem_of_getElem? hxb)
            have hlk := along_at (k := k - 1) HO.out.along hxa (by rw [show k - 1 + 1 = k by omega]; exact hxb)
            have HCA := Lib.hid (HIC.out (k - 1) xa hxa)
            have HCBK := Lib.hid (HIC.out k xb hxb)
            have HJN := Lib.hid (HJO.out xa xb hna hnb)
            rw [show joinsL (lawOf c.d j).level xa xb (membersL c.people t) = true from hlk] at HJN
            have HLE : Hid (decide (c.languages ≤ (xb : Int)) = false) := Lib.hid (decide_eq_false (by have := HGD.out.lang; omega))
            have HNE : Hid (decide ((xb : Int) < 0) = false) := Lib.hid (decide_eq_false (by omega))
            have HW1 : Hid (IntKind.i64.wrap ((k : Int) - 1) = ((k - 1 : Nat) : Int)) := Lib.hid (by have := HM5.out; rw [IntWalk.i64_in _ (by omega)]; omega)
            have HK0 : Hid ((0 : Int) ≤ ((k - 1 : Nat) : Int) ∧ ((k - 1 : Nat) : Int) < (m : Int) ∧ (0 : Int) ≤ (k : Int) ∧ (k : Int) < (m : Int)) := Lib.hid ⟨by omega, by omega, by omega, by omega⟩
            clear hka hkb hxa hxb hva hvb hna hnb hlk
            obtain ⟨k1, hk1e⟩ : ∃ z, k - 1 = z := ⟨_, rfl⟩
            rw [hk1e] at HCA HW1 HK0
            have HKE := Lib.hid hk1e
            clear hk1e
            go_upto_region 14 with fail
            refine wp_region_lit 36 [[], [], [(0, 101), (1, 102)], [(2, 103)], [(3, 104)], [(4, 105)], [(5, 106)], [(5, 106)], [(5, 106), (6, 107), (7, 108)], [(5, 106), (8, 109)], [(5, 106)], [(5, 106), (10, 111)], [(5, 106), (9, 110), (11, 112)], [(5, 106), (12, 113)], [(13, 114)], [(14, 115)], [(14, 115)], [(14, 115)], [(14, 115), (17, 118)], [(14, 115)], [(14, 115), (19, 120)], [(14, 115), (18, 119), (20, 121)], [(14, 115), (21, 122)], [(14, 115), (22, 123)], [(14, 115)], [(14, 115)], [(14, 115), (25, 126)], [(14, 115), (24, 125), (26, 127)], [(14, 115), (27, 128)], [(14, 115)], [(14, 115)], [(14, 115), (29, 130), (30, 131)], [(14, 115), (31, 132)], [(14, 115), (15, 116), (16, 117), (23, 124), (28, 129), (32, 133)], [(14, 115), (33, 134)], [(14, 115), (34, 135)]] Grow (fun qi v w' => match qi with
                | 0 => v = .slice (some ⟨ab, ao, none⟩) m p
                | 1 => v = .int .i64 (k : Nat)
                | 2 => v = .pointer (some ⟨ab, ao + k, none⟩)
                | 3 => v = .int .i64 (xb : Nat)
                | 4 => v = .bool false
                | 5 => v = .bool false
                | 6 => v = .slice (some ⟨ab, ao, none⟩) m p
                | 7 => v = .int .i64 (k : Nat)
                | 8 => v = .pointer (some ⟨ab, ao + k, none⟩)
                | 9 => v = .int .i64 (xb : Nat)
                | 10 => v = .pointer (some ⟨w.heap.size, 0, none⟩)
                | 11 => v = .int .i64 c.languages
                | 12 => v = .bool false
                | 13 => v = .bool false
                | 14 => v = .bool false
                | 15 => v = .agg #[.int .i64 c.languages, .slice c.pa c.people.length c.pc, .slice (some ⟨lb, lo, none⟩) c.laws.length c.wc]
                | 16 => v = .int .i64 (t : Nat)
                | 17 => v = .pointer (some ⟨w.heap.size, 2, none⟩)
                | 18 => v = .slice (some ⟨lb, lo, none⟩) c.laws.length c.wc
                | 19 => v = .pointer (some ⟨w.heap.size + 1, 4, none⟩)
                | 20 => v = .int .i64 (jk : Nat)
                | 21 => v = .pointer (some ⟨lb, lo + jk * 3, none⟩)
                | 22 => v = .pointer (some ⟨lb, lo + jk * 3, none⟩)
                | 23 => v = .int .i64 (lawOf c.d j).level
                | 24 => v = .slice (some ⟨ab, ao, none⟩) m p
                | 25 => v = .int .i64 (k : Nat)
                | 26 => v = .int .i64 (k1 : Nat)
                | 27 => v = .pointer (some ⟨ab, ao + k1, none⟩)
                | 28 => v = .int .i64 (xa : Nat)
                | 29 => v = .slice (some ⟨ab, ao, none⟩) m p
                | 30 => v = .int .i64 (k : Nat)
                | 31 => v = .pointer (some ⟨ab, ao + k, none⟩)
                | 32 => v = .int .i64 (xb : Nat)
                | 33 => v = .bool true
                | 34 => v = .bool false
                | 35 => v = .bool false
                | _ => False) (by kernel_rfl) (by kernel_rfl) (fun _ _ _ => Grow.trans) Grow.refl ?_ ?_ ?_
            · intro i v y y' h k
              match i, h with
              | 0, h | 1, h | 2, h | 3, h | 4, h | 5, h | 6, h | 7, h | 8, h | 9, h | 10, h | 11, h | 12, h | 13, h | 14, h | 15, h | 16, h | 17, h | 18, h | 19, h | 20, h | 21, h | 22, h | 23, h | 24, h | 25, h | 26, h | 27, h | 28, h | 29, h | 30, h | 31, h | 32, h | 33, h | 34, h | 35, h => exact h
            · simp only [StepsLit, List.take_succ_cons, List.take_zero]
              refine ⟨?_, ?_, ?_, ?_, ?_, ?_, ?_, ?_, ?_, ?_, ?_, ?_, ?_, ?_, ?_, ?_, ?_, ?_, ?_, ?_, ?_, ?_, ?_, ?_, ?_, ?_, ?_, ?_, ?_, ?_, ?_, ?_, ?_, ?_, ?_, ?_, trivial⟩
              · intro w5 hR
                have hGw : Grow wr w5 := hR.of_drew
                have HGW := Lib.hid hGw
                have cc := ((HGR.out.trans HGW.out).block HF4.out).cell
                have ck : w5.cell? ⟨w.heap.size + 1, 4, none⟩ = some (.int .i64 (jk : Nat)) := by
                  rw [((HGR.out.trans HGW.out).block HS4.out).cell 4, ← HKI.out]; rfl
                have ca := (HGR.out.trans HGW.out).cell HCA.out
                have cb := (HGR.out.trans HGW.out).cell HCBK.out
                have cl := (HGR.out.trans HGW.out).cell HLV.out
                have h1 := HLE.out
                have h2 := HNE.out
                have h3 := HW1.out
                obtain ⟨h4, h5, h6, h7⟩ := HK0.out
                have h8 : (0 : Int) ≤ (jk : Int) := by omega
                have h9 : (jk : Int) < (c.laws.length : Int) := by have := HL4.out; omega
                clear hR hGw
                simp only [depV]
                try go_simp
                all_goals first
                  | (with_reducible exact Grow.refl _)
                  | (with_reducible exact ⟨Grow.refl _, rfl⟩)
              · intro w5 hR
                have hGw : Grow wr w5 := hR.of_drew
                have HGW := Lib.hid hGw
                have cc := ((HGR.out.trans HGW.out).block HF4.out).cell
                have ck : w5.cell? ⟨w.heap.size + 1, 4, none⟩ = some (.int .i64 (jk : Nat)) := by
                  rw [((HGR.out.trans HGW.out).block HS4.out).cell 4, ← HKI.out]; rfl
                have ca := (HGR.out.trans HGW.out).cell HCA.out
                have cb := (HGR.out.trans HGW.out).cell HCBK.out
                have cl := (HGR.out.trans HGW.out).cell HLV.out
                have h1 := HLE.out
                have h2 := HNE.out
                have h3 := HW1.out
                obtain ⟨h4, h5, h6, h7⟩ := HK0.out
                have h8 : (0 : Int) ≤ (jk : Int) := by omega
                have h9 : (jk : Int) < (c.laws.length : Int) := by have := HL4.out; omega
                clear hR hGw
                simp only [depV]
                try go_simp
                all_goals first
                  | (with_reducible exact Grow.refl _)
                  | (with_reducible exact ⟨Grow.refl _, rfl⟩)
              · intro w5 hR
                have hGw : Grow wr w5 := hR.of_drew
                have HGW := Lib.hid hGw
                have cc := ((HGR.out.trans HGW.out).block HF4.out).cell
                have ck : w5.cell? ⟨w.heap.size + 1, 4, none⟩ = some (.int .i64 (jk : Nat)) := by
                  rw [((HGR.out.trans HGW.out).block HS4.out).cell 4, ← HKI.out]; rfl
                have ca := (HGR.out.trans HGW.out).cell HCA.out
                have cb := (HGR.out.trans HGW.out).cell HCBK.out
                have cl := (HGR.out.trans HGW.out).cell HLV.out
                have h1 := HLE.out
                have h2 := HNE.out
                have h3 := HW1.out
                obtain ⟨h4, h5, h6, h7⟩ := HK0.out
                have h8 : (0 : Int) ≤ (jk : Int) := by omega
                have h9 : (jk : Int) < (c.laws.length : Int) := by have := HL4.out; omega
                clear hR hGw
                simp only [depV]
                rintro _ rfl
                rintro _ rfl
                try go_simp
                all_goals first
                  | (with_reducible exact Grow.refl _)
                  | (with_reducible exact ⟨Grow.refl _, rfl⟩)
              · intro w5 hR
                have hGw : Grow wr w5 := hR.of_drew
                have HGW := Lib.hid hGw
                have cc := ((HGR.out.trans HGW.out).block HF4.out).cell
                have ck : w5.cell? ⟨w.heap.size + 1, 4, none⟩ = some (.int .i64 (jk : Nat)) := by
                  rw [((HGR.out.trans HGW.out).block HS4.out).cell 4, ← HKI.out]; rfl
                have ca := (HGR.out.trans HGW.out).cell HCA.out
                have cb := (HGR.out.trans HGW.out).cell HCBK.out
                have cl := (HGR.out.trans HGW.out).cell HLV.out
                have h1 := HLE.out
                have h2 := HNE.out
                have h3 := HW1.out
                obtain ⟨h4, h5, h6, h7⟩ := HK0.out
                have h8 : (0 : Int) ≤ (jk : Int) := by omega
                have h9 : (jk : Int) < (c.laws.length : Int) := by have := HL4.out; omega
                clear hR hGw
                simp only [depV]
                rintro _ rfl
                try go_simp
                all_goals first
                  | (with_reducible exact Grow.refl _)
                  | (with_reducible exact ⟨Grow.refl _, rfl⟩)
              · intro w5 hR
                have hGw : Grow wr w5 := hR.of_drew
                have HGW := Lib.hid hGw
                have cc := ((HGR.out.trans HGW.out).block HF4.out).cell
                have ck : w5.cell? ⟨w.heap.size + 1, 4, none⟩ = some (.int .i64 (jk : Nat)) := by
                  rw [((HGR.out.trans HGW.out).block HS4.out).cell 4, ← HKI.out]; rfl
                have ca := (HGR.out.trans HGW.out).cell HCA.out
                have cb := (HGR.out.trans HGW.out).cell HCBK.out
                have cl := (HGR.out.trans HGW.out).cell HLV.out
                have h1 := HLE.out
                have h2 := HNE.out
                have h3 := HW1.out
                obtain ⟨h4, h5, h6, h7⟩ := HK0.out
                have h8 : (0 : Int) ≤ (jk : Int) := by omega
                have h9 : (jk : Int) < (c.laws.length : Int) := by have := HL4.out; omega
                clear hR hGw
                simp only [depV]
                rintro _ rfl
                try go_simp
                all_goals first
                  | (with_reducible exact Grow.refl _)
                  | (with_reducible exact ⟨Grow.refl _, rfl⟩)
              · intro w5 hR
                have hGw : Grow wr w5 := hR.of_drew
                have HGW := Lib.hid hGw
                have cc := ((HGR.out.trans HGW.out).block HF4.out).cell
                have ck : w5.cell? ⟨w.heap.size + 1, 4, none⟩ = some (.int .i64 (jk : Nat)) := by
                  rw [((HGR.out.trans HGW.out).block HS4.out).cell 4, ← HKI.out]; rfl
                have ca := (HGR.out.trans HGW.out).cell HCA.out
                have cb := (HGR.out.trans HGW.out).cell HCBK.out
                have cl := (HGR.out.trans HGW.out).cell HLV.out
                have h1 := HLE.out
                have h2 := HNE.out
                have h3 := HW1.out
                obtain ⟨h4, h5, h6, h7⟩ := HK0.out
                have h8 : (0 : Int) ≤ (jk : Int) := by omega
                have h9 : (jk : Int) < (c.laws.length : Int) := by have := HL4.out; omega
                clear hR hGw
                simp only [depV]
                rintro _ rfl
                try go_simp
                all_goals first
                  | (with_reducible exact Grow.refl _)
                  | (with_reducible exact ⟨Grow.refl _, rfl⟩)
              · intro w5 hR
                have hGw : Grow wr w5 := hR.of_drew
                have HGW := Lib.hid hGw
                have cc := ((HGR.out.trans HGW.out).block HF4.out).cell
                have ck : w5.cell? ⟨w.heap.size + 1, 4, none⟩ = some (.int .i64 (jk : Nat)) := by
                  rw [((HGR.out.trans HGW.out).block HS4.out).cell 4, ← HKI.out]; rfl
                have ca := (HGR.out.trans HGW.out).cell HCA.out
                have cb := (HGR.out.trans HGW.out).cell HCBK.out
                have cl := (HGR.out.trans HGW.out).cell HLV.out
                have h1 := HLE.out
                have h2 := HNE.out
                have h3 := HW1.out
                obtain ⟨h4, h5, h6, h7⟩ := HK0.out
                have h8 : (0 : Int) ≤ (jk : Int) := by omega
                have h9 : (jk : Int) < (c.laws.length : Int) := by have := HL4.out; omega
                clear hR hGw
                simp only [depV]
                rintro _ rfl
                try go_simp
                all_goals first
                  | (with_reducible exact Grow.refl _)
                  | (with_reducible exact ⟨Grow.refl _, rfl⟩)
              · intro w5 hR
                have hGw : Grow wr w5 := hR.of_drew
                have HGW := Lib.hid hGw
                have cc := ((HGR.out.trans HGW.out).block HF4.out).cell
                have ck : w5.cell? ⟨w.heap.size + 1, 4, none⟩ = some (.int .i64 (jk : Nat)) := by
                  rw [((HGR.out.trans HGW.out).block HS4.out).cell 4, ← HKI.out]; rfl
                have ca := (HGR.out.trans HGW.out).cell HCA.out
                have cb := (HGR.out.trans HGW.out).cell HCBK.out
                have cl := (HGR.out.trans HGW.out).cell HLV.out
                have h1 := HLE.out
                have h2 := HNE.out
                have h3 := HW1.out
                obtain ⟨h4, h5, h6, h7⟩ := HK0.out
                have h8 : (0 : Int) ≤ (jk : Int) := by omega
                have h9 : (jk : Int) < (c.laws.length : Int) := by have := HL4.out; omega
                clear hR hGw
                simp only [depV]
                rintro _ rfl
                try go_simp
                all_goals first
                  | (with_reducible exact Grow.refl _)
                  | (with_reducible exact ⟨Grow.refl _, rfl⟩)
              · intro w5 hR
                have hGw : Grow wr w5 := hR.of_drew
                have HGW := Lib.hid hGw
                have cc := ((HGR.out.trans HGW.out).block HF4.out).cell
                have ck : w5.cell? ⟨w.heap.size + 1, 4, none⟩ = some (.int .i64 (jk : Nat)) := by
                  rw [((HGR.out.trans HGW.out).block HS4.out).cell 4, ← HKI.out]; rfl
                have ca := (HGR.out.trans HGW.out).cell HCA.out
                have cb := (HGR.out.trans HGW.out).cell HCBK.out
                have cl := (HGR.out.trans HGW.out).cell HLV.out
                have h1 := HLE.out
                have h2 := HNE.out
                have h3 := HW1.out
                obtain ⟨h4, h5, h6, h7⟩ := HK0.out
                have h8 : (0 : Int) ≤ (jk : Int) := by omega
                have h9 : (jk : Int) < (c.laws.length : Int) := by have := HL4.out; omega
                clear hR hGw
                simp only [depV]
                rintro _ rfl
                rintro _ rfl
                rintro _ rfl
                try go_simp
                all_goals first
                  | (with_reducible exact Grow.refl _)
                  | (with_reducible exact ⟨Grow.refl _, rfl⟩)
              · intro w5 hR
                have hGw : Grow wr w5 := hR.of_drew
                have HGW := Lib.hid hGw
                have cc := ((HGR.out.trans HGW.out).block HF4.out).cell
                have ck : w5.cell? ⟨w.heap.size + 1, 4, none⟩ = some (.int .i64 (jk : Nat)) := by
                  rw [((HGR.out.trans HGW.out).block HS4.out).cell 4, ← HKI.out]; rfl
                have ca := (HGR.out.trans HGW.out).cell HCA.out
                have cb := (HGR.out.trans HGW.out).cell HCBK.out
                have cl := (HGR.out.trans HGW.out).cell HLV.out
                have h1 := HLE.out
                have h2 := HNE.out
                have h3 := HW1.out
                obtain ⟨h4, h5, h6, h7⟩ := HK0.out
                have h8 : (0 : Int) ≤ (jk : Int) := by omega
                have h9 : (jk : Int) < (c.laws.length : Int) := by have := HL4.out; omega
                clear hR hGw
                simp only [depV]
                rintro _ rfl
                rintro _ rfl
                try go_simp
                all_goals first
                  | (with_reducible exact Grow.refl _)
                  | (with_reducible exact ⟨Grow.refl _, rfl⟩)
              · intro w5 hR
                have hGw : Grow wr w5 := hR.of_drew
                have HGW := Lib.hid hGw
                have cc := ((HGR.out.trans HGW.out).block HF4.out).cell
                have ck : w5.cell? ⟨w.heap.size + 1, 4, none⟩ = some (.int .i64 (jk : Nat)) := by
                  rw [((HGR.out.trans HGW.out).block HS4.out).cell 4, ← HKI.out]; rfl
                have ca := (HGR.out.trans HGW.out).cell HCA.out
                have cb := (HGR.out.trans HGW.out).cell HCBK.out
                have cl := (HGR.out.trans HGW.out).cell HLV.out
                have h1 := HLE.out
                have h2 := HNE.out
                have h3 := HW1.out
                obtain ⟨h4, h5, h6, h7⟩ := HK0.out
                have h8 : (0 : Int) ≤ (jk : Int) := by omega
                have h9 : (jk : Int) < (c.laws.length : Int) := by have := HL4.out; omega
                clear hR hGw
                simp only [depV]
                rintro _ rfl
                try go_simp
                all_goals first
                  | (with_reducible exact Grow.refl _)
                  | (with_reducible exact ⟨Grow.refl _, rfl⟩)
              · intro w5 hR
                have hGw : Grow wr w5 := hR.of_drew
                have HGW := Lib.hid hGw
                have cc := ((HGR.out.trans HGW.out).block HF4.out).cell
                have ck : w5.cell? ⟨w.heap.size + 1, 4, none⟩ = some (.int .i64 (jk : Nat)) := by
                  rw [((HGR.out.trans HGW.out).block HS4.out).cell 4, ← HKI.out]; rfl
                have ca := (HGR.out.trans HGW.out).cell HCA.out
                have cb := (HGR.out.trans HGW.out).cell HCBK.out
                have cl := (HGR.out.trans HGW.out).cell HLV.out
                have h1 := HLE.out
                have h2 := HNE.out
                have h3 := HW1.out
                obtain ⟨h4, h5, h6, h7⟩ := HK0.out
                have h8 : (0 : Int) ≤ (jk : Int) := by omega
                have h9 : (jk : Int) < (c.laws.length : Int) := by have := HL4.out; omega
                clear hR hGw
                simp only [depV]
                rintro _ rfl
                rintro _ rfl
                try go_simp
                all_goals first
                  | (with_reducible exact Grow.refl _)
                  | (with_reducible exact ⟨Grow.refl _, rfl⟩)
              · intro w5 hR
                have hGw : Grow wr w5 := hR.of_drew
                have HGW := Lib.hid hGw
                have cc := ((HGR.out.trans HGW.out).block HF4.out).cell
                have ck : w5.cell? ⟨w.heap.size + 1, 4, none⟩ = some (.int .i64 (jk : Nat)) := by
                  rw [((HGR.out.trans HGW.out).block HS4.out).cell 4, ← HKI.out]; rfl
                have ca := (HGR.out.trans HGW.out).cell HCA.out
                have cb := (HGR.out.trans HGW.out).cell HCBK.out
                have cl := (HGR.out.trans HGW.out).cell HLV.out
                have h1 := HLE.out
                have h2 := HNE.out
                have h3 := HW1.out
                obtain ⟨h4, h5, h6, h7⟩ := HK0.out
                have h8 : (0 : Int) ≤ (jk : Int) := by omega
                have h9 : (jk : Int) < (c.laws.length : Int) := by have := HL4.out; omega
                clear hR hGw
                simp only [depV]
                rintro _ rfl
                rintro _ rfl
                rintro _ rfl
                try go_simp
                all_goals first
                  | (with_reducible exact Grow.refl _)
                  | (with_reducible exact ⟨Grow.refl _, rfl⟩)
              · intro w5 hR
                have hGw : Grow wr w5 := hR.of_drew
                have HGW := Lib.hid hGw
                have cc := ((HGR.out.trans HGW.out).block HF4.out).cell
                have ck : w5.cell? ⟨w.heap.size + 1, 4, none⟩ = some (.int .i64 (jk : Nat)) := by
                  rw [((HGR.out.trans HGW.out).block HS4.out).cell 4, ← HKI.out]; rfl
                have ca := (HGR.out.trans HGW.out).cell HCA.out
                have cb := (HGR.out.trans HGW.out).cell HCBK.out
                have cl := (HGR.out.trans HGW.out).cell HLV.out
                have h1 := HLE.out
                have h2 := HNE.out
                have h3 := HW1.out
                obtain ⟨h4, h5, h6, h7⟩ := HK0.out
                have h8 : (0 : Int) ≤ (jk : Int) := by omega
                have h9 : (jk : Int) < (c.laws.length : Int) := by have := HL4.out; omega
                clear hR hGw
                simp only [depV]
                rintro _ rfl
                rintro _ rfl
                try go_simp
                all_goals first
                  | (with_reducible exact Grow.refl _)
                  | (with_reducible exact ⟨Grow.refl _, rfl⟩)
              · intro w5 hR
                have hGw : Grow wr w5 := hR.of_drew
                have HGW := Lib.hid hGw
                have cc := ((HGR.out.trans HGW.out).block HF4.out).cell
                have ck : w5.cell? ⟨w.heap.size + 1, 4, none⟩ = some (.int .i64 (jk : Nat)) := by
                  rw [((HGR.out.trans HGW.out).block HS4.out).cell 4, ← HKI.out]; rfl
                have ca := (HGR.out.trans HGW.out).cell HCA.out
                have cb := (HGR.out.trans HGW.out).cell HCBK.out
                have cl := (HGR.out.trans HGW.out).cell HLV.out
                have h1 := HLE.out
                have h2 := HNE.out
                have h3 := HW1.out
                obtain ⟨h4, h5, h6, h7⟩ := HK0.out
                have h8 : (0 : Int) ≤ (jk : Int) := by omega
                have h9 : (jk : Int) < (c.laws.length : Int) := by have := HL4.out; omega
                clear hR hGw
                simp only [depV]
                rintro _ rfl
                try go_simp
                all_goals first
                  | (with_reducible exact Grow.refl _)
                  | (with_reducible exact ⟨Grow.refl _, rfl⟩)
              · intro w5 hR
                have hGw : Grow wr w5 := hR.of_drew
                have HGW := Lib.hid hGw
                have cc := ((HGR.out.trans HGW.out).block HF4.out).cell
                have ck : w5.cell? ⟨w.heap.size + 1, 4, none⟩ = some (.int .i64 (jk : Nat)) := by
                  rw [((HGR.out.trans HGW.out).block HS4.out).cell 4, ← HKI.out]; rfl
                have ca := (HGR.out.trans HGW.out).cell HCA.out
                have cb := (HGR.out.trans HGW.out).cell HCBK.out
                have cl := (HGR.out.trans HGW.out).cell HLV.out
                have h1 := HLE.out
                have h2 := HNE.out
                have h3 := HW1.out
                obtain ⟨h4, h5, h6, h7⟩ := HK0.out
                have h8 : (0 : Int) ≤ (jk : Int) := by omega
                have h9 : (jk : Int) < (c.laws.length : Int) := by have := HL4.out; omega
                clear hR hGw
                simp only [depV]
                rintro _ rfl
                try go_simp
                all_goals first
                  | (with_reducible exact Grow.refl _)
                  | (with_reducible exact ⟨Grow.refl _, rfl⟩)
              · intro w5 hR
                have hGw : Grow wr w5 := hR.of_drew
                have HGW := Lib.hid hGw
                have cc := ((HGR.out.trans HGW.out).block HF4.out).cell
                have ck : w5.cell? ⟨w.heap.size + 1, 4, none⟩ = some (.int .i64 (jk : Nat)) := by
                  rw [((HGR.out.trans HGW.out).block HS4.out).cell 4, ← HKI.out]; rfl
                have ca := (HGR.out.trans HGW.out).cell HCA.out
                have cb := (HGR.out.trans HGW.out).cell HCBK.out
                have cl := (HGR.out.trans HGW.out).cell HLV.out
                have h1 := HLE.out
                have h2 := HNE.out
                have h3 := HW1.out
                obtain ⟨h4, h5, h6, h7⟩ := HK0.out
                have h8 : (0 : Int) ≤ (jk : Int) := by omega
                have h9 : (jk : Int) < (c.laws.length : Int) := by have := HL4.out; omega
                clear hR hGw
                simp only [depV]
                rintro _ rfl
                try go_simp
                all_goals first
                  | (with_reducible exact Grow.refl _)
                  | (with_reducible exact ⟨Grow.refl _, rfl⟩)
              · intro w5 hR
                have hGw : Grow wr w5 := hR.of_drew
                have HGW := Lib.hid hGw
                have cc := ((HGR.out.trans HGW.out).block HF4.out).cell
                have ck : w5.cell? ⟨w.heap.size + 1, 4, none⟩ = some (.int .i64 (jk : Nat)) := by
                  rw [((HGR.out.trans HGW.out).block HS4.out).cell 4, ← HKI.out]; rfl
                have ca := (HGR.out.trans HGW.out).cell HCA.out
                have cb := (HGR.out.trans HGW.out).cell HCBK.out
                have cl := (HGR.out.trans HGW.out).cell HLV.out
                have h1 := HLE.out
                have h2 := HNE.out
                have h3 := HW1.out
                obtain ⟨h4, h5, h6, h7⟩ := HK0.out
                have h8 : (0 : Int) ≤ (jk : Int) := by omega
                have h9 : (jk : Int) < (c.laws.length : Int) := by have := HL4.out; omega
                clear hR hGw
                simp only [depV]
                rintro _ rfl
                try go_simp
                all_goals first
                  | (with_reducible exact Grow.refl _)
                  | (with_reducible exact ⟨Grow.refl _, rfl⟩)
              · intro w5 hR
                have hGw : Grow wr w5 := hR.of_drew
                have HGW := Lib.hid hGw
                have cc := ((HGR.out.trans HGW.out).block HF4.out).cell
                have ck : w5.cell? ⟨w.heap.size + 1, 4, none⟩ = some (.int .i64 (jk : Nat)) := by
                  rw [((HGR.out.trans HGW.out).block HS4.out).cell 4, ← HKI.out]; rfl
                have ca := (HGR.out.trans HGW.out).cell HCA.out
                have cb := (HGR.out.trans HGW.out).cell HCBK.out
                have cl := (HGR.out.trans HGW.out).cell HLV.out
                have h1 := HLE.out
                have h2 := HNE.out
                have h3 := HW1.out
                obtain ⟨h4, h5, h6, h7⟩ := HK0.out
                have h8 : (0 : Int) ≤ (jk : Int) := by omega
                have h9 : (jk : Int) < (c.laws.length : Int) := by have := HL4.out; omega
                clear hR hGw
                simp only [depV]
                rintro _ rfl
                rintro _ rfl
                try go_simp
                all_goals first
                  | (with_reducible exact Grow.refl _)
                  | (with_reducible exact ⟨Grow.refl _, rfl⟩)
              · intro w5 hR
                have hGw : Grow wr w5 := hR.of_drew
                have HGW := Lib.hid hGw
                have cc := ((HGR.out.trans HGW.out).block HF4.out).cell
                have ck : w5.cell? ⟨w.heap.size + 1, 4, none⟩ = some (.int .i64 (jk : Nat)) := by
                  rw [((HGR.out.trans HGW.out).block HS4.out).cell 4, ← HKI.out]; rfl
                have ca := (HGR.out.trans HGW.out).cell HCA.out
                have cb := (HGR.out.trans HGW.out).cell HCBK.out
                have cl := (HGR.out.trans HGW.out).cell HLV.out
                have h1 := HLE.out
                have h2 := HNE.out
                have h3 := HW1.out
                obtain ⟨h4, h5, h6, h7⟩ := HK0.out
                have h8 : (0 : Int) ≤ (jk : Int) := by omega
                have h9 : (jk : Int) < (c.laws.length : Int) := by have := HL4.out; omega
                clear hR hGw
                simp only [depV]
                rintro _ rfl
                try go_simp
                all_goals first
                  | (with_reducible exact Grow.refl _)
                  | (with_reducible exact ⟨Grow.refl _, rfl⟩)
              · intro w5 hR
                have hGw : Grow wr w5 := hR.of_drew
                have HGW := Lib.hid hGw
                have cc := ((HGR.out.trans HGW.out).block HF4.out).cell
                have ck : w5.cell? ⟨w.heap.size + 1, 4, none⟩ = some (.int .i64 (jk : Nat)) := by
                  rw [((HGR.out.trans HGW.out).block HS4.out).cell 4, ← HKI.out]; rfl
                have ca := (HGR.out.trans HGW.out).cell HCA.out
                have cb := (HGR.out.trans HGW.out).cell HCBK.out
                have cl := (HGR.out.trans HGW.out).cell HLV.out
                have h1 := HLE.out
                have h2 := HNE.out
                have h3 := HW1.out
                obtain ⟨h4, h5, h6, h7⟩ := HK0.out
                have h8 : (0 : Int) ≤ (jk : Int) := by omega
                have h9 : (jk : Int) < (c.laws.length : Int) := by have := HL4.out; omega
                clear hR hGw
                simp only [depV]
                rintro _ rfl
                rintro _ rfl
                try go_simp
                all_goals first
                  | (with_reducible exact Grow.refl _)
                  | (with_reducible exact ⟨Grow.refl _, rfl⟩)
              · intro w5 hR
                have hGw : Grow wr w5 := hR.of_drew
                have HGW := Lib.hid hGw
                have cc := ((HGR.out.trans HGW.out).block HF4.out).cell
                have ck : w5.cell? ⟨w.heap.size + 1, 4, none⟩ = some (.int .i64 (jk : Nat)) := by
                  rw [((HGR.out.trans HGW.out).block HS4.out).cell 4, ← HKI.out]; rfl
                have ca := (HGR.out.trans HGW.out).cell HCA.out
                have cb := (HGR.out.trans HGW.out).cell HCBK.out
                have cl := (HGR.out.trans HGW.out).cell HLV.out
                have h1 := HLE.out
                have h2 := HNE.out
                have h3 := HW1.out
                obtain ⟨h4, h5, h6, h7⟩ := HK0.out
                have h8 : (0 : Int) ≤ (jk : Int) := by omega
                have h9 : (jk : Int) < (c.laws.length : Int) := by have := HL4.out; omega
                clear hR hGw
                simp only [depV]
                rintro _ rfl
                rintro _ rfl
                rintro _ rfl
                try go_simp
                all_goals first
                  | (with_reducible exact Grow.refl _)
                  | (with_reducible exact ⟨Grow.refl _, rfl⟩)
              · intro w5 hR
                have hGw : Grow wr w5 := hR.of_drew
                have HGW := Lib.hid hGw
                have cc := ((HGR.out.trans HGW.out).block HF4.out).cell
                have ck : w5.cell? ⟨w.heap.size + 1, 4, none⟩ = some (.int .i64 (jk : Nat)) := by
                  rw [((HGR.out.trans HGW.out).block HS4.out).cell 4, ← HKI.out]; rfl
                have ca := (HGR.out.trans HGW.out).cell HCA.out
                have cb := (HGR.out.trans HGW.out).cell HCBK.out
                have cl := (HGR.out.trans HGW.out).cell HLV.out
                have h1 := HLE.out
                have h2 := HNE.out
                have h3 := HW1.out
                obtain ⟨h4, h5, h6, h7⟩ := HK0.out
                have h8 : (0 : Int) ≤ (jk : Int) := by omega
                have h9 : (jk : Int) < (c.laws.length : Int) := by have := HL4.out; omega
                clear hR hGw
                simp only [depV]
                rintro _ rfl
                rintro _ rfl
                try go_simp
                all_goals first
                  | (with_reducible exact Grow.refl _)
                  | (with_reducible exact ⟨Grow.refl _, rfl⟩)
              · intro w5 hR
                have hGw : Grow wr w5 := hR.of_drew
                have HGW := Lib.hid hGw
                have cc := ((HGR.out.trans HGW.out).block HF4.out).cell
                have ck : w5.cell? ⟨w.heap.size + 1, 4, none⟩ = some (.int .i64 (jk : Nat)) := by
                  rw [((HGR.out.trans HGW.out).block HS4.out).cell 4, ← HKI.out]; rfl
                have ca := (HGR.out.trans HGW.out).cell HCA.out
                have cb := (HGR.out.trans HGW.out).cell HCBK.out
                have cl := (HGR.out.trans HGW.out).cell HLV.out
                have h1 := HLE.out
                have h2 := HNE.out
                have h3 := HW1.out
                obtain ⟨h4, h5, h6, h7⟩ := HK0.out
                have h8 : (0 : Int) ≤ (jk : Int) := by omega
                have h9 : (jk : Int) < (c.laws.length : Int) := by have := HL4.out; omega
                clear hR hGw
                simp only [depV]
                rintro _ rfl
                rintro _ rfl
                try go_simp
                all_goals first
                  | (with_reducible exact Grow.refl _)
                  | (with_reducible exact ⟨Grow.refl _, rfl⟩)
              · intro w5 hR
                have hGw : Grow wr w5 := hR.of_drew
                have HGW := Lib.hid hGw
                have cc := ((HGR.out.trans HGW.out).block HF4.out).cell
                have ck : w5.cell? ⟨w.heap.size + 1, 4, none⟩ = some (.int .i64 (jk : Nat)) := by
                  rw [((HGR.out.trans HGW.out).block HS4.out).cell 4, ← HKI.out]; rfl
                have ca := (HGR.out.trans HGW.out).cell HCA.out
                have cb := (HGR.out.trans HGW.out).cell HCBK.out
                have cl := (HGR.out.trans HGW.out).cell HLV.out
                have h1 := HLE.out
                have h2 := HNE.out
                have h3 := HW1.out
                obtain ⟨h4, h5, h6, h7⟩ := HK0.out
                have h8 : (0 : Int) ≤ (jk : Int) := by omega
                have h9 : (jk : Int) < (c.laws.length : Int) := by have := HL4.out; omega
                clear hR hGw
                simp only [depV]
                rintro _ rfl
                try go_simp
                all_goals first
                  | (with_reducible exact Grow.refl _)
                  | (with_reducible exact ⟨Grow.refl _, rfl⟩)
              · intro w5 hR
                have hGw : Grow wr w5 := hR.of_drew
                have HGW := Lib.hid hGw
                have cc := ((HGR.out.trans HGW.out).block HF4.out).cell
                have ck : w5.cell? ⟨w.heap.size + 1, 4, none⟩ = some (.int .i64 (jk : Nat)) := by
                  rw [((HGR.out.trans HGW.out).block HS4.out).cell 4, ← HKI.out]; rfl
                have ca := (HGR.out.trans HGW.out).cell HCA.out
                have cb := (HGR.out.trans HGW.out).cell HCBK.out
                have cl := (HGR.out.trans HGW.out).cell HLV.out
                have h1 := HLE.out
                have h2 := HNE.out
                have h3 := HW1.out
                obtain ⟨h4, h5, h6, h7⟩ := HK0.out
                have h8 : (0 : Int) ≤ (jk : Int) := by omega
                have h9 : (jk : Int) < (c.laws.length : Int) := by have := HL4.out; omega
                clear hR hGw
                simp only [depV]
                rintro _ rfl
                try go_simp
                all_goals first
                  | (with_reducible exact Grow.refl _)
                  | (with_reducible exact ⟨Grow.refl _, rfl⟩)
              · intro w5 hR
                have hGw : Grow wr w5 := hR.of_drew
                have HGW := Lib.hid hGw
                have cc := ((HGR.out.trans HGW.out).block HF4.out).cell
                have ck : w5.cell? ⟨w.heap.size + 1, 4, none⟩ = some (.int .i64 (jk : Nat)) := by
                  rw [((HGR.out.trans HGW.out).block HS4.out).cell 4, ← HKI.out]; rfl
                have ca := (HGR.out.trans HGW.out).cell HCA.out
                have cb := (HGR.out.trans HGW.out).cell HCBK.out
                have cl := (HGR.out.trans HGW.out).cell HLV.out
                have h1 := HLE.out
                have h2 := HNE.out
                have h3 := HW1.out
                obtain ⟨h4, h5, h6, h7⟩ := HK0.out
                have h8 : (0 : Int) ≤ (jk : Int) := by omega
                have h9 : (jk : Int) < (c.laws.length : Int) := by have := HL4.out; omega
                clear hR hGw
                simp only [depV]
                rintro _ rfl
                rintro _ rfl
                try go_simp
                all_goals first
                  | (with_reducible exact Grow.refl _)
                  | (with_reducible exact ⟨Grow.refl _, rfl⟩)
              · intro w5 hR
                have hGw : Grow wr w5 := hR.of_drew
                have HGW := Lib.hid hGw
                have cc := ((HGR.out.trans HGW.out).block HF4.out).cell
                have ck : w5.cell? ⟨w.heap.size + 1, 4, none⟩ = some (.int .i64 (jk : Nat)) := by
                  rw [((HGR.out.trans HGW.out).block HS4.out).cell 4, ← HKI.out]; rfl
                have ca := (HGR.out.trans HGW.out).cell HCA.out
                have cb := (HGR.out.trans HGW.out).cell HCBK.out
                have cl := (HGR.out.trans HGW.out).cell HLV.out
                have h1 := HLE.out
                have h2 := HNE.out
                have h3 := HW1.out
                obtain ⟨h4, h5, h6, h7⟩ := HK0.out
                have h8 : (0 : Int) ≤ (jk : Int) := by omega
                have h9 : (jk : Int) < (c.laws.length : Int) := by have := HL4.out; omega
                clear hR hGw
                simp only [depV]
                rintro _ rfl
                rintro _ rfl
                rintro _ rfl
                try go_simp
                all_goals first
                  | (with_reducible exact Grow.refl _)
                  | (with_reducible exact ⟨Grow.refl _, rfl⟩)
              · intro w5 hR
                have hGw : Grow wr w5 := hR.of_drew
                have HGW := Lib.hid hGw
                have cc := ((HGR.out.trans HGW.out).block HF4.out).cell
                have ck : w5.cell? ⟨w.heap.size + 1, 4, none⟩ = some (.int .i64 (jk : Nat)) := by
                  rw [((HGR.out.trans HGW.out).block HS4.out).cell 4, ← HKI.out]; rfl
                have ca := (HGR.out.trans HGW.out).cell HCA.out
                have cb := (HGR.out.trans HGW.out).cell HCBK.out
                have cl := (HGR.out.trans HGW.out).cell HLV.out
                have h1 := HLE.out
                have h2 := HNE.out
                have h3 := HW1.out
                obtain ⟨h4, h5, h6, h7⟩ := HK0.out
                have h8 : (0 : Int) ≤ (jk : Int) := by omega
                have h9 : (jk : Int) < (c.laws.length : Int) := by have := HL4.out; omega
                clear hR hGw
                simp only [depV]
                rintro _ rfl
                rintro _ rfl
                try go_simp
                all_goals first
                  | (with_reducible exact Grow.refl _)
                  | (with_reducible exact ⟨Grow.refl _, rfl⟩)
              · intro w5 hR
                have hGw : Grow wr w5 := hR.of_drew
                have HGW := Lib.hid hGw
                have cc := ((HGR.out.trans HGW.out).block HF4.out).cell
                have ck : w5.cell? ⟨w.heap.size + 1, 4, none⟩ = some (.int .i64 (jk : Nat)) := by
                  rw [((HGR.out.trans HGW.out).block HS4.out).cell 4, ← HKI.out]; rfl
                have ca := (HGR.out.trans HGW.out).cell HCA.out
                have cb := (HGR.out.trans HGW.out).cell HCBK.out
                have cl := (HGR.out.trans HGW.out).cell HLV.out
                have h1 := HLE.out
                have h2 := HNE.out
                have h3 := HW1.out
                obtain ⟨h4, h5, h6, h7⟩ := HK0.out
                have h8 : (0 : Int) ≤ (jk : Int) := by omega
                have h9 : (jk : Int) < (c.laws.length : Int) := by have := HL4.out; omega
                clear hR hGw
                simp only [depV]
                rintro _ rfl
                try go_simp
                all_goals first
                  | (with_reducible exact Grow.refl _)
                  | (with_reducible exact ⟨Grow.refl _, rfl⟩)
              · intro w5 hR
                have hGw : Grow wr w5 := hR.of_drew
                have HGW := Lib.hid hGw
                have cc := ((HGR.out.trans HGW.out).block HF4.out).cell
                have ck : w5.cell? ⟨w.heap.size + 1, 4, none⟩ = some (.int .i64 (jk : Nat)) := by
                  rw [((HGR.out.trans HGW.out).block HS4.out).cell 4, ← HKI.out]; rfl
                have ca := (HGR.out.trans HGW.out).cell HCA.out
                have cb := (HGR.out.trans HGW.out).cell HCBK.out
                have cl := (HGR.out.trans HGW.out).cell HLV.out
                have h1 := HLE.out
                have h2 := HNE.out
                have h3 := HW1.out
                obtain ⟨h4, h5, h6, h7⟩ := HK0.out
                have h8 : (0 : Int) ≤ (jk : Int) := by omega
                have h9 : (jk : Int) < (c.laws.length : Int) := by have := HL4.out; omega
                clear hR hGw
                simp only [depV]
                rintro _ rfl
                try go_simp
                all_goals first
                  | (with_reducible exact Grow.refl _)
                  | (with_reducible exact ⟨Grow.refl _, rfl⟩)
              · intro w5 hR
                have hGw : Grow wr w5 := hR.of_drew
                have HGW := Lib.hid hGw
                have cc := ((HGR.out.trans HGW.out).block HF4.out).cell
                have ck : w5.cell? ⟨w.heap.size + 1, 4, none⟩ = some (.int .i64 (jk : Nat)) := by
                  rw [((HGR.out.trans HGW.out).block HS4.out).cell 4, ← HKI.out]; rfl
                have ca := (HGR.out.trans HGW.out).cell HCA.out
                have cb := (HGR.out.trans HGW.out).cell HCBK.out
                have cl := (HGR.out.trans HGW.out).cell HLV.out
                have h1 := HLE.out
                have h2 := HNE.out
                have h3 := HW1.out
                obtain ⟨h4, h5, h6, h7⟩ := HK0.out
                have h8 : (0 : Int) ≤ (jk : Int) := by omega
                have h9 : (jk : Int) < (c.laws.length : Int) := by have := HL4.out; omega
                clear hR hGw
                simp only [depV]
                rintro _ rfl
                rintro _ rfl
                rintro _ rfl
                try go_simp
                all_goals first
                  | (with_reducible exact Grow.refl _)
                  | (with_reducible exact ⟨Grow.refl _, rfl⟩)
              · intro w5 hR
                have hGw : Grow wr w5 := hR.of_drew
                have HGW := Lib.hid hGw
                have cc := ((HGR.out.trans HGW.out).block HF4.out).cell
                have ck : w5.cell? ⟨w.heap.size + 1, 4, none⟩ = some (.int .i64 (jk : Nat)) := by
                  rw [((HGR.out.trans HGW.out).block HS4.out).cell 4, ← HKI.out]; rfl
                have ca := (HGR.out.trans HGW.out).cell HCA.out
                have cb := (HGR.out.trans HGW.out).cell HCBK.out
                have cl := (HGR.out.trans HGW.out).cell HLV.out
                have h1 := HLE.out
                have h2 := HNE.out
                have h3 := HW1.out
                obtain ⟨h4, h5, h6, h7⟩ := HK0.out
                have h8 : (0 : Int) ≤ (jk : Int) := by omega
                have h9 : (jk : Int) < (c.laws.length : Int) := by have := HL4.out; omega
                clear hR hGw
                simp only [depV]
                rintro _ rfl
                rintro _ rfl
                try go_simp
                all_goals first
                  | (with_reducible exact Grow.refl _)
                  | (with_reducible exact ⟨Grow.refl _, rfl⟩)
              · intro w5 hR
                have hGw : Grow wr w5 := hR.of_drew
                have HGW := Lib.hid hGw
                have cc := ((HGR.out.trans HGW.out).block HF4.out).cell
                have ck : w5.cell? ⟨w.heap.size + 1, 4, none⟩ = some (.int .i64 (jk : Nat)) := by
                  rw [((HGR.out.trans HGW.out).block HS4.out).cell 4, ← HKI.out]; rfl
                have ca := (HGR.out.trans HGW.out).cell HCA.out
                have cb := (HGR.out.trans HGW.out).cell HCBK.out
                have cl := (HGR.out.trans HGW.out).cell HLV.out
                have h1 := HLE.out
                have h2 := HNE.out
                have h3 := HW1.out
                obtain ⟨h4, h5, h6, h7⟩ := HK0.out
                have h8 : (0 : Int) ≤ (jk : Int) := by omega
                have h9 : (jk : Int) < (c.laws.length : Int) := by have := HL4.out; omega
                clear hR hGw
                simp only [depV]
                rintro _ rfl
                rintro _ rfl
                rintro _ rfl
                rintro _ rfl
                rintro _ rfl
                rintro _ rfl
                try go_simp
                refine (HJN.out _ (HGR.out.trans HGW.out)).mono ?_
                rintro e w6 ⟨rfl, hg6⟩
                exact ⟨hg6, rfl⟩
              · intro w5 hR
                have hGw : Grow wr w5 := hR.of_drew
                have HGW := Lib.hid hGw
                have cc := ((HGR.out.trans HGW.out).block HF4.out).cell
                have ck : w5.cell? ⟨w.heap.size + 1, 4, none⟩ = some (.int .i64 (jk : Nat)) := by
                  rw [((HGR.out.trans HGW.out).block HS4.out).cell 4, ← HKI.out]; rfl
                have ca := (HGR.out.trans HGW.out).cell HCA.out
                have cb := (HGR.out.trans HGW.out).cell HCBK.out
                have cl := (HGR.out.trans HGW.out).cell HLV.out
                have h1 := HLE.out
                have h2 := HNE.out
                have h3 := HW1.out
                obtain ⟨h4, h5, h6, h7⟩ := HK0.out
                have h8 : (0 : Int) ≤ (jk : Int) := by omega
                have h9 : (jk : Int) < (c.laws.length : Int) := by have := HL4.out; omega
                clear hR hGw
                simp only [depV]
                rintro _ rfl
                rintro _ rfl
                try go_simp
                all_goals first
                  | (with_reducible exact Grow.refl _)
                  | (with_reducible exact ⟨Grow.refl _, rfl⟩)
              · intro w5 hR
                have hGw : Grow wr w5 := hR.of_drew
                have HGW := Lib.hid hGw
                have cc := ((HGR.out.trans HGW.out).block HF4.out).cell
                have ck : w5.cell? ⟨w.heap.size + 1, 4, none⟩ = some (.int .i64 (jk : Nat)) := by
                  rw [((HGR.out.trans HGW.out).block HS4.out).cell 4, ← HKI.out]; rfl
                have ca := (HGR.out.trans HGW.out).cell HCA.out
                have cb := (HGR.out.trans HGW.out).cell HCBK.out
                have cl := (HGR.out.trans HGW.out).cell HLV.out
                have h1 := HLE.out
                have h2 := HNE.out
                have h3 := HW1.out
                obtain ⟨h4, h5, h6, h7⟩ := HK0.out
                have h8 : (0 : Int) ≤ (jk : Int) := by omega
                have h9 : (jk : Int) < (c.laws.length : Int) := by have := HL4.out; omega
                clear hR hGw
                simp only [depV]
                rintro _ rfl
                rintro _ rfl
                try go_simp
                all_goals first
                  | (with_reducible exact Grow.refl _)
                  | (with_reducible exact ⟨Grow.refl _, rfl⟩)
            · intro w5 hR
              have HG5 : Hid (Grow wr w5) := Lib.hid hR.of_drew
              clear hR
              simp only [finVC, List.take_succ_cons, List.take_zero, List.drop_succ_cons, List.drop_zero]
              rintro _ rfl
              rintro _ rfl
              rintro _ rfl
              rintro _ rfl
              rintro _ rfl
              rintro _ rfl
              rintro _ rfl
              rintro _ rfl
              rintro _ rfl
              rintro _ rfl
              rintro _ rfl
              rintro _ rfl
              rintro _ rfl
              rintro _ rfl
              rintro _ rfl
              rintro _ rfl
              rintro _ rfl
              rintro _ rfl
              rintro _ rfl
              rintro _ rfl
              rintro _ rfl
              rintro _ rfl
              rintro _ rfl
              rintro _ rfl
              rintro _ rfl
              rintro _ rfl
              rintro _ rfl
              rintro _ rfl
              rintro _ rfl
              rintro _ rfl
              rintro _ rfl
              rintro _ rfl
              rintro _ rfl
              rintro _ rfl
              rintro _ rfl
              rintro _ rfl
              simp only [Act.put, List.setIfInBounds_toArray, List.set_cons_succ, List.set_cons_zero]
              simp only [wpList]
              have hm5 := HM5.out
              go_wp2
              go_roundw
              case rel => exact ⟨k + 1, by omega, by omega, by go_num, HGR.out.trans HG5.out⟩
              case measure => simp [intOf]; omega
          · obtain rfl : k = m := by omega
            have hcc9 := (HGR.out.block HF4.out).cell
            have hjc9 := (HGR.out.block HS4.out).cell
            go_upto_region 17 with fail
            obtain ⟨w5, hw5, hg5, hf5, hz5⟩ := one_block wr 27 (cellsJ j)
            rw [hw5]
            have HG5 := Lib.hid hg5
            have HK5 := Lib.hid hf5
            have HF5 := Lib.hid (hg5.block (HGR.out.block HF4.out))
            have HS5 := Lib.hid (hg5.block (HGR.out.block HS4.out))
            have kc5 := hf5.cell
            have kf5 := hf5.frozen
            have fc5 := HF5.out.cell
            have jc5 := HS5.out.cell
            have hwb := HF4.out.lt
            have hwb1 := HS4.out.lt
            have hwr := HGR.out.size
            have hne1 : wr.heap.size ≠ w.heap.size := by omega
            have hne2 : wr.heap.size ≠ w.heap.size + 1 := by omega
            clear hw5 hg5 hf5 hz5 hcc9 hjc9 hwb hwb1 hwr
            go_region
            obtain ⟨w6, hw6, k6, hg6⟩ : ∃ W6, ((w5.setCell ⟨wr.heap.size, 0, none⟩ (.int .i64 j.dest)).setCell ⟨wr.heap.size, 1, none⟩ (.int .i64 j.fr)).drew = W6 ∧ BlockIs W6 wr.heap.size 27 (cellsJ (flipJ j)) ∧ Grow wr W6 := ⟨_, rfl, (HK5.out.near 0 (.int .i64 j.dest)).near 1 (.int .i64 j.fr), (((show Below wr.heap.size wr w5 from HG5.out).setCell (p := ⟨wr.heap.size, 0, none⟩) (by simp) (.int .i64 j.dest)).setCell (p := ⟨wr.heap.size, 1, none⟩) (by simp) (.int .i64 j.fr)).drew⟩
            rw [hw6]
            have HG6 : Hid (Grow w4 w6) := Lib.hid (HGR.out.trans hg6)
            have HF6 := Lib.hid (HG6.out.block HF4.out)
            have HS6 := Lib.hid (HG6.out.block HS4.out)
            have kc6 := k6.cell
            have fc6 := HF6.out.cell
            have HCF : Hid (∀ w0, Grow w4 w0 → Calls Try.prog 19 #[.agg #[.int .i64 c.languages, .slice c.pa c.people.length c.pc, .slice (some ⟨lb, lo, none⟩) c.laws.length c.wc], jobV (flipJ j), .int .i64 (t : Nat)] w0 fun e w' => ∃ A cap, e = .returned (.tuple #[.slice A k cap, .int .i64 0]) ∧ Below w0.heap.size w0 w') := Lib.hid (fun w0 hw => by
              obtain ⟨l', hl', hlen⟩ := HFB.out
              have h := HCC.out (flipJ j) t w0 hw
              have e := chE_team (j := flipJ j) (by rw [flip_err]; exact HE0.out) HTP.out
              rw [e.1, e.2, hl', show (if (some l' : Option (List Nat)) = none then (3 : Int) else 0) = 0 from if_neg (by simp)] at h
              refine h.mono ?_
              rintro e' w' ⟨A, cap, rfl, _, hb⟩
              exact ⟨A, cap, by rw [← HM.out, ← hlen]; rfl, hb⟩)
            have HCM : Hid (∀ pw, t ||| pw < 2 ^ c.people.length → ∀ w0, Grow w4 w0 → Calls Try.prog 19 #[.agg #[.int .i64 c.languages, .slice c.pa c.people.length c.pc, .slice (some ⟨lb, lo, none⟩) c.laws.length c.wc], jobV j, .int .i64 ((t ||| pw : Nat) : Int)] w0 fun e w' => ∃ A q cap, e = .returned (.tuple #[.slice A q cap, .int .i64 0]) ∧ q ≤ k ∧ Below w0.heap.size w0 w') := Lib.hid (fun pw hpw w0 hw => by
              obtain ⟨l', hl', hlen⟩ := HMB.out pw
              have h := HCC.out j (t ||| pw) w0 hw
              have e := chE_team (j := j) HE0.out hpw
              rw [e.1, e.2, hl', show (if (some l' : Option (List Nat)) = none then (3 : Int) else 0) = 0 from if_neg (by simp)] at h
              refine h.mono ?_
              rintro e' w' ⟨A, cap, rfl, _, hb⟩
              exact ⟨A, l'.length, cap, rfl, by rw [← HM.out]; exact hlen, hb⟩)
            clear hw6 k6 hg6 kc5 kf5 fc5 jc5 hne1 hne2 HK5 HG5 HF5 HS5 HCC HFB HMB
            go_wp2_with fail
            refine (HCF.out w6 HG6.out).mono ?_
            rintro e w7 ⟨A2, p2, rfl, hb7⟩
            have HG7 : Hid (Grow w4 w7) := Lib.hid (HG6.out.trans hb7)
            have fc7 := (HG7.out.block HF4.out).cell
            have jc7 := (HG7.out.block HS4.out).cell
            have hq : ((k : Int) != (k : Int)) = false := by simp
            clear hb7 kc6 fc6 HCF HF6 HS6 HG6
            by_cases hm0 : more < 0
            · have d1 : decide (more < 0) = true := decide_eq_true hm0
              go_wp2_with fail
              refine (works_any _).mono ?_
              rintro e w8 ⟨rfl, hb8⟩
              have HG8 : Hid (Grow w w8) := Lib.hid (HG4.out.trans (HG7.out.trans hb8))
              clear hb8
              go_wp2
              go_ret
              exact ⟨rfl, HG8.out⟩
            · have d1 : decide (more < 0) = false := decide_eq_false hm0
              by_cases hm1 : (c.people.length : Int) ≤ more
              · have d2 : decide ((c.people.length : Int) ≤ more) = true := decide_eq_true hm1
                go_wp2_with fail
                refine (works_any _).mono ?_
                rintro e w8 ⟨rfl, hb8⟩
                have HG8 : Hid (Grow w w8) := Lib.hid (HG4.out.trans (HG7.out.trans hb8))
                clear hb8
                go_wp2
                go_ret
                exact ⟨rfl, HG8.out⟩
              · have d2 : decide ((c.people.length : Int) ≤ more) = false := decide_eq_false hm1
                go_upto_region 23 with fail
                clear d1 d2
                obtain ⟨mm, rfl⟩ : ∃ z : Nat, more = (z : Int) := ⟨more.toNat, by omega⟩
                have hmp : mm < c.people.length := by omega
                have hl5 := HL5.out
                have hcv : IntKind.u64.wrap (mm : Int) = (mm : Int) := IntWalk.u64_in _ (by omega)
                have hr0 : (0 : Int) ≤ (mm : Int) := by omega
                have hr64 : mm ≤ 64 := by omega
                have hpl : 2 ^ mm < 2 ^ c.people.length := Nat.pow_lt_pow_right (by omega) hmp
                have hp32 : 2 ^ c.people.length ≤ 32 := Nat.pow_le_pow_right (n := 2) (by omega) hl5
                have hpI : ((2 : Int) ^ mm) = ((2 ^ mm : Nat) : Int) := (Int.natCast_pow 2 mm).symm
                have HOL : Hid (t ||| 2 ^ mm < 2 ^ c.people.length) := Lib.hid (Nat.or_lt_two_pow HTP.out hpl)
                obtain ⟨pw, hpw⟩ : ∃ z, 2 ^ mm = z := ⟨_, rfl⟩
                rw [hpw] at hpI HOL hpl
                have hshl : IntKind.i64.wrap ((2 : Int) ^ mm) = (pw : Int) := by
                  rw [hpI]
                  exact IntWalk.i64_in _ (by omega)
                have hor := or_i64 t pw (by have := HT1.out; omega) (by omega)
                have HCM1 := Lib.hid (HCM.out pw HOL.out)
                obtain ⟨tp, htp⟩ : ∃ z, t ||| pw = z := ⟨_, rfl⟩
                rw [htp] at hor HCM1
                clear hpI hpw hpl hp32 hmp hm0 hm1 HOL HCM htp hl5
                go_wp2_with fail
                refine (HCM1.out w7 HG7.out).mono ?_
                rintro e w8 ⟨A3, q, p3, rfl, hq8, hb8⟩
                have HG8 : Hid (Grow w w8) := Lib.hid (HG4.out.trans (HG7.out.trans hb8))
                have d3 : decide ((q : Int) ≤ (k : Int)) = true := decide_eq_true (by omega)
                have d4 : decide (q ≤ k) = true := decide_eq_true hq8
                clear hb8 fc7 jc7 hor hshl hcv hr0 hr64 HCM1 hq
                go_wp2_with fail
                refine (works_any _).mono ?_
                rintro e w9 ⟨rfl, hb9⟩
                have HG9 : Hid (Grow w w9) := Lib.hid (HG8.out.trans hb9)
                clear hb9
                go_wp2
                go_ret
                exact ⟨rfl, HG9.out⟩

end Go.Proofs.Yticeekkfdkfcgaa
