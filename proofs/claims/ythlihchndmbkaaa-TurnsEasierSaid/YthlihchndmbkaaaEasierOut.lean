/- EasierOut: the walk of TurnsEasier. -/
import Derived.Test.YthlihchndmbkaaaEasierE
namespace Go.Proofs.Ythlihchndmbkaaa
open Go.RowKit

set_option maxRecDepth 100000 in
set_option maxHeartbeats 32000000 in
theorem easier_out (t : TaskR) (xs : List Int) (A1 : Option Addr) (c1 : Nat) (xh xs0 xt xe xsl xl xr : Int) (w : World) (ht : TaskAt w w.heap.size t) (h1 : Ints w w.heap.size A1 xs) (hc : xs.length ≤ c1) (hv : validD t.d = true) (hl : xs.length ≤ 20) (hr : okRota t.d xs = true) (hx : okEase ⟨xh, xs0, xt, xe, xsl, xl, xr⟩ = true) (hin : ¬ (0 ≤ xh ∧ xh < (t.d.hands.length : Int))) :
    Calls Try.prog 5 #[taskV t, .slice A1 xs.length c1, easeV ⟨xh, xs0, xt, xe, xsl, xl, xr⟩] w fun e w' => e = .returned (.bool true) ∧ Below w.heap.size w w' := by
  have HWK := Lib.hid works_any
  have HVA := Lib.hid (fun (w0 : World) (hw : Grow w w0) => valid_any t w.heap.size w0 (ht.below hw) hw.size)
  rw [hv] at HVA
  have hgt : decide ((20 : Int) < (xs.length : Int)) = false := decide_eq_false (by omega)
  have hgn : decide (20 < xs.length) = false := decide_eq_false (by omega)
  have HIR := Lib.hid (fun (w0 : World) (hw : Grow w w0) => isRota_any t xs A1 c1 w.heap.size w0 (h1.below hw) hw.size hl (okTask_parts (validD_iff.1 hv).1).1.2)
  rw [hr] at HIR

  have HMT := Lib.hid (fun (w0 : World) (hw : Grow w w0) => mistakes_any t xs A1 c1 w.heap.size w0 (ht.below hw) (h1.below hw) hw.size)
  have HRT := Lib.hid (fun (w0 : World) (hw : Grow w w0) => rightApi_any t xs A1 c1 w.heap.size w0 (ht.below hw) (h1.below hw) hw.size hc)
  have HPT := Lib.hid (fun (w0 : World) (hw : Grow w w0) => planApi_any t w.heap.size w0 (ht.below hw) hw.size)
  have HMU := Lib.hid (fun (u : TaskR) (w0 : World) (hw : Grow w w0) (hu : TaskAt w0 w0.heap.size u) => mistakes_any u xs A1 c1 _ w0 hu ((h1.below hw).more hw.size) (Nat.le_refl _))
  have HRU := Lib.hid (fun (u : TaskR) (w0 : World) (hw : Grow w w0) (hu : TaskAt w0 w0.heap.size u) => rightApi_any u xs A1 c1 _ w0 hu ((h1.below hw).more hw.size) (Nat.le_refl _) hc)
  have HPU := Lib.hid (fun (u : TaskR) (w0 : World) (hu : TaskAt w0 w0.heap.size u) => planApi_any u _ w0 hu (Nat.le_refl _))
  have hk := (validD_iff.1 hv).1
  have hp6 := (validD_iff.1 hv).2
  have hparts := okTask_parts hk
  have HCP := Lib.hid (fun (w0 : World) (hw : Grow w w0) => rCopy_any t w.heap.size w0 (ht.below hw) hw.size (by omega) (by omega))
  have HEF := Lib.hid (easier_facts hx hk hr)
  have hxp := okEase_parts hx
  dsimp only at hxp
  have HXP := Lib.hid hxp
  have HOK := Lib.hid hk
  have HUK := Lib.hid (easeT_ok hx hk)
  have hn1 := hparts.1.1
  have hp1 := hparts.2.2.1.1
  have HPB := Lib.hid hparts
  have HLR : Hid ((1 ≤ t.d.limit ∧ t.d.limit ≤ 10) ∧ 1 ≤ t.d.rest ∧ t.d.rest ≤ 10) := ⟨hparts.2.2.2.2.1, hparts.2.2.2.2.2.1⟩
  have d0 : decide (xs0 < 0) = false := decide_eq_false (by omega)
  have d1 : decide (100 < xs0) = false := decide_eq_false (by omega)
  have d2 : decide (xt < 0) = false := decide_eq_false (by omega)
  have d3 : decide (20 < xt) = false := decide_eq_false (by omega)
  have d4 : decide (xe < 0) = false := decide_eq_false (by omega)
  have d5 : decide (20 < xe) = false := decide_eq_false (by omega)
  have d6 : decide (xsl < 0) = false := decide_eq_false (by omega)
  have d7 : decide (100 < xsl) = false := decide_eq_false (by omega)
  have d8 : decide (xl < 0) = false := decide_eq_false (by omega)
  have d9 : decide (10 < xl) = false := decide_eq_false (by omega)
  have d10 : decide (xr < 0) = false := decide_eq_false (by omega)
  have d11 : decide (10 < xr) = false := decide_eq_false (by omega)
  clear ht h1 hc hv hl hr hx hk hp6 hparts hxp
  go_enter Try.func5, Try.ntmps5
  go_upto_region 1 with fail
  obtain ⟨W, hW, hg, hf, hx, hsz⟩ := two_blocks w 25 49 (cellsT t) (cellsZ ⟨xh, xs0, xt, xe, xsl, xl, xr⟩)
  rw [hW]
  clear hW
  have hcc := hf.cell
  have HG := Lib.hid hg
  have HF := Lib.hid hf
  have HX := Lib.hid hx
  clear hg hf hx
  go_wp2_with fail
  refine (HVA.out _ HG.out).mono ?_
  rintro e w2 ⟨rfl, hb2⟩
  have HG2 : Hid (Grow W w2) := hb2
  clear hcc hb2
  have hcc := (HG2.out.block HF.out).cell
  go_wp2_with fail
  refine (HIR.out _ (HG.out.trans HG2.out)).mono ?_
  rintro e w4 ⟨rfl, hb4⟩
  have HG4 : Hid (Grow W w4) := HG2.out.trans hb4
  clear hcc hb4
  have hcc := (HG4.out.block HF.out).cell
  have hxc := (HG4.out.block HX.out).cell
  go_wp2_with fail
  refine (HCP.out _ (HG.out.trans HG4.out)).mono ?_
  rintro e w5 ⟨A5, ca5, B5, cb5, lo5, rfl, hT5, ⟨hq5, hlo5⟩, hI5, hb5⟩
  have HG5 : Hid (Grow W w5) := HG4.out.trans hb5
  have hz45 := hb5.size
  have hzW := HG4.out.size
  have hlo5' : lo5 ≤ w5.heap.size := by
    rcases hI5.1 with h | ⟨b', _, _, h1, h2, _⟩
    · rw [h] at hp1; simp at hp1
    · omega
  obtain ⟨b, cs, hA5, hlb, hB5, hC5⟩ : ∃ b cs, A5 = some ⟨b, 0, none⟩ ∧ w4.heap.size ≤ b ∧ BlockIs w5 b 52 cs ∧ HandsIn cs t.d.hands := by
    rcases hT5.block with h | h
    · rw [h] at hn1; simp at hn1
    · exact h
  subst hA5
  have hblo : b < lo5 := hq5 b rfl
  have hb5lt := hB5.lt
  have HC5 := Lib.hid hC5
  have HB5 := Lib.hid hB5
  have HI5 := Lib.hid hI5
  clear hcc hxc hb5 hT5 hq5 hI5 hC5 hB5 d0 d1 d2 d3 d4 d5 d6 d7 d8 d9 d10 d11 hgt hgn
  go_upto_region 4 with fail
  obtain ⟨W6, hW6, hg6, hu6, hsz6⟩ := one_block w5 25 (cellsT ⟨t.d, some ⟨b, 0, none⟩, ca5, B5, cb5⟩)
  rw [hW6]
  clear hW6
  obtain ⟨bu, ebu⟩ : ∃ q, w5.heap.size = q := ⟨_, rfl⟩
  have hI6 : IntsL W6 lo5 bu B5 t.d.parts := (show IntsL w5 lo5 bu B5 t.d.parts by rw [← ebu]; exact HI5.out.toL).below (Below.mono hg6 (Nat.le_of_eq ebu.symm))
  rw [ebu] at hu6 hsz6 hb5lt hz45 hlo5' ⊢
  have hE : EnvE w W6 t ⟨xh, xs0, xt, xe, xsl, xl, xr⟩ ⟨t.d, some ⟨b, 0, none⟩, ca5, B5, cb5⟩ w.heap.size (w.heap.size + 1) bu b lo5 cs :=
    ⟨HG.out.trans (HG5.out.trans hg6), by omega, by omega, (HG5.out.trans hg6).block HF.out, (HG5.out.trans hg6).block HX.out, hu6, hg6.block HB5.out, by omega, hI6⟩
  have HE := Lib.hid hE
  have hubw : w4.heap.size ≤ bu := by omega
  obtain ⟨bx, hbx⟩ : ∃ q, w.heap.size + 1 = q := ⟨_, rfl⟩
  obtain ⟨bt, hbt⟩ : ∃ q, w.heap.size = q := ⟨_, rfl⟩
  rw [hbx] at HE ⊢
  rw [hbt] at HE ⊢
  have hltx : bx < bu := by omega
  have hltt : bt < bu := by omega
  clear hg6 hu6 hI6 hE HI5 HB5 HG5 HF HX hlo5 hlb hb5lt hblo hz45 hsz6 hbx hbt ebu hlo5' hubw hzW hsz HIR HVA HCP HG2 HG4
  have huc := HE.out.ub.cell
  have hxc := HE.out.xb.cell
  have hn6 := HE.out.tb
  have HTB := Lib.hid hn6
  clear hn6
  go_cut [112] (fun v wx => v = .bool false ∧ W6 = wx)
  case first => as_aux_lemma =>
    by_cases ch : 0 ≤ xh
    · have dh : decide (0 ≤ xh) = true := decide_eq_true ch
      have dl : decide (xh < (t.d.hands.length : Int)) = false := decide_eq_false (fun h => hin ⟨ch, h⟩)
      clear hin ch
      go_wp2
      go_meet
      exact ⟨rfl, rfl⟩
    · have dh : decide (0 ≤ xh) = false := decide_eq_false ch
      clear hin ch
      go_wp2
      go_meet
      exact ⟨rfl, rfl⟩
  case rest => as_aux_lemma =>
    obtain ⟨rfl, rfl⟩ := hcut
    obtain ⟨hh, hhe⟩ : ∃ hh, t.d.hands = hh := ⟨_, rfl⟩
    have HUD : Hid (easeT t.d ⟨xh, xs0, xt, xe, xsl, xl, xr⟩ = ⟨hh, t.d.parts, min 10 (t.d.limit + xl), max 1 (t.d.rest - xr), t.d.swap⟩) := Lib.hid (by
      rw [← hhe]
      unfold easeT easeHs
      dsimp only
      split
      · rename_i h0
        split
        · rename_i y hy
          exact absurd ⟨h0, by have := lt_of_at hy; omega⟩ hin
        · rfl
      · rfl)
    have HCN : Hid (HandsIn cs hh) := Lib.hid (by rw [← hhe]; exact HC5.out)
    have HE2 : Hid (EnvE w W6 t ⟨xh, xs0, xt, xe, xsl, xl, xr⟩ ⟨⟨hh, t.d.parts, t.d.limit, t.d.rest, t.d.swap⟩, some ⟨b, 0, none⟩, ca5, B5, cb5⟩ bt bx bu b lo5 cs) := Lib.hid (by rw [← hhe]; exact HE.out)
    clear hhe HE HC5 HTB huc hxc hin
    have HE := HE2
    clear HE2
    obtain ⟨lim, hlim⟩ : ∃ q, t.d.limit = q := ⟨_, rfl⟩
    obtain ⟨rst, hrst⟩ : ∃ q, t.d.rest = q := ⟨_, rfl⟩
    obtain ⟨⟨hl1, hl2⟩, hr1, hr2⟩ := HLR.out
    rw [hlim] at hl1 hl2
    rw [hrst] at hr1 hr2
    obtain ⟨_, _, _, _, ⟨hxl1, hxl2⟩, hxr1, hxr2⟩ := HXP.out
    have HET := HE
    clear HE
    rw [hlim, hrst] at HET
    have huc := HET.out.ub.cell
    have huf := HET.out.ub.frozen
    have hxc := HET.out.xb.cell
    go_upto_region 11 with fail
    go_cut [] (fun wx => EnvE w wx t ⟨xh, xs0, xt, xe, xsl, xl, xr⟩ ⟨⟨hh, t.d.parts, min 10 (lim + xl), rst, t.d.swap⟩, some ⟨b, 0, none⟩, ca5, B5, cb5⟩ bt bx bu b lo5 cs)
    case first => as_aux_lemma =>
      go_wp2
      all_goals
        go_meet
        exact HET.out.task 2 _ ⟨⟨hh, t.d.parts, min 10 (lim + xl), rst, t.d.swap⟩, some ⟨b, 0, none⟩, ca5, B5, cb5⟩ (task_put2 (by clear HET; (try unfold wrap64 at *); omega)) rfl rfl
    case rest => as_aux_lemma =>
      have HE11 := Lib.hid hcut
      clear hcut huc huf hxc HET
      have huc := HE11.out.ub.cell
      have huf := HE11.out.ub.frozen
      have hxc := HE11.out.xb.cell
      go_upto_region 12 with fail
      go_cut [] (fun wx => EnvE w wx t ⟨xh, xs0, xt, xe, xsl, xl, xr⟩ ⟨⟨hh, t.d.parts, min 10 (lim + xl), max 1 (rst - xr), t.d.swap⟩, some ⟨b, 0, none⟩, ca5, B5, cb5⟩ bt bx bu b lo5 cs)
      case first => as_aux_lemma =>
        go_wp2
        all_goals
          go_meet
          exact HE11.out.task 3 _ ⟨⟨hh, t.d.parts, min 10 (lim + xl), max 1 (rst - xr), t.d.swap⟩, some ⟨b, 0, none⟩, ca5, B5, cb5⟩ (task_put3 (by clear HE11; (try unfold wrap64 at *); omega)) rfl rfl
      case rest => as_aux_lemma =>
        have HE12 := Lib.hid hcut
        clear hcut huc huf hxc HE11
        obtain ⟨ud, hud⟩ : ∃ q : TaskD, (⟨hh, t.d.parts, min 10 (lim + xl), max 1 (rst - xr), t.d.swap⟩ : TaskD) = q := ⟨_, rfl⟩
        have hhd : ud.hands = hh := by rw [← hud]
        have hef := HEF.out
        have huk := HUK.out
        rw [HUD.out, hlim, hrst, hud] at hef huk
        rw [hud] at HE12
        have HCU : Hid (HandsIn cs ud.hands) := Lib.hid (by rw [hhd]; exact HCN.out)
        obtain ⟨⟨a, b', c, d, m1, m2, hca, hdb⟩, ⟨r, s, r1, r2, hrs⟩, hpl⟩ := hef
        have HMU1 := Lib.hid (HMU.out ⟨ud, some ⟨b, 0, none⟩, ca5, B5, cb5⟩)
        have HRU1 := Lib.hid (HRU.out ⟨ud, some ⟨b, 0, none⟩, ca5, B5, cb5⟩)
        have HPU1 := Lib.hid (HPU.out ⟨ud, some ⟨b, 0, none⟩, ca5, B5, cb5⟩)
        rw [m1] at HMT
        rw [m2] at HMU1
        rw [r1] at HRT
        rw [r2] at HRU1
        have dca : decide (a < c) = false := decide_eq_false (by omega)
        have ddb : decide (b' < d) = false := decide_eq_false (by omega)
        have HRS := Lib.hid hrs
        have HPL := Lib.hid hpl
        have HPTV : Hid (∀ {lo v m er w}, PlanApiV t.d lo v m er w → ∃ A l c, v = .slice A l c ∧ ((m = .int .i64 0 ∧ er = 3) ∨ ∃ k, m = .int .i64 k ∧ er = 0 ∧ ∃ zs n, planD ud = some (zs, n) ∧ n ≤ k)) := fun h => by
          unfold PlanApiV at h
          rw [if_pos HOK.out] at h
          cases hp : planD t.d with
          | none => rw [hp] at h; obtain ⟨h1, h2, h3⟩ := h; exact ⟨_, _, _, h1, .inl ⟨h2, h3⟩⟩
          | some p => rw [hp] at h; obtain ⟨_, _, _, h1, _, h2, h3⟩ := h; exact ⟨_, _, _, h1, .inr ⟨_, h2, h3, HPL.out p.1 p.2 hp⟩⟩
        have HPUV : Hid (∀ {lo v m er w}, PlanApiV ud lo v m er w → ∃ A l c, v = .slice A l c ∧ ((planD ud = none ∧ m = .int .i64 0 ∧ er = 3) ∨ ∃ zs n, planD ud = some (zs, n) ∧ m = .int .i64 n ∧ er = 0)) := fun h => by
          unfold PlanApiV at h
          rw [if_pos huk] at h
          cases hp : planD ud with
          | none => rw [hp] at h; obtain ⟨h1, h2, h3⟩ := h; exact ⟨_, _, _, h1, .inl ⟨rfl, h2, h3⟩⟩
          | some p => rw [hp] at h; obtain ⟨_, _, _, h1, _, h2, h3⟩ := h; exact ⟨_, _, _, h1, .inr ⟨p.1, p.2, rfl, h2, h3⟩⟩
        clear hud hhd huk m1 m2 hca hdb r1 r2 hrs hpl hlim hrst hl1 hl2 hr1 hr2 hxl1 hxl2 hxr1 hxr2 HEF HUK HUD HMU HRU HPU HCN HXP HLR
        have htc := HE12.out.tb.cell
        go_upto_region 13 with fail
        go_wp2_with fail
        refine (HMT.out _ HE12.out.grow).mono ?_
        rintro e w15 ⟨rfl, hb⟩
        have HE15 := Lib.hid (HE12.out.go hb)
        clear hb htc HE12
        have huc := HE15.out.ub.cell
        go_wp2_with fail
        refine (HMU1.out _ HE15.out.grow (HE15.out.taskAt rfl HCU.out)).mono ?_
        rintro e w16 ⟨rfl, hb⟩
        have HE16 := Lib.hid (HE15.out.go hb)
        clear hb huc HE15
        have htc := HE16.out.tb.cell
        go_wp2_with fail
        refine (HRT.out _ HE16.out.grow).mono ?_
        rintro e w17 ⟨rfl, hb⟩
        have HE17 := Lib.hid (HE16.out.go hb)
        clear hb htc HE16
        have huc := HE17.out.ub.cell
        go_wp2_with fail
        refine (HRU1.out _ HE17.out.grow (HE17.out.taskAt rfl HCU.out)).mono ?_
        rintro e w18 ⟨rfl, hb⟩
        have HE18 := Lib.hid (HE17.out.go hb)
        clear hb huc HE17
        go_upto_region 17 with fail
        go_cut [250] (fun v wx => v = .bool false ∧ w18 = wx)
        case first => as_aux_lemma =>
          cases r
          · go_wp2
            go_meet
            exact ⟨rfl, rfl⟩
          · obtain rfl : s = true := HRS.out rfl
            go_wp2
            go_meet
            exact ⟨rfl, rfl⟩
        case rest => as_aux_lemma =>
          obtain ⟨rfl, rfl⟩ := hcut
          have htc := HE18.out.tb.cell
          clear HRS dca ddb
          go_wp2_with fail
          refine (HPT.out _ HE18.out.grow).mono ?_
          rintro e w19 ⟨v1, mv1, er1, rfl, hpv1, hb⟩
          have HE19 := Lib.hid (HE18.out.go hb)
          clear hb htc HE18
          have huc := HE19.out.ub.cell
          obtain ⟨Aq, lq, cq, rfl, hq⟩ := HPTV.out hpv1
          have HQ := Lib.hid hq
          clear hpv1 hq
          have hm1 : ∃ q, mv1 = .int .i64 q := by
            rcases HQ.out with h | ⟨q, h, _⟩
            · exact ⟨_, h.1⟩
            · exact ⟨_, h⟩
          obtain ⟨q1, rfl⟩ := hm1
          go_wp2_with fail
          refine (HPU1.out _ (HE19.out.taskAt rfl HCU.out)).mono ?_
          rintro e w20 ⟨v2, mv2, er2, rfl, hpv2, hb⟩
          have HE20 := Lib.hid (HE19.out.go hb)
          clear hb huc HE19
          obtain ⟨Ar, lr, cr, rfl, hr⟩ := HPUV.out hpv2
          have HR2 := Lib.hid hr
          clear hpv2 hr
          rcases HQ.out with ⟨e1, rfl⟩ | ⟨q, e1, rfl, zs, n, hzs, hnk⟩
          · rcases HR2.out with ⟨_, rfl, rfl⟩ | ⟨zs, n, _, rfl, rfl⟩
            all_goals
              clear HQ HR2 e1
              go_wp2_with fail
              refine (HWK.out _).mono ?_
              rintro e w21 ⟨rfl, hb⟩
              have HE21 := Lib.hid (HE20.out.go hb)
              clear hb
              go_wp2
              go_ret
              exact ⟨rfl, HE21.out.grow⟩
          · rcases HR2.out with ⟨hn, _, _⟩ | ⟨zs', n', hz', rfl, rfl⟩
            · rw [hzs] at hn; simp at hn
            · obtain ⟨rfl, rfl⟩ := Prod.mk.inj (Option.some.inj (hzs.symm.trans hz'))
              injection e1 with _ e1
              subst e1
              have dnk : decide (n ≤ q1) = true := decide_eq_true hnk
              clear HQ HR2 hzs hz' hnk
              go_wp2_with fail
              refine (HWK.out _).mono ?_
              rintro e w21 ⟨rfl, hb⟩
              have HE21 := Lib.hid (HE20.out.go hb)
              clear hb
              go_wp2
              go_ret
              exact ⟨rfl, HE21.out.grow⟩

end Go.Proofs.Ythlihchndmbkaaa
