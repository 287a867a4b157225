/- EasierIn: the walk of TurnsEasier. -/
import Derived.Test.YthlihchndmbkaaaEasierE
namespace Go.Proofs.Ythlihchndmbkaaa
open Go.RowKit

set_option maxRecDepth 100000 in
set_option maxHeartbeats 32000000 in
theorem easier_in (t : TaskR) (xs : List Int) (A1 : Option Addr) (c1 : Nat) (xh xs0 xt xe xsl xl xr : Int) (w : World) (ht : TaskAt w w.heap.size t) (h1 : Ints w w.heap.size A1 xs) (hc : xs.length ≤ c1) (hv : validD t.d = true) (hl : xs.length ≤ 20) (hr : okRota t.d xs = true) (hx : okEase ⟨xh, xs0, xt, xe, xsl, xl, xr⟩ = true) (hin : 0 ≤ xh ∧ xh < (t.d.hands.length : Int)) :
    Calls Try.prog 5 #[taskV t, .slice A1 xs.length c1, easeV ⟨xh, xs0, xt, xe, xsl, xl, xr⟩] w fun e w' => e = .returned (.bool true) ∧ Below w.heap.size w w' := by
  have HWK := Lib.hid works_any
  have HVA := Lib.hid (fun (w0 : World) (hw : Grow w w0) => valid_any t w.heap.size w0 (ht.below hw) hw.size)
  rw [hv] at HVA
  have hgt : decide ((20 : Int) < (xs.length : Int)) = false := decide_eq_false (by omega)
  have hgn : decide (20 < xs.length) = false := decide_eq_false (by omega)
  have HIR := Lib.hid (fun (w0 : World) (hw : Grow w w0) => isRota_any t xs A1 c1 w.heap.size w0 (h1.below hw) hw.size hl (okTask_parts (validD_iff.1 hv).1).1.2)
  rw [hr] at HIR

  have HMT := Lib.hid (fun (w0 : World) (hw : Grow w w0) => mistakes_any t xs A1 c1 w.heap.size w0 (ht.below hw) (h1.below hw) hw.size)
  have HRT := Lib.hid (fun (w0 : World) (hw : Grow w w0) => rightApi_any t xs A1 c1 w.heap.size w0 (ht.below hw) (h1.below hw) hw.size hc)
  have HPT := Lib.hid (fun (w0 : World) (hw : Grow w w0) => planApi_any t w.heap.size w0 (ht.below hw) hw.size)
  have HMU := Lib.hid (fun (u : TaskR) (w0 : World) (hw : Grow w w0) (hu : TaskAt w0 w0.heap.size u) => mistakes_any u xs A1 c1 _ w0 hu ((h1.below hw).more hw.size) (Nat.le_refl _))
  have HRU := Lib.hid (fun (u : TaskR) (w0 : World) (hw : Grow w w0) (hu : TaskAt w0 w0.heap.size u) => rightApi_any u xs A1 c1 _ w0 hu ((h1.below hw).more hw.size) (Nat.le_refl _) hc)
  have HPU := Lib.hid (fun (u : TaskR) (w0 : World) (hu : TaskAt w0 w0.heap.size u) => planApi_any u _ w0 hu (Nat.le_refl _))
  have hk := (validD_iff.1 hv).1
  have hp6 := (validD_iff.1 hv).2
  have hparts := okTask_parts hk
  have HCP := Lib.hid (fun (w0 : World) (hw : Grow w w0) => rCopy_any t w.heap.size w0 (ht.below hw) hw.size (by omega) (by omega))
  have HEF := Lib.hid (easier_facts hx hk hr)
  have hxp := okEase_parts hx
  dsimp only at hxp
  have HXP := Lib.hid hxp
  have HOK := Lib.hid hk
  have HUK := Lib.hid (easeT_ok hx hk)
  have hn1 := hparts.1.1
  have hp1 := hparts.2.2.1.1
  have HPB := Lib.hid hparts
  have HLR : Hid ((1 ≤ t.d.limit ∧ t.d.limit ≤ 10) ∧ 1 ≤ t.d.rest ∧ t.d.rest ≤ 10) := ⟨hparts.2.2.2.2.1, hparts.2.2.2.2.2.1⟩
  have d0 : decide (xs0 < 0) = false := decide_eq_false (by omega)
  have d1 : decide (100 < xs0) = false := decide_eq_false (by omega)
  have d2 : decide (xt < 0) = false := decide_eq_false (by omega)
  have d3 : decide (20 < xt) = false := decide_eq_false (by omega)
  have d4 : decide (xe < 0) = false := decide_eq_false (by omega)
  have d5 : decide (20 < xe) = false := decide_eq_false (by omega)
  have d6 : decide (xsl < 0) = false := decide_eq_false (by omega)
  have d7 : decide (100 < xsl) = false := decide_eq_false (by omega)
  have d8 : decide (xl < 0) = false := decide_eq_false (by omega)
  have d9 : decide (10 < xl) = false := decide_eq_false (by omega)
  have d10 : decide (xr < 0) = false := decide_eq_false (by omega)
  have d11 : decide (10 < xr) = false := decide_eq_false (by omega)
  clear ht h1 hc hv hl hr hx hk hp6 hparts hxp
  go_enter Try.func5, Try.ntmps5
  go_upto_region 1 with fail
  obtain ⟨W, hW, hg, hf, hx, hsz⟩ := two_blocks w 25 49 (cellsT t) (cellsZ ⟨xh, xs0, xt, xe, xsl, xl, xr⟩)
  rw [hW]
  clear hW
  have hcc := hf.cell
  have HG := Lib.hid hg
  have HF := Lib.hid hf
  have HX := Lib.hid hx
  clear hg hf hx
  go_wp2_with fail
  refine (HVA.out _ HG.out).mono ?_
  rintro e w2 ⟨rfl, hb2⟩
  have HG2 : Hid (Grow W w2) := hb2
  clear hcc hb2
  have hcc := (HG2.out.block HF.out).cell
  go_wp2_with fail
  refine (HIR.out _ (HG.out.trans HG2.out)).mono ?_
  rintro e w4 ⟨rfl, hb4⟩
  have HG4 : Hid (Grow W w4) := HG2.out.trans hb4
  clear hcc hb4
  have hcc := (HG4.out.block HF.out).cell
  have hxc := (HG4.out.block HX.out).cell
  go_wp2_with fail
  refine (HCP.out _ (HG.out.trans HG4.out)).mono ?_
  rintro e w5 ⟨A5, ca5, B5, cb5, lo5, rfl, hT5, ⟨hq5, hlo5⟩, hI5, hb5⟩
  have HG5 : Hid (Grow W w5) := HG4.out.trans hb5
  have hz45 := hb5.size
  have hzW := HG4.out.size
  have hlo5' : lo5 ≤ w5.heap.size := by
    rcases hI5.1 with h | ⟨b', _, _, h1, h2, _⟩
    · rw [h] at hp1; simp at hp1
    · omega
  obtain ⟨b, cs, hA5, hlb, hB5, hC5⟩ : ∃ b cs, A5 = some ⟨b, 0, none⟩ ∧ w4.heap.size ≤ b ∧ BlockIs w5 b 52 cs ∧ HandsIn cs t.d.hands := by
    rcases hT5.block with h | h
    · rw [h] at hn1; simp at hn1
    · exact h
  subst hA5
  have hblo : b < lo5 := hq5 b rfl
  have hb5lt := hB5.lt
  have HC5 := Lib.hid hC5
  have HB5 := Lib.hid hB5
  have HI5 := Lib.hid hI5
  clear hcc hxc hb5 hT5 hq5 hI5 hC5 hB5 d0 d1 d2 d3 d4 d5 d6 d7 d8 d9 d10 d11 hgt hgn
  go_upto_region 4 with fail
  obtain ⟨W6, hW6, hg6, hu6, hsz6⟩ := one_block w5 25 (cellsT ⟨t.d, some ⟨b, 0, none⟩, ca5, B5, cb5⟩)
  rw [hW6]
  clear hW6
  obtain ⟨bu, ebu⟩ : ∃ q, w5.heap.size = q := ⟨_, rfl⟩
  have hI6 : IntsL W6 lo5 bu B5 t.d.parts := (show IntsL w5 lo5 bu B5 t.d.parts by rw [← ebu]; exact HI5.out.toL).below (Below.mono hg6 (Nat.le_of_eq ebu.symm))
  rw [ebu] at hu6 hsz6 hb5lt hz45 hlo5' ⊢
  have hE : EnvE w W6 t ⟨xh, xs0, xt, xe, xsl, xl, xr⟩ ⟨t.d, some ⟨b, 0, none⟩, ca5, B5, cb5⟩ w.heap.size (w.heap.size + 1) bu b lo5 cs :=
    ⟨HG.out.trans (HG5.out.trans hg6), by omega, by omega, (HG5.out.trans hg6).block HF.out, (HG5.out.trans hg6).block HX.out, hu6, hg6.block HB5.out, by omega, hI6⟩
  have HE := Lib.hid hE
  have hubw : w4.heap.size ≤ bu := by omega
  obtain ⟨bx, hbx⟩ : ∃ q, w.heap.size + 1 = q := ⟨_, rfl⟩
  obtain ⟨bt, hbt⟩ : ∃ q, w.heap.size = q := ⟨_, rfl⟩
  rw [hbx] at HE ⊢
  rw [hbt] at HE ⊢
  have hltx : bx < bu := by omega
  have hltt : bt < bu := by omega
  clear hg6 hu6 hI6 hE HI5 HB5 HG5 HF HX hlo5 hlb hb5lt hblo hz45 hsz6 hbx hbt ebu hlo5' hubw hzW hsz HIR HVA HCP HG2 HG4
  obtain ⟨k, rfl⟩ : ∃ k : Nat, xh = k := ⟨xh.toNat, by omega⟩
  have hkl : k < t.d.hands.length := by omega
  have hki : (k : Int) < (t.d.hands.length : Int) := hin.2
  have hk0 : (0 : Int) ≤ (k : Int) := hin.1
  have dh : decide ((0 : Int) ≤ (k : Int)) = true := decide_eq_true hk0
  have dl : decide ((k : Int) < (t.d.hands.length : Int)) = true := decide_eq_true hki
  obtain ⟨y, hy⟩ : ∃ y, t.d.hands[k]? = some y := ⟨_, List.getElem?_eq_getElem hkl⟩
  have hys := HPB.out.2.1 y (List.mem_of_getElem? hy)
  have hyp := okHand_parts hys
  have hxp := HXP.out
  obtain ⟨hh, hhe⟩ : ∃ hh, t.d.hands.set k (easeH y ⟨k, xs0, xt, xe, xsl, xl, xr⟩) = hh := ⟨_, rfl⟩
  have hhl : hh.length = t.d.hands.length := by rw [← hhe, List.length_set]
  have HUD : Hid (easeT t.d ⟨k, xs0, xt, xe, xsl, xl, xr⟩ = ⟨hh, t.d.parts, min 10 (t.d.limit + xl), max 1 (t.d.rest - xr), t.d.swap⟩) := Lib.hid (by
    rw [← hhe]
    unfold easeT easeHs
    simp [hy])
  have hset := handsIn_set HC5.out hkl (easeH y ⟨k, xs0, xt, xe, xsl, xl, xr⟩)
  rw [hhe] at hset
  have HCN := Lib.hid hset
  have HHL := Lib.hid hhl
  have hyc : ∀ j, j < 7 → W6.cell? ⟨b, k * 7 + j, none⟩ = (cellsH y)[j]? := fun j hj => (HE.out.hb.cell _).trans (HC5.out k y hy j hj)
  have HYC := Lib.hid (HC5.out k y hy)
  have e0 := hyc 0 (by omega); have e1 := hyc 1 (by omega); have e2 := hyc 2 (by omega); have e3 := hyc 3 (by omega); have e4 := hyc 4 (by omega); have e5 := hyc 5 (by omega); have e6 := hyc 6 (by omega)
  rw [Nat.add_zero] at e0
  obtain ⟨s0, s1, t0, t1, c0, c1', slip⟩ := y
  have huc := HE.out.ub.cell
  have hxc := HE.out.xb.cell
  clear hyc hin hy hys HC5 HPB hhe hhl hset hkl
  go_upto_region 6 with fail
  obtain ⟨W7, hW7, hg7, hh7, hsz7⟩ := one_block W6 52 (cellsH ⟨s0, s1, t0, t1, c0, c1', slip⟩)
  rw [hW7]
  clear hW7
  obtain ⟨bh, hbh⟩ : ∃ q, W6.heap.size = q := ⟨_, rfl⟩
  have hbu6 := HE.out.ub.lt
  rw [hbh] at hh7 hsz7 hbu6 ⊢
  have HE7 := Lib.hid (HE.out.go hg7)
  have hubh : bu < bh := hbu6
  have hnh1 : bh ≠ bt := by omega
  have hnh2 : bh ≠ bx := by omega
  have hhc := hh7.cell
  have HH7 := Lib.hid hh7
  clear hxc huc e0 e1 e2 e3 e4 e5 e6 hg7 hh7 HE hbu6 hbh hsz7 hhc
  obtain ⟨⟨ha1, ha2, ha3⟩, ⟨hb1, hb2, hb3⟩, ⟨hc1, hc2, hc3⟩, hd1, hd2⟩ := hyp
  obtain ⟨⟨hf1, hf2⟩, ⟨hg1, hg2⟩, ⟨hi1, hi2⟩, ⟨hj1, hj2⟩, _⟩ := hxp
  have hhc := HH7.out.cell
  have hxc := HE7.out.xb.cell
  go_cut [] (fun wx => EnvE w wx t ⟨k, xs0, xt, xe, xsl, xl, xr⟩ ⟨t.d, some ⟨b, 0, none⟩, ca5, B5, cb5⟩ bt bx bu b lo5 cs ∧ BlockIs wx bh 52 (cellsH ⟨max 0 (s0 - xs0), max 0 (s1 - xs0), t0, t1, c0, c1', slip⟩))
  case first => as_aux_lemma =>
    go_wp2_with fail
    all_goals
      refine (lspan_any _ _ _).mono ?_
      rintro e w8 ⟨rfl, hb8⟩
      have HE8 := Lib.hid (HE7.out.go hb8)
      have hh8 := Grow.block hb8 HH7.out
      have hhf := hh8.frozen
      have hhc8 := hh8.cell
      have HH8 := Lib.hid hh8
      clear hhc hxc hb8 hh8
      go_wp2
      go_meet
      exact ⟨(HE8.out.far hubh hnh1 hnh2 0 _).far hubh hnh1 hnh2 1 _, hand_put0 HH8.out (by clear HE8 HH8; unfold wrap64 at *; omega) (by clear HE8 HH8; unfold wrap64 at *; omega)⟩
  case rest => as_aux_lemma =>
    obtain ⟨he, hh⟩ := hcut
    rename World => w10
    have HE10 := Lib.hid he
    have HH10 := Lib.hid hh
    clear he hh hhc hxc HE7 HH7
    have hhc := HH10.out.cell
    have hxc := HE10.out.xb.cell
    go_upto_region 7 with fail
    go_cut [] (fun wx => EnvE w wx t ⟨k, xs0, xt, xe, xsl, xl, xr⟩ ⟨t.d, some ⟨b, 0, none⟩, ca5, B5, cb5⟩ bt bx bu b lo5 cs ∧ BlockIs wx bh 52 (cellsH ⟨max 0 (s0 - xs0), max 0 (s1 - xs0), max 0 (t0 - xt), max 0 (t1 - xt), c0, c1', slip⟩))
    case first => as_aux_lemma =>
      go_wp2_with fail
      all_goals
        refine (lspan_any _ _ _).mono ?_
        rintro e w8 ⟨rfl, hb8⟩
        have HE8 := Lib.hid (HE10.out.go hb8)
        have hh8 := Grow.block hb8 HH10.out
        have hhf := hh8.frozen
        have hhc8 := hh8.cell
        have HH8 := Lib.hid hh8
        clear hhc hxc hb8 hh8
        go_wp2
        go_meet
        exact ⟨(HE8.out.far hubh hnh1 hnh2 2 _).far hubh hnh1 hnh2 3 _, hand_put2 HH8.out (by clear HE8 HH8; unfold wrap64 at *; omega) (by clear HE8 HH8; unfold wrap64 at *; omega)⟩
    case rest => as_aux_lemma =>
      obtain ⟨he, hh⟩ := hcut
      rename World => w11
      have HE11 := Lib.hid he
      have HH11 := Lib.hid hh
      clear he hh hhc hxc HE10 HH10
      have hhc := HH11.out.cell
      have hxc := HE11.out.xb.cell
      go_upto_region 8 with fail
      go_cut [] (fun wx => EnvE w wx t ⟨k, xs0, xt, xe, xsl, xl, xr⟩ ⟨t.d, some ⟨b, 0, none⟩, ca5, B5, cb5⟩ bt bx bu b lo5 cs ∧ BlockIs wx bh 52 (cellsH ⟨max 0 (s0 - xs0), max 0 (s1 - xs0), max 0 (t0 - xt), max 0 (t1 - xt), min 20 (c0 + xe), min 20 (c1' + xe), slip⟩))
      case first => as_aux_lemma =>
        go_wp2_with fail
        all_goals
          refine (lspan_any _ _ _).mono ?_
          rintro e w8 ⟨rfl, hb8⟩
          have HE8 := Lib.hid (HE11.out.go hb8)
          have hh8 := Grow.block hb8 HH11.out
          have hhf := hh8.frozen
          have hhc8 := hh8.cell
          have HH8 := Lib.hid hh8
          clear hhc hxc hb8 hh8
          go_wp2
          go_meet
          exact ⟨(HE8.out.far hubh hnh1 hnh2 4 _).far hubh hnh1 hnh2 5 _, hand_put4 HH8.out (by clear HE8 HH8; unfold wrap64 at *; omega) (by clear HE8 HH8; unfold wrap64 at *; omega)⟩
      case rest => as_aux_lemma =>
        obtain ⟨he, hh⟩ := hcut
        rename World => w12
        have HE12 := Lib.hid he
        have HH12 := Lib.hid hh
        clear he hh hhc hxc HE11 HH11
        have hhc := HH12.out.cell
        have hhf := HH12.out.frozen
        have hxc := HE12.out.xb.cell
        go_upto_region 9 with fail
        go_cut [] (fun wx => EnvE w wx t ⟨k, xs0, xt, xe, xsl, xl, xr⟩ ⟨t.d, some ⟨b, 0, none⟩, ca5, B5, cb5⟩ bt bx bu b lo5 cs ∧ BlockIs wx bh 52 (cellsH ⟨max 0 (s0 - xs0), max 0 (s1 - xs0), max 0 (t0 - xt), max 0 (t1 - xt), min 20 (c0 + xe), min 20 (c1' + xe), max 0 (slip - xsl)⟩))
        case first => as_aux_lemma =>
          go_wp2
          all_goals
            go_meet
            exact ⟨HE12.out.far hubh hnh1 hnh2 6 _, hand_put6 HH12.out (by clear HE12 HH12; unfold wrap64 at *; omega)⟩
        case rest => as_aux_lemma =>
          obtain ⟨he, hh⟩ := hcut
          rename World => w13
          have HE13 := Lib.hid he
          have HH13 := Lib.hid hh
          clear he hh hhc hhf hxc HE12 HH12
          have hhc := HH13.out.cell
          have huc := HE13.out.ub.cell
          have hxc := HE13.out.xb.cell
          have f0 := (HE13.out.hb.cell (k * 7)).trans (HYC.out 0 (by omega))
          have f1 := (HE13.out.hb.cell (k * 7 + 1)).trans (HYC.out 1 (by omega))
          have f2 := (HE13.out.hb.cell (k * 7 + 2)).trans (HYC.out 2 (by omega))
          have f3 := (HE13.out.hb.cell (k * 7 + 3)).trans (HYC.out 3 (by omega))
          have f4 := (HE13.out.hb.cell (k * 7 + 4)).trans (HYC.out 4 (by omega))
          have f5 := (HE13.out.hb.cell (k * 7 + 5)).trans (HYC.out 5 (by omega))
          have f6 := (HE13.out.hb.cell (k * 7 + 6)).trans (HYC.out 6 (by omega))
          have hbf := HE13.out.hb.frozen
          go_upto_region 11 with fail
          obtain ⟨cs2, hcs2⟩ : ∃ q, (((((((cs.setIfInBounds (k * 7) (.int .i64 (max 0 (s0 - xs0)))).setIfInBounds (k * 7 + 1) (.int .i64 (max 0 (s1 - xs0)))).setIfInBounds (k * 7 + 2) (.int .i64 (max 0 (t0 - xt)))).setIfInBounds (k * 7 + 3) (.int .i64 (max 0 (t1 - xt)))).setIfInBounds (k * 7 + 4) (.int .i64 (min 20 (c0 + xe)))).setIfInBounds (k * 7 + 5) (.int .i64 (min 20 (c1' + xe)))).setIfInBounds (k * 7 + 6) (.int .i64 (max 0 (slip - xsl)))) = q := ⟨_, rfl⟩
          have HCN2 : Hid (HandsIn (((((((cs.setIfInBounds (k * 7) (.int .i64 (max 0 (s0 - xs0)))).setIfInBounds (k * 7 + 1) (.int .i64 (max 0 (s1 - xs0)))).setIfInBounds (k * 7 + 2) (.int .i64 (max 0 (t0 - xt)))).setIfInBounds (k * 7 + 3) (.int .i64 (max 0 (t1 - xt)))).setIfInBounds (k * 7 + 4) (.int .i64 (min 20 (c0 + xe)))).setIfInBounds (k * 7 + 5) (.int .i64 (min 20 (c1' + xe)))).setIfInBounds (k * 7 + 6) (.int .i64 (max 0 (slip - xsl)))) hh) := Lib.hid HCN.out
          have hE14 : EnvE w (((((((w13.setCell ⟨b, (k * 7), none⟩ (.int .i64 (max 0 (s0 - xs0)))).setCell ⟨b, (k * 7 + 1), none⟩ (.int .i64 (max 0 (s1 - xs0)))).setCell ⟨b, (k * 7 + 2), none⟩ (.int .i64 (max 0 (t0 - xt)))).setCell ⟨b, (k * 7 + 3), none⟩ (.int .i64 (max 0 (t1 - xt)))).setCell ⟨b, (k * 7 + 4), none⟩ (.int .i64 (min 20 (c0 + xe)))).setCell ⟨b, (k * 7 + 5), none⟩ (.int .i64 (min 20 (c1' + xe)))).setCell ⟨b, (k * 7 + 6), none⟩ (.int .i64 (max 0 (slip - xsl)))) t ⟨k, xs0, xt, xe, xsl, xl, xr⟩ ⟨⟨hh, t.d.parts, t.d.limit, t.d.rest, t.d.swap⟩, some ⟨b, 0, none⟩, ca5, B5, cb5⟩ bt bx bu b lo5 (((((((cs.setIfInBounds (k * 7) (.int .i64 (max 0 (s0 - xs0)))).setIfInBounds (k * 7 + 1) (.int .i64 (max 0 (s1 - xs0)))).setIfInBounds (k * 7 + 2) (.int .i64 (max 0 (t0 - xt)))).setIfInBounds (k * 7 + 3) (.int .i64 (max 0 (t1 - xt)))).setIfInBounds (k * 7 + 4) (.int .i64 (min 20 (c0 + xe)))).setIfInBounds (k * 7 + 5) (.int .i64 (min 20 (c1' + xe)))).setIfInBounds (k * 7 + 6) (.int .i64 (max 0 (slip - xsl)))) := EnvE.hands (l1 := t.d.hands) (((((((HE13.out.hand (k * 7) (.int .i64 (max 0 (s0 - xs0)))).hand (k * 7 + 1) (.int .i64 (max 0 (s1 - xs0)))).hand (k * 7 + 2) (.int .i64 (max 0 (t0 - xt)))).hand (k * 7 + 3) (.int .i64 (max 0 (t1 - xt)))).hand (k * 7 + 4) (.int .i64 (min 20 (c0 + xe)))).hand (k * 7 + 5) (.int .i64 (min 20 (c1' + xe)))).hand (k * 7 + 6) (.int .i64 (max 0 (slip - xsl)))) HHL.out
          rw [hcs2] at HCN2 hE14
          obtain ⟨w14, hw14⟩ : ∃ q, (((((((w13.setCell ⟨b, (k * 7), none⟩ (.int .i64 (max 0 (s0 - xs0)))).setCell ⟨b, (k * 7 + 1), none⟩ (.int .i64 (max 0 (s1 - xs0)))).setCell ⟨b, (k * 7 + 2), none⟩ (.int .i64 (max 0 (t0 - xt)))).setCell ⟨b, (k * 7 + 3), none⟩ (.int .i64 (max 0 (t1 - xt)))).setCell ⟨b, (k * 7 + 4), none⟩ (.int .i64 (min 20 (c0 + xe)))).setCell ⟨b, (k * 7 + 5), none⟩ (.int .i64 (min 20 (c1' + xe)))).setCell ⟨b, (k * 7 + 6), none⟩ (.int .i64 (max 0 (slip - xsl)))) = q := ⟨_, rfl⟩
          rw [hw14] at hE14 ⊢
          clear HCN
          have HCN := HCN2
          have HE := Lib.hid hE14
          clear HCN2 hE14 hcs2 hw14 HE13 HH13 HYC HHL huc hxc hhc f0 f1 f2 f3 f4 f5 f6 hbf ha1 ha2 ha3 hb1 hb2 hb3 hc1 hc2 hc3 hd1 hd2 hf1 hf2 hg1 hg2 hi1 hi2 hj1 hj2 dh dl hki hk0
          obtain ⟨lim, hlim⟩ : ∃ q, t.d.limit = q := ⟨_, rfl⟩
          obtain ⟨rst, hrst⟩ : ∃ q, t.d.rest = q := ⟨_, rfl⟩
          obtain ⟨⟨hl1, hl2⟩, hr1, hr2⟩ := HLR.out
          rw [hlim] at hl1 hl2
          rw [hrst] at hr1 hr2
          obtain ⟨_, _, _, _, ⟨hxl1, hxl2⟩, hxr1, hxr2⟩ := HXP.out
          have HET := HE
          clear HE
          rw [hlim, hrst] at HET
          have huc := HET.out.ub.cell
          have huf := HET.out.ub.frozen
          have hxc := HET.out.xb.cell
          go_upto_region 11 with fail
          go_cut [] (fun wx => EnvE w wx t ⟨(k : Int), xs0, xt, xe, xsl, xl, xr⟩ ⟨⟨hh, t.d.parts, min 10 (lim + xl), rst, t.d.swap⟩, some ⟨b, 0, none⟩, ca5, B5, cb5⟩ bt bx bu b lo5 cs2)
          case first => as_aux_lemma =>
            go_wp2
            all_goals
              go_meet
              exact HET.out.task 2 _ ⟨⟨hh, t.d.parts, min 10 (lim + xl), rst, t.d.swap⟩, some ⟨b, 0, none⟩, ca5, B5, cb5⟩ (task_put2 (by clear HET; (try unfold wrap64 at *); omega)) rfl rfl
          case rest => as_aux_lemma =>
            have HE11 := Lib.hid hcut
            clear hcut huc huf hxc HET
            have huc := HE11.out.ub.cell
            have huf := HE11.out.ub.frozen
            have hxc := HE11.out.xb.cell
            go_upto_region 12 with fail
            go_cut [] (fun wx => EnvE w wx t ⟨(k : Int), xs0, xt, xe, xsl, xl, xr⟩ ⟨⟨hh, t.d.parts, min 10 (lim + xl), max 1 (rst - xr), t.d.swap⟩, some ⟨b, 0, none⟩, ca5, B5, cb5⟩ bt bx bu b lo5 cs2)
            case first => as_aux_lemma =>
              go_wp2
              all_goals
                go_meet
                exact HE11.out.task 3 _ ⟨⟨hh, t.d.parts, min 10 (lim + xl), max 1 (rst - xr), t.d.swap⟩, some ⟨b, 0, none⟩, ca5, B5, cb5⟩ (task_put3 (by clear HE11; (try unfold wrap64 at *); omega)) rfl rfl
            case rest => as_aux_lemma =>
              have HE12 := Lib.hid hcut
              clear hcut huc huf hxc HE11
              obtain ⟨ud, hud⟩ : ∃ q : TaskD, (⟨hh, t.d.parts, min 10 (lim + xl), max 1 (rst - xr), t.d.swap⟩ : TaskD) = q := ⟨_, rfl⟩
              have hhd : ud.hands = hh := by rw [← hud]
              have hef := HEF.out
              have huk := HUK.out
              rw [HUD.out, hlim, hrst, hud] at hef huk
              rw [hud] at HE12
              have HCU : Hid (HandsIn cs2 ud.hands) := Lib.hid (by rw [hhd]; exact HCN.out)
              obtain ⟨⟨a, b', c, d, m1, m2, hca, hdb⟩, ⟨r, s, r1, r2, hrs⟩, hpl⟩ := hef
              have HMU1 := Lib.hid (HMU.out ⟨ud, some ⟨b, 0, none⟩, ca5, B5, cb5⟩)
              have HRU1 := Lib.hid (HRU.out ⟨ud, some ⟨b, 0, none⟩, ca5, B5, cb5⟩)
              have HPU1 := Lib.hid (HPU.out ⟨ud, some ⟨b, 0, none⟩, ca5, B5, cb5⟩)
              rw [m1] at HMT
              rw [m2] at HMU1
              rw [r1] at HRT
              rw [r2] at HRU1
              have dca : decide (a < c) = false := decide_eq_false (by omega)
              have ddb : decide (b' < d) = false := decide_eq_false (by omega)
              have HRS := Lib.hid hrs
              have HPL := Lib.hid hpl
              have HPTV : Hid (∀ {lo v m er w}, PlanApiV t.d lo v m er w → ∃ A l c, v = .slice A l c ∧ ((m = .int .i64 0 ∧ er = 3) ∨ ∃ k, m = .int .i64 k ∧ er = 0 ∧ ∃ zs n, planD ud = some (zs, n) ∧ n ≤ k)) := fun h => by
                unfold PlanApiV at h
                rw [if_pos HOK.out] at h
                cases hp : planD t.d with
                | none => rw [hp] at h; obtain ⟨h1, h2, h3⟩ := h; exact ⟨_, _, _, h1, .inl ⟨h2, h3⟩⟩
                | some p => rw [hp] at h; obtain ⟨_, _, _, h1, _, h2, h3⟩ := h; exact ⟨_, _, _, h1, .inr ⟨_, h2, h3, HPL.out p.1 p.2 hp⟩⟩
              have HPUV : Hid (∀ {lo v m er w}, PlanApiV ud lo v m er w → ∃ A l c, v = .slice A l c ∧ ((planD ud = none ∧ m = .int .i64 0 ∧ er = 3) ∨ ∃ zs n, planD ud = some (zs, n) ∧ m = .int .i64 n ∧ er = 0)) := fun h => by
                unfold PlanApiV at h
                rw [if_pos huk] at h
                cases hp : planD ud with
                | none => rw [hp] at h; obtain ⟨h1, h2, h3⟩ := h; exact ⟨_, _, _, h1, .inl ⟨rfl, h2, h3⟩⟩
                | some p => rw [hp] at h; obtain ⟨_, _, _, h1, _, h2, h3⟩ := h; exact ⟨_, _, _, h1, .inr ⟨p.1, p.2, rfl, h2, h3⟩⟩
              clear hud hhd huk m1 m2 hca hdb r1 r2 hrs hpl hlim hrst hl1 hl2 hr1 hr2 hxl1 hxl2 hxr1 hxr2 HEF HUK HUD HMU HRU HPU HCN HXP HLR
              have htc := HE12.out.tb.cell
              go_upto_region 13 with fail
              go_wp2_with fail
              refine (HMT.out _ HE12.out.grow).mono ?_
              rintro e w15 ⟨rfl, hb⟩
              have HE15 := Lib.hid (HE12.out.go hb)
              clear hb htc HE12
              have huc := HE15.out.ub.cell
              go_wp2_with fail
              refine (HMU1.out _ HE15.out.grow (HE15.out.taskAt rfl HCU.out)).mono ?_
              rintro e w16 ⟨rfl, hb⟩
              have HE16 := Lib.hid (HE15.out.go hb)
              clear hb huc HE15
              have htc := HE16.out.tb.cell
              go_wp2_with fail
              refine (HRT.out _ HE16.out.grow).mono ?_
              rintro e w17 ⟨rfl, hb⟩
              have HE17 := Lib.hid (HE16.out.go hb)
              clear hb htc HE16
              have huc := HE17.out.ub.cell
              go_wp2_with fail
              refine (HRU1.out _ HE17.out.grow (HE17.out.taskAt rfl HCU.out)).mono ?_
              rintro e w18 ⟨rfl, hb⟩
              have HE18 := Lib.hid (HE17.out.go hb)
              clear hb huc HE17
              go_upto_region 17 with fail
              go_cut [250] (fun v wx => v = .bool false ∧ w18 = wx)
              case first => as_aux_lemma =>
                cases r
                · go_wp2
                  go_meet
                  exact ⟨rfl, rfl⟩
                · obtain rfl : s = true := HRS.out rfl
                  go_wp2
                  go_meet
                  exact ⟨rfl, rfl⟩
              case rest => as_aux_lemma =>
                obtain ⟨rfl, rfl⟩ := hcut
                have htc := HE18.out.tb.cell
                clear HRS dca ddb
                go_wp2_with fail
                refine (HPT.out _ HE18.out.grow).mono ?_
                rintro e w19 ⟨v1, mv1, er1, rfl, hpv1, hb⟩
                have HE19 := Lib.hid (HE18.out.go hb)
                clear hb htc HE18
                have huc := HE19.out.ub.cell
                obtain ⟨Aq, lq, cq, rfl, hq⟩ := HPTV.out hpv1
                have HQ := Lib.hid hq
                clear hpv1 hq
                have hm1 : ∃ q, mv1 = .int .i64 q := by
                  rcases HQ.out with h | ⟨q, h, _⟩
                  · exact ⟨_, h.1⟩
                  · exact ⟨_, h⟩
                obtain ⟨q1, rfl⟩ := hm1
                go_wp2_with fail
                refine (HPU1.out _ (HE19.out.taskAt rfl HCU.out)).mono ?_
                rintro e w20 ⟨v2, mv2, er2, rfl, hpv2, hb⟩
                have HE20 := Lib.hid (HE19.out.go hb)
                clear hb huc HE19
                obtain ⟨Ar, lr, cr, rfl, hr⟩ := HPUV.out hpv2
                have HR2 := Lib.hid hr
                clear hpv2 hr
                rcases HQ.out with ⟨e1, rfl⟩ | ⟨q, e1, rfl, zs, n, hzs, hnk⟩
                · rcases HR2.out with ⟨_, rfl, rfl⟩ | ⟨zs, n, _, rfl, rfl⟩
                  all_goals
                    clear HQ HR2 e1
                    go_wp2_with fail
                    refine (HWK.out _).mono ?_
                    rintro e w21 ⟨rfl, hb⟩
                    have HE21 := Lib.hid (HE20.out.go hb)
                    clear hb
                    go_wp2
                    go_ret
                    exact ⟨rfl, HE21.out.grow⟩
                · rcases HR2.out with ⟨hn, _, _⟩ | ⟨zs', n', hz', rfl, rfl⟩
                  · rw [hzs] at hn; simp at hn
                  · obtain ⟨rfl, rfl⟩ := Prod.mk.inj (Option.some.inj (hzs.symm.trans hz'))
                    injection e1 with _ e1
                    subst e1
                    have dnk : decide (n ≤ q1) = true := decide_eq_true hnk
                    clear HQ HR2 hzs hz' hnk
                    go_wp2_with fail
                    refine (HWK.out _).mono ?_
                    rintro e w21 ⟨rfl, hb⟩
                    have HE21 := Lib.hid (HE20.out.go hb)
                    clear hb
                    go_wp2
                    go_ret
                    exact ⟨rfl, HE21.out.grow⟩

end Go.Proofs.Ythlihchndmbkaaa
