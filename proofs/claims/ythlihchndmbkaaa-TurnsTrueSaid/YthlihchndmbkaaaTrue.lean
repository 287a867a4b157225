/- True: TurnsTrue: the law's walk. -/
import Derived.Test.YthlihchndmbkaaaTrueOff
import Derived.Test.YthlihchndmbkaaaTrueR
import Derived.Test.YthlihchndmbkaaaLimit
namespace Go.Proofs.Ythlihchndmbkaaa
open Go.RowKit

set_option maxRecDepth 100000 in
set_option maxHeartbeats 16000000 in
theorem true_on (t : TaskR) (xs : List Int) (A1 : Option Addr) (c1 : Nat) (st : List Int) (Ast : Option Addr) (cast : Nat) (rows : List RowR) (Brw : Option Addr) (cbrw : Nat) (w : World) (ht : TaskAt w w.heap.size t) (h1 : Ints w w.heap.size A1 xs) (hx : CourseAt w w.heap.size ⟨st, Ast, cast, rows, Brw, cbrw⟩) (hcap : xs.length ≤ c1) (hv : validD t.d = true) (hl : xs.length ≤ 20) (hr : okRota t.d xs = true) (hl1 : st.length ≤ 20) (hl2 : rows.length ≤ 20) (hc : isCourseD t.d xs st (rows.map (·.xs)) = true) :
    Calls Try.prog 4 #[taskV t, .slice A1 xs.length c1, courseKV ⟨st, Ast, cast, rows, Brw, cbrw⟩] w fun e w' => e = .returned (.bool true) ∧ Below w.heap.size w w' := by
  have HWK := Lib.hid works_any
  have HVA := Lib.hid (fun (w0 : World) (hw : Grow w w0) => valid_any t w.heap.size w0 (ht.below hw) hw.size)
  rw [hv] at HVA
  have g0a : decide ((20 : Int) < (xs.length : Int)) = false := decide_eq_false (by omega)
  have g0b : decide (20 < xs.length) = false := decide_eq_false (by omega)
  have HIR := Lib.hid (fun (w0 : World) (hw : Grow w w0) => isRota_any t xs A1 c1 w.heap.size w0 (h1.below hw) hw.size hl (okTask_parts (validD_iff.1 hv).1).1.2)
  rw [hr] at HIR
  have g1a : decide ((20 : Int) < (st.length : Int)) = false := decide_eq_false (by omega)
  have g1b : decide (20 < st.length) = false := decide_eq_false (by omega)
  have g2a : decide ((20 : Int) < (rows.length : Int)) = false := decide_eq_false (by omega)
  have g2b : decide (20 < rows.length) = false := decide_eq_false (by omega)
  have HIC := Lib.hid (fun (w0 : World) (hw : Grow w w0) => isCourse_any t xs A1 c1 ⟨st, Ast, cast, rows, Brw, cbrw⟩ w.heap.size w0 (ht.below hw) (h1.below hw) (hx.below hw) hw.size hl (okTask_parts (validD_iff.1 hv).1).1.2)
  dsimp only at HIC
  rw [hc] at HIC
  have hk := (validD_iff.1 hv).1
  have hparts := okTask_parts hk
  have hln3 := hparts.1.2
  have hln1 := hparts.1.1
  have HRU := Lib.hid (fun (w0 : World) (hw : Grow w w0) => run_xs t xs A1 c1 ⟨st, Ast, cast, rows, Brw, cbrw⟩ w.heap.size w0 (ht.below hw) (h1.below hw) (hx.below hw) hw.size hk hr hc)
  have hmi := (fun (w0 : World) (hw : Grow w w0) => mistakes_any t xs A1 c1 w.heap.size w0 (ht.below hw) (h1.below hw) hw.size)
  rw [(readRota_good hk hr).2] at hmi
  have HMI := Lib.hid hmi
  have HWE := Lib.hid (fun (i : Nat) (hi : i ≤ t.d.parts.length) (w0 : World) (hw : Grow w w0) => weary_any t xs A1 c1 i w.heap.size w0 (ht.below hw) (h1.below hw) hw.size hcap hk hr hi)
  have HLX := Lib.hid (okRota_parts hr).1
  obtain ⟨mlo, hmlo⟩ : ∃ q, (afterD false t.d (natsOf xs)).mis = q := ⟨_, rfl⟩
  obtain ⟨mhi, hmhi⟩ : ∃ q, (afterD true t.d (natsOf xs)).mis = q := ⟨_, rfl⟩
  rw [hmlo, hmhi] at HMI HRU
  obtain ⟨ln, hln⟩ : ∃ q, t.d.hands.length = q := ⟨_, rfl⟩
  rw [hln] at hln3 hln1 HWE HRU
  have HLN := Lib.hid hln
  obtain ⟨rl, hrl⟩ : ∃ q, xs.length + 1 = q := ⟨_, rfl⟩
  rw [hrl] at HRU
  have HRL := Lib.hid hrl
  have hrl20 : rl ≤ 21 := by omega
  have HWL : Hid ((wearyL t.d xs 0).length = (wearyL t.d xs 0).length) := Lib.hid rfl
  clear ht h1 hx hv hl hr hl1 hl2 hc hcap hk hparts hmi hmlo hmhi hln hrl HWL
  go_enter Try.func4, Try.ntmps4
  go_upto_region 1 with fail
  obtain ⟨W, hW, hg, hf, hx, hsz⟩ := two_blocks w 25 39 (cellsT t) (cellsK ⟨st, Ast, cast, rows, Brw, cbrw⟩)
  rw [hW]
  clear hW
  have hcc := hf.cell
  have HG := Lib.hid hg
  have HF := Lib.hid hf
  have HX := Lib.hid hx
  clear hg hf hx
  go_wp2_with fail
  refine (HVA.out _ HG.out).mono ?_
  rintro e w2 ⟨rfl, hb2⟩
  have HG2 : Hid (Grow W w2) := hb2
  clear hcc hb2
  have hcc := (HG2.out.block HF.out).cell
  go_wp2_with fail
  refine (HIR.out _ (HG.out.trans HG2.out)).mono ?_
  rintro e w3 ⟨rfl, hb3⟩
  have HG3 : Hid (Grow W w3) := HG2.out.trans hb3
  clear hcc hb3
  have hxc := (HG3.out.block HX.out).cell
  have hcc := (HG3.out.block HF.out).cell
  go_wp2_with fail
  refine (HIC.out _ (HG.out.trans HG3.out)).mono ?_
  rintro e w4 ⟨rfl, hb4⟩
  have HG4 : Hid (Grow W w4) := HG3.out.trans hb4
  clear hcc hxc hb4
  have hcc := (HG4.out.block HF.out).cell
  have hxc := (HG4.out.block HX.out).cell
  go_wp2_with fail
  refine (HRU.out _ (HG.out.trans HG4.out)).mono ?_
  rintro e w5 ⟨Aw, cw, R, m, rfl, hR, hRl, hfac, ⟨hm1, hm2⟩, hb5⟩
  have HG5 : Hid (Grow W w5) := HG4.out.trans hb5
  have HRR := Lib.hid hR
  have HRE := Lib.hid hRl
  have HFA := Lib.hid hfac
  clear hcc hxc hb5 hR hRl hfac
  have hcc := (HG5.out.block HF.out).cell
  go_wp2_with fail
  refine (HMI.out _ (HG.out.trans HG5.out)).mono ?_
  rintro e w6 ⟨rfl, hb6⟩
  have HB6 : Hid (Grow w5 w6) := hb6
  have HG6 : Hid (Grow W w6) := HG5.out.trans hb6
  clear hcc hb6
  have m1 : decide (m < mlo) = false := decide_eq_false (by omega)
  have m2 : decide (mhi < m) = false := decide_eq_false (by omega)
  clear hm1 hm2
  have heq : ((ln : Int) == (ln : Int)) = true := by simp
  have hne : ((ln : Int) != (ln : Int)) = false := by simp
  have hnd : (!decide ((ln : Int) = (ln : Int))) = false := by simp
  go_upto_region 8 with fail
  go_loopw [12] (fun iv wr => ∃ i : Nat, iv = .int .i64 i ∧ i ≤ rl ∧ Grow w5 wr) (fun v _ => rl - (intOf v).toNat)
  case atStart => exact ⟨0, rfl, Nat.zero_le _, HB6.out⟩
  case round => as_aux_lemma =>
    obtain ⟨i, rfl, hil, hgr⟩ := hrel
    rename World => wr
    have HGR := Lib.hid hgr
    clear hgr
    by_cases hit : i < rl
    · have hi1 : decide ((i : Int) < (rl : Int)) = true := decide_eq_true (by omega)
      have hi2 : decide (i < rl) = true := decide_eq_true hit
      have hii : (i : Int) < (rl : Int) := by omega
      have hi0 : (0 : Int) ≤ (i : Int) := by omega
      have HIT := Lib.hid hit
      have hcc := ((HG5.out.trans HGR.out).block HF.out).cell
      go_wp2_with fail
      refine (HWE.out i (by have h1 := HRL.out; have h2 := HLX.out; have h3 := HIT.out; omega) _ (HG.out.trans (HG5.out.trans HGR.out))).mono ?_
      rintro e w8 ⟨⟨Al, rfl, hS⟩, hb8⟩
      have HS := Lib.hid hS
      have HG8 : Hid (Grow w5 w8) := HGR.out.trans hb8
      clear hcc hS hb8 hit
      have hc0 : w8.cell? ⟨w.heap.size, 0, none⟩ = some (.slice t.A ln t.ca) := by rw [← HLN.out]; exact ((HG5.out.trans HG8.out).block HF.out).cell 0
      go_upto_region 14 with fail
      go_loopw [15] (fun hv wh => ∃ h : Nat, hv = .int .i64 h ∧ h ≤ ln ∧ Grow w8 wh) (fun v _ => ln - (intOf v).toNat)
      case atStart => exact ⟨0, rfl, Nat.zero_le _, Grow.refl _⟩
      case round => as_aux_lemma =>
        obtain ⟨h, rfl, hhl, hgr⟩ := hrel
        rename World => wh
        have HGH := Lib.hid hgr
        clear hgr hc0
        by_cases hht : h < ln
        · have hh1 : decide ((h : Int) < (ln : Int)) = true := decide_eq_true (by omega)
          have hh2 : decide (h < ln) = true := decide_eq_true hht
          have hhi : (h : Int) < (ln : Int) := by omega
          have hh0 : (0 : Int) ≤ (h : Int) := by omega
          have HHT := Lib.hid hht
          obtain ⟨bR, oR, r, hAe, hbR, hrc, hri, HR⟩ := (HRR.out.below (HG8.out.trans HGH.out)).at_ (k := i) (by rw [HRE.out]; exact HIT.out)
          subst hAe
          obtain ⟨hrl', v, p, hv, hp, hv1, hv2⟩ := HFA.out i h r HR.out (by have h1 := HRL.out; have h2 := HIT.out; omega) hht
          obtain ⟨bs, os, v', hAs, hbs, hsc, HV⟩ := hri.at_ (k := h) (by omega)
          obtain rfl : v' = v := Option.some.inj (HV.out.symm.trans hv)
          rw [hAs, hrl'] at hrc
          obtain ⟨bl, hAl, hbl, hlc⟩ : ∃ b, Al = some ⟨b, 0, none⟩ ∧ b < w8.heap.size ∧ ∀ (i' : Nat) (p : Int × Int), (wearyL t.d xs i)[i']? = some p → wh.cell? ⟨b, i' * 2, none⟩ = some (.int .i64 p.1) ∧ wh.cell? ⟨b, i' * 2 + 1, none⟩ = some (.int .i64 p.2) := by
            rcases HS.out.below HGH.out with q | q
            · rw [q] at hp; simp at hp
            · exact q
          subst hAl
          obtain ⟨hl1, hl2⟩ := hlc h p hp
          have d1 : decide (v' < p.1) = false := decide_eq_false (by omega)
          have d2 : decide (p.2 < v') = false := decide_eq_false (by omega)
          clear hlc hbl hbs hbR hri hAs hrl' hv hp hv1 hv2
          go_upto_region 16 with fail
          go_quiet (fail)
          go_wp2
          go_roundw
          case rel => exact ⟨h + 1, by go_num, HHT.out, HGH.out.trans (Below.drewN_ (Below.refl _ _) _)⟩
          case measure => have := HHT.out; simp [intOf]; omega
        · obtain rfl : h = ln := by omega
          have hh1 : decide ((h : Int) < (h : Int)) = false := by simp
          have hh2 : decide (h < h) = false := by simp
          go_wp2
          go_roundw
          case rel => exact ⟨i + 1, by go_num, HIT.out, HG8.out.trans HGH.out⟩
          case measure => have := HIT.out; simp [intOf]; omega
    · obtain rfl : i = rl := by omega
      have hi1 : decide ((i : Int) < (i : Int)) = false := by simp
      have hi2 : decide (i < i) = false := by simp
      go_wp2_with fail
      refine (HWK.out _).mono ?_
      rintro e w9 ⟨rfl, hb9⟩
      have HG9 : Hid (Grow W w9) := (HG5.out.trans HGR.out).trans hb9
      clear hb9
      go_wp2
      go_ret
      exact ⟨rfl, HG.out.trans HG9.out⟩

theorem turnsTrue_any (t : TaskR) (xs : List Int) (A1 : Option Addr) (c1 : Nat) (x : CourseR) (w : World) (ht : TaskAt w w.heap.size t) (h1 : Ints w w.heap.size A1 xs) (hcap : xs.length ≤ c1) (hx : CourseAt w w.heap.size x) :
    Calls Try.prog 4 #[taskV t, .slice A1 xs.length c1, courseKV x] w fun e w' => e = .returned (.bool true) ∧ Below w.heap.size w w' := by
  obtain ⟨st, Ast, cast, rows, Brw, cbrw⟩ := x
  cases hv : validD t.d with
  | false => exact true_off0 t xs A1 c1 st Ast cast rows Brw cbrw w ht h1 hx hv
  | true =>
    by_cases hl : xs.length ≤ 20
    case neg => exact true_off1 t xs A1 c1 st Ast cast rows Brw cbrw w ht h1 hx hv hl
    cases hr : okRota t.d xs with
    | false => exact true_off2 t xs A1 c1 st Ast cast rows Brw cbrw w ht h1 hx hv hl hr
    | true =>
      by_cases hl1 : st.length ≤ 20
      case neg => exact true_off3 t xs A1 c1 st Ast cast rows Brw cbrw w ht h1 hx hv hl hr hl1
      by_cases hl2 : rows.length ≤ 20
      case neg => exact true_off4 t xs A1 c1 st Ast cast rows Brw cbrw w ht h1 hx hv hl hr hl1 hl2
      cases hc : isCourseD t.d xs st (rows.map (·.xs)) with
      | false => exact true_off5 t xs A1 c1 st Ast cast rows Brw cbrw w ht h1 hx hv hl hr hl1 hl2 hc
      | true => exact true_on t xs A1 c1 st Ast cast rows Brw cbrw w ht h1 hx hcap hv hl hr hl1 hl2 hc

end Go.Proofs.Ythlihchndmbkaaa
