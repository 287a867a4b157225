/- Limit: TurnsLimit: mathematics and the law's walk. -/
import Derived.Test.YthlihchndmbkaaaKeep
import Derived.Test.YthlihchndmbkaaaPlan
import Derived.Test.YthlihchndmbkaaaApi
namespace Go.Proofs.Ythlihchndmbkaaa
open Go.RowKit

theorem natsOf_natsL (ms : List Nat) : natsOf (natsL ms) = ms := by
  unfold natsOf
  rw [List.map_map]
  refine (List.map_congr_left fun x _ => ?_).trans (List.map_id _)
  rfl
theorem okRota_natsL {t : TaskD} (_hk : okTask t = true) {ms : List Nat} (hl : ms.length = t.parts.length) (hf : ∀ h ∈ ms, h < t.hands.length) : okRota t (natsL ms) = true := by
  unfold okRota
  rw [Bool.and_eq_true, decide_eq_true_eq, List.all_eq_true, List.length_map]
  refine ⟨hl, fun x hx => ?_⟩
  obtain ⟨y, hy, rfl⟩ := List.mem_map.1 hx
  have := hf y hy
  exact inB_iff.2 ⟨by omega, by omega⟩
theorem isRight_fit {t : TaskD} (hk : okTask t = true) {xs : List Int} (h1 : okRota t xs = true) (h2 : isRightD t xs = true) : Fit t (natsOf xs) := by
  obtain ⟨_, e2, e3⟩ := okRota_parts h1
  refine fit_iff.2 ⟨e3, ?_⟩
  rw [e2, ← e2, ← isRight_right (okTask_parts hk).2.2.2.2.1.1 _ e3, e2]
  exact h2
theorem natsOf_len (xs : List Int) : (natsOf xs).length = xs.length := by unfold natsOf; rw [List.length_map]
theorem limit_none {t : TaskD} (hk : okTask t = true) (hp : planD t = none) (xs : List Int) (h : okRota t xs = true) : isRightD t xs = false := by
  cases e : isRightD t xs with
  | false => rfl
  | true => exact absurd (isRight_fit hk h e) (planD_none hk hp _ ((natsOf_len xs).trans (okRota_parts h).1))
theorem mistD_ok {t : TaskD} (hk : okTask t = true) {xs : List Int} (h : okRota t xs = true) : mistD t xs = ((afterD false t (natsOf xs)).mis, misOf t (natsOf xs), 0) := by
  unfold mistD
  rw [if_pos hk, if_pos h]
  rfl
theorem fit_scan {t : TaskD} (hk : okTask t = true) {ms : List Nat} (hf : Fit t ms) : isRightD t (natsL ms) = true ∧ ∀ y ∈ natsL ms, (scanD t y (natsL ms)).isSome = true := by
  have h := fit_iff.1 hf
  have e := isRight_right (okTask_parts hk).2.2.2.2.1.1 _ h.1
  rw [h.2] at e
  refine ⟨e, fun y hy => ?_⟩
  obtain ⟨x, hx, rfl⟩ := List.mem_map.1 hy
  exact List.all_eq_true.1 e x (List.mem_range.2 (h.1 x hx))
theorem limit_own {t : TaskD} (hk : okTask t = true) {ys : List Int} {k : Int} (hp : planD t = some (ys, k)) :
    okRota t ys = true ∧ rightApiD t ys = (true, 0) ∧ (∃ b, mistD t ys = (b, k, 0)) ∧ ys.length = t.parts.length ∧ ∀ y ∈ ys, (scanD t y ys).isSome = true := by
  obtain ⟨ms, rfl, rfl, hl, hf, _⟩ := planD_some hk hp
  have ho := okRota_natsL hk hl hf.1
  have hr := (fit_iff.1 hf).2
  refine ⟨ho, ?_, ⟨_, by rw [mistD_ok hk ho, natsOf_natsL]⟩, by rw [List.length_map]; exact hl, (fit_scan hk hf).2⟩
  unfold rightApiD
  rw [if_pos hk, if_pos ho, hr]
theorem limit_other {t : TaskD} (hk : okTask t = true) {ys : List Int} {k : Int} (hp : planD t = some (ys, k)) {xs : List Int} (h1 : okRota t xs = true) (h2 : isRightD t xs = true) :
    ∃ b m, mistD t xs = (b, m, 0) ∧ (k < m ∨ (k = m ∧ beforeL xs ys = false)) := by
  obtain ⟨ms, rfl, rfl, hl, hf, hbest⟩ := planD_some hk hp
  refine ⟨_, _, mistD_ok hk h1, ?_⟩
  have h := hbest (natsOf xs) ((natsOf_len xs).trans (okRota_parts h1).1) (isRight_fit hk h1 h2)
  rwa [(okRota_parts h1).2.1] at h

set_option maxRecDepth 100000 in
set_option maxHeartbeats 16000000 in
theorem turnsLimit_any (t : TaskR) (xs : List Int) (A1 : Option Addr) (c1 : Nat) (w : World) (ht : TaskAt w w.heap.size t) (h1 : Ints w w.heap.size A1 xs) (_hc : xs.length ≤ c1) :
    Calls Try.prog 3 #[taskV t, .slice A1 xs.length c1] w fun e w' => e = .returned (.bool true) ∧ Below w.heap.size w w' := by
  have HWK := Lib.hid works_any
  have HVA := Lib.hid (fun (w0 : World) (hw : Grow w w0) => valid_any t w.heap.size w0 (ht.below hw) hw.size)
  by_cases hP : validD t.d = true ∧ xs.length ≤ 20
  · obtain ⟨hv, hl20⟩ := hP
    obtain ⟨hk, hp6⟩ := validD_iff.1 hv
    rw [hv] at HVA
    have hparts := okTask_parts hk
    have HPA := Lib.hid (fun (w0 : World) (hw : Grow w w0) => planApi_any t w.heap.size w0 (ht.below hw) hw.size)
    have HRO := Lib.hid (fun (w0 : World) (hw : Grow w w0) => isRota_any t xs A1 c1 w.heap.size w0 (h1.below hw) hw.size hl20 hparts.1.2)
    have HRI := Lib.hid (fun (w0 : World) (hw : Grow w w0) => isRight_any t xs A1 c1 w.heap.size w0 (h1.below hw) hw.size hl20 hparts.1.2 (by have := hparts.2.2.2.2.2.1; omega))
    have hgt : decide ((20 : Int) < (xs.length : Int)) = false := decide_eq_false (by omega)
    have hgn : decide (20 < xs.length) = false := decide_eq_false (by omega)
    cases hpd : planD t.d with
    | none =>
      have HL := Lib.hid (limit_none hk hpd xs)
      have HPV : Hid (∀ {lo v m er w}, PlanApiV t.d lo v m er w → v = .slice none 0 0 ∧ m = .int .i64 0 ∧ er = 3) := fun h => by
        unfold PlanApiV at h
        rwa [if_pos hk, hpd] at h
      generalize okRota t.d xs = ro at HRO HL
      generalize isRightD t.d xs = ri at HRI HL
      clear ht h1 hk hpd hparts hv hp6 hl20
      go_enter Try.func3, Try.ntmps3
      go_upto_region 1 with fail
      obtain ⟨W, hW, hg, hf, hsz⟩ := one_block w 25 (cellsT t)
      rw [hW]
      clear hW
      have hcc := hf.cell
      have HF := Lib.hid hf
      have HG := Lib.hid hg
      clear hf hg
      go_wp2_with fail
      refine (HVA.out _ HG.out).mono ?_
      rintro e w2 ⟨rfl, hb2⟩
      have HG2 : Hid (Grow W w2) := hb2
      clear hcc
      have hcc := (HG2.out.block HF.out).cell
      clear hb2
      go_wp2_with fail
      refine (HPA.out _ (HG.out.trans HG2.out)).mono ?_
      rintro e w3 ⟨v, m, er, rfl, hpv, hb3⟩
      obtain ⟨rfl, rfl, rfl⟩ := HPV.out hpv
      have HG3 : Hid (Grow W w3) := HG2.out.trans hb3
      clear hcc hb3 hpv
      have hcc := (HG3.out.block HF.out).cell
      go_wp2_with fail
      refine (HRO.out _ (HG.out.trans HG3.out)).mono ?_
      rintro e w4 ⟨rfl, hb4⟩
      have HG4 : Hid (Grow W w4) := HG3.out.trans hb4
      clear hcc hb4
      have hcc := (HG4.out.block HF.out).cell
      cases ro
      · go_wp2_with fail
        refine (HWK.out _).mono ?_
        rintro e w6 ⟨rfl, hb6⟩
        have HG6 : Hid (Grow W w6) := HG4.out.trans hb6
        clear hb6
        go_wp2
        go_ret
        exact ⟨rfl, HG.out.trans HG6.out⟩
      · obtain rfl : ri = false := HL.out rfl
        go_wp2_with fail
        refine (HRI.out _ (HG.out.trans HG4.out)).mono ?_
        rintro e w5 ⟨rfl, hb5⟩
        have HG5 : Hid (Grow W w5) := HG4.out.trans hb5
        clear hb5
        go_wp2_with fail
        refine (HWK.out _).mono ?_
        rintro e w6 ⟨rfl, hb6⟩
        have HG6 : Hid (Grow W w6) := HG5.out.trans hb6
        clear hb6
        go_wp2
        go_ret
        exact ⟨rfl, HG.out.trans HG6.out⟩
    | some p =>
      obtain ⟨ys, k⟩ := p
      obtain ⟨o1, o2, ⟨bm, o3⟩, o4, o5⟩ := limit_own hk hpd
      have hlim := hparts.2.2.2.2.1.1
      have hrest : 0 ≤ t.d.rest ∧ t.d.rest ≤ 10 := by have := hparts.2.2.2.2.2.1; omega
      have hyl : ys.length ≤ 10 := by omega
      have HOT := Lib.hid (fun (h1 : okRota t.d xs = true) (h2 : isRightD t.d xs = true) => limit_other hk hpd h1 h2)
      have HXL : Hid (okRota t.d xs = true → xs.length = ys.length) := fun h => by rw [(okRota_parts h).1, o4]
      have HPV : Hid (∀ {lo v m er w}, PlanApiV t.d lo v m er w → ∃ b off cap, v = .slice (some ⟨b, off, none⟩) ys.length cap ∧ IntsFc w lo (some ⟨b, off, none⟩) cap ys ∧ m = .int .i64 k ∧ er = 0) := fun h => by
        unfold PlanApiV at h
        rwa [if_pos hk, hpd] at h
      have HKR := Lib.hid (fun (A : Option Addr) (c : Nat) (w0 : World) (hw : Grow w w0) (hi : IntsFc w0 w.heap.size A c ys) => by
        have h := isRota_any t ys A c w0.heap.size w0 hi.1.ints (Nat.le_refl _) (by omega) hparts.1.2
        rw [o1] at h
        exact h)
      have HRA := Lib.hid (fun (A : Option Addr) (c : Nat) (w0 : World) (hw : Grow w w0) (hi : IntsFc w0 w.heap.size A c ys) => by
        have h := rightApi_any t ys A c w0.heap.size w0 ((ht.below hw).more hw.size) hi.1.ints (Nat.le_refl _) hi.2
        rw [o2] at h
        exact h)
      have HMA := Lib.hid (fun (A : Option Addr) (c : Nat) (w0 : World) (hw : Grow w w0) (hi : IntsFc w0 w.heap.size A c ys) => by
        have h := mistakes_any t ys A c w0.heap.size w0 ((ht.below hw).more hw.size) hi.1.ints (Nat.le_refl _)
        rw [o3] at h
        exact h)
      have HKE := Lib.hid (fun (A : Option Addr) (c : Nat) (w0 : World) (hw : Grow w w0) (hi : IntsFc w0 w.heap.size A c ys) => keeps_any t ys A c w0.heap.size w0 hi.1.ints (Nat.le_refl _) (by omega) hlim hrest o5)
      have HMX := Lib.hid (fun (w0 : World) (hw : Grow w w0) => mistakes_any t xs A1 c1 w.heap.size w0 (ht.below hw) (h1.below hw) hw.size)
      have HBE := Lib.hid (fun (A : Option Addr) (c : Nat) (w0 : World) (hw : Grow w w0) (hi : IntsFc w0 w.heap.size A c ys) (hl : xs.length = ys.length) => before_any A1 A c1 c w.heap.size w0.heap.size xs ys w0 (h1.below hw) hi.1.ints hl (by omega))
      generalize mistD t.d xs = mx at HMX HOT
      obtain ⟨mb, mm, me⟩ := mx
      generalize okRota t.d xs = ro at HRO HOT HXL
      generalize isRightD t.d xs = ri at HRI HOT
      generalize beforeL xs ys = bf at HBE HOT
      clear ht h1 hk hpd hparts hv hp6 hl20 o1 o2 o3 o4 o5 hlim hrest hyl
      go_enter Try.func3, Try.ntmps3
      go_upto_region 1 with fail
      obtain ⟨W, hW, hg, hf, hsz⟩ := one_block w 25 (cellsT t)
      rw [hW]
      clear hW
      have hcc := hf.cell
      have HF := Lib.hid hf
      have HG := Lib.hid hg
      clear hf hg
      go_wp2_with fail
      refine (HVA.out _ HG.out).mono ?_
      rintro e w2 ⟨rfl, hb2⟩
      have HG2 : Hid (Grow W w2) := hb2
      clear hcc hb2
      have hcc := (HG2.out.block HF.out).cell
      go_wp2_with fail
      refine (HPA.out _ (HG.out.trans HG2.out)).mono ?_
      rintro e w3 ⟨v, m, er, rfl, hpv, hb3⟩
      obtain ⟨b, off, cap, rfl, hI, rfl, rfl⟩ := HPV.out hpv
      have HG3 : Hid (Grow W w3) := HG2.out.trans hb3
      have HI3 := Lib.hid (hI.mono (HG.out.trans HG2.out).size)
      clear hcc hb3 hpv hI
      have hcc := (HG3.out.block HF.out).cell
      go_upto_region 4 with fail
      go_cut [8] (fun v wx => v = .bool (ro && ri) ∧ Grow W wx ∧ IntsFc wx w.heap.size (some ⟨b, off, none⟩) cap ys)
      case first =>
        go_wp2_with fail
        refine (HRO.out _ (HG.out.trans HG3.out)).mono ?_
        rintro e w4 ⟨rfl, hb4⟩
        have HG4 : Hid (Grow W w4) := HG3.out.trans hb4
        have HI4 := Lib.hid (HI3.out.grow hb4)
        clear hcc hb4
        have hcc := (HG4.out.block HF.out).cell
        cases ro
        · go_wp2
          go_meet
          exact ⟨rfl, HG4.out, HI4.out⟩
        · go_wp2_with fail
          refine (HRI.out _ (HG.out.trans HG4.out)).mono ?_
          rintro e w5 ⟨rfl, hb5⟩
          have HG5 : Hid (Grow W w5) := HG4.out.trans hb5
          have HI5 := Lib.hid (HI4.out.grow hb5)
          clear hb5
          go_wp2
          go_meet
          exact ⟨rfl, HG5.out, HI5.out⟩
      case rest =>
        obtain ⟨rfl, hg5, hI5⟩ := hcut
        rename World => w5
        have HG5 := Lib.hid hg5
        have HI5 := Lib.hid hI5
        clear hg5 hI5 hcc
        have hcc := (HG5.out.block HF.out).cell
        have HRR : Hid ((ro && ri) = true → me = 0 ∧ (k < mm ∨ (k = mm ∧ bf = false)) ∧ xs.length = ys.length) := fun h => by
          rw [Bool.and_eq_true] at h
          obtain ⟨b', m', hq, hm⟩ := HOT.out h.1 h.2
          simp only [Prod.mk.injEq] at hq
          obtain ⟨rfl, rfl, rfl⟩ := hq
          exact ⟨rfl, hm, HXL.out h.1⟩
        generalize (ro && ri) = rr at HRR ⊢
        clear HOT HXL HRO HRI
        go_wp2_with fail
        refine (HKR.out _ cap _ (HG.out.trans HG5.out) HI5.out).mono ?_
        rintro e w6 ⟨rfl, hb6⟩
        have HG6 : Hid (Grow W w6) := HG5.out.trans hb6
        have HI6 := Lib.hid (HI5.out.grow hb6)
        clear hb6 hcc
        have hcc := (HG6.out.block HF.out).cell
        go_wp2_with fail
        refine (HRA.out _ cap _ (HG.out.trans HG6.out) HI6.out).mono ?_
        rintro e w7 ⟨rfl, hb7⟩
        have HG7 : Hid (Grow W w7) := HG6.out.trans hb7
        have HI7 := Lib.hid (HI6.out.grow hb7)
        clear hb7 hcc
        have hcc := (HG7.out.block HF.out).cell
        go_wp2_with fail
        refine (HMA.out _ cap _ (HG.out.trans HG7.out) HI7.out).mono ?_
        rintro e w8 ⟨rfl, hb8⟩
        have HG8 : Hid (Grow W w8) := HG7.out.trans hb8
        have HI8 := Lib.hid (HI7.out.grow hb8)
        clear hb8 hcc
        have hcc := (HG8.out.block HF.out).cell
        have hkk : (k != k) = false := by simp
        have hkd : (!decide (k = k)) = false := by simp
        go_wp2_with fail
        refine (HKE.out _ cap _ (HG.out.trans HG8.out) HI8.out).mono ?_
        rintro e w9 ⟨rfl, hb9⟩
        have HG9 : Hid (Grow W w9) := HG8.out.trans hb9
        have HI9 := Lib.hid (HI8.out.grow hb9)
        clear hb9 hcc hkk hkd
        have hcc := (HG9.out.block HF.out).cell
        cases rr
        · go_wp2_with fail
          refine (HWK.out _).mono ?_
          rintro e wa ⟨rfl, hba⟩
          have HGA : Hid (Grow W wa) := HG9.out.trans hba
          clear hba
          go_wp2
          go_ret
          exact ⟨rfl, HG.out.trans HGA.out⟩
        · obtain ⟨rfl, hm, hxl⟩ := HRR.out rfl
          have HXY := Lib.hid hxl
          have HM := Lib.hid hm
          clear hxl hm
          go_wp2_with fail
          refine (HMX.out _ (HG.out.trans HG9.out)).mono ?_
          rintro e wa ⟨rfl, hba⟩
          have HGA : Hid (Grow W wa) := HG9.out.trans hba
          have HIA := Lib.hid (HI9.out.grow hba)
          clear hba
          by_cases hlt : k < mm
          · have hld : decide (k < mm) = true := decide_eq_true hlt
            clear hlt
            go_wp2_with fail
            refine (HWK.out _).mono ?_
            rintro e wb ⟨rfl, hbb⟩
            have HGB : Hid (Grow W wb) := HGA.out.trans hbb
            clear hbb
            go_wp2
            go_ret
            exact ⟨rfl, HG.out.trans HGB.out⟩
          · have hld : decide (k < mm) = false := decide_eq_false hlt
            obtain ⟨he, rfl⟩ : k = mm ∧ bf = false := by
              rcases HM.out with h | h
              · exact absurd h hlt
              · exact h
            have hed : decide (mm = k) = true := decide_eq_true he.symm
            have heb : (mm == k) = true := by simpa using he.symm
            clear he hlt
            go_wp2_with fail
            refine (HBE.out _ cap _ (HG.out.trans HGA.out) HIA.out HXY.out).mono ?_
            rintro e wb ⟨rfl, nd, rfl⟩
            have HGB : Hid (Grow W (wa.drewN nd)) := Lib.hid (Below.drewN_ HGA.out nd)
            generalize wa.drewN nd = wb at HGB ⊢
            go_wp2_with fail
            refine (HWK.out _).mono ?_
            rintro e wc ⟨rfl, hbc⟩
            have HGC : Hid (Grow W wc) := HGB.out.trans hbc
            clear hbc
            go_wp2
            go_ret
            exact ⟨rfl, HG.out.trans HGC.out⟩
  · have HNO := Lib.hid hP
    clear hP h1
    cases hv : validD t.d
    · rw [hv] at HVA
      clear HNO hv ht
      go_enter Try.func3, Try.ntmps3
      go_upto_region 1 with fail
      obtain ⟨W, hW, hg, hf, hsz⟩ := one_block w 25 (cellsT t)
      rw [hW]
      clear hW
      have hcc := hf.cell
      have HG := Lib.hid hg
      clear hf hg
      go_wp2_with fail
      refine (HVA.out _ HG.out).mono ?_
      rintro e w2 ⟨rfl, hb2⟩
      have HG2 : Hid (Grow w w2) := HG.out.trans hb2
      clear hcc hb2
      go_wp2_with fail
      refine (HWK.out _).mono ?_
      rintro e w6 ⟨rfl, hb6⟩
      have HG6 : Hid (Grow w w6) := HG2.out.trans hb6
      clear hb6
      go_wp2
      go_ret
      exact ⟨rfl, HG6.out⟩
    · have hgt : decide ((20 : Int) < (xs.length : Int)) = true := decide_eq_true (by have : ¬ xs.length ≤ 20 := fun h => HNO.out ⟨hv, h⟩; omega)
      have hgn : decide (20 < xs.length) = true := decide_eq_true (by have : ¬ xs.length ≤ 20 := fun h => HNO.out ⟨hv, h⟩; omega)
      rw [hv] at HVA
      clear HNO hv ht
      go_enter Try.func3, Try.ntmps3
      go_upto_region 1 with fail
      obtain ⟨W, hW, hg, hf, hsz⟩ := one_block w 25 (cellsT t)
      rw [hW]
      clear hW
      have hcc := hf.cell
      have HG := Lib.hid hg
      clear hf hg
      go_wp2_with fail
      refine (HVA.out _ HG.out).mono ?_
      rintro e w2 ⟨rfl, hb2⟩
      have HG2 : Hid (Grow w w2) := HG.out.trans hb2
      clear hcc hb2
      go_wp2_with fail
      refine (HWK.out _).mono ?_
      rintro e w6 ⟨rfl, hb6⟩
      have HG6 : Hid (Grow w w6) := HG2.out.trans hb6
      clear hb6
      go_wp2
      go_ret
      exact ⟨rfl, HG6.out⟩

end Go.Proofs.Ythlihchndmbkaaa
