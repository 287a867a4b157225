/- MarkedLaw: the law ExamsMarked answers true at any paper and any marks; written by wip/tools/markedlaw9.py. -/
import Derived.Test.YthehkgpnnndboaaDoorLawM
namespace Go.Proofs.YthehkgpnnndboaaDoor
open Go.RowKit

theorem run_max4 (P : Program) (w : World) (ts : Array TypeId) (t : TypeId) (a b c d : Int) : (Builtin.max_ ts t #[.int .i64 a, .int .i64 b, .int .i64 c, .int .i64 d]).run P w = .ok (.int .i64 (max (max (max a b) c) d)) w := by
  simp [Builtin.max_, Builtin.max2]
  omega
theorem near_of {x y mk e : Int} (hx : 0 ≤ x ∧ x ≤ 30) (hy : 0 ≤ y ∧ y ≤ 30) (hk : -9223372036854775808 ≤ mk ∧ mk ≤ 9223372036854775807) (he : 0 ≤ e ∧ e ≤ 5)
    (h : max (max (max (IntKind.i64.wrap (x - mk)) (IntKind.i64.wrap (mk - x))) (IntKind.i64.wrap (y - mk))) (IntKind.i64.wrap (mk - y)) ≤ e) : ∃ m, x - m ≤ e ∧ m - x ≤ e ∧ y - m ≤ e ∧ m - y ≤ e := by
  rw [IntKind.wrap_i64, IntKind.wrap_i64, IntKind.wrap_i64, IntKind.wrap_i64] at h
  by_cases h1 : x - mk = 9223372036854775808
  · exact ⟨x, by omega⟩
  · exact ⟨mk, by omega⟩
attribute [local go_sem] run_max4
set_option maxRecDepth 100000 in
set_option maxHeartbeats 32000000 in
theorem marked_any (p : PaperR) (A : Option Addr) (ca : Nat) (xs : List Int) (B : Option Addr) (cb : Nat) (ys : List Int) (mk er : Int) (hmk : -9223372036854775808 ≤ mk ∧ mk ≤ 9223372036854775807) (w : World) (hA : PaperAt w w.heap.size p) (hI : Ints w w.heap.size A xs) (hJ : Ints w w.heap.size B ys) (hG : Glob w) :
    Calls Tryd.prog 11 #[paperV p, .agg #[.slice A xs.length ca, .slice B ys.length cb, .int .i64 mk, .int .i64 er]] w fun e w' => e = .returned (.bool true) ∧ Below w.heap.size w w' := by
  have HWK := Lib.hid (fun (w0 : World) (hw : Grow w w0) => works_any w0 (hG.grow hw))
  have HRY := Lib.hid (fun (w0 : World) (hw : Grow w w0) => ready_any p w0 (hA.grow hw))
  have HPA := Lib.hid (fun (w0 : World) (hw : Grow w w0) => hA.grow hw)
  have HGL := Lib.hid (fun (w0 : World) (hw : Grow w w0) => hG.grow hw)
  have HIX := Lib.hid (fun (w0 : World) (hw : Grow w w0) => (hI.below hw).more hw.size)
  have HIY := Lib.hid (fun (w0 : World) (hw : Grow w w0) => (hJ.below hw).more hw.size)
  obtain ⟨rd, hrd⟩ : ∃ z, readyP p = z := ⟨_, rfl⟩
  have HRD : Hid (readyP p = rd) := Lib.hid hrd
  rw [hrd] at HRY
  clear hrd hA hI hJ hG
  go_enter Tryd.func11, Tryd.ntmps11
  go_upto_region 1 with fail
  obtain ⟨W, hW, hgr, hf, hm, hsz⟩ := two_blocks w 26 67 (cellsP p) #[.slice A xs.length ca, .slice B ys.length cb, .int .i64 mk, .int .i64 er]
  rw [hW]
  clear hW
  have HG := Lib.hid hgr
  have HF := Lib.hid hf
  have HM := Lib.hid hm
  have hcc := hf.cell
  have hmc := hm.cell
  clear hgr hf hm
  go_wp2_with fail
  refine (HRY.out W HG.out).mono ?_
  rintro e w1 ⟨rfl, hb1⟩
  have HG1 : Hid (Grow w w1) := Lib.hid (HG.out.trans hb1)
  have HF1 := Lib.hid ((show Grow W w1 from hb1).block HF.out)
  have HM1 := Lib.hid ((show Grow W w1 from hb1).block HM.out)
  clear hb1 hcc hmc HG HF HM HRY
  have hcc := HF1.out.cell
  have hmc := HM1.out.cell
  cases rd with
  | false =>
    go_wp2_with fail
    refine (HWK.out _ HG1.out).mono ?_
    rintro e w9 ⟨rfl, hb9⟩
    have HG9 : Hid (Grow w w9) := Lib.hid ((HG1.out).trans hb9)
    clear hb9
    go_wp2_with fail
    go_ret
    exact ⟨rfl, HG9.out⟩
  | true =>
  obtain ⟨hok, G, hs, hj3⟩ := ready_parts HRD.out
  by_cases x20 : 20 < xs.length
  · have hd1 : decide ((20 : Int) < (xs.length : Int)) = true := decide_eq_true (by omega)
    go_wp2_with fail
    refine (HWK.out _ HG1.out).mono ?_
    rintro e w9 ⟨rfl, hb9⟩
    have HG9 : Hid (Grow w w9) := Lib.hid ((HG1.out).trans hb9)
    clear hb9
    go_wp2_with fail
    go_ret
    exact ⟨rfl, HG9.out⟩
  have hd1 : decide ((20 : Int) < (xs.length : Int)) = false := decide_eq_false (by omega)
  by_cases y20 : 20 < ys.length
  · have hd2 : decide ((20 : Int) < (ys.length : Int)) = true := decide_eq_true (by omega)
    go_wp2_with fail
    refine (HWK.out _ HG1.out).mono ?_
    rintro e w9 ⟨rfl, hb9⟩
    have HG9 : Hid (Grow w w9) := Lib.hid ((HG1.out).trans hb9)
    clear hb9
    go_wp2_with fail
    go_ret
    exact ⟨rfl, HG9.out⟩
  have hd2 : decide ((20 : Int) < (ys.length : Int)) = false := decide_eq_false (by omega)
  by_cases e0 : er < 0
  · have hd3 : decide (er < 0) = true := decide_eq_true e0
    go_wp2_with fail
    refine (HWK.out _ HG1.out).mono ?_
    rintro e w9 ⟨rfl, hb9⟩
    have HG9 : Hid (Grow w w9) := Lib.hid ((HG1.out).trans hb9)
    clear hb9
    go_wp2_with fail
    go_ret
    exact ⟨rfl, HG9.out⟩
  have hd3 : decide (er < 0) = false := decide_eq_false e0
  by_cases e5 : 5 < er
  · have hd4 : decide (5 < er) = true := decide_eq_true e5
    go_wp2_with fail
    refine (HWK.out _ HG1.out).mono ?_
    rintro e w9 ⟨rfl, hb9⟩
    have HG9 : Hid (Grow w w9) := Lib.hid ((HG1.out).trans hb9)
    clear hb9
    go_wp2_with fail
    go_ret
    exact ⟨rfl, HG9.out⟩
  have hd4 : decide (5 < er) = false := decide_eq_false e5
  obtain ⟨ne, rfl⟩ : ∃ n : Nat, er = (n : Int) := ⟨er.toNat, by omega⟩
  have HNX := Lib.hid (fun (w0 : World) (hw : Grow w w0) => nextApi_any p (ne : Int) w0 (HPA.out w0 hw) hs (HGL.out w0 hw))
  have HRG := Lib.hid (fun (w0 : World) (hw : Grow w w0) => rangeApi_any p w0 (HPA.out w0 hw) hs (HGL.out w0 hw))
  have hnum : numErr p (ne : Int) 5 = numErr p 0 0 := num_same (inB_iff.2 (by omega))
  unfold nextV at HNX
  unfold rangeV at HRG
  rw [hnum] at HNX
  clear hnum HRD
  by_cases hT : truthsL p.d = []
  · have h3 := num_none hok hT
    rw [h3, if_neg (by decide)] at HNX HRG
    clear h3 hT
    go_wp2_with fail
    refine (HNX.out _ HG1.out).mono ?_
    rintro e w2 ⟨rfl, hb2⟩
    have HG2 : Hid (Grow w w2) := Lib.hid (HG1.out.trans hb2)
    have HF2 := Lib.hid ((show Grow w1 w2 from hb2).block HF1.out)
    clear hb2 hcc hmc
    have hcc := HF2.out.cell
    go_wp2_with fail
    refine (HRG.out _ HG2.out).mono ?_
    rintro e w3 ⟨rfl, hb3⟩
    have HG3 : Hid (Grow w w3) := Lib.hid (HG2.out.trans hb3)
    clear hb3 hcc
    go_upto_region 5 with fail
    obtain ⟨W4, hW4, hg4, hf4, hs4⟩ := one_block w3 33 #[.int .i64 0, .int .i64 0]
    rw [show w3.alloc (.cells #[.int .i64 0, .int .i64 0] 33) = W4 from hW4]
    clear hW4
    have HG4 : Hid (Grow w W4) := Lib.hid (HG3.out.trans hg4)
    clear hg4 hf4
    go_wp2_with fail
    refine (HWK.out _ HG4.out).mono ?_
    rintro e w9 ⟨rfl, hb9⟩
    have HG9 : Hid (Grow w w9) := Lib.hid ((HG4.out).trans hb9)
    clear hb9
    go_wp2_with fail
    go_ret
    exact ⟨rfl, HG9.out⟩
  have h0 := num_some hok hT
  rw [h0, if_pos rfl] at HNX HRG
  rw [show ((ne : Int)).toNat = ne from Int.toNat_natCast ne] at HNX
  have hni := next_in G ne
  have hwl := width_le G hT (nextD p.d ne).1 ne
  rw [← hni.2] at hwl
  have HMI := Lib.hid (fun (hp : possD p.d xs = true) (hq : possD p.d ys = true) (m : Int) h1 h2 h3 h4 => marked_in (d := p.d) hni.1 hp hq (mark := m) (err := ne) h1 h2 h3 h4)
  rw [← hni.2] at HMI
  obtain ⟨⟨i0, wd⟩, hnd⟩ : ∃ z, nextD p.d ne = z := ⟨_, rfl⟩
  rw [hnd] at HNX hwl HMI
  have hi0 : i0 < p.items.length := by
    have := hni.1
    rw [hnd] at this
    exact this
  have hrr : -1 ≤ (rangeD p.d).1 ∧ (rangeD p.d).1 ≤ 1201 ∧ -1 ≤ (rangeD p.d).2 ∧ (rangeD p.d).2 ≤ 1201 := by
    have := inR_span (l := (truthsL p.d).map (resD p.items)) fun n hn => by
      obtain ⟨ps, hp, rfl⟩ := List.mem_map.1 hn
      exact G.res (mem_truths.1 hp)
    obtain ⟨⟨a1, a2⟩, a3, a4⟩ := this
    exact ⟨a1, a2, a3, a4⟩
  obtain ⟨⟨lo, hi⟩, hrg⟩ : ∃ z, rangeD p.d = z := ⟨_, rfl⟩
  rw [hrg] at HRG hwl hrr
  dsimp only at HNX HRG HMI hwl hrr
  clear hni hnd hrg h0 hT hd1 hd2 hd3 hd4
  have hd1 : decide ((20 : Int) < (xs.length : Int)) = false := decide_eq_false (by omega)
  have hd2 : decide ((20 : Int) < (ys.length : Int)) = false := decide_eq_false (by omega)
  have hd3 : decide ((ne : Int) < 0) = false := decide_eq_false e0
  have hd4 : decide (5 < (ne : Int)) = false := decide_eq_false e5
  have hd4' : decide (5 < ne) = false := decide_eq_false (by omega)
  go_wp2_with fail
  refine (HNX.out _ HG1.out).mono ?_
  rintro e w2 ⟨rfl, hb2⟩
  have HG2 : Hid (Grow w w2) := Lib.hid (HG1.out.trans hb2)
  have HF2 := Lib.hid ((show Grow w1 w2 from hb2).block HF1.out)
  have HM2 := Lib.hid ((show Grow w1 w2 from hb2).block HM1.out)
  clear hb2 hcc hmc HF1 HM1
  have hcc := HF2.out.cell
  go_wp2_with fail
  refine (HRG.out _ HG2.out).mono ?_
  rintro e w3 ⟨rfl, hb3⟩
  have HG3 : Hid (Grow w w3) := Lib.hid (HG2.out.trans hb3)
  have HF3 := Lib.hid ((show Grow w2 w3 from hb3).block HF2.out)
  have HM3 := Lib.hid ((show Grow w2 w3 from hb3).block HM2.out)
  clear hb3 hcc HF2 HM2
  go_upto_region 5 with fail
  obtain ⟨W4, hW4, hg4, hf4, hs4⟩ := one_block w3 33 #[.int .i64 lo, .int .i64 hi]
  rw [show w3.alloc (.cells #[.int .i64 lo, .int .i64 hi] 33) = W4 from hW4]
  clear hW4
  have HG4 : Hid (Grow w W4) := Lib.hid (HG3.out.trans hg4)
  have HF4 := Lib.hid (hg4.block HF3.out)
  have HM4 := Lib.hid (hg4.block HM3.out)
  have hcc := HF4.out.cell
  have hsc := hf4.cell
  clear hg4 HF3 HM3
  have hq1 : decide ((i0 : Int) < 0) = false := decide_eq_false (by omega)
  have hq2 : decide ((p.items.length : Int) ≤ (i0 : Int)) = false := decide_eq_false (by omega)
  have hq2' : decide (p.items.length ≤ i0) = false := decide_eq_false (by omega)
  have hq3 : decide (wd < 0) = false := decide_eq_false (by omega)
  have hws : IntKind.i64.wrap (hi - lo) = hi - lo := IntWalk.i64_in _ (by omega)
  have hq4 : decide (hi - lo < wd) = false := decide_eq_false (by omega)
  have HPX := Lib.hid (fun (w0 : World) (hw : Grow w w0) => rIsPossible_any p G A ca xs (by omega) w0 (HPA.out w0 hw) (HIX.out w0 hw))
  have HPY := Lib.hid (fun (w0 : World) (hw : Grow w w0) => rIsPossible_any p G B cb ys (by omega) w0 (HPA.out w0 hw) (HIY.out w0 hw))
  have HRX := Lib.hid (fun hfx (w0 : World) (hw : Grow w w0) => rResult_any p G A ca xs hfx w0 (HPA.out w0 hw) (HIX.out w0 hw))
  have HRY2 := Lib.hid (fun hfy (w0 : World) (hw : Grow w w0) => rResult_any p G B cb ys hfy w0 (HPA.out w0 hw) (HIY.out w0 hw))
  have HBX := Lib.hid (fun hp => G.res (ps := xs) hp)
  have HBY := Lib.hid (fun hp => G.res (ps := ys) hp)
  have HFX : Hid (possD p.d xs = true → fitsI p.items xs = true) := Lib.hid (fun h => by unfold possD at h; rw [Bool.and_eq_true] at h; exact h.1)
  have HFY : Hid (possD p.d ys = true → fitsI p.items ys = true) := Lib.hid (fun h => by unfold possD at h; rw [Bool.and_eq_true] at h; exact h.1)
  have HBD := Lib.hid (fun (zs : List Int) (hz : fitsI p.items zs = true) => fits_bound G hz)
  go_wp2_with fail
  clear hq1 hq2 hq2' hq3 hq4 hws hcc hsc hd1 hd2 hd3 hd4 hd4'
  cases hpx : possD p.d xs with
  | false =>
    rw [hpx] at HPX
    clear hpx
    refine wp_region_lit 50 [[], [], [(1, 87)], [(0, 86), (2, 88)], [(3, 89)], [(4, 90)], [(5, 91)], [(5, 91)], [(5, 91), (7, 93)], [(5, 91), (6, 92), (8, 94)], [(5, 91), (9, 95)], [(5, 91), (10, 96)], [(11, 97)], [(12, 98)], [(12, 98), (13, 99)], [(12, 98)], [(12, 98), (14, 100), (15, 101)], [(12, 98), (16, 102)], [(12, 98)], [(12, 98), (18, 104)], [(12, 98), (17, 103), (19, 105)], [(12, 98)], [(12, 98), (21, 107)], [(12, 98)], [(12, 98), (23, 109)], [(12, 98)], [(12, 98), (24, 110), (25, 111)], [(12, 98), (26, 112)], [(12, 98), (22, 108), (27, 113)], [(12, 98)], [(12, 98), (29, 115)], [(12, 98)], [(12, 98), (30, 116), (31, 117)], [(12, 98), (32, 118)], [(12, 98)], [(12, 98), (34, 120)], [(12, 98), (33, 119), (35, 121)], [(12, 98)], [(12, 98), (37, 123)], [(12, 98)], [(12, 98), (39, 125)], [(12, 98)], [(12, 98), (40, 126), (41, 127)], [(12, 98), (42, 128)], [(12, 98), (38, 124), (43, 129)], [(12, 98), (20, 106), (28, 114), (36, 122), (44, 130)], [(12, 98)], [(12, 98), (46, 132)], [(12, 98), (45, 131), (47, 133)], [(12, 98), (48, 134)]] Grow (fun qi v w' => match qi with
        | 0 => v = paperV p
        | 1 => v = .pointer (some ⟨w.heap.size + 1, 0, none⟩)
        | 2 => v = .slice A xs.length ca
        | 3 => v = .bool false
        | 4 => v = .bool true
        | 5 => v = .bool true
        | 6 => v = undef
        | 7 => v = undef
        | 8 => v = undef
        | 9 => v = undef
        | 10 => v = undef
        | 11 => v = .bool true
        | 12 => v = .bool true
        | 13 => v = undef
        | 14 => v = undef
        | 15 => v = undef
        | 16 => v = undef
        | 17 => v = undef
        | 18 => v = undef
        | 19 => v = undef
        | 20 => v = undef
        | 21 => v = undef
        | 22 => v = undef
        | 23 => v = undef
        | 24 => v = undef
        | 25 => v = undef
        | 26 => v = undef
        | 27 => v = undef
        | 28 => v = undef
        | 29 => v = undef
        | 30 => v = undef
        | 31 => v = undef
        | 32 => v = undef
        | 33 => v = undef
        | 34 => v = undef
        | 35 => v = undef
        | 36 => v = undef
        | 37 => v = undef
        | 38 => v = undef
        | 39 => v = undef
        | 40 => v = undef
        | 41 => v = undef
        | 42 => v = undef
        | 43 => v = undef
        | 44 => v = undef
        | 45 => v = undef
        | 46 => v = undef
        | 47 => v = undef
        | 48 => v = undef
        | 49 => v = .bool true
        | _ => False) (by kernel_rfl) (by kernel_rfl) (fun _ _ _ => Grow.trans) Grow.refl ?_ ?_ ?_
    · intro i v y y' h k
      match i, h with
      | 0, h | 1, h | 2, h | 3, h | 4, h | 5, h | 6, h | 7, h | 8, h | 9, h | 10, h | 11, h | 12, h | 13, h | 14, h | 15, h | 16, h | 17, h | 18, h | 19, h | 20, h | 21, h | 22, h | 23, h | 24, h | 25, h | 26, h | 27, h | 28, h | 29, h | 30, h | 31, h | 32, h | 33, h | 34, h | 35, h | 36, h | 37, h | 38, h | 39, h | 40, h | 41, h | 42, h | 43, h | 44, h | 45, h | 46, h | 47, h | 48, h | 49, h => exact h
    · simp only [StepsLit, List.take_succ_cons, List.take_zero]
      refine ⟨?_, ?_, ?_, ?_, ?_, ?_, ?_, ?_, ?_, ?_, ?_, ?_, ?_, ?_, ?_, ?_, ?_, ?_, ?_, ?_, ?_, ?_, ?_, ?_, ?_, ?_, ?_, ?_, ?_, ?_, ?_, ?_, ?_, ?_, ?_, ?_, ?_, ?_, ?_, ?_, ?_, ?_, ?_, ?_, ?_, ?_, ?_, ?_, ?_, ?_, trivial⟩
      · intro w5 hR
        have hGw : Grow W4 w5 := hR.of_drew
        have HGW := Lib.hid hGw
        have hcc := (HGW.out.block HF4.out).cell
        have hmc := (HGW.out.block HM4.out).cell
        clear hR hGw
        simp only [depV]
        try go_simp
        all_goals first
          | (with_reducible exact Grow.refl _)
          | (with_reducible exact ⟨Grow.refl _, rfl⟩)
      · intro w5 hR
        have hGw : Grow W4 w5 := hR.of_drew
        have HGW := Lib.hid hGw
        have hcc := (HGW.out.block HF4.out).cell
        have hmc := (HGW.out.block HM4.out).cell
        clear hR hGw
        simp only [depV]
        try go_simp
        all_goals first
          | (with_reducible exact Grow.refl _)
          | (with_reducible exact ⟨Grow.refl _, rfl⟩)
      · intro w5 hR
        have hGw : Grow W4 w5 := hR.of_drew
        have HGW := Lib.hid hGw
        have hcc := (HGW.out.block HF4.out).cell
        have hmc := (HGW.out.block HM4.out).cell
        clear hR hGw
        simp only [depV]
        rintro _ rfl
        try go_simp
        all_goals first
          | (with_reducible exact Grow.refl _)
          | (with_reducible exact ⟨Grow.refl _, rfl⟩)
      · intro w5 hR
        have hGw : Grow W4 w5 := hR.of_drew
        have HGW := Lib.hid hGw
        have hcc := (HGW.out.block HF4.out).cell
        have hmc := (HGW.out.block HM4.out).cell
        clear hR hGw
        simp only [depV]
        rintro _ rfl
        rintro _ rfl
        try go_simp
        refine (HPX.out w5 (HG4.out.trans HGW.out)).mono ?_
        rintro e w6 ⟨rfl, hb6⟩
        exact ⟨hb6, rfl⟩
      · intro w5 hR
        have hGw : Grow W4 w5 := hR.of_drew
        have HGW := Lib.hid hGw
        have hcc := (HGW.out.block HF4.out).cell
        have hmc := (HGW.out.block HM4.out).cell
        clear hR hGw
        simp only [depV]
        rintro _ rfl
        try go_simp
        all_goals first
          | (with_reducible exact Grow.refl _)
          | (with_reducible exact ⟨Grow.refl _, rfl⟩)
      · intro w5 hR
        have hGw : Grow W4 w5 := hR.of_drew
        have HGW := Lib.hid hGw
        have hcc := (HGW.out.block HF4.out).cell
        have hmc := (HGW.out.block HM4.out).cell
        clear hR hGw
        simp only [depV]
        rintro _ rfl
        try go_simp
        all_goals first
          | (with_reducible exact Grow.refl _)
          | (with_reducible exact ⟨Grow.refl _, rfl⟩)
      · intro w5 hR
        have hGw : Grow W4 w5 := hR.of_drew
        have HGW := Lib.hid hGw
        have hcc := (HGW.out.block HF4.out).cell
        have hmc := (HGW.out.block HM4.out).cell
        clear hR hGw
        simp only [depV]
        rintro _ rfl
        try go_simp
        all_goals first
          | (with_reducible exact Grow.refl _)
          | (with_reducible exact ⟨Grow.refl _, rfl⟩)
      · intro w5 hR
        have hGw : Grow W4 w5 := hR.of_drew
        have HGW := Lib.hid hGw
        have hcc := (HGW.out.block HF4.out).cell
        have hmc := (HGW.out.block HM4.out).cell
        clear hR hGw
        simp only [depV]
        rintro _ rfl
        try go_simp
        all_goals first
          | (with_reducible exact Grow.refl _)
          | (with_reducible exact ⟨Grow.refl _, rfl⟩)
      · intro w5 hR
        have hGw : Grow W4 w5 := hR.of_drew
        have HGW := Lib.hid hGw
        have hcc := (HGW.out.block HF4.out).cell
        have hmc := (HGW.out.block HM4.out).cell
        clear hR hGw
        simp only [depV]
        rintro _ rfl
        rintro _ rfl
        try go_simp
        all_goals first
          | (with_reducible exact Grow.refl _)
          | (with_reducible exact ⟨Grow.refl _, rfl⟩)
      · intro w5 hR
        have hGw : Grow W4 w5 := hR.of_drew
        have HGW := Lib.hid hGw
        have hcc := (HGW.out.block HF4.out).cell
        have hmc := (HGW.out.block HM4.out).cell
        clear hR hGw
        simp only [depV]
        rintro _ rfl
        rintro _ rfl
        rintro _ rfl
        try go_simp
        all_goals first
          | (with_reducible exact Grow.refl _)
          | (with_reducible exact ⟨Grow.refl _, rfl⟩)
      · intro w5 hR
        have hGw : Grow W4 w5 := hR.of_drew
        have HGW := Lib.hid hGw
        have hcc := (HGW.out.block HF4.out).cell
        have hmc := (HGW.out.block HM4.out).cell
        clear hR hGw
        simp only [depV]
        rintro _ rfl
        rintro _ rfl
        try go_simp
        all_goals first
          | (with_reducible exact Grow.refl _)
          | (with_reducible exact ⟨Grow.refl _, rfl⟩)
      · intro w5 hR
        have hGw : Grow W4 w5 := hR.of_drew
        have HGW := Lib.hid hGw
        have hcc := (HGW.out.block HF4.out).cell
        have hmc := (HGW.out.block HM4.out).cell
        clear hR hGw
        simp only [depV]
        rintro _ rfl
        rintro _ rfl
        try go_simp
        all_goals first
          | (with_reducible exact Grow.refl _)
          | (with_reducible exact ⟨Grow.refl _, rfl⟩)
      · intro w5 hR
        have hGw : Grow W4 w5 := hR.of_drew
        have HGW := Lib.hid hGw
        have hcc := (HGW.out.block HF4.out).cell
        have hmc := (HGW.out.block HM4.out).cell
        clear hR hGw
        simp only [depV]
        rintro _ rfl
        try go_simp
        all_goals first
          | (with_reducible exact Grow.refl _)
          | (with_reducible exact ⟨Grow.refl _, rfl⟩)
      · intro w5 hR
        have hGw : Grow W4 w5 := hR.of_drew
        have HGW := Lib.hid hGw
        have hcc := (HGW.out.block HF4.out).cell
        have hmc := (HGW.out.block HM4.out).cell
        clear hR hGw
        simp only [depV]
        rintro _ rfl
        try go_simp
        all_goals first
          | (with_reducible exact Grow.refl _)
          | (with_reducible exact ⟨Grow.refl _, rfl⟩)
      · intro w5 hR
        have hGw : Grow W4 w5 := hR.of_drew
        have HGW := Lib.hid hGw
        have hcc := (HGW.out.block HF4.out).cell
        have hmc := (HGW.out.block HM4.out).cell
        clear hR hGw
        simp only [depV]
        rintro _ rfl
        rintro _ rfl
        try go_simp
        all_goals first
          | (with_reducible exact Grow.refl _)
          | (with_reducible exact ⟨Grow.refl _, rfl⟩)
      · intro w5 hR
        have hGw : Grow W4 w5 := hR.of_drew
        have HGW := Lib.hid hGw
        have hcc := (HGW.out.block HF4.out).cell
        have hmc := (HGW.out.block HM4.out).cell
        clear hR hGw
        simp only [depV]
        rintro _ rfl
        try go_simp
        all_goals first
          | (with_reducible exact Grow.refl _)
          | (with_reducible exact ⟨Grow.refl _, rfl⟩)
      · intro w5 hR
        have hGw : Grow W4 w5 := hR.of_drew
        have HGW := Lib.hid hGw
        have hcc := (HGW.out.block HF4.out).cell
        have hmc := (HGW.out.block HM4.out).cell
        clear hR hGw
        simp only [depV]
        rintro _ rfl
        rintro _ rfl
        rintro _ rfl
        try go_simp
        all_goals first
          | (with_reducible exact Grow.refl _)
          | (with_reducible exact ⟨Grow.refl _, rfl⟩)
      · intro w5 hR
        have hGw : Grow W4 w5 := hR.of_drew
        have HGW := Lib.hid hGw
        have hcc := (HGW.out.block HF4.out).cell
        have hmc := (HGW.out.block HM4.out).cell
        clear hR hGw
        simp only [depV]
        rintro _ rfl
        rintro _ rfl
        try go_simp
        all_goals first
          | (with_reducible exact Grow.refl _)
          | (with_reducible exact ⟨Grow.refl _, rfl⟩)
      · intro w5 hR
        have hGw : Grow W4 w5 := hR.of_drew
        have HGW := Lib.hid hGw
        have hcc := (HGW.out.block HF4.out).cell
        have hmc := (HGW.out.block HM4.out).cell
        clear hR hGw
        simp only [depV]
        rintro _ rfl
        try go_simp
        all_goals first
          | (with_reducible exact Grow.refl _)
          | (with_reducible exact ⟨Grow.refl _, rfl⟩)
      · intro w5 hR
        have hGw : Grow W4 w5 := hR.of_drew
        have HGW := Lib.hid hGw
        have hcc := (HGW.out.block HF4.out).cell
        have hmc := (HGW.out.block HM4.out).cell
        clear hR hGw
        simp only [depV]
        rintro _ rfl
        rintro _ rfl
        try go_simp
        all_goals first
          | (with_reducible exact Grow.refl _)
          | (with_reducible exact ⟨Grow.refl _, rfl⟩)
      · intro w5 hR
        have hGw : Grow W4 w5 := hR.of_drew
        have HGW := Lib.hid hGw
        have hcc := (HGW.out.block HF4.out).cell
        have hmc := (HGW.out.block HM4.out).cell
        clear hR hGw
        simp only [depV]
        rintro _ rfl
        rintro _ rfl
        rintro _ rfl
        try go_simp
        all_goals first
          | (with_reducible exact Grow.refl _)
          | (with_reducible exact ⟨Grow.refl _, rfl⟩)
      · intro w5 hR
        have hGw : Grow W4 w5 := hR.of_drew
        have HGW := Lib.hid hGw
        have hcc := (HGW.out.block HF4.out).cell
        have hmc := (HGW.out.block HM4.out).cell
        clear hR hGw
        simp only [depV]
        rintro _ rfl
        try go_simp
        all_goals first
          | (with_reducible exact Grow.refl _)
          | (with_reducible exact ⟨Grow.refl _, rfl⟩)
      · intro w5 hR
        have hGw : Grow W4 w5 := hR.of_drew
        have HGW := Lib.hid hGw
        have hcc := (HGW.out.block HF4.out).cell
        have hmc := (HGW.out.block HM4.out).cell
        clear hR hGw
        simp only [depV]
        rintro _ rfl
        rintro _ rfl
        try go_simp
        all_goals first
          | (with_reducible exact Grow.refl _)
          | (with_reducible exact ⟨Grow.refl _, rfl⟩)
      · intro w5 hR
        have hGw : Grow W4 w5 := hR.of_drew
        have HGW := Lib.hid hGw
        have hcc := (HGW.out.block HF4.out).cell
        have hmc := (HGW.out.block HM4.out).cell
        clear hR hGw
        simp only [depV]
        rintro _ rfl
        try go_simp
        all_goals first
          | (with_reducible exact Grow.refl _)
          | (with_reducible exact ⟨Grow.refl _, rfl⟩)
      · intro w5 hR
        have hGw : Grow W4 w5 := hR.of_drew
        have HGW := Lib.hid hGw
        have hcc := (HGW.out.block HF4.out).cell
        have hmc := (HGW.out.block HM4.out).cell
        clear hR hGw
        simp only [depV]
        rintro _ rfl
        rintro _ rfl
        try go_simp
        all_goals first
          | (with_reducible exact Grow.refl _)
          | (with_reducible exact ⟨Grow.refl _, rfl⟩)
      · intro w5 hR
        have hGw : Grow W4 w5 := hR.of_drew
        have HGW := Lib.hid hGw
        have hcc := (HGW.out.block HF4.out).cell
        have hmc := (HGW.out.block HM4.out).cell
        clear hR hGw
        simp only [depV]
        rintro _ rfl
        try go_simp
        all_goals first
          | (with_reducible exact Grow.refl _)
          | (with_reducible exact ⟨Grow.refl _, rfl⟩)
      · intro w5 hR
        have hGw : Grow W4 w5 := hR.of_drew
        have HGW := Lib.hid hGw
        have hcc := (HGW.out.block HF4.out).cell
        have hmc := (HGW.out.block HM4.out).cell
        clear hR hGw
        simp only [depV]
        rintro _ rfl
        rintro _ rfl
        rintro _ rfl
        try go_simp
        all_goals first
          | (with_reducible exact Grow.refl _)
          | (with_reducible exact ⟨Grow.refl _, rfl⟩)
      · intro w5 hR
        have hGw : Grow W4 w5 := hR.of_drew
        have HGW := Lib.hid hGw
        have hcc := (HGW.out.block HF4.out).cell
        have hmc := (HGW.out.block HM4.out).cell
        clear hR hGw
        simp only [depV]
        rintro _ rfl
        rintro _ rfl
        try go_simp
        all_goals first
          | (with_reducible exact Grow.refl _)
          | (with_reducible exact ⟨Grow.refl _, rfl⟩)
      · intro w5 hR
        have hGw : Grow W4 w5 := hR.of_drew
        have HGW := Lib.hid hGw
        have hcc := (HGW.out.block HF4.out).cell
        have hmc := (HGW.out.block HM4.out).cell
        clear hR hGw
        simp only [depV]
        rintro _ rfl
        rintro _ rfl
        rintro _ rfl
        try go_simp
        all_goals first
          | (with_reducible exact Grow.refl _)
          | (with_reducible exact ⟨Grow.refl _, rfl⟩)
      · intro w5 hR
        have hGw : Grow W4 w5 := hR.of_drew
        have HGW := Lib.hid hGw
        have hcc := (HGW.out.block HF4.out).cell
        have hmc := (HGW.out.block HM4.out).cell
        clear hR hGw
        simp only [depV]
        rintro _ rfl
        try go_simp
        all_goals first
          | (with_reducible exact Grow.refl _)
          | (with_reducible exact ⟨Grow.refl _, rfl⟩)
      · intro w5 hR
        have hGw : Grow W4 w5 := hR.of_drew
        have HGW := Lib.hid hGw
        have hcc := (HGW.out.block HF4.out).cell
        have hmc := (HGW.out.block HM4.out).cell
        clear hR hGw
        simp only [depV]
        rintro _ rfl
        rintro _ rfl
        try go_simp
        all_goals first
          | (with_reducible exact Grow.refl _)
          | (with_reducible exact ⟨Grow.refl _, rfl⟩)
      · intro w5 hR
        have hGw : Grow W4 w5 := hR.of_drew
        have HGW := Lib.hid hGw
        have hcc := (HGW.out.block HF4.out).cell
        have hmc := (HGW.out.block HM4.out).cell
        clear hR hGw
        simp only [depV]
        rintro _ rfl
        try go_simp
        all_goals first
          | (with_reducible exact Grow.refl _)
          | (with_reducible exact ⟨Grow.refl _, rfl⟩)
      · intro w5 hR
        have hGw : Grow W4 w5 := hR.of_drew
        have HGW := Lib.hid hGw
        have hcc := (HGW.out.block HF4.out).cell
        have hmc := (HGW.out.block HM4.out).cell
        clear hR hGw
        simp only [depV]
        rintro _ rfl
        rintro _ rfl
        rintro _ rfl
        try go_simp
        all_goals first
          | (with_reducible exact Grow.refl _)
          | (with_reducible exact ⟨Grow.refl _, rfl⟩)
      · intro w5 hR
        have hGw : Grow W4 w5 := hR.of_drew
        have HGW := Lib.hid hGw
        have hcc := (HGW.out.block HF4.out).cell
        have hmc := (HGW.out.block HM4.out).cell
        clear hR hGw
        simp only [depV]
        rintro _ rfl
        rintro _ rfl
        try go_simp
        all_goals first
          | (with_reducible exact Grow.refl _)
          | (with_reducible exact ⟨Grow.refl _, rfl⟩)
      · intro w5 hR
        have hGw : Grow W4 w5 := hR.of_drew
        have HGW := Lib.hid hGw
        have hcc := (HGW.out.block HF4.out).cell
        have hmc := (HGW.out.block HM4.out).cell
        clear hR hGw
        simp only [depV]
        rintro _ rfl
        try go_simp
        all_goals first
          | (with_reducible exact Grow.refl _)
          | (with_reducible exact ⟨Grow.refl _, rfl⟩)
      · intro w5 hR
        have hGw : Grow W4 w5 := hR.of_drew
        have HGW := Lib.hid hGw
        have hcc := (HGW.out.block HF4.out).cell
        have hmc := (HGW.out.block HM4.out).cell
        clear hR hGw
        simp only [depV]
        rintro _ rfl
        rintro _ rfl
        try go_simp
        all_goals first
          | (with_reducible exact Grow.refl _)
          | (with_reducible exact ⟨Grow.refl _, rfl⟩)
      · intro w5 hR
        have hGw : Grow W4 w5 := hR.of_drew
        have HGW := Lib.hid hGw
        have hcc := (HGW.out.block HF4.out).cell
        have hmc := (HGW.out.block HM4.out).cell
        clear hR hGw
        simp only [depV]
        rintro _ rfl
        rintro _ rfl
        rintro _ rfl
        try go_simp
        all_goals first
          | (with_reducible exact Grow.refl _)
          | (with_reducible exact ⟨Grow.refl _, rfl⟩)
      · intro w5 hR
        have hGw : Grow W4 w5 := hR.of_drew
        have HGW := Lib.hid hGw
        have hcc := (HGW.out.block HF4.out).cell
        have hmc := (HGW.out.block HM4.out).cell
        clear hR hGw
        simp only [depV]
        rintro _ rfl
        try go_simp
        all_goals first
          | (with_reducible exact Grow.refl _)
          | (with_reducible exact ⟨Grow.refl _, rfl⟩)
      · intro w5 hR
        have hGw : Grow W4 w5 := hR.of_drew
        have HGW := Lib.hid hGw
        have hcc := (HGW.out.block HF4.out).cell
        have hmc := (HGW.out.block HM4.out).cell
        clear hR hGw
        simp only [depV]
        rintro _ rfl
        rintro _ rfl
        try go_simp
        all_goals first
          | (with_reducible exact Grow.refl _)
          | (with_reducible exact ⟨Grow.refl _, rfl⟩)
      · intro w5 hR
        have hGw : Grow W4 w5 := hR.of_drew
        have HGW := Lib.hid hGw
        have hcc := (HGW.out.block HF4.out).cell
        have hmc := (HGW.out.block HM4.out).cell
        clear hR hGw
        simp only [depV]
        rintro _ rfl
        try go_simp
        all_goals first
          | (with_reducible exact Grow.refl _)
          | (with_reducible exact ⟨Grow.refl _, rfl⟩)
      · intro w5 hR
        have hGw : Grow W4 w5 := hR.of_drew
        have HGW := Lib.hid hGw
        have hcc := (HGW.out.block HF4.out).cell
        have hmc := (HGW.out.block HM4.out).cell
        clear hR hGw
        simp only [depV]
        rintro _ rfl
        rintro _ rfl
        try go_simp
        all_goals first
          | (with_reducible exact Grow.refl _)
          | (with_reducible exact ⟨Grow.refl _, rfl⟩)
      · intro w5 hR
        have hGw : Grow W4 w5 := hR.of_drew
        have HGW := Lib.hid hGw
        have hcc := (HGW.out.block HF4.out).cell
        have hmc := (HGW.out.block HM4.out).cell
        clear hR hGw
        simp only [depV]
        rintro _ rfl
        try go_simp
        all_goals first
          | (with_reducible exact Grow.refl _)
          | (with_reducible exact ⟨Grow.refl _, rfl⟩)
      · intro w5 hR
        have hGw : Grow W4 w5 := hR.of_drew
        have HGW := Lib.hid hGw
        have hcc := (HGW.out.block HF4.out).cell
        have hmc := (HGW.out.block HM4.out).cell
        clear hR hGw
        simp only [depV]
        rintro _ rfl
        rintro _ rfl
        rintro _ rfl
        try go_simp
        all_goals first
          | (with_reducible exact Grow.refl _)
          | (with_reducible exact ⟨Grow.refl _, rfl⟩)
      · intro w5 hR
        have hGw : Grow W4 w5 := hR.of_drew
        have HGW := Lib.hid hGw
        have hcc := (HGW.out.block HF4.out).cell
        have hmc := (HGW.out.block HM4.out).cell
        clear hR hGw
        simp only [depV]
        rintro _ rfl
        rintro _ rfl
        try go_simp
        all_goals first
          | (with_reducible exact Grow.refl _)
          | (with_reducible exact ⟨Grow.refl _, rfl⟩)
      · intro w5 hR
        have hGw : Grow W4 w5 := hR.of_drew
        have HGW := Lib.hid hGw
        have hcc := (HGW.out.block HF4.out).cell
        have hmc := (HGW.out.block HM4.out).cell
        clear hR hGw
        simp only [depV]
        rintro _ rfl
        rintro _ rfl
        rintro _ rfl
        try go_simp
        all_goals first
          | (with_reducible exact Grow.refl _)
          | (with_reducible exact ⟨Grow.refl _, rfl⟩)
      · intro w5 hR
        have hGw : Grow W4 w5 := hR.of_drew
        have HGW := Lib.hid hGw
        have hcc := (HGW.out.block HF4.out).cell
        have hmc := (HGW.out.block HM4.out).cell
        clear hR hGw
        simp only [depV]
        rintro _ rfl
        rintro _ rfl
        rintro _ rfl
        rintro _ rfl
        rintro _ rfl
        try go_simp
        all_goals first
          | (with_reducible exact Grow.refl _)
          | (with_reducible exact ⟨Grow.refl _, rfl⟩)
      · intro w5 hR
        have hGw : Grow W4 w5 := hR.of_drew
        have HGW := Lib.hid hGw
        have hcc := (HGW.out.block HF4.out).cell
        have hmc := (HGW.out.block HM4.out).cell
        clear hR hGw
        simp only [depV]
        rintro _ rfl
        try go_simp
        all_goals first
          | (with_reducible exact Grow.refl _)
          | (with_reducible exact ⟨Grow.refl _, rfl⟩)
      · intro w5 hR
        have hGw : Grow W4 w5 := hR.of_drew
        have HGW := Lib.hid hGw
        have hcc := (HGW.out.block HF4.out).cell
        have hmc := (HGW.out.block HM4.out).cell
        clear hR hGw
        simp only [depV]
        rintro _ rfl
        rintro _ rfl
        try go_simp
        all_goals first
          | (with_reducible exact Grow.refl _)
          | (with_reducible exact ⟨Grow.refl _, rfl⟩)
      · intro w5 hR
        have hGw : Grow W4 w5 := hR.of_drew
        have HGW := Lib.hid hGw
        have hcc := (HGW.out.block HF4.out).cell
        have hmc := (HGW.out.block HM4.out).cell
        clear hR hGw
        simp only [depV]
        rintro _ rfl
        rintro _ rfl
        rintro _ rfl
        try go_simp
        all_goals first
          | (with_reducible exact Grow.refl _)
          | (with_reducible exact ⟨Grow.refl _, rfl⟩)
      · intro w5 hR
        have hGw : Grow W4 w5 := hR.of_drew
        have HGW := Lib.hid hGw
        have hcc := (HGW.out.block HF4.out).cell
        have hmc := (HGW.out.block HM4.out).cell
        clear hR hGw
        simp only [depV]
        rintro _ rfl
        rintro _ rfl
        try go_simp
        all_goals first
          | (with_reducible exact Grow.refl _)
          | (with_reducible exact ⟨Grow.refl _, rfl⟩)
    · intro w5 hR
      have HG5 : Hid (Grow W4 w5) := Lib.hid hR.of_drew
      clear hR
      simp only [finVC, List.take_succ_cons, List.take_zero, List.drop_succ_cons, List.drop_zero]
      rintro _ rfl
      rintro _ rfl
      rintro _ rfl
      rintro _ rfl
      rintro _ rfl
      rintro _ rfl
      rintro _ rfl
      rintro _ rfl
      rintro _ rfl
      rintro _ rfl
      rintro _ rfl
      rintro _ rfl
      rintro _ rfl
      rintro _ rfl
      rintro _ rfl
      rintro _ rfl
      rintro _ rfl
      rintro _ rfl
      rintro _ rfl
      rintro _ rfl
      rintro _ rfl
      rintro _ rfl
      rintro _ rfl
      rintro _ rfl
      rintro _ rfl
      rintro _ rfl
      rintro _ rfl
      rintro _ rfl
      rintro _ rfl
      rintro _ rfl
      rintro _ rfl
      rintro _ rfl
      rintro _ rfl
      rintro _ rfl
      rintro _ rfl
      rintro _ rfl
      rintro _ rfl
      rintro _ rfl
      rintro _ rfl
      rintro _ rfl
      rintro _ rfl
      rintro _ rfl
      rintro _ rfl
      rintro _ rfl
      rintro _ rfl
      rintro _ rfl
      rintro _ rfl
      rintro _ rfl
      rintro _ rfl
      rintro _ rfl
      simp only [Act.put, List.setIfInBounds_toArray, List.set_cons_succ, List.set_cons_zero]
      have HG8 : Hid (Grow w w5) := Lib.hid (HG4.out.trans HG5.out)
      go_wp2_with fail
      refine (HWK.out _ HG8.out).mono ?_
      rintro e w9 ⟨rfl, hb9⟩
      have HG9 : Hid (Grow w w9) := Lib.hid ((HG8.out).trans hb9)
      clear hb9
      go_wp2_with fail
      go_ret
      exact ⟨rfl, HG9.out⟩
  | true =>
  rw [hpx] at HPX
  have HPXT := Lib.hid hpx
  clear hpx
  cases hpy : possD p.d ys with
  | false =>
    rw [hpy] at HPY
    clear hpy
    refine wp_region_lit 50 [[], [], [(1, 87)], [(0, 86), (2, 88)], [(3, 89)], [(4, 90)], [(5, 91)], [(5, 91)], [(5, 91), (7, 93)], [(5, 91), (6, 92), (8, 94)], [(5, 91), (9, 95)], [(5, 91), (10, 96)], [(11, 97)], [(12, 98)], [(12, 98), (13, 99)], [(12, 98)], [(12, 98), (14, 100), (15, 101)], [(12, 98), (16, 102)], [(12, 98)], [(12, 98), (18, 104)], [(12, 98), (17, 103), (19, 105)], [(12, 98)], [(12, 98), (21, 107)], [(12, 98)], [(12, 98), (23, 109)], [(12, 98)], [(12, 98), (24, 110), (25, 111)], [(12, 98), (26, 112)], [(12, 98), (22, 108), (27, 113)], [(12, 98)], [(12, 98), (29, 115)], [(12, 98)], [(12, 98), (30, 116), (31, 117)], [(12, 98), (32, 118)], [(12, 98)], [(12, 98), (34, 120)], [(12, 98), (33, 119), (35, 121)], [(12, 98)], [(12, 98), (37, 123)], [(12, 98)], [(12, 98), (39, 125)], [(12, 98)], [(12, 98), (40, 126), (41, 127)], [(12, 98), (42, 128)], [(12, 98), (38, 124), (43, 129)], [(12, 98), (20, 106), (28, 114), (36, 122), (44, 130)], [(12, 98)], [(12, 98), (46, 132)], [(12, 98), (45, 131), (47, 133)], [(12, 98), (48, 134)]] Grow (fun qi v w' => match qi with
        | 0 => v = paperV p
        | 1 => v = .pointer (some ⟨w.heap.size + 1, 0, none⟩)
        | 2 => v = .slice A xs.length ca
        | 3 => v = .bool true
        | 4 => v = .bool false
        | 5 => v = .bool false
        | 6 => v = paperV p
        | 7 => v = .pointer (some ⟨w.heap.size + 1, 1, none⟩)
        | 8 => v = .slice B ys.length cb
        | 9 => v = .bool false
        | 10 => v = .bool true
        | 11 => v = .bool true
        | 12 => v = .bool true
        | 13 => v = undef
        | 14 => v = undef
        | 15 => v = undef
        | 16 => v = undef
        | 17 => v = undef
        | 18 => v = undef
        | 19 => v = undef
        | 20 => v = undef
        | 21 => v = undef
        | 22 => v = undef
        | 23 => v = undef
        | 24 => v = undef
        | 25 => v = undef
        | 26 => v = undef
        | 27 => v = undef
        | 28 => v = undef
        | 29 => v = undef
        | 30 => v = undef
        | 31 => v = undef
        | 32 => v = undef
        | 33 => v = undef
        | 34 => v = undef
        | 35 => v = undef
        | 36 => v = undef
        | 37 => v = undef
        | 38 => v = undef
        | 39 => v = undef
        | 40 => v = undef
        | 41 => v = undef
        | 42 => v = undef
        | 43 => v = undef
        | 44 => v = undef
        | 45 => v = undef
        | 46 => v = undef
        | 47 => v = undef
        | 48 => v = undef
        | 49 => v = .bool true
        | _ => False) (by kernel_rfl) (by kernel_rfl) (fun _ _ _ => Grow.trans) Grow.refl ?_ ?_ ?_
    · intro i v y y' h k
      match i, h with
      | 0, h | 1, h | 2, h | 3, h | 4, h | 5, h | 6, h | 7, h | 8, h | 9, h | 10, h | 11, h | 12, h | 13, h | 14, h | 15, h | 16, h | 17, h | 18, h | 19, h | 20, h | 21, h | 22, h | 23, h | 24, h | 25, h | 26, h | 27, h | 28, h | 29, h | 30, h | 31, h | 32, h | 33, h | 34, h | 35, h | 36, h | 37, h | 38, h | 39, h | 40, h | 41, h | 42, h | 43, h | 44, h | 45, h | 46, h | 47, h | 48, h | 49, h => exact h
    · simp only [StepsLit, List.take_succ_cons, List.take_zero]
      refine ⟨?_, ?_, ?_, ?_, ?_, ?_, ?_, ?_, ?_, ?_, ?_, ?_, ?_, ?_, ?_, ?_, ?_, ?_, ?_, ?_, ?_, ?_, ?_, ?_, ?_, ?_, ?_, ?_, ?_, ?_, ?_, ?_, ?_, ?_, ?_, ?_, ?_, ?_, ?_, ?_, ?_, ?_, ?_, ?_, ?_, ?_, ?_, ?_, ?_, ?_, trivial⟩
      · intro w5 hR
        have hGw : Grow W4 w5 := hR.of_drew
        have HGW := Lib.hid hGw
        have hcc := (HGW.out.block HF4.out).cell
        have hmc := (HGW.out.block HM4.out).cell
        clear hR hGw
        simp only [depV]
        try go_simp
        all_goals first
          | (with_reducible exact Grow.refl _)
          | (with_reducible exact ⟨Grow.refl _, rfl⟩)
      · intro w5 hR
        have hGw : Grow W4 w5 := hR.of_drew
        have HGW := Lib.hid hGw
        have hcc := (HGW.out.block HF4.out).cell
        have hmc := (HGW.out.block HM4.out).cell
        clear hR hGw
        simp only [depV]
        try go_simp
        all_goals first
          | (with_reducible exact Grow.refl _)
          | (with_reducible exact ⟨Grow.refl _, rfl⟩)
      · intro w5 hR
        have hGw : Grow W4 w5 := hR.of_drew
        have HGW := Lib.hid hGw
        have hcc := (HGW.out.block HF4.out).cell
        have hmc := (HGW.out.block HM4.out).cell
        clear hR hGw
        simp only [depV]
        rintro _ rfl
        try go_simp
        all_goals first
          | (with_reducible exact Grow.refl _)
          | (with_reducible exact ⟨Grow.refl _, rfl⟩)
      · intro w5 hR
        have hGw : Grow W4 w5 := hR.of_drew
        have HGW := Lib.hid hGw
        have hcc := (HGW.out.block HF4.out).cell
        have hmc := (HGW.out.block HM4.out).cell
        clear hR hGw
        simp only [depV]
        rintro _ rfl
        rintro _ rfl
        try go_simp
        refine (HPX.out w5 (HG4.out.trans HGW.out)).mono ?_
        rintro e w6 ⟨rfl, hb6⟩
        exact ⟨hb6, rfl⟩
      · intro w5 hR
        have hGw : Grow W4 w5 := hR.of_drew
        have HGW := Lib.hid hGw
        have hcc := (HGW.out.block HF4.out).cell
        have hmc := (HGW.out.block HM4.out).cell
        clear hR hGw
        simp only [depV]
        rintro _ rfl
        try go_simp
        all_goals first
          | (with_reducible exact Grow.refl _)
          | (with_reducible exact ⟨Grow.refl _, rfl⟩)
      · intro w5 hR
        have hGw : Grow W4 w5 := hR.of_drew
        have HGW := Lib.hid hGw
        have hcc := (HGW.out.block HF4.out).cell
        have hmc := (HGW.out.block HM4.out).cell
        clear hR hGw
        simp only [depV]
        rintro _ rfl
        try go_simp
        all_goals first
          | (with_reducible exact Grow.refl _)
          | (with_reducible exact ⟨Grow.refl _, rfl⟩)
      · intro w5 hR
        have hGw : Grow W4 w5 := hR.of_drew
        have HGW := Lib.hid hGw
        have hcc := (HGW.out.block HF4.out).cell
        have hmc := (HGW.out.block HM4.out).cell
        clear hR hGw
        simp only [depV]
        rintro _ rfl
        try go_simp
        all_goals first
          | (with_reducible exact Grow.refl _)
          | (with_reducible exact ⟨Grow.refl _, rfl⟩)
      · intro w5 hR
        have hGw : Grow W4 w5 := hR.of_drew
        have HGW := Lib.hid hGw
        have hcc := (HGW.out.block HF4.out).cell
        have hmc := (HGW.out.block HM4.out).cell
        clear hR hGw
        simp only [depV]
        rintro _ rfl
        try go_simp
        all_goals first
          | (with_reducible exact Grow.refl _)
          | (with_reducible exact ⟨Grow.refl _, rfl⟩)
      · intro w5 hR
        have hGw : Grow W4 w5 := hR.of_drew
        have HGW := Lib.hid hGw
        have hcc := (HGW.out.block HF4.out).cell
        have hmc := (HGW.out.block HM4.out).cell
        clear hR hGw
        simp only [depV]
        rintro _ rfl
        rintro _ rfl
        try go_simp
        all_goals first
          | (with_reducible exact Grow.refl _)
          | (with_reducible exact ⟨Grow.refl _, rfl⟩)
      · intro w5 hR
        have hGw : Grow W4 w5 := hR.of_drew
        have HGW := Lib.hid hGw
        have hcc := (HGW.out.block HF4.out).cell
        have hmc := (HGW.out.block HM4.out).cell
        clear hR hGw
        simp only [depV]
        rintro _ rfl
        rintro _ rfl
        rintro _ rfl
        try go_simp
        refine (HPY.out w5 (HG4.out.trans HGW.out)).mono ?_
        rintro e w6 ⟨rfl, hb6⟩
        exact ⟨hb6, rfl⟩
      · intro w5 hR
        have hGw : Grow W4 w5 := hR.of_drew
        have HGW := Lib.hid hGw
        have hcc := (HGW.out.block HF4.out).cell
        have hmc := (HGW.out.block HM4.out).cell
        clear hR hGw
        simp only [depV]
        rintro _ rfl
        rintro _ rfl
        try go_simp
        all_goals first
          | (with_reducible exact Grow.refl _)
          | (with_reducible exact ⟨Grow.refl _, rfl⟩)
      · intro w5 hR
        have hGw : Grow W4 w5 := hR.of_drew
        have HGW := Lib.hid hGw
        have hcc := (HGW.out.block HF4.out).cell
        have hmc := (HGW.out.block HM4.out).cell
        clear hR hGw
        simp only [depV]
        rintro _ rfl
        rintro _ rfl
        try go_simp
        all_goals first
          | (with_reducible exact Grow.refl _)
          | (with_reducible exact ⟨Grow.refl _, rfl⟩)
      · intro w5 hR
        have hGw : Grow W4 w5 := hR.of_drew
        have HGW := Lib.hid hGw
        have hcc := (HGW.out.block HF4.out).cell
        have hmc := (HGW.out.block HM4.out).cell
        clear hR hGw
        simp only [depV]
        rintro _ rfl
        try go_simp
        all_goals first
          | (with_reducible exact Grow.refl _)
          | (with_reducible exact ⟨Grow.refl _, rfl⟩)
      · intro w5 hR
        have hGw : Grow W4 w5 := hR.of_drew
        have HGW := Lib.hid hGw
        have hcc := (HGW.out.block HF4.out).cell
        have hmc := (HGW.out.block HM4.out).cell
        clear hR hGw
        simp only [depV]
        rintro _ rfl
        try go_simp
        all_goals first
          | (with_reducible exact Grow.refl _)
          | (with_reducible exact ⟨Grow.refl _, rfl⟩)
      · intro w5 hR
        have hGw : Grow W4 w5 := hR.of_drew
        have HGW := Lib.hid hGw
        have hcc := (HGW.out.block HF4.out).cell
        have hmc := (HGW.out.block HM4.out).cell
        clear hR hGw
        simp only [depV]
        rintro _ rfl
        rintro _ rfl
        try go_simp
        all_goals first
          | (with_reducible exact Grow.refl _)
          | (with_reducible exact ⟨Grow.refl _, rfl⟩)
      · intro w5 hR
        have hGw : Grow W4 w5 := hR.of_drew
        have HGW := Lib.hid hGw
        have hcc := (HGW.out.block HF4.out).cell
        have hmc := (HGW.out.block HM4.out).cell
        clear hR hGw
        simp only [depV]
        rintro _ rfl
        try go_simp
        all_goals first
          | (with_reducible exact Grow.refl _)
          | (with_reducible exact ⟨Grow.refl _, rfl⟩)
      · intro w5 hR
        have hGw : Grow W4 w5 := hR.of_drew
        have HGW := Lib.hid hGw
        have hcc := (HGW.out.block HF4.out).cell
        have hmc := (HGW.out.block HM4.out).cell
        clear hR hGw
        simp only [depV]
        rintro _ rfl
        rintro _ rfl
        rintro _ rfl
        try go_simp
        all_goals first
          | (with_reducible exact Grow.refl _)
          | (with_reducible exact ⟨Grow.refl _, rfl⟩)
      · intro w5 hR
        have hGw : Grow W4 w5 := hR.of_drew
        have HGW := Lib.hid hGw
        have hcc := (HGW.out.block HF4.out).cell
        have hmc := (HGW.out.block HM4.out).cell
        clear hR hGw
        simp only [depV]
        rintro _ rfl
        rintro _ rfl
        try go_simp
        all_goals first
          | (with_reducible exact Grow.refl _)
          | (with_reducible exact ⟨Grow.refl _, rfl⟩)
      · intro w5 hR
        have hGw : Grow W4 w5 := hR.of_drew
        have HGW := Lib.hid hGw
        have hcc := (HGW.out.block HF4.out).cell
        have hmc := (HGW.out.block HM4.out).cell
        clear hR hGw
        simp only [depV]
        rintro _ rfl
        try go_simp
        all_goals first
          | (with_reducible exact Grow.refl _)
          | (with_reducible exact ⟨Grow.refl _, rfl⟩)
      · intro w5 hR
        have hGw : Grow W4 w5 := hR.of_drew
        have HGW := Lib.hid hGw
        have hcc := (HGW.out.block HF4.out).cell
        have hmc := (HGW.out.block HM4.out).cell
        clear hR hGw
        simp only [depV]
        rintro _ rfl
        rintro _ rfl
        try go_simp
        all_goals first
          | (with_reducible exact Grow.refl _)
          | (with_reducible exact ⟨Grow.refl _, rfl⟩)
      · intro w5 hR
        have hGw : Grow W4 w5 := hR.of_drew
        have HGW := Lib.hid hGw
        have hcc := (HGW.out.block HF4.out).cell
        have hmc := (HGW.out.block HM4.out).cell
        clear hR hGw
        simp only [depV]
        rintro _ rfl
        rintro _ rfl
        rintro _ rfl
        try go_simp
        all_goals first
          | (with_reducible exact Grow.refl _)
          | (with_reducible exact ⟨Grow.refl _, rfl⟩)
      · intro w5 hR
        have hGw : Grow W4 w5 := hR.of_drew
        have HGW := Lib.hid hGw
        have hcc := (HGW.out.block HF4.out).cell
        have hmc := (HGW.out.block HM4.out).cell
        clear hR hGw
        simp only [depV]
        rintro _ rfl
        try go_simp
        all_goals first
          | (with_reducible exact Grow.refl _)
          | (with_reducible exact ⟨Grow.refl _, rfl⟩)
      · intro w5 hR
        have hGw : Grow W4 w5 := hR.of_drew
        have HGW := Lib.hid hGw
        have hcc := (HGW.out.block HF4.out).cell
        have hmc := (HGW.out.block HM4.out).cell
        clear hR hGw
        simp only [depV]
        rintro _ rfl
        rintro _ rfl
        try go_simp
        all_goals first
          | (with_reducible exact Grow.refl _)
          | (with_reducible exact ⟨Grow.refl _, rfl⟩)
      · intro w5 hR
        have hGw : Grow W4 w5 := hR.of_drew
        have HGW := Lib.hid hGw
        have hcc := (HGW.out.block HF4.out).cell
        have hmc := (HGW.out.block HM4.out).cell
        clear hR hGw
        simp only [depV]
        rintro _ rfl
        try go_simp
        all_goals first
          | (with_reducible exact Grow.refl _)
          | (with_reducible exact ⟨Grow.refl _, rfl⟩)
      · intro w5 hR
        have hGw : Grow W4 w5 := hR.of_drew
        have HGW := Lib.hid hGw
        have hcc := (HGW.out.block HF4.out).cell
        have hmc := (HGW.out.block HM4.out).cell
        clear hR hGw
        simp only [depV]
        rintro _ rfl
        rintro _ rfl
        try go_simp
        all_goals first
          | (with_reducible exact Grow.refl _)
          | (with_reducible exact ⟨Grow.refl _, rfl⟩)
      · intro w5 hR
        have hGw : Grow W4 w5 := hR.of_drew
        have HGW := Lib.hid hGw
        have hcc := (HGW.out.block HF4.out).cell
        have hmc := (HGW.out.block HM4.out).cell
        clear hR hGw
        simp only [depV]
        rintro _ rfl
        try go_simp
        all_goals first
          | (with_reducible exact Grow.refl _)
          | (with_reducible exact ⟨Grow.refl _, rfl⟩)
      · intro w5 hR
        have hGw : Grow W4 w5 := hR.of_drew
        have HGW := Lib.hid hGw
        have hcc := (HGW.out.block HF4.out).cell
        have hmc := (HGW.out.block HM4.out).cell
        clear hR hGw
        simp only [depV]
        rintro _ rfl
        rintro _ rfl
        rintro _ rfl
        try go_simp
        all_goals first
          | (with_reducible exact Grow.refl _)
          | (with_reducible exact ⟨Grow.refl _, rfl⟩)
      · intro w5 hR
        have hGw : Grow W4 w5 := hR.of_drew
        have HGW := Lib.hid hGw
        have hcc := (HGW.out.block HF4.out).cell
        have hmc := (HGW.out.block HM4.out).cell
        clear hR hGw
        simp only [depV]
        rintro _ rfl
        rintro _ rfl
        try go_simp
        all_goals first
          | (with_reducible exact Grow.refl _)
          | (with_reducible exact ⟨Grow.refl _, rfl⟩)
      · intro w5 hR
        have hGw : Grow W4 w5 := hR.of_drew
        have HGW := Lib.hid hGw
        have hcc := (HGW.out.block HF4.out).cell
        have hmc := (HGW.out.block HM4.out).cell
        clear hR hGw
        simp only [depV]
        rintro _ rfl
        rintro _ rfl
        rintro _ rfl
        try go_simp
        all_goals first
          | (with_reducible exact Grow.refl _)
          | (with_reducible exact ⟨Grow.refl _, rfl⟩)
      · intro w5 hR
        have hGw : Grow W4 w5 := hR.of_drew
        have HGW := Lib.hid hGw
        have hcc := (HGW.out.block HF4.out).cell
        have hmc := (HGW.out.block HM4.out).cell
        clear hR hGw
        simp only [depV]
        rintro _ rfl
        try go_simp
        all_goals first
          | (with_reducible exact Grow.refl _)
          | (with_reducible exact ⟨Grow.refl _, rfl⟩)
      · intro w5 hR
        have hGw : Grow W4 w5 := hR.of_drew
        have HGW := Lib.hid hGw
        have hcc := (HGW.out.block HF4.out).cell
        have hmc := (HGW.out.block HM4.out).cell
        clear hR hGw
        simp only [depV]
        rintro _ rfl
        rintro _ rfl
        try go_simp
        all_goals first
          | (with_reducible exact Grow.refl _)
          | (with_reducible exact ⟨Grow.refl _, rfl⟩)
      · intro w5 hR
        have hGw : Grow W4 w5 := hR.of_drew
        have HGW := Lib.hid hGw
        have hcc := (HGW.out.block HF4.out).cell
        have hmc := (HGW.out.block HM4.out).cell
        clear hR hGw
        simp only [depV]
        rintro _ rfl
        try go_simp
        all_goals first
          | (with_reducible exact Grow.refl _)
          | (with_reducible exact ⟨Grow.refl _, rfl⟩)
      · intro w5 hR
        have hGw : Grow W4 w5 := hR.of_drew
        have HGW := Lib.hid hGw
        have hcc := (HGW.out.block HF4.out).cell
        have hmc := (HGW.out.block HM4.out).cell
        clear hR hGw
        simp only [depV]
        rintro _ rfl
        rintro _ rfl
        rintro _ rfl
        try go_simp
        all_goals first
          | (with_reducible exact Grow.refl _)
          | (with_reducible exact ⟨Grow.refl _, rfl⟩)
      · intro w5 hR
        have hGw : Grow W4 w5 := hR.of_drew
        have HGW := Lib.hid hGw
        have hcc := (HGW.out.block HF4.out).cell
        have hmc := (HGW.out.block HM4.out).cell
        clear hR hGw
        simp only [depV]
        rintro _ rfl
        rintro _ rfl
        try go_simp
        all_goals first
          | (with_reducible exact Grow.refl _)
          | (with_reducible exact ⟨Grow.refl _, rfl⟩)
      · intro w5 hR
        have hGw : Grow W4 w5 := hR.of_drew
        have HGW := Lib.hid hGw
        have hcc := (HGW.out.block HF4.out).cell
        have hmc := (HGW.out.block HM4.out).cell
        clear hR hGw
        simp only [depV]
        rintro _ rfl
        try go_simp
        all_goals first
          | (with_reducible exact Grow.refl _)
          | (with_reducible exact ⟨Grow.refl _, rfl⟩)
      · intro w5 hR
        have hGw : Grow W4 w5 := hR.of_drew
        have HGW := Lib.hid hGw
        have hcc := (HGW.out.block HF4.out).cell
        have hmc := (HGW.out.block HM4.out).cell
        clear hR hGw
        simp only [depV]
        rintro _ rfl
        rintro _ rfl
        try go_simp
        all_goals first
          | (with_reducible exact Grow.refl _)
          | (with_reducible exact ⟨Grow.refl _, rfl⟩)
      · intro w5 hR
        have hGw : Grow W4 w5 := hR.of_drew
        have HGW := Lib.hid hGw
        have hcc := (HGW.out.block HF4.out).cell
        have hmc := (HGW.out.block HM4.out).cell
        clear hR hGw
        simp only [depV]
        rintro _ rfl
        rintro _ rfl
        rintro _ rfl
        try go_simp
        all_goals first
          | (with_reducible exact Grow.refl _)
          | (with_reducible exact ⟨Grow.refl _, rfl⟩)
      · intro w5 hR
        have hGw : Grow W4 w5 := hR.of_drew
        have HGW := Lib.hid hGw
        have hcc := (HGW.out.block HF4.out).cell
        have hmc := (HGW.out.block HM4.out).cell
        clear hR hGw
        simp only [depV]
        rintro _ rfl
        try go_simp
        all_goals first
          | (with_reducible exact Grow.refl _)
          | (with_reducible exact ⟨Grow.refl _, rfl⟩)
      · intro w5 hR
        have hGw : Grow W4 w5 := hR.of_drew
        have HGW := Lib.hid hGw
        have hcc := (HGW.out.block HF4.out).cell
        have hmc := (HGW.out.block HM4.out).cell
        clear hR hGw
        simp only [depV]
        rintro _ rfl
        rintro _ rfl
        try go_simp
        all_goals first
          | (with_reducible exact Grow.refl _)
          | (with_reducible exact ⟨Grow.refl _, rfl⟩)
      · intro w5 hR
        have hGw : Grow W4 w5 := hR.of_drew
        have HGW := Lib.hid hGw
        have hcc := (HGW.out.block HF4.out).cell
        have hmc := (HGW.out.block HM4.out).cell
        clear hR hGw
        simp only [depV]
        rintro _ rfl
        try go_simp
        all_goals first
          | (with_reducible exact Grow.refl _)
          | (with_reducible exact ⟨Grow.refl _, rfl⟩)
      · intro w5 hR
        have hGw : Grow W4 w5 := hR.of_drew
        have HGW := Lib.hid hGw
        have hcc := (HGW.out.block HF4.out).cell
        have hmc := (HGW.out.block HM4.out).cell
        clear hR hGw
        simp only [depV]
        rintro _ rfl
        rintro _ rfl
        try go_simp
        all_goals first
          | (with_reducible exact Grow.refl _)
          | (with_reducible exact ⟨Grow.refl _, rfl⟩)
      · intro w5 hR
        have hGw : Grow W4 w5 := hR.of_drew
        have HGW := Lib.hid hGw
        have hcc := (HGW.out.block HF4.out).cell
        have hmc := (HGW.out.block HM4.out).cell
        clear hR hGw
        simp only [depV]
        rintro _ rfl
        try go_simp
        all_goals first
          | (with_reducible exact Grow.refl _)
          | (with_reducible exact ⟨Grow.refl _, rfl⟩)
      · intro w5 hR
        have hGw : Grow W4 w5 := hR.of_drew
        have HGW := Lib.hid hGw
        have hcc := (HGW.out.block HF4.out).cell
        have hmc := (HGW.out.block HM4.out).cell
        clear hR hGw
        simp only [depV]
        rintro _ rfl
        rintro _ rfl
        rintro _ rfl
        try go_simp
        all_goals first
          | (with_reducible exact Grow.refl _)
          | (with_reducible exact ⟨Grow.refl _, rfl⟩)
      · intro w5 hR
        have hGw : Grow W4 w5 := hR.of_drew
        have HGW := Lib.hid hGw
        have hcc := (HGW.out.block HF4.out).cell
        have hmc := (HGW.out.block HM4.out).cell
        clear hR hGw
        simp only [depV]
        rintro _ rfl
        rintro _ rfl
        try go_simp
        all_goals first
          | (with_reducible exact Grow.refl _)
          | (with_reducible exact ⟨Grow.refl _, rfl⟩)
      · intro w5 hR
        have hGw : Grow W4 w5 := hR.of_drew
        have HGW := Lib.hid hGw
        have hcc := (HGW.out.block HF4.out).cell
        have hmc := (HGW.out.block HM4.out).cell
        clear hR hGw
        simp only [depV]
        rintro _ rfl
        rintro _ rfl
        rintro _ rfl
        try go_simp
        all_goals first
          | (with_reducible exact Grow.refl _)
          | (with_reducible exact ⟨Grow.refl _, rfl⟩)
      · intro w5 hR
        have hGw : Grow W4 w5 := hR.of_drew
        have HGW := Lib.hid hGw
        have hcc := (HGW.out.block HF4.out).cell
        have hmc := (HGW.out.block HM4.out).cell
        clear hR hGw
        simp only [depV]
        rintro _ rfl
        rintro _ rfl
        rintro _ rfl
        rintro _ rfl
        rintro _ rfl
        try go_simp
        all_goals first
          | (with_reducible exact Grow.refl _)
          | (with_reducible exact ⟨Grow.refl _, rfl⟩)
      · intro w5 hR
        have hGw : Grow W4 w5 := hR.of_drew
        have HGW := Lib.hid hGw
        have hcc := (HGW.out.block HF4.out).cell
        have hmc := (HGW.out.block HM4.out).cell
        clear hR hGw
        simp only [depV]
        rintro _ rfl
        try go_simp
        all_goals first
          | (with_reducible exact Grow.refl _)
          | (with_reducible exact ⟨Grow.refl _, rfl⟩)
      · intro w5 hR
        have hGw : Grow W4 w5 := hR.of_drew
        have HGW := Lib.hid hGw
        have hcc := (HGW.out.block HF4.out).cell
        have hmc := (HGW.out.block HM4.out).cell
        clear hR hGw
        simp only [depV]
        rintro _ rfl
        rintro _ rfl
        try go_simp
        all_goals first
          | (with_reducible exact Grow.refl _)
          | (with_reducible exact ⟨Grow.refl _, rfl⟩)
      · intro w5 hR
        have hGw : Grow W4 w5 := hR.of_drew
        have HGW := Lib.hid hGw
        have hcc := (HGW.out.block HF4.out).cell
        have hmc := (HGW.out.block HM4.out).cell
        clear hR hGw
        simp only [depV]
        rintro _ rfl
        rintro _ rfl
        rintro _ rfl
        try go_simp
        all_goals first
          | (with_reducible exact Grow.refl _)
          | (with_reducible exact ⟨Grow.refl _, rfl⟩)
      · intro w5 hR
        have hGw : Grow W4 w5 := hR.of_drew
        have HGW := Lib.hid hGw
        have hcc := (HGW.out.block HF4.out).cell
        have hmc := (HGW.out.block HM4.out).cell
        clear hR hGw
        simp only [depV]
        rintro _ rfl
        rintro _ rfl
        try go_simp
        all_goals first
          | (with_reducible exact Grow.refl _)
          | (with_reducible exact ⟨Grow.refl _, rfl⟩)
    · intro w5 hR
      have HG5 : Hid (Grow W4 w5) := Lib.hid hR.of_drew
      clear hR
      simp only [finVC, List.take_succ_cons, List.take_zero, List.drop_succ_cons, List.drop_zero]
      rintro _ rfl
      rintro _ rfl
      rintro _ rfl
      rintro _ rfl
      rintro _ rfl
      rintro _ rfl
      rintro _ rfl
      rintro _ rfl
      rintro _ rfl
      rintro _ rfl
      rintro _ rfl
      rintro _ rfl
      rintro _ rfl
      rintro _ rfl
      rintro _ rfl
      rintro _ rfl
      rintro _ rfl
      rintro _ rfl
      rintro _ rfl
      rintro _ rfl
      rintro _ rfl
      rintro _ rfl
      rintro _ rfl
      rintro _ rfl
      rintro _ rfl
      rintro _ rfl
      rintro _ rfl
      rintro _ rfl
      rintro _ rfl
      rintro _ rfl
      rintro _ rfl
      rintro _ rfl
      rintro _ rfl
      rintro _ rfl
      rintro _ rfl
      rintro _ rfl
      rintro _ rfl
      rintro _ rfl
      rintro _ rfl
      rintro _ rfl
      rintro _ rfl
      rintro _ rfl
      rintro _ rfl
      rintro _ rfl
      rintro _ rfl
      rintro _ rfl
      rintro _ rfl
      rintro _ rfl
      rintro _ rfl
      rintro _ rfl
      simp only [Act.put, List.setIfInBounds_toArray, List.set_cons_succ, List.set_cons_zero]
      have HG8 : Hid (Grow w w5) := Lib.hid (HG4.out.trans HG5.out)
      go_wp2_with fail
      refine (HWK.out _ HG8.out).mono ?_
      rintro e w9 ⟨rfl, hb9⟩
      have HG9 : Hid (Grow w w9) := Lib.hid ((HG8.out).trans hb9)
      clear hb9
      go_wp2_with fail
      go_ret
      exact ⟨rfl, HG9.out⟩
  | true =>
  rw [hpy] at HPY
  have HPYT := Lib.hid hpy
  clear hpy
  have hfx := HFX.out HPXT.out
  have hfy := HFY.out HPYT.out
  have hlx := fitsI_len hfx
  have hly := fitsI_len hfy
  obtain ⟨xb, xo, x, hxA, hxb, hxc, HXX⟩ := (HIX.out W4 HG4.out).at_ (k := i0) (by omega)
  obtain ⟨yb, yo, y, hyB, hyb, hyc, HYY⟩ := (HIY.out W4 HG4.out).at_ (k := i0) (by omega)
  have HXC := Lib.hid hxc
  have HYC := Lib.hid hyc
  have hx30 := HBD.out xs hfx x (List.mem_of_getElem? HXX.out)
  have hy30 := HBD.out ys hfy y (List.mem_of_getElem? HYY.out)
  have HNEAR := Lib.hid (fun h => near_of hx30 hy30 hmk (e := (ne : Int)) (by omega) h)
  have HMI2 := Lib.hid (HMI.out HPXT.out HPYT.out)
  rw [show xs.getD i0 0 = x by rw [List.getD_eq_getElem?_getD, HXX.out]; rfl, show ys.getD i0 0 = y by rw [List.getD_eq_getElem?_getD, HYY.out]; rfl] at HMI2
  have HRX3 := Lib.hid (HRX.out hfx)
  have HRY3 := Lib.hid (HRY2.out hfy)
  have hbx := HBX.out HPXT.out
  have hby := HBY.out HPYT.out
  rw [show p.d.items = p.items from rfl] at hbx hby HMI2
  obtain ⟨rx, hrx⟩ : ∃ z, resD p.items xs = z := ⟨_, rfl⟩
  obtain ⟨ry, hry⟩ : ∃ z, resD p.items ys = z := ⟨_, rfl⟩
  rw [hrx] at HRX3 hbx HMI2
  rw [hry] at HRY3 hby HMI2
  have hi00 : (0 : Int) ≤ (i0 : Int) := by omega
  have hi0x : (i0 : Int) < (xs.length : Int) := by omega
  have hi0y : (i0 : Int) < (ys.length : Int) := by omega
  obtain ⟨m1, hw1⟩ : ∃ z, IntKind.i64.wrap (x - mk) = z := ⟨_, rfl⟩
  obtain ⟨m2, hw2⟩ : ∃ z, IntKind.i64.wrap (mk - x) = z := ⟨_, rfl⟩
  obtain ⟨m3, hw3⟩ : ∃ z, IntKind.i64.wrap (y - mk) = z := ⟨_, rfl⟩
  obtain ⟨m4, hw4⟩ : ∃ z, IntKind.i64.wrap (mk - y) = z := ⟨_, rfl⟩
  rw [hw1, hw2, hw3, hw4] at HNEAR
  clear hfx hfy hlx hly hxc hyc hrx hry HBD HFX HFY HBX HBY hx30 hy30
  subst hxA hyB
  obtain ⟨mx, hmx⟩ : ∃ z, max (max (max m1 m2) m3) m4 = z := ⟨_, rfl⟩
  rw [hmx] at HNEAR
  have HMX := Lib.hid hmx
  clear hmx
  refine wp_region_lit 50 [[], [], [(1, 87)], [(0, 86), (2, 88)], [(3, 89)], [(4, 90)], [(5, 91)], [(5, 91)], [(5, 91), (7, 93)], [(5, 91), (6, 92), (8, 94)], [(5, 91), (9, 95)], [(5, 91), (10, 96)], [(11, 97)], [(12, 98)], [(12, 98), (13, 99)], [(12, 98)], [(12, 98), (14, 100), (15, 101)], [(12, 98), (16, 102)], [(12, 98)], [(12, 98), (18, 104)], [(12, 98), (17, 103), (19, 105)], [(12, 98)], [(12, 98), (21, 107)], [(12, 98)], [(12, 98), (23, 109)], [(12, 98)], [(12, 98), (24, 110), (25, 111)], [(12, 98), (26, 112)], [(12, 98), (22, 108), (27, 113)], [(12, 98)], [(12, 98), (29, 115)], [(12, 98)], [(12, 98), (30, 116), (31, 117)], [(12, 98), (32, 118)], [(12, 98)], [(12, 98), (34, 120)], [(12, 98), (33, 119), (35, 121)], [(12, 98)], [(12, 98), (37, 123)], [(12, 98)], [(12, 98), (39, 125)], [(12, 98)], [(12, 98), (40, 126), (41, 127)], [(12, 98), (42, 128)], [(12, 98), (38, 124), (43, 129)], [(12, 98), (20, 106), (28, 114), (36, 122), (44, 130)], [(12, 98)], [(12, 98), (46, 132)], [(12, 98), (45, 131), (47, 133)], [(12, 98), (48, 134)]] Grow (fun qi v w' => match qi with
      | 0 => v = paperV p
      | 1 => v = .pointer (some ⟨w.heap.size + 1, 0, none⟩)
      | 2 => v = .slice (some ⟨xb, xo, none⟩) xs.length ca
      | 3 => v = .bool true
      | 4 => v = .bool false
      | 5 => v = .bool false
      | 6 => v = paperV p
      | 7 => v = .pointer (some ⟨w.heap.size + 1, 1, none⟩)
      | 8 => v = .slice (some ⟨yb, yo, none⟩) ys.length cb
      | 9 => v = .bool true
      | 10 => v = .bool false
      | 11 => v = .bool false
      | 12 => v = .bool false
      | 13 => v = .pointer (some ⟨w.heap.size + 1, 0, none⟩)
      | 14 => v = .slice (some ⟨xb, xo, none⟩) xs.length ca
      | 15 => v = .int .i64 (i0 : Nat)
      | 16 => v = .pointer (some ⟨xb, xo + i0, none⟩)
      | 17 => v = .int .i64 x
      | 18 => v = .pointer (some ⟨w.heap.size + 1, 2, none⟩)
      | 19 => v = .int .i64 mk
      | 20 => v = .int .i64 m1
      | 21 => v = .pointer (some ⟨w.heap.size + 1, 2, none⟩)
      | 22 => v = .int .i64 mk
      | 23 => v = .pointer (some ⟨w.heap.size + 1, 0, none⟩)
      | 24 => v = .slice (some ⟨xb, xo, none⟩) xs.length ca
      | 25 => v = .int .i64 (i0 : Nat)
      | 26 => v = .pointer (some ⟨xb, xo + i0, none⟩)
      | 27 => v = .int .i64 x
      | 28 => v = .int .i64 m2
      | 29 => v = .pointer (some ⟨w.heap.size + 1, 1, none⟩)
      | 30 => v = .slice (some ⟨yb, yo, none⟩) ys.length cb
      | 31 => v = .int .i64 (i0 : Nat)
      | 32 => v = .pointer (some ⟨yb, yo + i0, none⟩)
      | 33 => v = .int .i64 y
      | 34 => v = .pointer (some ⟨w.heap.size + 1, 2, none⟩)
      | 35 => v = .int .i64 mk
      | 36 => v = .int .i64 m3
      | 37 => v = .pointer (some ⟨w.heap.size + 1, 2, none⟩)
      | 38 => v = .int .i64 mk
      | 39 => v = .pointer (some ⟨w.heap.size + 1, 1, none⟩)
      | 40 => v = .slice (some ⟨yb, yo, none⟩) ys.length cb
      | 41 => v = .int .i64 (i0 : Nat)
      | 42 => v = .pointer (some ⟨yb, yo + i0, none⟩)
      | 43 => v = .int .i64 y
      | 44 => v = .int .i64 m4
      | 45 => v = .int .i64 mx
      | 46 => v = .pointer (some ⟨w.heap.size + 1, 3, none⟩)
      | 47 => v = .int .i64 (ne : Nat)
      | 48 => v = .bool (decide ((ne : Int) < mx))
      | 49 => v = .bool (decide ((ne : Int) < mx))
      | _ => False) (by kernel_rfl) (by kernel_rfl) (fun _ _ _ => Grow.trans) Grow.refl ?_ ?_ ?_
  · intro i v y y' h k
    match i, h with
    | 0, h | 1, h | 2, h | 3, h | 4, h | 5, h | 6, h | 7, h | 8, h | 9, h | 10, h | 11, h | 12, h | 13, h | 14, h | 15, h | 16, h | 17, h | 18, h | 19, h | 20, h | 21, h | 22, h | 23, h | 24, h | 25, h | 26, h | 27, h | 28, h | 29, h | 30, h | 31, h | 32, h | 33, h | 34, h | 35, h | 36, h | 37, h | 38, h | 39, h | 40, h | 41, h | 42, h | 43, h | 44, h | 45, h | 46, h | 47, h | 48, h | 49, h => exact h
  · simp only [StepsLit, List.take_succ_cons, List.take_zero]
    refine ⟨?_, ?_, ?_, ?_, ?_, ?_, ?_, ?_, ?_, ?_, ?_, ?_, ?_, ?_, ?_, ?_, ?_, ?_, ?_, ?_, ?_, ?_, ?_, ?_, ?_, ?_, ?_, ?_, ?_, ?_, ?_, ?_, ?_, ?_, ?_, ?_, ?_, ?_, ?_, ?_, ?_, ?_, ?_, ?_, ?_, ?_, ?_, ?_, ?_, ?_, trivial⟩
    · intro w5 hR
      have hGw : Grow W4 w5 := hR.of_drew
      have HGW := Lib.hid hGw
      have hcc := (HGW.out.block HF4.out).cell
      have hmc := (HGW.out.block HM4.out).cell
      have hxc := HGW.out.cell HXC.out
      have hyc := HGW.out.cell HYC.out
      clear hR hGw
      simp only [depV]
      try go_simp
      all_goals first
        | (with_reducible exact Grow.refl _)
        | (with_reducible exact ⟨Grow.refl _, rfl⟩)
    · intro w5 hR
      have hGw : Grow W4 w5 := hR.of_drew
      have HGW := Lib.hid hGw
      have hcc := (HGW.out.block HF4.out).cell
      have hmc := (HGW.out.block HM4.out).cell
      have hxc := HGW.out.cell HXC.out
      have hyc := HGW.out.cell HYC.out
      clear hR hGw
      simp only [depV]
      try go_simp
      all_goals first
        | (with_reducible exact Grow.refl _)
        | (with_reducible exact ⟨Grow.refl _, rfl⟩)
    · intro w5 hR
      have hGw : Grow W4 w5 := hR.of_drew
      have HGW := Lib.hid hGw
      have hcc := (HGW.out.block HF4.out).cell
      have hmc := (HGW.out.block HM4.out).cell
      have hxc := HGW.out.cell HXC.out
      have hyc := HGW.out.cell HYC.out
      clear hR hGw
      simp only [depV]
      rintro _ rfl
      try go_simp
      all_goals first
        | (with_reducible exact Grow.refl _)
        | (with_reducible exact ⟨Grow.refl _, rfl⟩)
    · intro w5 hR
      have hGw : Grow W4 w5 := hR.of_drew
      have HGW := Lib.hid hGw
      have hcc := (HGW.out.block HF4.out).cell
      have hmc := (HGW.out.block HM4.out).cell
      have hxc := HGW.out.cell HXC.out
      have hyc := HGW.out.cell HYC.out
      clear hR hGw
      simp only [depV]
      rintro _ rfl
      rintro _ rfl
      try go_simp
      refine (HPX.out w5 (HG4.out.trans HGW.out)).mono ?_
      rintro e w6 ⟨rfl, hb6⟩
      exact ⟨hb6, rfl⟩
    · intro w5 hR
      have hGw : Grow W4 w5 := hR.of_drew
      have HGW := Lib.hid hGw
      have hcc := (HGW.out.block HF4.out).cell
      have hmc := (HGW.out.block HM4.out).cell
      have hxc := HGW.out.cell HXC.out
      have hyc := HGW.out.cell HYC.out
      clear hR hGw
      simp only [depV]
      rintro _ rfl
      try go_simp
      all_goals first
        | (with_reducible exact Grow.refl _)
        | (with_reducible exact ⟨Grow.refl _, rfl⟩)
    · intro w5 hR
      have hGw : Grow W4 w5 := hR.of_drew
      have HGW := Lib.hid hGw
      have hcc := (HGW.out.block HF4.out).cell
      have hmc := (HGW.out.block HM4.out).cell
      have hxc := HGW.out.cell HXC.out
      have hyc := HGW.out.cell HYC.out
      clear hR hGw
      simp only [depV]
      rintro _ rfl
      try go_simp
      all_goals first
        | (with_reducible exact Grow.refl _)
        | (with_reducible exact ⟨Grow.refl _, rfl⟩)
    · intro w5 hR
      have hGw : Grow W4 w5 := hR.of_drew
      have HGW := Lib.hid hGw
      have hcc := (HGW.out.block HF4.out).cell
      have hmc := (HGW.out.block HM4.out).cell
      have hxc := HGW.out.cell HXC.out
      have hyc := HGW.out.cell HYC.out
      clear hR hGw
      simp only [depV]
      rintro _ rfl
      try go_simp
      all_goals first
        | (with_reducible exact Grow.refl _)
        | (with_reducible exact ⟨Grow.refl _, rfl⟩)
    · intro w5 hR
      have hGw : Grow W4 w5 := hR.of_drew
      have HGW := Lib.hid hGw
      have hcc := (HGW.out.block HF4.out).cell
      have hmc := (HGW.out.block HM4.out).cell
      have hxc := HGW.out.cell HXC.out
      have hyc := HGW.out.cell HYC.out
      clear hR hGw
      simp only [depV]
      rintro _ rfl
      try go_simp
      all_goals first
        | (with_reducible exact Grow.refl _)
        | (with_reducible exact ⟨Grow.refl _, rfl⟩)
    · intro w5 hR
      have hGw : Grow W4 w5 := hR.of_drew
      have HGW := Lib.hid hGw
      have hcc := (HGW.out.block HF4.out).cell
      have hmc := (HGW.out.block HM4.out).cell
      have hxc := HGW.out.cell HXC.out
      have hyc := HGW.out.cell HYC.out
      clear hR hGw
      simp only [depV]
      rintro _ rfl
      rintro _ rfl
      try go_simp
      all_goals first
        | (with_reducible exact Grow.refl _)
        | (with_reducible exact ⟨Grow.refl _, rfl⟩)
    · intro w5 hR
      have hGw : Grow W4 w5 := hR.of_drew
      have HGW := Lib.hid hGw
      have hcc := (HGW.out.block HF4.out).cell
      have hmc := (HGW.out.block HM4.out).cell
      have hxc := HGW.out.cell HXC.out
      have hyc := HGW.out.cell HYC.out
      clear hR hGw
      simp only [depV]
      rintro _ rfl
      rintro _ rfl
      rintro _ rfl
      try go_simp
      refine (HPY.out w5 (HG4.out.trans HGW.out)).mono ?_
      rintro e w6 ⟨rfl, hb6⟩
      exact ⟨hb6, rfl⟩
    · intro w5 hR
      have hGw : Grow W4 w5 := hR.of_drew
      have HGW := Lib.hid hGw
      have hcc := (HGW.out.block HF4.out).cell
      have hmc := (HGW.out.block HM4.out).cell
      have hxc := HGW.out.cell HXC.out
      have hyc := HGW.out.cell HYC.out
      clear hR hGw
      simp only [depV]
      rintro _ rfl
      rintro _ rfl
      try go_simp
      all_goals first
        | (with_reducible exact Grow.refl _)
        | (with_reducible exact ⟨Grow.refl _, rfl⟩)
    · intro w5 hR
      have hGw : Grow W4 w5 := hR.of_drew
      have HGW := Lib.hid hGw
      have hcc := (HGW.out.block HF4.out).cell
      have hmc := (HGW.out.block HM4.out).cell
      have hxc := HGW.out.cell HXC.out
      have hyc := HGW.out.cell HYC.out
      clear hR hGw
      simp only [depV]
      rintro _ rfl
      rintro _ rfl
      try go_simp
      all_goals first
        | (with_reducible exact Grow.refl _)
        | (with_reducible exact ⟨Grow.refl _, rfl⟩)
    · intro w5 hR
      have hGw : Grow W4 w5 := hR.of_drew
      have HGW := Lib.hid hGw
      have hcc := (HGW.out.block HF4.out).cell
      have hmc := (HGW.out.block HM4.out).cell
      have hxc := HGW.out.cell HXC.out
      have hyc := HGW.out.cell HYC.out
      clear hR hGw
      simp only [depV]
      rintro _ rfl
      try go_simp
      all_goals first
        | (with_reducible exact Grow.refl _)
        | (with_reducible exact ⟨Grow.refl _, rfl⟩)
    · intro w5 hR
      have hGw : Grow W4 w5 := hR.of_drew
      have HGW := Lib.hid hGw
      have hcc := (HGW.out.block HF4.out).cell
      have hmc := (HGW.out.block HM4.out).cell
      have hxc := HGW.out.cell HXC.out
      have hyc := HGW.out.cell HYC.out
      clear hR hGw
      simp only [depV]
      rintro _ rfl
      try go_simp
      all_goals first
        | (with_reducible exact Grow.refl _)
        | (with_reducible exact ⟨Grow.refl _, rfl⟩)
    · intro w5 hR
      have hGw : Grow W4 w5 := hR.of_drew
      have HGW := Lib.hid hGw
      have hcc := (HGW.out.block HF4.out).cell
      have hmc := (HGW.out.block HM4.out).cell
      have hxc := HGW.out.cell HXC.out
      have hyc := HGW.out.cell HYC.out
      clear hR hGw
      simp only [depV]
      rintro _ rfl
      rintro _ rfl
      try go_simp
      all_goals first
        | (with_reducible exact Grow.refl _)
        | (with_reducible exact ⟨Grow.refl _, rfl⟩)
    · intro w5 hR
      have hGw : Grow W4 w5 := hR.of_drew
      have HGW := Lib.hid hGw
      have hcc := (HGW.out.block HF4.out).cell
      have hmc := (HGW.out.block HM4.out).cell
      have hxc := HGW.out.cell HXC.out
      have hyc := HGW.out.cell HYC.out
      clear hR hGw
      simp only [depV]
      rintro _ rfl
      try go_simp
      all_goals first
        | (with_reducible exact Grow.refl _)
        | (with_reducible exact ⟨Grow.refl _, rfl⟩)
    · intro w5 hR
      have hGw : Grow W4 w5 := hR.of_drew
      have HGW := Lib.hid hGw
      have hcc := (HGW.out.block HF4.out).cell
      have hmc := (HGW.out.block HM4.out).cell
      have hxc := HGW.out.cell HXC.out
      have hyc := HGW.out.cell HYC.out
      clear hR hGw
      simp only [depV]
      rintro _ rfl
      rintro _ rfl
      rintro _ rfl
      try go_simp
      all_goals first
        | (with_reducible exact Grow.refl _)
        | (with_reducible exact ⟨Grow.refl _, rfl⟩)
    · intro w5 hR
      have hGw : Grow W4 w5 := hR.of_drew
      have HGW := Lib.hid hGw
      have hcc := (HGW.out.block HF4.out).cell
      have hmc := (HGW.out.block HM4.out).cell
      have hxc := HGW.out.cell HXC.out
      have hyc := HGW.out.cell HYC.out
      clear hR hGw
      simp only [depV]
      rintro _ rfl
      rintro _ rfl
      try go_simp
      all_goals first
        | (with_reducible exact Grow.refl _)
        | (with_reducible exact ⟨Grow.refl _, rfl⟩)
    · intro w5 hR
      have hGw : Grow W4 w5 := hR.of_drew
      have HGW := Lib.hid hGw
      have hcc := (HGW.out.block HF4.out).cell
      have hmc := (HGW.out.block HM4.out).cell
      have hxc := HGW.out.cell HXC.out
      have hyc := HGW.out.cell HYC.out
      clear hR hGw
      simp only [depV]
      rintro _ rfl
      try go_simp
      all_goals first
        | (with_reducible exact Grow.refl _)
        | (with_reducible exact ⟨Grow.refl _, rfl⟩)
    · intro w5 hR
      have hGw : Grow W4 w5 := hR.of_drew
      have HGW := Lib.hid hGw
      have hcc := (HGW.out.block HF4.out).cell
      have hmc := (HGW.out.block HM4.out).cell
      have hxc := HGW.out.cell HXC.out
      have hyc := HGW.out.cell HYC.out
      clear hR hGw
      simp only [depV]
      rintro _ rfl
      rintro _ rfl
      try go_simp
      all_goals first
        | (with_reducible exact Grow.refl _)
        | (with_reducible exact ⟨Grow.refl _, rfl⟩)
    · intro w5 hR
      have hGw : Grow W4 w5 := hR.of_drew
      have HGW := Lib.hid hGw
      have hcc := (HGW.out.block HF4.out).cell
      have hmc := (HGW.out.block HM4.out).cell
      have hxc := HGW.out.cell HXC.out
      have hyc := HGW.out.cell HYC.out
      clear hR hGw
      simp only [depV]
      rintro _ rfl
      rintro _ rfl
      rintro _ rfl
      try go_simp
      all_goals first
        | (with_reducible exact Grow.refl _)
        | (with_reducible exact ⟨Grow.refl _, rfl⟩)
    · intro w5 hR
      have hGw : Grow W4 w5 := hR.of_drew
      have HGW := Lib.hid hGw
      have hcc := (HGW.out.block HF4.out).cell
      have hmc := (HGW.out.block HM4.out).cell
      have hxc := HGW.out.cell HXC.out
      have hyc := HGW.out.cell HYC.out
      clear hR hGw
      simp only [depV]
      rintro _ rfl
      try go_simp
      all_goals first
        | (with_reducible exact Grow.refl _)
        | (with_reducible exact ⟨Grow.refl _, rfl⟩)
    · intro w5 hR
      have hGw : Grow W4 w5 := hR.of_drew
      have HGW := Lib.hid hGw
      have hcc := (HGW.out.block HF4.out).cell
      have hmc := (HGW.out.block HM4.out).cell
      have hxc := HGW.out.cell HXC.out
      have hyc := HGW.out.cell HYC.out
      clear hR hGw
      simp only [depV]
      rintro _ rfl
      rintro _ rfl
      try go_simp
      all_goals first
        | (with_reducible exact Grow.refl _)
        | (with_reducible exact ⟨Grow.refl _, rfl⟩)
    · intro w5 hR
      have hGw : Grow W4 w5 := hR.of_drew
      have HGW := Lib.hid hGw
      have hcc := (HGW.out.block HF4.out).cell
      have hmc := (HGW.out.block HM4.out).cell
      have hxc := HGW.out.cell HXC.out
      have hyc := HGW.out.cell HYC.out
      clear hR hGw
      simp only [depV]
      rintro _ rfl
      try go_simp
      all_goals first
        | (with_reducible exact Grow.refl _)
        | (with_reducible exact ⟨Grow.refl _, rfl⟩)
    · intro w5 hR
      have hGw : Grow W4 w5 := hR.of_drew
      have HGW := Lib.hid hGw
      have hcc := (HGW.out.block HF4.out).cell
      have hmc := (HGW.out.block HM4.out).cell
      have hxc := HGW.out.cell HXC.out
      have hyc := HGW.out.cell HYC.out
      clear hR hGw
      simp only [depV]
      rintro _ rfl
      rintro _ rfl
      try go_simp
      all_goals first
        | (with_reducible exact Grow.refl _)
        | (with_reducible exact ⟨Grow.refl _, rfl⟩)
    · intro w5 hR
      have hGw : Grow W4 w5 := hR.of_drew
      have HGW := Lib.hid hGw
      have hcc := (HGW.out.block HF4.out).cell
      have hmc := (HGW.out.block HM4.out).cell
      have hxc := HGW.out.cell HXC.out
      have hyc := HGW.out.cell HYC.out
      clear hR hGw
      simp only [depV]
      rintro _ rfl
      try go_simp
      all_goals first
        | (with_reducible exact Grow.refl _)
        | (with_reducible exact ⟨Grow.refl _, rfl⟩)
    · intro w5 hR
      have hGw : Grow W4 w5 := hR.of_drew
      have HGW := Lib.hid hGw
      have hcc := (HGW.out.block HF4.out).cell
      have hmc := (HGW.out.block HM4.out).cell
      have hxc := HGW.out.cell HXC.out
      have hyc := HGW.out.cell HYC.out
      clear hR hGw
      simp only [depV]
      rintro _ rfl
      rintro _ rfl
      rintro _ rfl
      try go_simp
      all_goals first
        | (with_reducible exact Grow.refl _)
        | (with_reducible exact ⟨Grow.refl _, rfl⟩)
    · intro w5 hR
      have hGw : Grow W4 w5 := hR.of_drew
      have HGW := Lib.hid hGw
      have hcc := (HGW.out.block HF4.out).cell
      have hmc := (HGW.out.block HM4.out).cell
      have hxc := HGW.out.cell HXC.out
      have hyc := HGW.out.cell HYC.out
      clear hR hGw
      simp only [depV]
      rintro _ rfl
      rintro _ rfl
      try go_simp
      all_goals first
        | (with_reducible exact Grow.refl _)
        | (with_reducible exact ⟨Grow.refl _, rfl⟩)
    · intro w5 hR
      have hGw : Grow W4 w5 := hR.of_drew
      have HGW := Lib.hid hGw
      have hcc := (HGW.out.block HF4.out).cell
      have hmc := (HGW.out.block HM4.out).cell
      have hxc := HGW.out.cell HXC.out
      have hyc := HGW.out.cell HYC.out
      clear hR hGw
      simp only [depV]
      rintro _ rfl
      rintro _ rfl
      rintro _ rfl
      try go_simp
      all_goals first
        | (with_reducible exact Grow.refl _)
        | (with_reducible exact ⟨Grow.refl _, rfl⟩)
    · intro w5 hR
      have hGw : Grow W4 w5 := hR.of_drew
      have HGW := Lib.hid hGw
      have hcc := (HGW.out.block HF4.out).cell
      have hmc := (HGW.out.block HM4.out).cell
      have hxc := HGW.out.cell HXC.out
      have hyc := HGW.out.cell HYC.out
      clear hR hGw
      simp only [depV]
      rintro _ rfl
      try go_simp
      all_goals first
        | (with_reducible exact Grow.refl _)
        | (with_reducible exact ⟨Grow.refl _, rfl⟩)
    · intro w5 hR
      have hGw : Grow W4 w5 := hR.of_drew
      have HGW := Lib.hid hGw
      have hcc := (HGW.out.block HF4.out).cell
      have hmc := (HGW.out.block HM4.out).cell
      have hxc := HGW.out.cell HXC.out
      have hyc := HGW.out.cell HYC.out
      clear hR hGw
      simp only [depV]
      rintro _ rfl
      rintro _ rfl
      try go_simp
      all_goals first
        | (with_reducible exact Grow.refl _)
        | (with_reducible exact ⟨Grow.refl _, rfl⟩)
    · intro w5 hR
      have hGw : Grow W4 w5 := hR.of_drew
      have HGW := Lib.hid hGw
      have hcc := (HGW.out.block HF4.out).cell
      have hmc := (HGW.out.block HM4.out).cell
      have hxc := HGW.out.cell HXC.out
      have hyc := HGW.out.cell HYC.out
      clear hR hGw
      simp only [depV]
      rintro _ rfl
      try go_simp
      all_goals first
        | (with_reducible exact Grow.refl _)
        | (with_reducible exact ⟨Grow.refl _, rfl⟩)
    · intro w5 hR
      have hGw : Grow W4 w5 := hR.of_drew
      have HGW := Lib.hid hGw
      have hcc := (HGW.out.block HF4.out).cell
      have hmc := (HGW.out.block HM4.out).cell
      have hxc := HGW.out.cell HXC.out
      have hyc := HGW.out.cell HYC.out
      clear hR hGw
      simp only [depV]
      rintro _ rfl
      rintro _ rfl
      rintro _ rfl
      try go_simp
      all_goals first
        | (with_reducible exact Grow.refl _)
        | (with_reducible exact ⟨Grow.refl _, rfl⟩)
    · intro w5 hR
      have hGw : Grow W4 w5 := hR.of_drew
      have HGW := Lib.hid hGw
      have hcc := (HGW.out.block HF4.out).cell
      have hmc := (HGW.out.block HM4.out).cell
      have hxc := HGW.out.cell HXC.out
      have hyc := HGW.out.cell HYC.out
      clear hR hGw
      simp only [depV]
      rintro _ rfl
      rintro _ rfl
      try go_simp
      all_goals first
        | (with_reducible exact Grow.refl _)
        | (with_reducible exact ⟨Grow.refl _, rfl⟩)
    · intro w5 hR
      have hGw : Grow W4 w5 := hR.of_drew
      have HGW := Lib.hid hGw
      have hcc := (HGW.out.block HF4.out).cell
      have hmc := (HGW.out.block HM4.out).cell
      have hxc := HGW.out.cell HXC.out
      have hyc := HGW.out.cell HYC.out
      clear hR hGw
      simp only [depV]
      rintro _ rfl
      try go_simp
      all_goals first
        | (with_reducible exact Grow.refl _)
        | (with_reducible exact ⟨Grow.refl _, rfl⟩)
    · intro w5 hR
      have hGw : Grow W4 w5 := hR.of_drew
      have HGW := Lib.hid hGw
      have hcc := (HGW.out.block HF4.out).cell
      have hmc := (HGW.out.block HM4.out).cell
      have hxc := HGW.out.cell HXC.out
      have hyc := HGW.out.cell HYC.out
      clear hR hGw
      simp only [depV]
      rintro _ rfl
      rintro _ rfl
      try go_simp
      all_goals first
        | (with_reducible exact Grow.refl _)
        | (with_reducible exact ⟨Grow.refl _, rfl⟩)
    · intro w5 hR
      have hGw : Grow W4 w5 := hR.of_drew
      have HGW := Lib.hid hGw
      have hcc := (HGW.out.block HF4.out).cell
      have hmc := (HGW.out.block HM4.out).cell
      have hxc := HGW.out.cell HXC.out
      have hyc := HGW.out.cell HYC.out
      clear hR hGw
      simp only [depV]
      rintro _ rfl
      rintro _ rfl
      rintro _ rfl
      try go_simp
      all_goals first
        | (with_reducible exact Grow.refl _)
        | (with_reducible exact ⟨Grow.refl _, rfl⟩)
    · intro w5 hR
      have hGw : Grow W4 w5 := hR.of_drew
      have HGW := Lib.hid hGw
      have hcc := (HGW.out.block HF4.out).cell
      have hmc := (HGW.out.block HM4.out).cell
      have hxc := HGW.out.cell HXC.out
      have hyc := HGW.out.cell HYC.out
      clear hR hGw
      simp only [depV]
      rintro _ rfl
      try go_simp
      all_goals first
        | (with_reducible exact Grow.refl _)
        | (with_reducible exact ⟨Grow.refl _, rfl⟩)
    · intro w5 hR
      have hGw : Grow W4 w5 := hR.of_drew
      have HGW := Lib.hid hGw
      have hcc := (HGW.out.block HF4.out).cell
      have hmc := (HGW.out.block HM4.out).cell
      have hxc := HGW.out.cell HXC.out
      have hyc := HGW.out.cell HYC.out
      clear hR hGw
      simp only [depV]
      rintro _ rfl
      rintro _ rfl
      try go_simp
      all_goals first
        | (with_reducible exact Grow.refl _)
        | (with_reducible exact ⟨Grow.refl _, rfl⟩)
    · intro w5 hR
      have hGw : Grow W4 w5 := hR.of_drew
      have HGW := Lib.hid hGw
      have hcc := (HGW.out.block HF4.out).cell
      have hmc := (HGW.out.block HM4.out).cell
      have hxc := HGW.out.cell HXC.out
      have hyc := HGW.out.cell HYC.out
      clear hR hGw
      simp only [depV]
      rintro _ rfl
      try go_simp
      all_goals first
        | (with_reducible exact Grow.refl _)
        | (with_reducible exact ⟨Grow.refl _, rfl⟩)
    · intro w5 hR
      have hGw : Grow W4 w5 := hR.of_drew
      have HGW := Lib.hid hGw
      have hcc := (HGW.out.block HF4.out).cell
      have hmc := (HGW.out.block HM4.out).cell
      have hxc := HGW.out.cell HXC.out
      have hyc := HGW.out.cell HYC.out
      clear hR hGw
      simp only [depV]
      rintro _ rfl
      rintro _ rfl
      try go_simp
      all_goals first
        | (with_reducible exact Grow.refl _)
        | (with_reducible exact ⟨Grow.refl _, rfl⟩)
    · intro w5 hR
      have hGw : Grow W4 w5 := hR.of_drew
      have HGW := Lib.hid hGw
      have hcc := (HGW.out.block HF4.out).cell
      have hmc := (HGW.out.block HM4.out).cell
      have hxc := HGW.out.cell HXC.out
      have hyc := HGW.out.cell HYC.out
      clear hR hGw
      simp only [depV]
      rintro _ rfl
      try go_simp
      all_goals first
        | (with_reducible exact Grow.refl _)
        | (with_reducible exact ⟨Grow.refl _, rfl⟩)
    · intro w5 hR
      have hGw : Grow W4 w5 := hR.of_drew
      have HGW := Lib.hid hGw
      have hcc := (HGW.out.block HF4.out).cell
      have hmc := (HGW.out.block HM4.out).cell
      have hxc := HGW.out.cell HXC.out
      have hyc := HGW.out.cell HYC.out
      clear hR hGw
      simp only [depV]
      rintro _ rfl
      rintro _ rfl
      rintro _ rfl
      try go_simp
      all_goals first
        | (with_reducible exact Grow.refl _)
        | (with_reducible exact ⟨Grow.refl _, rfl⟩)
    · intro w5 hR
      have hGw : Grow W4 w5 := hR.of_drew
      have HGW := Lib.hid hGw
      have hcc := (HGW.out.block HF4.out).cell
      have hmc := (HGW.out.block HM4.out).cell
      have hxc := HGW.out.cell HXC.out
      have hyc := HGW.out.cell HYC.out
      clear hR hGw
      simp only [depV]
      rintro _ rfl
      rintro _ rfl
      try go_simp
      all_goals first
        | (with_reducible exact Grow.refl _)
        | (with_reducible exact ⟨Grow.refl _, rfl⟩)
    · intro w5 hR
      have hGw : Grow W4 w5 := hR.of_drew
      have HGW := Lib.hid hGw
      have hcc := (HGW.out.block HF4.out).cell
      have hmc := (HGW.out.block HM4.out).cell
      have hxc := HGW.out.cell HXC.out
      have hyc := HGW.out.cell HYC.out
      clear hR hGw
      simp only [depV]
      rintro _ rfl
      rintro _ rfl
      rintro _ rfl
      try go_simp
      all_goals first
        | (with_reducible exact Grow.refl _)
        | (with_reducible exact ⟨Grow.refl _, rfl⟩)
    · intro w5 hR
      have hGw : Grow W4 w5 := hR.of_drew
      have HGW := Lib.hid hGw
      have hcc := (HGW.out.block HF4.out).cell
      have hmc := (HGW.out.block HM4.out).cell
      have hxc := HGW.out.cell HXC.out
      have hyc := HGW.out.cell HYC.out
      clear hR hGw
      simp only [depV]
      rintro _ rfl
      rintro _ rfl
      rintro _ rfl
      rintro _ rfl
      rintro _ rfl
      try go_simp
      exact ⟨Grow.refl _, by have h := HMX.out; omega⟩
    · intro w5 hR
      have hGw : Grow W4 w5 := hR.of_drew
      have HGW := Lib.hid hGw
      have hcc := (HGW.out.block HF4.out).cell
      have hmc := (HGW.out.block HM4.out).cell
      have hxc := HGW.out.cell HXC.out
      have hyc := HGW.out.cell HYC.out
      clear hR hGw
      simp only [depV]
      rintro _ rfl
      try go_simp
      all_goals first
        | (with_reducible exact Grow.refl _)
        | (with_reducible exact ⟨Grow.refl _, rfl⟩)
    · intro w5 hR
      have hGw : Grow W4 w5 := hR.of_drew
      have HGW := Lib.hid hGw
      have hcc := (HGW.out.block HF4.out).cell
      have hmc := (HGW.out.block HM4.out).cell
      have hxc := HGW.out.cell HXC.out
      have hyc := HGW.out.cell HYC.out
      clear hR hGw
      simp only [depV]
      rintro _ rfl
      rintro _ rfl
      try go_simp
      all_goals first
        | (with_reducible exact Grow.refl _)
        | (with_reducible exact ⟨Grow.refl _, rfl⟩)
    · intro w5 hR
      have hGw : Grow W4 w5 := hR.of_drew
      have HGW := Lib.hid hGw
      have hcc := (HGW.out.block HF4.out).cell
      have hmc := (HGW.out.block HM4.out).cell
      have hxc := HGW.out.cell HXC.out
      have hyc := HGW.out.cell HYC.out
      clear hR hGw
      simp only [depV]
      rintro _ rfl
      rintro _ rfl
      rintro _ rfl
      try go_simp
      all_goals first
        | (with_reducible exact Grow.refl _)
        | (with_reducible exact ⟨Grow.refl _, rfl⟩)
    · intro w5 hR
      have hGw : Grow W4 w5 := hR.of_drew
      have HGW := Lib.hid hGw
      have hcc := (HGW.out.block HF4.out).cell
      have hmc := (HGW.out.block HM4.out).cell
      have hxc := HGW.out.cell HXC.out
      have hyc := HGW.out.cell HYC.out
      clear hR hGw
      simp only [depV]
      rintro _ rfl
      rintro _ rfl
      try go_simp
      all_goals first
        | (with_reducible exact Grow.refl _)
        | (with_reducible exact ⟨Grow.refl _, rfl⟩)
  · intro w5 hR
    have HG5 : Hid (Grow W4 w5) := Lib.hid hR.of_drew
    clear hR
    simp only [finVC, List.take_succ_cons, List.take_zero, List.drop_succ_cons, List.drop_zero]
    rintro _ rfl
    rintro _ rfl
    rintro _ rfl
    rintro _ rfl
    rintro _ rfl
    rintro _ rfl
    rintro _ rfl
    rintro _ rfl
    rintro _ rfl
    rintro _ rfl
    rintro _ rfl
    rintro _ rfl
    rintro _ rfl
    rintro _ rfl
    rintro _ rfl
    rintro _ rfl
    rintro _ rfl
    rintro _ rfl
    rintro _ rfl
    rintro _ rfl
    rintro _ rfl
    rintro _ rfl
    rintro _ rfl
    rintro _ rfl
    rintro _ rfl
    rintro _ rfl
    rintro _ rfl
    rintro _ rfl
    rintro _ rfl
    rintro _ rfl
    rintro _ rfl
    rintro _ rfl
    rintro _ rfl
    rintro _ rfl
    rintro _ rfl
    rintro _ rfl
    rintro _ rfl
    rintro _ rfl
    rintro _ rfl
    rintro _ rfl
    rintro _ rfl
    rintro _ rfl
    rintro _ rfl
    rintro _ rfl
    rintro _ rfl
    rintro _ rfl
    rintro _ rfl
    rintro _ rfl
    rintro _ rfl
    rintro _ rfl
    simp only [Act.put, List.setIfInBounds_toArray, List.set_cons_succ, List.set_cons_zero]
    rename World => Wq
    by_cases hgt : (ne : Int) < mx
    · have hdg : decide ((ne : Int) < mx) = true := decide_eq_true hgt
      have HG8 : Hid (Grow w Wq) := Lib.hid (HG4.out.trans HG5.out)
      go_wp2_with fail
      refine (HWK.out _ HG8.out).mono ?_
      rintro e w9 ⟨rfl, hb9⟩
      have HG9 : Hid (Grow w w9) := Lib.hid ((HG8.out).trans hb9)
      clear hb9
      go_wp2_with fail
      go_ret
      exact ⟨rfl, HG9.out⟩
    have hdg : decide ((ne : Int) < mx) = false := decide_eq_false hgt
    have HG8 : Hid (Grow w Wq) := Lib.hid (HG4.out.trans HG5.out)
    have HF5 := Lib.hid (HG5.out.block HF4.out)
    have HM5 := Lib.hid (HG5.out.block HM4.out)
    have hws : IntKind.i64.wrap (rx - ry) = rx - ry := IntWalk.i64_in _ (by omega)
    go_wp2_with fail
    refine wp_region_lit 9 [[], [], [(1, 138)], [(0, 137), (2, 139)], [], [], [(5, 142)], [(4, 141), (6, 143)], [(3, 140), (7, 144)]] Grow (fun qi v w' => match qi with
        | 0 => v = paperV p
        | 1 => v = .pointer (some ⟨w.heap.size + 1, 0, none⟩)
        | 2 => v = .slice (some ⟨xb, xo, none⟩) xs.length ca
        | 3 => v = .int .i64 rx
        | 4 => v = paperV p
        | 5 => v = .pointer (some ⟨w.heap.size + 1, 1, none⟩)
        | 6 => v = .slice (some ⟨yb, yo, none⟩) ys.length cb
        | 7 => v = .int .i64 ry
        | 8 => v = .int .i64 (rx - ry)
        | _ => False) (by kernel_rfl) (by kernel_rfl) (fun _ _ _ => Grow.trans) Grow.refl ?_ ?_ ?_
    · intro i v y y' h k
      match i, h with
      | 0, h | 1, h | 2, h | 3, h | 4, h | 5, h | 6, h | 7, h | 8, h => exact h
    · simp only [StepsLit, List.take_succ_cons, List.take_zero]
      refine ⟨?_, ?_, ?_, ?_, ?_, ?_, ?_, ?_, ?_, trivial⟩
      · intro w5 hR
        have hGw : Grow Wq w5 := hR.of_drew
        have HGW := Lib.hid hGw
        have hcc := (HGW.out.block HF5.out).cell
        have hmc := (HGW.out.block HM5.out).cell
        clear hR hGw
        simp only [depV]
        try go_simp
        all_goals first
          | (with_reducible exact Grow.refl _)
          | (with_reducible exact ⟨Grow.refl _, rfl⟩)
      · intro w5 hR
        have hGw : Grow Wq w5 := hR.of_drew
        have HGW := Lib.hid hGw
        have hcc := (HGW.out.block HF5.out).cell
        have hmc := (HGW.out.block HM5.out).cell
        clear hR hGw
        simp only [depV]
        try go_simp
        all_goals first
          | (with_reducible exact Grow.refl _)
          | (with_reducible exact ⟨Grow.refl _, rfl⟩)
      · intro w5 hR
        have hGw : Grow Wq w5 := hR.of_drew
        have HGW := Lib.hid hGw
        have hcc := (HGW.out.block HF5.out).cell
        have hmc := (HGW.out.block HM5.out).cell
        clear hR hGw
        simp only [depV]
        rintro _ rfl
        try go_simp
        all_goals first
          | (with_reducible exact Grow.refl _)
          | (with_reducible exact ⟨Grow.refl _, rfl⟩)
      · intro w5 hR
        have hGw : Grow Wq w5 := hR.of_drew
        have HGW := Lib.hid hGw
        have hcc := (HGW.out.block HF5.out).cell
        have hmc := (HGW.out.block HM5.out).cell
        clear hR hGw
        simp only [depV]
        rintro _ rfl
        rintro _ rfl
        try go_simp
        refine (HRX3.out w5 (HG8.out.trans HGW.out)).mono ?_
        rintro e w6 ⟨rfl, hb6⟩
        exact ⟨hb6, rfl⟩
      · intro w5 hR
        have hGw : Grow Wq w5 := hR.of_drew
        have HGW := Lib.hid hGw
        have hcc := (HGW.out.block HF5.out).cell
        have hmc := (HGW.out.block HM5.out).cell
        clear hR hGw
        simp only [depV]
        try go_simp
        all_goals first
          | (with_reducible exact Grow.refl _)
          | (with_reducible exact ⟨Grow.refl _, rfl⟩)
      · intro w5 hR
        have hGw : Grow Wq w5 := hR.of_drew
        have HGW := Lib.hid hGw
        have hcc := (HGW.out.block HF5.out).cell
        have hmc := (HGW.out.block HM5.out).cell
        clear hR hGw
        simp only [depV]
        try go_simp
        all_goals first
          | (with_reducible exact Grow.refl _)
          | (with_reducible exact ⟨Grow.refl _, rfl⟩)
      · intro w5 hR
        have hGw : Grow Wq w5 := hR.of_drew
        have HGW := Lib.hid hGw
        have hcc := (HGW.out.block HF5.out).cell
        have hmc := (HGW.out.block HM5.out).cell
        clear hR hGw
        simp only [depV]
        rintro _ rfl
        try go_simp
        all_goals first
          | (with_reducible exact Grow.refl _)
          | (with_reducible exact ⟨Grow.refl _, rfl⟩)
      · intro w5 hR
        have hGw : Grow Wq w5 := hR.of_drew
        have HGW := Lib.hid hGw
        have hcc := (HGW.out.block HF5.out).cell
        have hmc := (HGW.out.block HM5.out).cell
        clear hR hGw
        simp only [depV]
        rintro _ rfl
        rintro _ rfl
        try go_simp
        refine (HRY3.out w5 (HG8.out.trans HGW.out)).mono ?_
        rintro e w6 ⟨rfl, hb6⟩
        exact ⟨hb6, rfl⟩
      · intro w5 hR
        have hGw : Grow Wq w5 := hR.of_drew
        have HGW := Lib.hid hGw
        have hcc := (HGW.out.block HF5.out).cell
        have hmc := (HGW.out.block HM5.out).cell
        clear hR hGw
        simp only [depV]
        rintro _ rfl
        rintro _ rfl
        try go_simp
        all_goals first
          | (with_reducible exact Grow.refl _)
          | (with_reducible exact ⟨Grow.refl _, rfl⟩)
    · intro w5 hR
      have HG5b : Hid (Grow Wq w5) := Lib.hid hR.of_drew
      clear hR
      simp only [finVC, List.take_succ_cons, List.take_zero, List.drop_succ_cons, List.drop_zero]
      rintro _ rfl
      rintro _ rfl
      rintro _ rfl
      rintro _ rfl
      rintro _ rfl
      rintro _ rfl
      rintro _ rfl
      rintro _ rfl
      rintro _ rfl
      simp only [Act.put, List.setIfInBounds_toArray, List.set_cons_succ, List.set_cons_zero]
      have HG10 : Hid (Grow w w5) := Lib.hid (HG8.out.trans HG5b.out)
      have HLE := Lib.hid (by
        obtain ⟨m, a1, a2, a3, a4⟩ := HNEAR.out (by omega)
        exact HMI2.out m a1 a2 a3 a4)
      have hle := HLE.out
      have hwn : IntKind.i64.wrap (-(rx - ry)) = ry - rx := by rw [show -(rx - ry) = ry - rx by omega]; exact IntWalk.i64_in _ (by omega)
      by_cases hs' : rx - ry < ry - rx
      · have hle1 : decide (ry - rx ≤ wd) = true := decide_eq_true (by omega)
        go_wp2_with fail
        refine (HWK.out _ HG10.out).mono ?_
        rintro e w9 ⟨rfl, hb9⟩
        have HG9 : Hid (Grow w w9) := Lib.hid ((HG10.out).trans hb9)
        clear hb9
        go_wp2_with fail
        go_ret
        exact ⟨rfl, HG9.out⟩
      · have hle1 : decide (rx - ry ≤ wd) = true := decide_eq_true (by omega)
        go_wp2_with fail
        refine (HWK.out _ HG10.out).mono ?_
        rintro e w9 ⟨rfl, hb9⟩
        have HG9 : Hid (Grow w w9) := Lib.hid ((HG10.out).trans hb9)
        clear hb9
        go_wp2_with fail
        go_ret
        exact ⟨rfl, HG9.out⟩

end Go.Proofs.YthehkgpnnndboaaDoor
