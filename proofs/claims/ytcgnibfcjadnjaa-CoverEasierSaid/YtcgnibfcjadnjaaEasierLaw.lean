/- EasierLaw: the statement on pools made easier, of what it looks at; written by wip/tools/easiermain10.py. -/
import Derived.Test.YtcgnibfcjadnjaaEaseM
import Derived.Test.YtcgnibfcjadnjaaEaseW
import Derived.Test.YtcgnibfcjadnjaaWorksP
import Derived.Test.YtcgnibfcjadnjaaPlanApi
import Derived.BigQuiet
import Derived.Test.YtcgnibfcjadnjaaRCheck
namespace Go.Proofs.Ytcgnibfcjadnjaa
open Go.RowKit

theorem short_good {p : Pool} (G : Good p) : Short p.i := by
  have h1 := G.f5
  have h2 := G.n3
  have h3 := G.t3
  refine ⟨?_, ?_, fun r hr => ?_⟩
  · show (p.folk.map FolkN.i).length ≤ 1000000
    rw [List.length_map]; omega
  · show (p.needs.map natsL).length ≤ 1000000
    rw [List.length_map]; omega
  · obtain ⟨l, hl, rfl⟩ := List.mem_map.1 (show r ∈ p.needs.map natsL from hr)
    rw [natsL_length]; have := (G.rows l hl).1; omega
set_option maxRecDepth 100000 in
set_option maxHeartbeats 16000000 in
theorem coverEasier_good (h : PoolH) (p : Pool) (G : Good p) (who sl la : Int) (a b c nn ii mm : Nat) (j : FolkI) (w : World) (hA : PoolAt w w.heap.size h p.i) (hv : validI p.i = true) (h4 : p.folk.length ≤ 4) (ha : a ≤ 31) (hb : b ≤ 63) (hc : c ≤ 1000) (hnn : nn ≤ 8) (hii : ii ≤ 3) (hmm : mm ≤ 6) :
    Calls Try.prog 6 #[poolN h p, .agg #[.int .i64 who, .int .i64 (a : Nat), .int .i64 (b : Nat), .int .i64 (c : Nat), .int .i64 sl, .int .i64 la, .int .i64 (nn : Nat), .int .i64 (ii : Nat), .int .i64 (mm : Nat), .int .i64 j.t, .int .i64 j.s, .int .i64 j.y]] w fun e w' => e = .returned (.bool true) ∧ Below w.heap.size w w' := by
  have HV := Lib.hid (fun (w0 : World) (hw : Grow w w0) => valid_any h p.i w0 (hA.grow hw))
  rw [hv, pool_i] at HV
  have hok : okPool p.i = true := by unfold validI at hv; rw [Bool.and_eq_true] at hv; exact hv.2
  have hfar : farI p.i = false := by unfold validI at hv; rw [Bool.and_eq_true, Bool.not_eq_true'] at hv; exact hv.1
  obtain ⟨fp1, fp2, fp3, _⟩ := far_parts hfar
  have hsh : Short p.i := far_short hfar
  have HCP := Lib.hid (fun (w0 : World) (hw : Grow w w0) => rCopy_any h p.i w0.heap.size w0 (hA.grow hw) (Nat.le_refl _) fp1 fp2 fp3)
  rw [pool_i] at HCP
  have hd0 : decide ((4 : Int) < (p.folk.length : Int)) = false := decide_eq_false (by omega)
  have hd1 : decide ((a : Int) < (0 : Int)) = false := decide_eq_false (by omega)
  have hd2 : decide ((31 : Int) < (a : Int)) = false := decide_eq_false (by omega)
  have hd3 : decide ((b : Int) < (0 : Int)) = false := decide_eq_false (by omega)
  have hd4 : decide ((63 : Int) < (b : Int)) = false := decide_eq_false (by omega)
  have hd5 : decide ((c : Int) < (0 : Int)) = false := decide_eq_false (by omega)
  have hd6 : decide ((1000 : Int) < (c : Int)) = false := decide_eq_false (by omega)
  have hd7 : decide ((nn : Int) < (0 : Int)) = false := decide_eq_false (by omega)
  have hd8 : decide ((8 : Int) < (nn : Int)) = false := decide_eq_false (by omega)
  have hd9 : decide ((ii : Int) < (0 : Int)) = false := decide_eq_false (by omega)
  have hd10 : decide ((3 : Int) < (ii : Int)) = false := decide_eq_false (by omega)
  have hd11 : decide ((mm : Int) < (0 : Int)) = false := decide_eq_false (by omega)
  have hd12 : decide ((6 : Int) < (mm : Int)) = false := decide_eq_false (by omega)
  have HPT := Lib.hid (fun (w0 : World) (hw : Grow w w0) => hA.grow hw)
  clear hA hv hfar fp1 fp2 fp3
  obtain ⟨fa, fc, na, nc⟩ := h
  go_enter Try.func6, Try.ntmps6
  go_upto_region 1 with fail
  obtain ⟨W, hW, hg, hf, hx, hsz⟩ := two_blocks w 25 64 (cellsN ⟨fa, fc, na, nc⟩ p) #[.int .i64 who, .int .i64 (a : Nat), .int .i64 (b : Nat), .int .i64 (c : Nat), .int .i64 sl, .int .i64 la, .int .i64 (nn : Nat), .int .i64 (ii : Nat), .int .i64 (mm : Nat), .int .i64 j.t, .int .i64 j.s, .int .i64 j.y]
  rw [hW]
  clear hW
  have hcc := hf.cell
  have hxc := hx.cell
  have HG0 := Lib.hid hg
  have HF0 := Lib.hid hf
  have HX0 := Lib.hid hx
  clear hf hg hx
  go_wp2_with fail
  refine (HV.out W HG0.out).mono ?_
  rintro e w1 ⟨rfl, hb1⟩
  have HG1 : Hid (Grow w w1) := Lib.hid (HG0.out.trans hb1)
  have HF1 := Lib.hid ((show Grow W w1 from hb1).block HF0.out)
  have HX1 := Lib.hid ((show Grow W w1 from hb1).block HX0.out)
  have hcc := HF1.out.cell
  have hxc := HX1.out.cell
  clear hb1 HF0 HX0
  go_wp2_with fail
  refine (HCP.out w1 HG1.out).mono ?_
  rintro e w2 ⟨h', rfl, hnp, hb2⟩
  obtain ⟨fa', fc', na', nc'⟩ := h'
  have HG2 : Hid (Grow w w2) := Lib.hid (HG1.out.trans hb2)
  have HF2 := Lib.hid ((show Grow w1 w2 from hb2).block HF1.out)
  have HX2 := Lib.hid ((show Grow w1 w2 from hb2).block HX1.out)
  have hl12 : w1.heap.size ≤ w2.heap.size := hb2.size
  go_upto_region 4 with fail
  obtain ⟨w4, hw4, hg4, ho4, hsz4⟩ := one_block w2 25 (cellsP ⟨fa', fc', na', nc'⟩ p.i)
  rw [hw4]
  clear hw4
  obtain ⟨ob, hob⟩ : ∃ z, w2.heap.size = z := ⟨_, rfl⟩
  obtain ⟨lo, hlo⟩ : ∃ z, w1.heap.size = z := ⟨_, rfl⟩
  rw [hob] at ho4 hl12 ⊢
  rw [hlo] at hnp hl12
  have HLF : Hid ((p.i.folk.length : Int) = p.folk.length) := Lib.hid (by show ((p.folk.map FolkN.i).length : Int) = _; rw [List.length_map])
  have HE4 : Hid (Eased w4 lo ob ⟨fa', fc', na', nc'⟩ p.i) := Lib.hid (Eased.grow_var hnp hg4 ho4 hl12)
  have HG4 : Hid (Grow w w4) := Lib.hid (HG2.out.trans hg4)
  have HF4 := Lib.hid (hg4.block HF2.out)
  have HX4 := Lib.hid (hg4.block HX2.out)
  have HLW : Hid (lo ≤ w4.heap.size) := Lib.hid (by have := hg4.size; rw [hob] at this; omega)
  have hwlo : w.heap.size + 1 < lo := by rw [← hlo]; have := HX1.out.lt; omega
  clear hnp hb2 hg4 ho4 hsz4 hob hlo hcc hxc HF2 HX2 HF1 HX1 HG1 HG2 hd0 hd1 hd2 hd3 hd4 hd5 hd6 hd7 hd8 hd9 hd10 hd11 hd12

  obtain ⟨qf, hqf⟩ : ∃ z, EaseN.f ⟨who, a, b, c, sl, la, nn, ii, mm, j⟩ p = z := ⟨_, rfl⟩
  have HQF : Hid ((decide (0 ≤ who) && decide (who < (p.folk.length : Int))) = qf) := Lib.hid hqf
  clear hqf
  go_cut [95] (fun v wx => v = .bool qf ∧ w4 = wx)
  case first => as_aux_lemma =>
    have hxc := HX4.out.cell
    have hoc := HE4.out.var.cell
    have hql := HLF.out
    by_cases hw0 : 0 ≤ who
    · have hq1 : decide (0 ≤ who) = true := decide_eq_true hw0
      by_cases hw1 : who < (p.folk.length : Int)
      · have hq2 : decide (who < (p.folk.length : Int)) = true := decide_eq_true hw1
        go_wp2_with fail
        go_meet
        exact ⟨by rw [← HQF.out, hq1, hq2]; rfl, rfl⟩
      · have hq2 : decide (who < (p.folk.length : Int)) = false := decide_eq_false hw1
        go_wp2_with fail
        go_meet
        exact ⟨by rw [← HQF.out, hq1, hq2]; rfl, rfl⟩
    · have hq1 : decide (0 ≤ who) = false := decide_eq_false hw0
      go_wp2_with fail
      go_meet
      exact ⟨by rw [← HQF.out, hq1]; rfl, rfl⟩
  case rest => as_aux_lemma =>
    obtain ⟨rfl, rfl⟩ := hcut
    go_upto_if 95 with fail
    go_cut [5] (fun v wx => v = .pointer (some ⟨ob, 0, none⟩) ∧ Eased wx lo ob ⟨fa', fc', na', nc'⟩ ⟨(folkE p ⟨who, a, b, c, sl, la, nn, ii, mm, j⟩).map FolkN.i, p.needs.map natsL, p.ill, p.most⟩ ∧ Below lo w4 wx)
    case first => as_aux_lemma =>
      cases qf with
      | false =>
        have HFE : Hid (folkE p ⟨who, a, b, c, sl, la, nn, ii, mm, j⟩ = p.folk) := Lib.hid (by unfold folkE EaseN.f; dsimp only; rw [HQF.out]; rfl)
        go_wp2_with fail
        go_meet
        exact ⟨rfl, by rw [HFE.out]; exact HE4.out, Below.refl _ _⟩
      | true =>
        have hq := HQF.out
        rw [Bool.and_eq_true, decide_eq_true_iff, decide_eq_true_iff] at hq
        obtain ⟨hw0, hw1⟩ := hq
        have hcc := HF4.out.cell
        have hxc := HX4.out.cell
        have hov := HE4.out.var
        rw [cells_i] at hov
        have hoc := hov.cell
        obtain ⟨k, rfl⟩ : ∃ k : Nat, who = (k : Int) := ⟨who.toNat, by omega⟩
        obtain ⟨y, hy⟩ : ∃ y, p.folk[k]? = some y := ⟨_, List.getElem?_eq_getElem (by omega)⟩
        have hyi : p.i.folk[k]? = some y.i := by show (p.folk.map FolkN.i)[k]? = _; rw [List.getElem?_map, hy]; rfl
        obtain ⟨g, hg, q0, q1, q2, hfz⟩ := HE4.out.look hyi
        have hg : fa' = some ⟨g, 0, none⟩ := hg
        subst hg
        have hc0 : w4.cell? ⟨g, k * 3, none⟩ = some (.int .i64 (y.t : Nat)) := q0
        have hc1 : w4.cell? ⟨g, k * 3 + 1, none⟩ = some (.int .i64 (y.s : Nat)) := q1
        have hc2 : w4.cell? ⟨g, k * 3 + 2, none⟩ = some (.int .i64 (y.y : Nat)) := q2
        have HY := Lib.hid hy
        have HYB := Lib.hid (G.folk y (List.mem_of_getElem? hy))
        have HFZ := Lib.hid (fun (w0 : World) (hw : Grow w4 w0) (i : Nat) => (show w0.frozen? ⟨g, i, none⟩ = false by
          obtain ⟨g', hg', _, _, _, hz⟩ := (HE4.out.grow hw).look hyi
          have hg' : (some ⟨g, 0, none⟩ : Option Addr) = some ⟨g', 0, none⟩ := hg'
          injection hg' with e
          injection e with e
          subst e
          exact hz i))
        have HFE : Hid (folkE p ⟨k, a, b, c, sl, la, nn, ii, mm, j⟩ = p.folk.set k (personE p ⟨k, a, b, c, sl, la, nn, ii, mm, j⟩ y)) := Lib.hid (by
          unfold folkE EaseN.f
          dsimp only
          rw [HQF.out, if_pos rfl, Int.toNat_natCast, List.getD_eq_getElem?_getD, hy]
          rfl)
        have hkl : k < p.folk.length := by omega
        have HTO := Lib.hid (fun (w0 : World) (hw : Grow w w0) => rTongues_any ⟨fa, fc, na, nc⟩ p G w0 (HPT.out w0 hw))
        have htn1 := G.t1
        have htn3 := G.t3
        have hnl1 := G.n1
        have hnl3 := G.n3
        have hp8 : 2 ^ p.tn ≤ 8 := Nat.pow_le_pow_right (n := 2) (by omega) htn3
        have hn8 : 2 ^ p.needs.length ≤ 8 := Nat.pow_le_pow_right (n := 2) (by omega) hnl3
        have hp1 := Nat.two_pow_pos p.tn
        have hn1 := Nat.two_pow_pos p.needs.length
        have hpI : ((2 : Int) ^ p.tn) = ((2 ^ p.tn : Nat) : Int) := (Int.natCast_pow 2 _).symm
        have hnI : ((2 : Int) ^ p.needs.length) = ((2 ^ p.needs.length : Nat) : Int) := (Int.natCast_pow 2 _).symm
        have HPE : Hid ((personE p ⟨k, a, b, c, sl, la, nn, ii, mm, j⟩ y).i = ⟨((y.t ||| (a &&& (2 ^ p.tn - 1)) : Nat) : Int), ((y.s ||| (b &&& (2 ^ p.needs.length - 1)) : Nat) : Int), ((y.y - c : Nat) : Int)⟩) := Lib.hid rfl
        obtain ⟨hyt, hys, hyy⟩ := HYB.out
        have hat : a &&& (2 ^ p.tn - 1) ≤ 31 := Nat.le_trans Nat.and_le_left ha
        have hbt : b &&& (2 ^ p.needs.length - 1) ≤ 63 := Nat.le_trans Nat.and_le_left hb
        have HAM := Lib.hid (and_i64 a (2 ^ p.tn - 1) (by omega) (by omega))
        have HOM := Lib.hid (or_i64 y.t (a &&& (2 ^ p.tn - 1)) (by omega) (by omega))
        have HBM := Lib.hid (and_i64 b (2 ^ p.needs.length - 1) (by omega) (by omega))
        have HOS := Lib.hid (or_i64 y.s (b &&& (2 ^ p.needs.length - 1)) (by omega) (by omega))
        have hs1 : ((2 ^ p.tn - 1 : Nat) : Int) = ((2 ^ p.tn : Nat) : Int) - 1 := by omega
        have hs2 : ((2 ^ p.needs.length - 1 : Nat) : Int) = ((2 ^ p.needs.length : Nat) : Int) - 1 := by omega
        obtain ⟨am, ham⟩ : ∃ z, a &&& (2 ^ p.tn - 1) = z := ⟨_, rfl⟩
        obtain ⟨bm, hbm⟩ : ∃ z, b &&& (2 ^ p.needs.length - 1) = z := ⟨_, rfl⟩
        rw [ham] at HAM HOM HPE hat
        rw [hbm] at HBM HOS HPE hbt
        obtain ⟨m7, hm7⟩ : ∃ z, 2 ^ p.tn - 1 = z := ⟨_, rfl⟩
        obtain ⟨n7, hn7⟩ : ∃ z, 2 ^ p.needs.length - 1 = z := ⟨_, rfl⟩
        rw [hm7] at HAM hs1
        rw [hn7] at HBM hs2
        obtain ⟨m8, hm8⟩ : ∃ z, 2 ^ p.tn = z := ⟨_, rfl⟩
        obtain ⟨n8, hn8e⟩ : ∃ z, 2 ^ p.needs.length = z := ⟨_, rfl⟩
        rw [hm8] at hp8 hp1 hpI hs1
        rw [hn8e] at hn8 hn1 hnI hs2
        obtain ⟨tm, htm⟩ : ∃ z, y.t ||| am = z := ⟨_, rfl⟩
        obtain ⟨sm, hsm⟩ : ∃ z, y.s ||| bm = z := ⟨_, rfl⟩
        obtain ⟨ym, hym⟩ : ∃ z, y.y - c = z := ⟨_, rfl⟩
        rw [htm] at HOM HPE
        rw [hsm] at HOS HPE
        rw [hym] at HPE
        have hwr : IntKind.i64.wrap ((2 : Int) ^ p.tn) = (m8 : Int) := by rw [hpI]; exact IntWalk.i64_in _ (by omega)
        have hwn : IntKind.i64.wrap ((2 : Int) ^ p.needs.length) = (n8 : Int) := by rw [hnI]; exact IntWalk.i64_in _ (by omega)
        have hsb : IntKind.i64.wrap ((m8 : Int) - 1) = (m7 : Int) := by rw [IntWalk.i64_in _ (by omega)]; omega
        have hsn : IntKind.i64.wrap ((n8 : Int) - 1) = (n7 : Int) := by rw [IntWalk.i64_in _ (by omega)]; omega
        have hcv : IntKind.u64.wrap (p.tn : Int) = (p.tn : Int) := IntWalk.u64_in _ (by omega)
        have hcn : IntKind.u64.wrap (p.needs.length : Int) = (p.needs.length : Int) := IntWalk.u64_in _ (by omega)
        have hsy : IntKind.i64.wrap ((y.y : Int) - (c : Int)) = (y.y : Int) - (c : Int) := IntWalk.i64_in _ (by omega)
        have HMX : Hid ((if c < y.y then (y.y : Int) - (c : Int) else 0) = (ym : Int)) := Lib.hid (by split <;> omega)
        have htn64 : p.tn ≤ 64 := by omega
        have hnn64 : p.needs.length ≤ 64 := by omega
        have htn0 : (0 : Int) ≤ (p.tn : Int) := by omega
        have hnn0 : (0 : Int) ≤ (p.needs.length : Int) := by omega
        have HY3 := Lib.hid hys
        clear q0 q1 q2 hy hyi hfz hpI hnI hs1 hs2 ham hbm hm7 hn7 hm8 hn8e htm hsm hym hyt hys hyy
        go_upto_region 6 with fail
        obtain ⟨W5, hW5, hg5, hf5, hsz5⟩ := one_block w4 62 #[.int .i64 (y.t : Nat), .int .i64 (y.s : Nat), .int .i64 (y.y : Nat)]
        rw [hW5]
        clear hW5
        obtain ⟨fb, hfb⟩ : ∃ z, w4.heap.size = z := ⟨_, rfl⟩
        have HFB := Lib.hid hfb
        rw [hfb] at hf5 hsz5 ⊢
        clear hfb
        have HY5 := Lib.hid hf5
        have HG45 : Hid (Grow w4 W5) := Lib.hid hg5
        have HF5 := Lib.hid (hg5.block HF4.out)
        have HX5 := Lib.hid (hg5.block HX4.out)
        clear hg5 hf5 hcc hxc hoc hov
        refine wp_region_lit 12 [[], [(0, 102)], [], [(2, 104)], [], [(4, 106)], [(5, 107)], [(6, 108)], [(7, 109)], [(3, 105), (8, 110)], [(1, 103), (9, 111)], []] Grow (fun qi v w' => match qi with
            | 0 => v = .pointer (some ⟨fb, 0, none⟩)
            | 1 => v = .int .i64 (y.t : Nat)
            | 2 => v = .pointer (some ⟨w.heap.size + 1, 1, none⟩)
            | 3 => v = .int .i64 (a : Nat)
            | 4 => v = poolN ⟨fa, fc, na, nc⟩ p
            | 5 => v = .int .i64 (p.tn : Nat)
            | 6 => v = .int .u64 (p.tn : Nat)
            | 7 => v = .int .i64 (m8 : Nat)
            | 8 => v = .int .i64 (m7 : Nat)
            | 9 => v = .int .i64 (am : Nat)
            | 10 => v = .int .i64 (tm : Nat)
            | 11 => v = .pointer (some ⟨fb, 0, none⟩)
            | _ => False) (by kernel_rfl) (by kernel_rfl) (fun _ _ _ => Grow.trans) Grow.refl ?_ ?_ ?_
        · intro i v y y' h k
          match i, h with
          | 0, h | 1, h | 2, h | 3, h | 4, h | 5, h | 6, h | 7, h | 8, h | 9, h | 10, h | 11, h => exact h
        · simp only [StepsLit, List.take_succ_cons, List.take_zero]
          refine ⟨?_, ?_, ?_, ?_, ?_, ?_, ?_, ?_, ?_, ?_, ?_, ?_, trivial⟩
          · intro w5 hR
            have hGw : Grow W5 w5 := hR.of_drew
            have HGW := Lib.hid hGw
            have hcc := (HGW.out.block HF5.out).cell
            have hxc := (HGW.out.block HX5.out).cell
            have hfc := (HGW.out.block HY5.out).cell
            clear hR hGw
            simp only [depV]
            try go_simp
            all_goals first
              | (with_reducible exact Grow.refl _)
              | (with_reducible exact ⟨Grow.refl _, rfl⟩)
          · intro w5 hR
            have hGw : Grow W5 w5 := hR.of_drew
            have HGW := Lib.hid hGw
            have hcc := (HGW.out.block HF5.out).cell
            have hxc := (HGW.out.block HX5.out).cell
            have hfc := (HGW.out.block HY5.out).cell
            clear hR hGw
            simp only [depV]
            rintro _ rfl
            try go_simp
            all_goals first
              | (with_reducible exact Grow.refl _)
              | (with_reducible exact ⟨Grow.refl _, rfl⟩)
          · intro w5 hR
            have hGw : Grow W5 w5 := hR.of_drew
            have HGW := Lib.hid hGw
            have hcc := (HGW.out.block HF5.out).cell
            have hxc := (HGW.out.block HX5.out).cell
            have hfc := (HGW.out.block HY5.out).cell
            clear hR hGw
            simp only [depV]
            try go_simp
            all_goals first
              | (with_reducible exact Grow.refl _)
              | (with_reducible exact ⟨Grow.refl _, rfl⟩)
          · intro w5 hR
            have hGw : Grow W5 w5 := hR.of_drew
            have HGW := Lib.hid hGw
            have hcc := (HGW.out.block HF5.out).cell
            have hxc := (HGW.out.block HX5.out).cell
            have hfc := (HGW.out.block HY5.out).cell
            clear hR hGw
            simp only [depV]
            rintro _ rfl
            try go_simp
            all_goals first
              | (with_reducible exact Grow.refl _)
              | (with_reducible exact ⟨Grow.refl _, rfl⟩)
          · intro w5 hR
            have hGw : Grow W5 w5 := hR.of_drew
            have HGW := Lib.hid hGw
            have hcc := (HGW.out.block HF5.out).cell
            have hxc := (HGW.out.block HX5.out).cell
            have hfc := (HGW.out.block HY5.out).cell
            clear hR hGw
            simp only [depV]
            try go_simp
            all_goals first
              | (with_reducible exact Grow.refl _)
              | (with_reducible exact ⟨Grow.refl _, rfl⟩)
          · intro w5 hR
            have hGw : Grow W5 w5 := hR.of_drew
            have HGW := Lib.hid hGw
            have hcc := (HGW.out.block HF5.out).cell
            have hxc := (HGW.out.block HX5.out).cell
            have hfc := (HGW.out.block HY5.out).cell
            clear hR hGw
            simp only [depV]
            rintro _ rfl
            try go_simp
            refine (HTO.out w5 ((HG4.out.trans HG45.out).trans HGW.out)).mono ?_
            rintro e w6 ⟨rfl, hb6⟩
            exact ⟨hb6, rfl⟩
          · intro w5 hR
            have hGw : Grow W5 w5 := hR.of_drew
            have HGW := Lib.hid hGw
            have hcc := (HGW.out.block HF5.out).cell
            have hxc := (HGW.out.block HX5.out).cell
            have hfc := (HGW.out.block HY5.out).cell
            clear hR hGw
            simp only [depV]
            rintro _ rfl
            try go_simp
            all_goals first
              | (with_reducible exact Grow.refl _)
              | (with_reducible exact ⟨Grow.refl _, rfl⟩)
          · intro w5 hR
            have hGw : Grow W5 w5 := hR.of_drew
            have HGW := Lib.hid hGw
            have hcc := (HGW.out.block HF5.out).cell
            have hxc := (HGW.out.block HX5.out).cell
            have hfc := (HGW.out.block HY5.out).cell
            clear hR hGw
            simp only [depV]
            rintro _ rfl
            try go_simp
            all_goals first
              | (with_reducible exact Grow.refl _)
              | (with_reducible exact ⟨Grow.refl _, rfl⟩)
          · intro w5 hR
            have hGw : Grow W5 w5 := hR.of_drew
            have HGW := Lib.hid hGw
            have hcc := (HGW.out.block HF5.out).cell
            have hxc := (HGW.out.block HX5.out).cell
            have hfc := (HGW.out.block HY5.out).cell
            clear hR hGw
            simp only [depV]
            rintro _ rfl
            try go_simp
            all_goals first
              | (with_reducible exact Grow.refl _)
              | (with_reducible exact ⟨Grow.refl _, rfl⟩)
          · intro w5 hR
            have hGw : Grow W5 w5 := hR.of_drew
            have HGW := Lib.hid hGw
            have hcc := (HGW.out.block HF5.out).cell
            have hxc := (HGW.out.block HX5.out).cell
            have hfc := (HGW.out.block HY5.out).cell
            clear hR hGw
            simp only [depV]
            rintro _ rfl
            rintro _ rfl
            try go_simp
            exact ⟨Grow.refl _, HAM.out⟩
          · intro w5 hR
            have hGw : Grow W5 w5 := hR.of_drew
            have HGW := Lib.hid hGw
            have hcc := (HGW.out.block HF5.out).cell
            have hxc := (HGW.out.block HX5.out).cell
            have hfc := (HGW.out.block HY5.out).cell
            clear hR hGw
            simp only [depV]
            rintro _ rfl
            rintro _ rfl
            try go_simp
            exact ⟨Grow.refl _, HOM.out⟩
          · intro w5 hR
            have hGw : Grow W5 w5 := hR.of_drew
            have HGW := Lib.hid hGw
            have hcc := (HGW.out.block HF5.out).cell
            have hxc := (HGW.out.block HX5.out).cell
            have hfc := (HGW.out.block HY5.out).cell
            clear hR hGw
            simp only [depV]
            try go_simp
            all_goals first
              | (with_reducible exact Grow.refl _)
              | (with_reducible exact ⟨Grow.refl _, rfl⟩)
        · intro w5 hR
          have HG5 : Hid (Grow W5 w5) := Lib.hid hR.of_drew
          clear hR
          simp only [finVC, List.take_succ_cons, List.take_zero, List.drop_succ_cons, List.drop_zero]
          rintro _ rfl
          rintro _ rfl
          rintro _ rfl
          rintro _ rfl
          rintro _ rfl
          rintro _ rfl
          rintro _ rfl
          rintro _ rfl
          rintro _ rfl
          rintro _ rfl
          rintro _ rfl
          rintro _ rfl
          simp only [Act.put, List.setIfInBounds_toArray, List.set_cons_succ, List.set_cons_zero]
          rename World => w6
          have HG6 : Hid (Grow w4 w6) := Lib.hid (HG45.out.trans HG5.out)
          have HY6 := Lib.hid (HG5.out.block HY5.out)
          clear HF5 HX5 HY5 HG5 HG45
          have hcc := (HG6.out.block HF4.out).cell
          have hxc := (HG6.out.block HX4.out).cell
          have hfc := HY6.out.cell
          have hfz7 := HY6.out.frozen 0
          go_upto_region 7 with fail
          obtain ⟨w7, hw7⟩ : ∃ z, w6.setCell ⟨fb, 0, none⟩ (.int .i64 (tm : Nat)) = z := ⟨_, rfl⟩
          have HG7 : Hid (Grow w4 w7) := Lib.hid (by rw [← hw7]; exact HG6.out.setC (p := ⟨fb, 0, none⟩) (Nat.le_of_eq HFB.out) _)
          have HY7 : Hid (BlockIs w7 fb 62 #[.int .i64 (tm : Nat), .int .i64 (y.s : Nat), .int .i64 (y.y : Nat)]) := Lib.hid (by rw [← hw7]; exact HY6.out.near 0 _)
          rw [hw7]
          clear hw7 HY6 hfz7
          clear hcc hxc hfc
          have hcc := (HG7.out.block HF4.out).cell
          have hxc := (HG7.out.block HX4.out).cell
          have hfc := HY7.out.cell
          have hbm := HBM.out
          have hos := HOS.out
          have hfz8 := HY7.out.frozen 1
          go_upto_region 8 with fail
          obtain ⟨w8, hw8⟩ : ∃ z, w7.setCell ⟨fb, 1, none⟩ (.int .i64 (sm : Nat)) = z := ⟨_, rfl⟩
          have HG8 : Hid (Grow w4 w8) := Lib.hid (by rw [← hw8]; exact HG7.out.setC (p := ⟨fb, 1, none⟩) (Nat.le_of_eq HFB.out) _)
          have HY8 : Hid (BlockIs w8 fb 62 #[.int .i64 (tm : Nat), .int .i64 (sm : Nat), .int .i64 (y.y : Nat)]) := Lib.hid (by rw [← hw8]; exact HY7.out.near 1 _)
          rw [hw8]
          clear hw8 HY7 hfz8
          clear hcc hxc hfc
          have hcc := (HG8.out.block HF4.out).cell
          have hxc := (HG8.out.block HX4.out).cell
          have hfc := HY8.out.cell
          have hfz9 := HY8.out.frozen 2
          go_upto_region 9 with fail
          rw [HMX.out]
          obtain ⟨w9, hw9⟩ : ∃ z, w8.setCell ⟨fb, 2, none⟩ (.int .i64 (ym : Nat)) = z := ⟨_, rfl⟩
          have HG9 : Hid (Grow w4 w9) := Lib.hid (by rw [← hw9]; exact HG8.out.setC (p := ⟨fb, 2, none⟩) (Nat.le_of_eq HFB.out) _)
          have HY9 : Hid (BlockIs w9 fb 62 #[.int .i64 (tm : Nat), .int .i64 (sm : Nat), .int .i64 (ym : Nat)]) := Lib.hid (by rw [← hw9]; exact HY8.out.near 2 _)
          rw [hw9]
          clear hw9 HY8 hfz9
          clear hcc hxc hfc
          have hcc := (HG9.out.block HF4.out).cell
          have hxc := (HG9.out.block HX4.out).cell
          have hfc := HY9.out.cell
          have HE9 : Hid (Eased w9 lo ob ⟨some ⟨g, 0, none⟩, fc', na', nc'⟩ p.i) := Lib.hid (HE4.out.grow HG9.out)
          have hov := HE9.out.var
          rw [cells_i] at hov
          have hoc := hov.cell
          have hz0 := HFZ.out w9 HG9.out (k * 3)
          have hz1 := HFZ.out w9 HG9.out (k * 3 + 1)
          have hz2 := HFZ.out w9 HG9.out (k * 3 + 2)
          obtain ⟨hgl, cs9, hB9⟩ := own_block_is HE9.out.new.folk
          have hB10 := hB9.near (k * 3) (.int .i64 (tm : Nat))
          have hB11 := hB10.near (k * 3 + 1) (.int .i64 (sm : Nat))
          have hv0 := HG9.out.cell hc0
          have hv1 := HG9.out.cell hc1
          have hv2 := HG9.out.cell hc2
          have he1 : (w9.setCell ⟨g, k * 3, none⟩ (.int .i64 (tm : Nat))).cell? ⟨g, k * 3 + 1, none⟩ = some (.int .i64 (y.s : Nat)) := by rw [hB10.cell, Array.getElem?_setIfInBounds_ne (by omega), ← hB9.cell]; exact hv1
          have he2 : ((w9.setCell ⟨g, k * 3, none⟩ (.int .i64 (tm : Nat))).setCell ⟨g, k * 3 + 1, none⟩ (.int .i64 (sm : Nat))).cell? ⟨g, k * 3 + 2, none⟩ = some (.int .i64 (y.y : Nat)) := by rw [hB11.cell, Array.getElem?_setIfInBounds_ne (by omega), Array.getElem?_setIfInBounds_ne (by omega), ← hB9.cell]; exact hv2
          have hz3 := hB10.frozen (k * 3 + 1)
          have hz4 := hB11.frozen (k * 3 + 2)
          clear hB9 hB10 hB11 hc0 hc1 hc2 hgl
          go_wp2_with fail
          go_meet
          exact ⟨rfl, by
            have h1 := (HE9.out.folk (k := k) (by show k < (p.folk.map FolkN.i).length; rw [List.length_map]; exact hkl) tm sm ym).1
            rw [HFE.out, List.map_set, HPE.out]
            exact h1, Below.trans (Below.mono HG9.out HLW.out) (HE9.out.folk (k := k) (by show k < (p.folk.map FolkN.i).length; rw [List.length_map]; exact hkl) tm sm ym).2⟩


    case rest => as_aux_lemma =>
      obtain ⟨rfl, hE, hB⟩ := hcut
      rename World => w5
      have HB5 := Lib.hid hB
      have HF5 : Hid (BlockIs w5 w.heap.size 25 (cellsN ⟨fa, fc, na, nc⟩ p)) := Lib.hid (HF4.out.below hB (by omega))
      have HX5 := Lib.hid (HX4.out.below hB hwlo)
      have HG5 : Hid (Grow w w5) := Lib.hid (HG4.out.trans' (Below.mono hB (by omega)))
      have HJ : Hid (joinI p ⟨who, a, b, c, sl, la, nn, ii, mm, j⟩ = ⟨(folkE p ⟨who, a, b, c, sl, la, nn, ii, mm, j⟩).map FolkN.i ++ [j], (needsE p ⟨who, a, b, c, sl, la, nn, ii, mm, j⟩).map natsL, (p.ill - ii : Nat), (min 6 (p.most + mm) : Nat)⟩) := Lib.hid rfl
      have HDP : Hid ((easeD p ⟨who, a, b, c, sl, la, nn, ii, mm, j⟩).i = ⟨(folkE p ⟨who, a, b, c, sl, la, nn, ii, mm, j⟩).map FolkN.i, (needsE p ⟨who, a, b, c, sl, la, nn, ii, mm, j⟩).map natsL, (p.ill - ii : Nat), (min 6 (p.most + mm) : Nat)⟩) := Lib.hid rfl
      have HGE := Lib.hid (good_ease G ⟨who, a, b, c, sl, la, nn, ii, mm, j⟩)
      have HEE := Lib.hid (easier_ease G ⟨who, a, b, c, sl, la, nn, ii, mm, j⟩)
      have HJE := Lib.hid (fun hq => join_easier G ⟨who, a, b, c, sl, la, nn, ii, mm, j⟩ h4 hq)
      have HFL : Hid ((folkE p ⟨who, a, b, c, sl, la, nn, ii, mm, j⟩).length = p.folk.length) := Lib.hid (folkE_len _ _)
      have HNE : Hid (needsE p ⟨who, a, b, c, sl, la, nn, ii, mm, j⟩ = if EaseN.r ⟨who, a, b, c, sl, la, nn, ii, mm, j⟩ p then p.needs.set sl.toNat (rowE p ⟨who, a, b, c, sl, la, nn, ii, mm, j⟩) else p.needs) := Lib.hid rfl
      have HRW : Hid (rowE p ⟨who, a, b, c, sl, la, nn, ii, mm, j⟩ = (p.row sl.toNat).set la.toNat ((p.row sl.toNat).getD la.toNat 0 - nn)) := Lib.hid rfl
      obtain ⟨fl, hfl⟩ : ∃ z, folkE p ⟨who, a, b, c, sl, la, nn, ii, mm, j⟩ = z := ⟨_, rfl⟩
      rw [hfl] at hE HJ HDP HFL
      clear hfl
      obtain ⟨qr, hqr⟩ : ∃ z, EaseN.r ⟨who, a, b, c, sl, la, nn, ii, mm, j⟩ p = z := ⟨_, rfl⟩
      rw [hqr] at HNE
      have HQR : Hid ((((decide (0 ≤ sl) && decide (sl < (p.needs.length : Int))) && decide (0 ≤ la)) && decide (la < (p.tn : Int))) = qr) := Lib.hid hqr
      clear hqr
      have HE5 := Lib.hid hE
      have HTO2 := Lib.hid (fun (w0 : World) (hw : Grow w w0) => rTongues_any ⟨fa, fc, na, nc⟩ p G w0 (HPT.out w0 hw))
      have HVE : ∀ (wq : World) (l : List FolkN) (nl : List (List Nat)) (i m : Int), l.length = p.folk.length → nl.length = p.needs.length → Eased wq lo ob ⟨fa', fc', na', nc'⟩ ⟨l.map FolkN.i, nl.map natsL, i, m⟩ → BlockIs wq ob 25 #[.slice fa' p.folk.length fc', .slice na' p.needs.length nc', .int .i64 i, .int .i64 m] := fun wq l nl i m e1 e2 q => by
        have h1 := q.var
        rw [show cellsP ⟨fa', fc', na', nc'⟩ ⟨l.map FolkN.i, nl.map natsL, i, m⟩ = #[.slice fa' p.folk.length fc', .slice na' p.needs.length nc', .int .i64 i, .int .i64 m] from by simp [cellsP, e1, e2]] at h1
        exact h1
      have HVE := Lib.hid HVE
      have HV5 := Lib.hid (HVE.out w5 fl p.needs p.ill p.most HFL.out rfl HE5.out)
      clear hE hB
      go_upto_region 10 with fail
      go_cut [162] (fun v wx => v = .bool qr ∧ Grow w5 wx)
      case first => as_aux_lemma =>
        obtain ⟨q1, hq1⟩ : ∃ z, decide (0 ≤ sl) = z := ⟨_, rfl⟩
        obtain ⟨q2, hq2⟩ : ∃ z, decide (sl < (p.needs.length : Int)) = z := ⟨_, rfl⟩
        obtain ⟨q3, hq3⟩ : ∃ z, decide (0 ≤ la) = z := ⟨_, rfl⟩
        obtain ⟨q4, hq4⟩ : ∃ z, decide (la < (p.tn : Int)) = z := ⟨_, rfl⟩
        have HR0 := HQR.out
        rw [hq1, hq2, hq3, hq4] at HR0
        obtain ⟨e2, he2⟩ : ∃ z, (q1 && q2) = z := ⟨_, rfl⟩
        rw [he2] at HR0
        obtain ⟨e3, he3⟩ : ∃ z, (e2 && q3) = z := ⟨_, rfl⟩
        rw [he3] at HR0
        have HQ1 := Lib.hid hq1
        have HQ2 := Lib.hid hq2
        have HQ3 := Lib.hid hq3
        have HQ4 := Lib.hid hq4
        have HE2 := Lib.hid he2
        have HE3 := Lib.hid he3
        have HR := Lib.hid HR0
        clear hq1 hq2 hq3 hq4 he2 he3 HR0
        refine wp_region_lit 23 [[], [(0, 140)], [(1, 141)], [(2, 142)], [(3, 143)], [(3, 143), (4, 144)], [(3, 143)], [(3, 143), (6, 146)], [(3, 143), (7, 147)], [(3, 143), (5, 145), (8, 148)], [(3, 143), (9, 149)], [(10, 150)], [(11, 151)], [(11, 151), (12, 152)], [(11, 151), (13, 153)], [(11, 151), (14, 154)], [(15, 155)], [(16, 156)], [(16, 156), (17, 157)], [(16, 156)], [(16, 156), (19, 159)], [(16, 156), (18, 158), (20, 160)], [(16, 156), (21, 161)]] Grow (fun qi v w' => match qi with
            | 0 => v = .pointer (some ⟨w.heap.size + 1, 4, none⟩)
            | 1 => v = .int .i64 sl
            | 2 => v = .bool q1
            | 3 => v = .bool q1
            | 4 => v = bif q1 then .pointer (some ⟨w.heap.size + 1, 4, none⟩) else undef
            | 5 => v = bif q1 then .int .i64 sl else undef
            | 6 => v = bif q1 then .pointer (some ⟨ob, 1, none⟩) else undef
            | 7 => v = bif q1 then (.slice na' p.needs.length nc') else undef
            | 8 => v = bif q1 then .int .i64 (p.needs.length : Nat) else undef
            | 9 => v = bif q1 then .bool q2 else undef
            | 10 => v = .bool e2
            | 11 => v = .bool e2
            | 12 => v = bif e2 then .pointer (some ⟨w.heap.size + 1, 5, none⟩) else undef
            | 13 => v = bif e2 then .int .i64 la else undef
            | 14 => v = bif e2 then .bool q3 else undef
            | 15 => v = .bool e3
            | 16 => v = .bool e3
            | 17 => v = bif e3 then .pointer (some ⟨w.heap.size + 1, 5, none⟩) else undef
            | 18 => v = bif e3 then .int .i64 la else undef
            | 19 => v = bif e3 then poolN ⟨fa, fc, na, nc⟩ p else undef
            | 20 => v = bif e3 then .int .i64 (p.tn : Nat) else undef
            | 21 => v = bif e3 then .bool q4 else undef
            | 22 => v = .bool qr
            | _ => False) (by kernel_rfl) (by kernel_rfl) (fun _ _ _ => Grow.trans) Grow.refl ?_ ?_ ?_
        · intro i v y y' h k
          match i, h with
          | 0, h | 1, h | 2, h | 3, h | 4, h | 5, h | 6, h | 7, h | 8, h | 9, h | 10, h | 11, h | 12, h | 13, h | 14, h | 15, h | 16, h | 17, h | 18, h | 19, h | 20, h | 21, h | 22, h => exact h
        · simp only [StepsLit, List.take_succ_cons, List.take_zero]
          refine ⟨?_, ?_, ?_, ?_, ?_, ?_, ?_, ?_, ?_, ?_, ?_, ?_, ?_, ?_, ?_, ?_, ?_, ?_, ?_, ?_, ?_, ?_, ?_, trivial⟩
          · intro w5b hR
            have hGw : Grow w5 w5b := hR.of_drew
            have HGW := Lib.hid hGw
            have hcc := (HGW.out.block HF5.out).cell
            have hxc := (HGW.out.block HX5.out).cell
            have hoc := (HGW.out.block HV5.out).cell
            clear hR hGw
            simp only [depV]
            try go_simp
            all_goals first
              | (with_reducible exact Grow.refl _)
              | (with_reducible exact ⟨Grow.refl _, rfl⟩)
          · intro w5b hR
            have hGw : Grow w5 w5b := hR.of_drew
            have HGW := Lib.hid hGw
            have hcc := (HGW.out.block HF5.out).cell
            have hxc := (HGW.out.block HX5.out).cell
            have hoc := (HGW.out.block HV5.out).cell
            clear hR hGw
            simp only [depV]
            rintro _ rfl
            try go_simp
            all_goals first
              | (with_reducible exact Grow.refl _)
              | (with_reducible exact ⟨Grow.refl _, rfl⟩)
          · intro w5b hR
            have hGw : Grow w5 w5b := hR.of_drew
            have HGW := Lib.hid hGw
            have hcc := (HGW.out.block HF5.out).cell
            have hxc := (HGW.out.block HX5.out).cell
            have hoc := (HGW.out.block HV5.out).cell
            clear hR hGw
            simp only [depV]
            rintro _ rfl
            try go_simp
            all_goals first
              | (with_reducible exact Grow.refl _)
              | (with_reducible exact ⟨Grow.refl _, rfl⟩)
              | (refine ⟨Grow.refl _, ?_⟩; have h := HQ1.out; simpa using h)
          · intro w5b hR
            have hGw : Grow w5 w5b := hR.of_drew
            have HGW := Lib.hid hGw
            have hcc := (HGW.out.block HF5.out).cell
            have hxc := (HGW.out.block HX5.out).cell
            have hoc := (HGW.out.block HV5.out).cell
            clear hR hGw
            simp only [depV]
            rintro _ rfl
            try go_simp
            all_goals first
              | (with_reducible exact Grow.refl _)
              | (with_reducible exact ⟨Grow.refl _, rfl⟩)
          · intro w5b hR
            have hGw : Grow w5 w5b := hR.of_drew
            have HGW := Lib.hid hGw
            have hcc := (HGW.out.block HF5.out).cell
            have hxc := (HGW.out.block HX5.out).cell
            have hoc := (HGW.out.block HV5.out).cell
            clear hR hGw
            simp only [depV]
            rintro _ rfl
            cases q1 <;> (simp only [cond_true, cond_false]; try go_simp)
            all_goals first
              | (with_reducible exact Grow.refl _)
              | (with_reducible exact ⟨Grow.refl _, rfl⟩)
          · intro w5b hR
            have hGw : Grow w5 w5b := hR.of_drew
            have HGW := Lib.hid hGw
            have hcc := (HGW.out.block HF5.out).cell
            have hxc := (HGW.out.block HX5.out).cell
            have hoc := (HGW.out.block HV5.out).cell
            clear hR hGw
            simp only [depV]
            rintro _ rfl
            rintro _ rfl
            cases q1 <;> (simp only [cond_true, cond_false]; try go_simp)
            all_goals first
              | (with_reducible exact Grow.refl _)
              | (with_reducible exact ⟨Grow.refl _, rfl⟩)
          · intro w5b hR
            have hGw : Grow w5 w5b := hR.of_drew
            have HGW := Lib.hid hGw
            have hcc := (HGW.out.block HF5.out).cell
            have hxc := (HGW.out.block HX5.out).cell
            have hoc := (HGW.out.block HV5.out).cell
            clear hR hGw
            simp only [depV]
            rintro _ rfl
            cases q1 <;> (simp only [cond_true, cond_false]; try go_simp)
            all_goals first
              | (with_reducible exact Grow.refl _)
              | (with_reducible exact ⟨Grow.refl _, rfl⟩)
          · intro w5b hR
            have hGw : Grow w5 w5b := hR.of_drew
            have HGW := Lib.hid hGw
            have hcc := (HGW.out.block HF5.out).cell
            have hxc := (HGW.out.block HX5.out).cell
            have hoc := (HGW.out.block HV5.out).cell
            clear hR hGw
            simp only [depV]
            rintro _ rfl
            rintro _ rfl
            cases q1 <;> (simp only [cond_true, cond_false]; try go_simp)
            all_goals first
              | (with_reducible exact Grow.refl _)
              | (with_reducible exact ⟨Grow.refl _, rfl⟩)
          · intro w5b hR
            have hGw : Grow w5 w5b := hR.of_drew
            have HGW := Lib.hid hGw
            have hcc := (HGW.out.block HF5.out).cell
            have hxc := (HGW.out.block HX5.out).cell
            have hoc := (HGW.out.block HV5.out).cell
            clear hR hGw
            simp only [depV]
            rintro _ rfl
            rintro _ rfl
            cases q1 <;> (simp only [cond_true, cond_false]; try go_simp)
            all_goals first
              | (with_reducible exact Grow.refl _)
              | (with_reducible exact ⟨Grow.refl _, rfl⟩)
          · intro w5b hR
            have hGw : Grow w5 w5b := hR.of_drew
            have HGW := Lib.hid hGw
            have hcc := (HGW.out.block HF5.out).cell
            have hxc := (HGW.out.block HX5.out).cell
            have hoc := (HGW.out.block HV5.out).cell
            clear hR hGw
            simp only [depV]
            rintro _ rfl
            rintro _ rfl
            rintro _ rfl
            cases q1 <;> (simp only [cond_true, cond_false]; try go_simp)
            all_goals first
              | (with_reducible exact Grow.refl _)
              | (with_reducible exact ⟨Grow.refl _, rfl⟩)
              | (refine ⟨Grow.refl _, ?_⟩; have h := HQ2.out; simpa using h)
          · intro w5b hR
            have hGw : Grow w5 w5b := hR.of_drew
            have HGW := Lib.hid hGw
            have hcc := (HGW.out.block HF5.out).cell
            have hxc := (HGW.out.block HX5.out).cell
            have hoc := (HGW.out.block HV5.out).cell
            clear hR hGw
            simp only [depV]
            rintro _ rfl
            rintro _ rfl
            cases q1 <;> (simp only [cond_true, cond_false]; try go_simp)
            all_goals first
              | (with_reducible exact Grow.refl _)
              | (with_reducible exact ⟨Grow.refl _, rfl⟩)
              | (refine ⟨Grow.refl _, ?_⟩; have h := HE2.out; simpa using h)
          · intro w5b hR
            have hGw : Grow w5 w5b := hR.of_drew
            have HGW := Lib.hid hGw
            have hcc := (HGW.out.block HF5.out).cell
            have hxc := (HGW.out.block HX5.out).cell
            have hoc := (HGW.out.block HV5.out).cell
            clear hR hGw
            simp only [depV]
            rintro _ rfl
            try go_simp
            all_goals first
              | (with_reducible exact Grow.refl _)
              | (with_reducible exact ⟨Grow.refl _, rfl⟩)
          · intro w5b hR
            have hGw : Grow w5 w5b := hR.of_drew
            have HGW := Lib.hid hGw
            have hcc := (HGW.out.block HF5.out).cell
            have hxc := (HGW.out.block HX5.out).cell
            have hoc := (HGW.out.block HV5.out).cell
            clear hR hGw
            simp only [depV]
            rintro _ rfl
            cases e2 <;> (simp only [cond_true, cond_false]; try go_simp)
            all_goals first
              | (with_reducible exact Grow.refl _)
              | (with_reducible exact ⟨Grow.refl _, rfl⟩)
          · intro w5b hR
            have hGw : Grow w5 w5b := hR.of_drew
            have HGW := Lib.hid hGw
            have hcc := (HGW.out.block HF5.out).cell
            have hxc := (HGW.out.block HX5.out).cell
            have hoc := (HGW.out.block HV5.out).cell
            clear hR hGw
            simp only [depV]
            rintro _ rfl
            rintro _ rfl
            cases e2 <;> (simp only [cond_true, cond_false]; try go_simp)
            all_goals first
              | (with_reducible exact Grow.refl _)
              | (with_reducible exact ⟨Grow.refl _, rfl⟩)
          · intro w5b hR
            have hGw : Grow w5 w5b := hR.of_drew
            have HGW := Lib.hid hGw
            have hcc := (HGW.out.block HF5.out).cell
            have hxc := (HGW.out.block HX5.out).cell
            have hoc := (HGW.out.block HV5.out).cell
            clear hR hGw
            simp only [depV]
            rintro _ rfl
            rintro _ rfl
            cases e2 <;> (simp only [cond_true, cond_false]; try go_simp)
            all_goals first
              | (with_reducible exact Grow.refl _)
              | (with_reducible exact ⟨Grow.refl _, rfl⟩)
              | (refine ⟨Grow.refl _, ?_⟩; have h := HQ3.out; simpa using h)
          · intro w5b hR
            have hGw : Grow w5 w5b := hR.of_drew
            have HGW := Lib.hid hGw
            have hcc := (HGW.out.block HF5.out).cell
            have hxc := (HGW.out.block HX5.out).cell
            have hoc := (HGW.out.block HV5.out).cell
            clear hR hGw
            simp only [depV]
            rintro _ rfl
            rintro _ rfl
            cases e2 <;> (simp only [cond_true, cond_false]; try go_simp)
            all_goals first
              | (with_reducible exact Grow.refl _)
              | (with_reducible exact ⟨Grow.refl _, rfl⟩)
              | (refine ⟨Grow.refl _, ?_⟩; have h := HE3.out; simpa using h)
          · intro w5b hR
            have hGw : Grow w5 w5b := hR.of_drew
            have HGW := Lib.hid hGw
            have hcc := (HGW.out.block HF5.out).cell
            have hxc := (HGW.out.block HX5.out).cell
            have hoc := (HGW.out.block HV5.out).cell
            clear hR hGw
            simp only [depV]
            rintro _ rfl
            try go_simp
            all_goals first
              | (with_reducible exact Grow.refl _)
              | (with_reducible exact ⟨Grow.refl _, rfl⟩)
          · intro w5b hR
            have hGw : Grow w5 w5b := hR.of_drew
            have HGW := Lib.hid hGw
            have hcc := (HGW.out.block HF5.out).cell
            have hxc := (HGW.out.block HX5.out).cell
            have hoc := (HGW.out.block HV5.out).cell
            clear hR hGw
            simp only [depV]
            rintro _ rfl
            cases e3 <;> (simp only [cond_true, cond_false]; try go_simp)
            all_goals first
              | (with_reducible exact Grow.refl _)
              | (with_reducible exact ⟨Grow.refl _, rfl⟩)
          · intro w5b hR
            have hGw : Grow w5 w5b := hR.of_drew
            have HGW := Lib.hid hGw
            have hcc := (HGW.out.block HF5.out).cell
            have hxc := (HGW.out.block HX5.out).cell
            have hoc := (HGW.out.block HV5.out).cell
            clear hR hGw
            simp only [depV]
            rintro _ rfl
            rintro _ rfl
            cases e3 <;> (simp only [cond_true, cond_false]; try go_simp)
            all_goals first
              | (with_reducible exact Grow.refl _)
              | (with_reducible exact ⟨Grow.refl _, rfl⟩)
          · intro w5b hR
            have hGw : Grow w5 w5b := hR.of_drew
            have HGW := Lib.hid hGw
            have hcc := (HGW.out.block HF5.out).cell
            have hxc := (HGW.out.block HX5.out).cell
            have hoc := (HGW.out.block HV5.out).cell
            clear hR hGw
            simp only [depV]
            rintro _ rfl
            cases e3 <;> (simp only [cond_true, cond_false]; try go_simp)
            all_goals first
              | (with_reducible exact Grow.refl _)
              | (with_reducible exact ⟨Grow.refl _, rfl⟩)
          · intro w5b hR
            have hGw : Grow w5 w5b := hR.of_drew
            have HGW := Lib.hid hGw
            have hcc := (HGW.out.block HF5.out).cell
            have hxc := (HGW.out.block HX5.out).cell
            have hoc := (HGW.out.block HV5.out).cell
            clear hR hGw
            simp only [depV]
            rintro _ rfl
            rintro _ rfl
            cases e3 <;> (simp only [cond_true, cond_false]; try go_simp)
            all_goals first
              | (with_reducible exact Grow.refl _)
              | (with_reducible exact ⟨Grow.refl _, rfl⟩)
              | (refine (HTO2.out w5b (HG5.out.trans HGW.out)).mono ?_; rintro e w6 ⟨rfl, hb6⟩; exact ⟨hb6, rfl⟩)
          · intro w5b hR
            have hGw : Grow w5 w5b := hR.of_drew
            have HGW := Lib.hid hGw
            have hcc := (HGW.out.block HF5.out).cell
            have hxc := (HGW.out.block HX5.out).cell
            have hoc := (HGW.out.block HV5.out).cell
            clear hR hGw
            simp only [depV]
            rintro _ rfl
            rintro _ rfl
            rintro _ rfl
            cases e3 <;> (simp only [cond_true, cond_false]; try go_simp)
            all_goals first
              | (with_reducible exact Grow.refl _)
              | (with_reducible exact ⟨Grow.refl _, rfl⟩)
              | (refine ⟨Grow.refl _, ?_⟩; have h := HQ4.out; simpa using h)
          · intro w5b hR
            have hGw : Grow w5 w5b := hR.of_drew
            have HGW := Lib.hid hGw
            have hcc := (HGW.out.block HF5.out).cell
            have hxc := (HGW.out.block HX5.out).cell
            have hoc := (HGW.out.block HV5.out).cell
            clear hR hGw
            simp only [depV]
            rintro _ rfl
            rintro _ rfl
            cases e3 <;> (simp only [cond_true, cond_false]; try go_simp)
            all_goals first
              | (with_reducible exact Grow.refl _)
              | (with_reducible exact ⟨Grow.refl _, rfl⟩)
              | (refine ⟨Grow.refl _, ?_⟩; have h := HR.out; simpa using h)
        · intro w5b hR
          have HG5b : Hid (Grow w5 w5b) := Lib.hid hR.of_drew
          clear hR
          simp only [finVC, List.take_succ_cons, List.take_zero, List.drop_succ_cons, List.drop_zero]
          rintro _ rfl
          rintro _ rfl
          rintro _ rfl
          rintro _ rfl
          rintro _ rfl
          rintro _ rfl
          rintro _ rfl
          rintro _ rfl
          rintro _ rfl
          rintro _ rfl
          rintro _ rfl
          rintro _ rfl
          rintro _ rfl
          rintro _ rfl
          rintro _ rfl
          rintro _ rfl
          rintro _ rfl
          rintro _ rfl
          rintro _ rfl
          rintro _ rfl
          rintro _ rfl
          rintro _ rfl
          rintro _ rfl
          simp only [Act.put, List.setIfInBounds_toArray, List.set_cons_succ, List.set_cons_zero]
          rename World => w6
          go_wp2_with fail
          go_meet
          exact ⟨rfl, HG5b.out⟩
      case rest => as_aux_lemma =>
        obtain ⟨rfl, hgc⟩ := hcut
        rename World => w6
        have HG56 : Hid (Grow w5 w6) := Lib.hid hgc
        have HE6 := Lib.hid (HE5.out.grow hgc)
        have HV6 := Lib.hid (HVE.out w6 fl p.needs p.ill p.most HFL.out rfl HE6.out)
        have HX6 := Lib.hid ((show Grow w5 w6 from hgc).block HX5.out)
        have HF6 := Lib.hid ((show Grow w5 w6 from hgc).block HF5.out)
        have HB6 : Hid (Below lo w4 w6) := Lib.hid (Below.trans HB5.out (Below.mono hgc (Nat.le_trans HLW.out HB5.out.size)))
        have HG6 : Hid (Grow w w6) := Lib.hid (HG5.out.trans hgc)
        clear hgc HE5 HV5 HX5 HF5 HB5 HG56 HG5
        go_upto_if 162 with fail
        go_cut [5] (fun v wx => v = .pointer (some ⟨ob, 0, none⟩) ∧ Eased wx lo ob ⟨fa', fc', na', nc'⟩ ⟨fl.map FolkN.i, (needsE p ⟨who, a, b, c, sl, la, nn, ii, mm, j⟩).map natsL, p.ill, p.most⟩ ∧ Below lo w6 wx)
        case first => as_aux_lemma =>
          cases qr with
          | false =>
            have hne := HNE.out
            rw [if_neg Bool.false_ne_true] at hne
            go_wp2_with fail
            go_meet
            exact ⟨rfl, by rw [hne]; exact HE6.out, Below.refl _ _⟩
          | true =>
            have hq := HQR.out
            rw [Bool.and_eq_true, Bool.and_eq_true, Bool.and_eq_true, decide_eq_true_iff, decide_eq_true_iff, decide_eq_true_iff, decide_eq_true_iff] at hq
            obtain ⟨⟨⟨s1, s2⟩, s3⟩, s4⟩ := hq
            obtain ⟨s, rfl⟩ : ∃ k : Nat, sl = (k : Int) := ⟨sl.toNat, by omega⟩
            obtain ⟨k, rfl⟩ : ∃ k : Nat, la = (k : Int) := ⟨la.toNat, by omega⟩
            have hs : s < p.needs.length := by omega
            obtain ⟨row, hrow⟩ : ∃ r, p.needs[s]? = some r := ⟨_, List.getElem?_eq_getElem hs⟩
            obtain ⟨hrl, hrb⟩ := G.rows row (List.mem_of_getElem? hrow)
            obtain ⟨y, hy⟩ : ∃ y, row[k]? = some y := ⟨_, List.getElem?_eq_getElem (by omega)⟩
            have hy8 : y ≤ 8 := hrb y (List.mem_of_getElem? hy)
            have hrd : p.row s = row := by unfold Pool.row; rw [List.getD_eq_getElem?_getD, hrow]; rfl
            have hyd : row.getD k 0 = y := by rw [List.getD_eq_getElem?_getD, hy]; rfl
            have hne := HNE.out
            rw [if_pos rfl, Int.toNat_natCast] at hne
            have hrw := HRW.out
            rw [Int.toNat_natCast, Int.toNat_natCast, hrd, hyd] at hrw
            obtain ⟨g, rb, rc, hna, HN⟩ := HE6.out.needG (s := s) (k := k) (xs := natsL row) (x := (y : Nat)) (by show (p.needs.map natsL)[s]? = _; rw [List.getElem?_map, hrow]; rfl) (natsL_at hy)
            have hna : na' = some ⟨g, 0, none⟩ := hna
            subst hna
            obtain ⟨ym, hym⟩ : ∃ z, y - nn = z := ⟨_, rfl⟩
            have HNEW : Hid ((needsE p ⟨who, a, b, c, (s : Nat), (k : Nat), nn, ii, mm, j⟩).map natsL = (p.needs.map natsL).set s ((natsL row).set k ((ym : Nat) : Int))) := Lib.hid (by
              rw [hne, hrw, hym, List.map_set]
              rw [show natsL (row.set k ym) = (natsL row).set k ((ym : Nat) : Int) from List.map_set ..])
            have HMX : Hid ((if nn < y then (y : Int) - (nn : Int) else 0) = (ym : Int)) := Lib.hid (by split <;> omega)
            have HSB : Hid (IntKind.i64.wrap ((y : Int) - (nn : Int)) = (y : Int) - (nn : Int)) := Lib.hid (IntWalk.i64_in _ (by omega))
            rw [natsL_length, hrl] at HN
            have HN := Lib.hid HN
            have hb1 : (s : Int) < (p.needs.length : Int) := s2
            have hb2 : (k : Int) < (p.tn : Int) := s4
            clear hym hrow hy hrd hyd hne hrw hrb hrl
            go_upto_region 11 with fail
            refine wp_region_lit 23 [[], [(0, 163)], [], [(2, 165)], [(1, 164), (3, 166)], [(4, 167)], [], [(6, 169)], [], [(8, 171)], [], [(10, 173)], [(9, 172), (11, 174)], [(12, 175)], [], [(14, 177)], [(13, 176), (15, 178)], [(16, 179)], [], [(18, 181)], [(17, 180), (19, 182)], [(20, 183)], [(5, 168), (7, 170)]] Grow (fun qi v w' => match qi with
                | 0 => v = .pointer (some ⟨ob, 1, none⟩)
                | 1 => v = (.slice (some ⟨g, 0, none⟩) p.needs.length nc')
                | 2 => v = .pointer (some ⟨w.heap.size + 1, 4, none⟩)
                | 3 => v = .int .i64 (s : Nat)
                | 4 => v = .pointer (some ⟨g, s, none⟩)
                | 5 => v = .slice (some ⟨rb, 0, none⟩) p.tn rc
                | 6 => v = .pointer (some ⟨w.heap.size + 1, 5, none⟩)
                | 7 => v = .int .i64 (k : Nat)
                | 8 => v = .pointer (some ⟨ob, 1, none⟩)
                | 9 => v = (.slice (some ⟨g, 0, none⟩) p.needs.length nc')
                | 10 => v = .pointer (some ⟨w.heap.size + 1, 4, none⟩)
                | 11 => v = .int .i64 (s : Nat)
                | 12 => v = .pointer (some ⟨g, s, none⟩)
                | 13 => v = .slice (some ⟨rb, 0, none⟩) p.tn rc
                | 14 => v = .pointer (some ⟨w.heap.size + 1, 5, none⟩)
                | 15 => v = .int .i64 (k : Nat)
                | 16 => v = .pointer (some ⟨rb, k, none⟩)
                | 17 => v = .int .i64 (y : Nat)
                | 18 => v = .pointer (some ⟨w.heap.size + 1, 6, none⟩)
                | 19 => v = .int .i64 (nn : Nat)
                | 20 => v = .int .i64 ((y : Int) - (nn : Int))
                | 21 => v = .int .i64 (ym : Nat)
                | 22 => v = .pointer (some ⟨rb, k, none⟩)
                | _ => False) (by kernel_rfl) (by kernel_rfl) (fun _ _ _ => Grow.trans) Grow.refl ?_ ?_ ?_
            · intro i v y y' h k
              match i, h with
              | 0, h | 1, h | 2, h | 3, h | 4, h | 5, h | 6, h | 7, h | 8, h | 9, h | 10, h | 11, h | 12, h | 13, h | 14, h | 15, h | 16, h | 17, h | 18, h | 19, h | 20, h | 21, h | 22, h => exact h
            · simp only [StepsLit, List.take_succ_cons, List.take_zero]
              refine ⟨?_, ?_, ?_, ?_, ?_, ?_, ?_, ?_, ?_, ?_, ?_, ?_, ?_, ?_, ?_, ?_, ?_, ?_, ?_, ?_, ?_, ?_, ?_, trivial⟩
              · intro w5b hR
                have hGw : Grow w6 w5b := hR.of_drew
                have HGW := Lib.hid hGw
                have hxc := (HGW.out.block HX6.out).cell
                have hoc := (HGW.out.block HV6.out).cell
                obtain ⟨hc1, hc2, _, _⟩ := HN.out w5b HGW.out
                clear hR hGw
                simp only [depV]
                try go_simp
                all_goals first
                  | (with_reducible exact Grow.refl _)
                  | (with_reducible exact ⟨Grow.refl _, rfl⟩)
              · intro w5b hR
                have hGw : Grow w6 w5b := hR.of_drew
                have HGW := Lib.hid hGw
                have hxc := (HGW.out.block HX6.out).cell
                have hoc := (HGW.out.block HV6.out).cell
                obtain ⟨hc1, hc2, _, _⟩ := HN.out w5b HGW.out
                clear hR hGw
                simp only [depV]
                rintro _ rfl
                try go_simp
                all_goals first
                  | (with_reducible exact Grow.refl _)
                  | (with_reducible exact ⟨Grow.refl _, rfl⟩)
              · intro w5b hR
                have hGw : Grow w6 w5b := hR.of_drew
                have HGW := Lib.hid hGw
                have hxc := (HGW.out.block HX6.out).cell
                have hoc := (HGW.out.block HV6.out).cell
                obtain ⟨hc1, hc2, _, _⟩ := HN.out w5b HGW.out
                clear hR hGw
                simp only [depV]
                try go_simp
                all_goals first
                  | (with_reducible exact Grow.refl _)
                  | (with_reducible exact ⟨Grow.refl _, rfl⟩)
              · intro w5b hR
                have hGw : Grow w6 w5b := hR.of_drew
                have HGW := Lib.hid hGw
                have hxc := (HGW.out.block HX6.out).cell
                have hoc := (HGW.out.block HV6.out).cell
                obtain ⟨hc1, hc2, _, _⟩ := HN.out w5b HGW.out
                clear hR hGw
                simp only [depV]
                rintro _ rfl
                try go_simp
                all_goals first
                  | (with_reducible exact Grow.refl _)
                  | (with_reducible exact ⟨Grow.refl _, rfl⟩)
              · intro w5b hR
                have hGw : Grow w6 w5b := hR.of_drew
                have HGW := Lib.hid hGw
                have hxc := (HGW.out.block HX6.out).cell
                have hoc := (HGW.out.block HV6.out).cell
                obtain ⟨hc1, hc2, _, _⟩ := HN.out w5b HGW.out
                clear hR hGw
                simp only [depV]
                rintro _ rfl
                rintro _ rfl
                try go_simp
                all_goals first
                  | (with_reducible exact Grow.refl _)
                  | (with_reducible exact ⟨Grow.refl _, rfl⟩)
              · intro w5b hR
                have hGw : Grow w6 w5b := hR.of_drew
                have HGW := Lib.hid hGw
                have hxc := (HGW.out.block HX6.out).cell
                have hoc := (HGW.out.block HV6.out).cell
                obtain ⟨hc1, hc2, _, _⟩ := HN.out w5b HGW.out
                clear hR hGw
                simp only [depV]
                rintro _ rfl
                try go_simp
                all_goals first
                  | (with_reducible exact Grow.refl _)
                  | (with_reducible exact ⟨Grow.refl _, rfl⟩)
              · intro w5b hR
                have hGw : Grow w6 w5b := hR.of_drew
                have HGW := Lib.hid hGw
                have hxc := (HGW.out.block HX6.out).cell
                have hoc := (HGW.out.block HV6.out).cell
                obtain ⟨hc1, hc2, _, _⟩ := HN.out w5b HGW.out
                clear hR hGw
                simp only [depV]
                try go_simp
                all_goals first
                  | (with_reducible exact Grow.refl _)
                  | (with_reducible exact ⟨Grow.refl _, rfl⟩)
              · intro w5b hR
                have hGw : Grow w6 w5b := hR.of_drew
                have HGW := Lib.hid hGw
                have hxc := (HGW.out.block HX6.out).cell
                have hoc := (HGW.out.block HV6.out).cell
                obtain ⟨hc1, hc2, _, _⟩ := HN.out w5b HGW.out
                clear hR hGw
                simp only [depV]
                rintro _ rfl
                try go_simp
                all_goals first
                  | (with_reducible exact Grow.refl _)
                  | (with_reducible exact ⟨Grow.refl _, rfl⟩)
              · intro w5b hR
                have hGw : Grow w6 w5b := hR.of_drew
                have HGW := Lib.hid hGw
                have hxc := (HGW.out.block HX6.out).cell
                have hoc := (HGW.out.block HV6.out).cell
                obtain ⟨hc1, hc2, _, _⟩ := HN.out w5b HGW.out
                clear hR hGw
                simp only [depV]
                try go_simp
                all_goals first
                  | (with_reducible exact Grow.refl _)
                  | (with_reducible exact ⟨Grow.refl _, rfl⟩)
              · intro w5b hR
                have hGw : Grow w6 w5b := hR.of_drew
                have HGW := Lib.hid hGw
                have hxc := (HGW.out.block HX6.out).cell
                have hoc := (HGW.out.block HV6.out).cell
                obtain ⟨hc1, hc2, _, _⟩ := HN.out w5b HGW.out
                clear hR hGw
                simp only [depV]
                rintro _ rfl
                try go_simp
                all_goals first
                  | (with_reducible exact Grow.refl _)
                  | (with_reducible exact ⟨Grow.refl _, rfl⟩)
              · intro w5b hR
                have hGw : Grow w6 w5b := hR.of_drew
                have HGW := Lib.hid hGw
                have hxc := (HGW.out.block HX6.out).cell
                have hoc := (HGW.out.block HV6.out).cell
                obtain ⟨hc1, hc2, _, _⟩ := HN.out w5b HGW.out
                clear hR hGw
                simp only [depV]
                try go_simp
                all_goals first
                  | (with_reducible exact Grow.refl _)
                  | (with_reducible exact ⟨Grow.refl _, rfl⟩)
              · intro w5b hR
                have hGw : Grow w6 w5b := hR.of_drew
                have HGW := Lib.hid hGw
                have hxc := (HGW.out.block HX6.out).cell
                have hoc := (HGW.out.block HV6.out).cell
                obtain ⟨hc1, hc2, _, _⟩ := HN.out w5b HGW.out
                clear hR hGw
                simp only [depV]
                rintro _ rfl
                try go_simp
                all_goals first
                  | (with_reducible exact Grow.refl _)
                  | (with_reducible exact ⟨Grow.refl _, rfl⟩)
              · intro w5b hR
                have hGw : Grow w6 w5b := hR.of_drew
                have HGW := Lib.hid hGw
                have hxc := (HGW.out.block HX6.out).cell
                have hoc := (HGW.out.block HV6.out).cell
                obtain ⟨hc1, hc2, _, _⟩ := HN.out w5b HGW.out
                clear hR hGw
                simp only [depV]
                rintro _ rfl
                rintro _ rfl
                try go_simp
                all_goals first
                  | (with_reducible exact Grow.refl _)
                  | (with_reducible exact ⟨Grow.refl _, rfl⟩)
              · intro w5b hR
                have hGw : Grow w6 w5b := hR.of_drew
                have HGW := Lib.hid hGw
                have hxc := (HGW.out.block HX6.out).cell
                have hoc := (HGW.out.block HV6.out).cell
                obtain ⟨hc1, hc2, _, _⟩ := HN.out w5b HGW.out
                clear hR hGw
                simp only [depV]
                rintro _ rfl
                try go_simp
                all_goals first
                  | (with_reducible exact Grow.refl _)
                  | (with_reducible exact ⟨Grow.refl _, rfl⟩)
              · intro w5b hR
                have hGw : Grow w6 w5b := hR.of_drew
                have HGW := Lib.hid hGw
                have hxc := (HGW.out.block HX6.out).cell
                have hoc := (HGW.out.block HV6.out).cell
                obtain ⟨hc1, hc2, _, _⟩ := HN.out w5b HGW.out
                clear hR hGw
                simp only [depV]
                try go_simp
                all_goals first
                  | (with_reducible exact Grow.refl _)
                  | (with_reducible exact ⟨Grow.refl _, rfl⟩)
              · intro w5b hR
                have hGw : Grow w6 w5b := hR.of_drew
                have HGW := Lib.hid hGw
                have hxc := (HGW.out.block HX6.out).cell
                have hoc := (HGW.out.block HV6.out).cell
                obtain ⟨hc1, hc2, _, _⟩ := HN.out w5b HGW.out
                clear hR hGw
                simp only [depV]
                rintro _ rfl
                try go_simp
                all_goals first
                  | (with_reducible exact Grow.refl _)
                  | (with_reducible exact ⟨Grow.refl _, rfl⟩)
              · intro w5b hR
                have hGw : Grow w6 w5b := hR.of_drew
                have HGW := Lib.hid hGw
                have hxc := (HGW.out.block HX6.out).cell
                have hoc := (HGW.out.block HV6.out).cell
                obtain ⟨hc1, hc2, _, _⟩ := HN.out w5b HGW.out
                clear hR hGw
                simp only [depV]
                rintro _ rfl
                rintro _ rfl
                try go_simp
                all_goals first
                  | (with_reducible exact Grow.refl _)
                  | (with_reducible exact ⟨Grow.refl _, rfl⟩)
              · intro w5b hR
                have hGw : Grow w6 w5b := hR.of_drew
                have HGW := Lib.hid hGw
                have hxc := (HGW.out.block HX6.out).cell
                have hoc := (HGW.out.block HV6.out).cell
                obtain ⟨hc1, hc2, _, _⟩ := HN.out w5b HGW.out
                clear hR hGw
                simp only [depV]
                rintro _ rfl
                try go_simp
                all_goals first
                  | (with_reducible exact Grow.refl _)
                  | (with_reducible exact ⟨Grow.refl _, rfl⟩)
              · intro w5b hR
                have hGw : Grow w6 w5b := hR.of_drew
                have HGW := Lib.hid hGw
                have hxc := (HGW.out.block HX6.out).cell
                have hoc := (HGW.out.block HV6.out).cell
                obtain ⟨hc1, hc2, _, _⟩ := HN.out w5b HGW.out
                clear hR hGw
                simp only [depV]
                try go_simp
                all_goals first
                  | (with_reducible exact Grow.refl _)
                  | (with_reducible exact ⟨Grow.refl _, rfl⟩)
              · intro w5b hR
                have hGw : Grow w6 w5b := hR.of_drew
                have HGW := Lib.hid hGw
                have hxc := (HGW.out.block HX6.out).cell
                have hoc := (HGW.out.block HV6.out).cell
                obtain ⟨hc1, hc2, _, _⟩ := HN.out w5b HGW.out
                clear hR hGw
                simp only [depV]
                rintro _ rfl
                try go_simp
                all_goals first
                  | (with_reducible exact Grow.refl _)
                  | (with_reducible exact ⟨Grow.refl _, rfl⟩)
              · intro w5b hR
                have hGw : Grow w6 w5b := hR.of_drew
                have HGW := Lib.hid hGw
                have hxc := (HGW.out.block HX6.out).cell
                have hoc := (HGW.out.block HV6.out).cell
                obtain ⟨hc1, hc2, _, _⟩ := HN.out w5b HGW.out
                clear hR hGw
                simp only [depV]
                rintro _ rfl
                rintro _ rfl
                try go_simp
                exact ⟨Grow.refl _, HSB.out⟩
              · intro w5b hR
                have hGw : Grow w6 w5b := hR.of_drew
                have HGW := Lib.hid hGw
                have hxc := (HGW.out.block HX6.out).cell
                have hoc := (HGW.out.block HV6.out).cell
                obtain ⟨hc1, hc2, _, _⟩ := HN.out w5b HGW.out
                clear hR hGw
                simp only [depV]
                rintro _ rfl
                try go_simp
                exact ⟨Grow.refl _, HMX.out⟩
              · intro w5b hR
                have hGw : Grow w6 w5b := hR.of_drew
                have HGW := Lib.hid hGw
                have hxc := (HGW.out.block HX6.out).cell
                have hoc := (HGW.out.block HV6.out).cell
                obtain ⟨hc1, hc2, _, _⟩ := HN.out w5b HGW.out
                clear hR hGw
                simp only [depV]
                rintro _ rfl
                rintro _ rfl
                try go_simp
                all_goals first
                  | (with_reducible exact Grow.refl _)
                  | (with_reducible exact ⟨Grow.refl _, rfl⟩)
            · intro w5b hR
              have HG5b : Hid (Grow w6 w5b) := Lib.hid hR.of_drew
              clear hR
              simp only [finVC, List.take_succ_cons, List.take_zero, List.drop_succ_cons, List.drop_zero]
              rintro _ rfl
              rintro _ rfl
              rintro _ rfl
              rintro _ rfl
              rintro _ rfl
              rintro _ rfl
              rintro _ rfl
              rintro _ rfl
              rintro _ rfl
              rintro _ rfl
              rintro _ rfl
              rintro _ rfl
              rintro _ rfl
              rintro _ rfl
              rintro _ rfl
              rintro _ rfl
              rintro _ rfl
              rintro _ rfl
              rintro _ rfl
              rintro _ rfl
              rintro _ rfl
              rintro _ rfl
              rintro _ rfl
              simp only [Act.put, List.setIfInBounds_toArray, List.set_cons_succ, List.set_cons_zero]
              rename World => w7
              obtain ⟨_, _, hz7, hst⟩ := HN.out w7 HG5b.out
              have hst := hst ((ym : Nat) : Int)
              go_wp2_with fail
              go_meet
              exact ⟨rfl, by rw [HNEW.out]; exact hst.1, Below.trans (Below.mono HG5b.out (Nat.le_trans HLW.out HB6.out.size)) hst.2⟩
        case rest => as_aux_lemma =>
          obtain ⟨rfl, hE, hB⟩ := hcut
          rename World => w7
          have HNL : Hid ((needsE p ⟨who, a, b, c, sl, la, nn, ii, mm, j⟩).length = p.needs.length) := Lib.hid (needsE_len _ _)
          have HNG : Hid (∀ l ∈ needsE p ⟨who, a, b, c, sl, la, nn, ii, mm, j⟩, l.length ≤ 1000000) := Lib.hid (fun l hl => by have h1 := (HGE.out.rows l hl).1; have h2 := ease_tn p ⟨who, a, b, c, sl, la, nn, ii, mm, j⟩; have h3 := G.t3; omega)
          clear HNE HRW HQR
          obtain ⟨nl, hnl⟩ : ∃ z, needsE p ⟨who, a, b, c, sl, la, nn, ii, mm, j⟩ = z := ⟨_, rfl⟩
          rw [hnl] at hE HJ HDP HNL HNG
          clear hnl
          have HF7 : Hid (BlockIs w7 w.heap.size 25 (cellsN ⟨fa, fc, na, nc⟩ p)) := Lib.hid (HF6.out.below hB (by omega))
          have HX7 := Lib.hid (HX6.out.below hB hwlo)
          have HG7 : Hid (Grow w w7) := Lib.hid (HG6.out.trans' (Below.mono hB (by omega)))
          have HL7 : Hid (lo ≤ w7.heap.size) := Lib.hid (Nat.le_trans (Nat.le_trans HLW.out HB6.out.size) hB.size)
          have HE7 := Lib.hid hE
          have HV7 := Lib.hid (HVE.out w7 fl nl p.ill p.most HFL.out HNL.out HE7.out)
          clear hE hB HE6 HV6 HX6 HF6 HB6 HG6 HE4 HF4 HX4 HG4 HLW
          obtain ⟨i7, hi7⟩ : ∃ z, p.ill - ii = z := ⟨_, rfl⟩
          obtain ⟨m7, hm7⟩ : ∃ z, min 6 (p.most + mm) = z := ⟨_, rfl⟩
          rw [hi7, hm7] at HJ HDP
          have hill := G.ill
          have hmost := G.most
          have HM1 : Hid ((if ii < p.ill then (p.ill : Int) - (ii : Int) else 0) = (i7 : Int)) := Lib.hid (by split <;> omega)
          have HM7 : Hid ((m7 : Int) = min 6 ((p.most : Int) + (mm : Int))) := Lib.hid (by omega)
          have hw1 : IntKind.i64.wrap ((p.ill : Int) - (ii : Int)) = (p.ill : Int) - (ii : Int) := IntWalk.i64_in _ (by omega)
          have hw2 : IntKind.i64.wrap ((p.most : Int) + (mm : Int)) = (p.most : Int) + (mm : Int) := IntWalk.i64_in _ (by omega)
          clear hi7 hm7
          have hxc := HX7.out.cell
          have hoc := HV7.out.cell
          have hfz := HV7.out.frozen 2
          go_upto_region 13 with fail
          rw [HM1.out]
          obtain ⟨w8, hw8⟩ : ∃ z, w7.setCell ⟨ob, 2, none⟩ (.int .i64 (i7 : Nat)) = z := ⟨_, rfl⟩
          obtain ⟨hE8, hB8⟩ := HE7.out.ill (i7 : Nat)
          rw [hw8] at hE8 hB8 ⊢
          have HF8 : Hid (BlockIs w8 w.heap.size 25 (cellsN ⟨fa, fc, na, nc⟩ p)) := Lib.hid (HF7.out.below hB8 (by omega))
          have HX8 := Lib.hid (HX7.out.below hB8 hwlo)
          have HG8 : Hid (Grow w w8) := Lib.hid (HG7.out.trans' (Below.mono hB8 (by omega)))
          have HL8 : Hid (lo ≤ w8.heap.size) := Lib.hid (Nat.le_trans HL7.out hB8.size)
          have HE8 := Lib.hid hE8
          have HV8 := Lib.hid (HVE.out w8 fl nl i7 p.most HFL.out HNL.out HE8.out)
          clear hw8 hE8 hB8 hxc hoc hfz HF7 HX7 HG7 HL7 HE7 HV7
          have hxc := HX8.out.cell
          have hoc := HV8.out.cell
          have hfz := HV8.out.frozen 3
          have hm7 := HM7.out
          go_cut [5] (fun v wx => v = .pointer (some ⟨ob, 0, none⟩) ∧ w8.setCell ⟨ob, 3, none⟩ (.int .i64 (m7 : Nat)) = wx)
          case first => as_aux_lemma =>
            go_wp2_with fail
            all_goals
              go_meet
              refine ⟨rfl, ?_⟩
              first
                | (rw [show ((p.most : Int) + (mm : Int)) = (m7 : Int) by omega])
                | (rw [show (6 : Int) = (m7 : Int) by omega])
          case rest => as_aux_lemma =>
            obtain ⟨rfl, rfl⟩ := hcut
            clear hm7
            obtain ⟨w9, hw9⟩ : ∃ z, w8.setCell ⟨ob, 3, none⟩ (.int .i64 (m7 : Nat)) = z := ⟨_, rfl⟩
            obtain ⟨hE9, hB9⟩ := HE8.out.most (m7 : Nat)
            rw [hw9] at hE9 hB9 ⊢
            have HF9 : Hid (BlockIs w9 w.heap.size 25 (cellsN ⟨fa, fc, na, nc⟩ p)) := Lib.hid (HF8.out.below hB9 (by omega))
            have HX9 := Lib.hid (HX8.out.below hB9 hwlo)
            have HG9 : Hid (Grow w w9) := Lib.hid (HG8.out.trans' (Below.mono hB9 (by omega)))
            have HL9 : Hid (lo ≤ w9.heap.size) := Lib.hid (Nat.le_trans HL8.out hB9.size)
            have HE9 := Lib.hid hE9
            have HV9 := Lib.hid (HVE.out w9 fl nl i7 m7 HFL.out HNL.out HE9.out)
            clear hw9 hE9 hB9 hxc hoc hfz HF8 HX8 HG8 HL8 HE8 HV8
            have hxc := HX9.out.cell
            have hoc := HV9.out.cell
            go_upto_region 14 with fail
            obtain ⟨l0, hlw, hlz0, hlz1, hlz2⟩ := info_parts Try.infoFolk
            have HLF2 : Hid ((fl.map FolkN.i).length = p.folk.length) := Lib.hid (by rw [List.length_map]; exact HFL.out)
            have HLN2 : Hid ((nl.map natsL).length = p.needs.length) := Lib.hid (by rw [List.length_map]; exact HNL.out)
            have HO9 : Hid (w9.ownsRow lo 62 3 (.slice fa' p.folk.length fc') p.folk.length ((fl.map FolkN.i).flatMap cellsFL)) := Lib.hid (by
              have h1 := HE9.out.new.folk
              rw [show (PoolI.folk ⟨fl.map FolkN.i, nl.map natsL, (i7 : Nat), (m7 : Nat)⟩).length = p.folk.length from HLF2.out] at h1
              exact h1)
            have hl9 := HL9.out
            have HLA : Hid (lo ≤ (w9.alloc (.cells #[.int .i64 j.t, .int .i64 j.s, .int .i64 j.y] 62)).heap.size) := Lib.hid (Nat.le_trans hl9 (Grow.alloc w9 _).size)
            go_wp2_with (at_builtin; go_loud (refine wpList_append_own _ rfl _ _ 22 rfl lo 62 l0 (.agg #[.int .i64 0, .int .i64 0, .int .i64 0]) 3 24 Try.underlying22 hlw hlz0 hlz1 hlz2 rfl (by omega) (.slice fa' p.folk.length fc') p.folk.length ((fl.map FolkN.i).flatMap cellsFL) rfl ?d0 ⟨w9.heap.size, 0, none⟩ 1 1 (cellsFL j) rfl rfl ?d1 ?d2 ?d3 ?d4 ?d5 ?_))
            case d0 => exact own_grow HO9.out (Grow.alloc _ _)
            case d1 => exact fun _ _ hu => hu
            case d2 => intro u hu; simp only [cellsFL, List.mem_cons, List.not_mem_nil, or_false] at hu; rcases hu with rfl | rfl | rfl <;> rfl
            case d3 => unfold maxLen; omega
            case d4 => omega
            case d5 => omega
            intro v' w10 hown hgr _
            obtain ⟨A9, c9, rfl⟩ := own_form hown
            have hEA := HE9.out.grow (Grow.alloc w9 (.cells #[.int .i64 j.t, .int .i64 j.s, .int .i64 j.y] 62))
            have hVA := (HVE.out _ fl nl i7 m7 HFL.out HNL.out hEA)
            have hv10 := hVA.grown hgr (own_block_ne (own_grow HO9.out (Grow.alloc w9 (.cells #[.int .i64 j.t, .int .i64 j.s, .int .i64 j.y] 62))) hVA (by decide))
            have hB10 : Below lo w9 w10 := below_grown ((Below.refl _ _).alloc hl9 _) (own_grow HO9.out (Grow.alloc _ _)) hgr HLA.out
            have HMO : Hid (∀ v, v = Value.slice A9 (p.folk.length + 1) c9 → Eased (w10.setCell ⟨ob, 0, none⟩ v) lo ob ⟨A9, c9, na', nc'⟩ ⟨fl.map FolkN.i ++ [j], nl.map natsL, (i7 : Nat), (m7 : Nat)⟩) := Lib.hid (fun v hv => by
              subst hv
              have h1 := hEA.more (A := A9) (c := c9) (j := j) (w' := w10) (by
                rw [show (PoolI.folk ⟨fl.map FolkN.i, nl.map natsL, (i7 : Nat), (m7 : Nat)⟩).length = p.folk.length from HLF2.out]
                exact hown) (by
                rw [show (PoolI.folk ⟨fl.map FolkN.i, nl.map natsL, (i7 : Nat), (m7 : Nat)⟩).length = p.folk.length from HLF2.out]
                exact hgr)
              rw [show (PoolI.folk ⟨fl.map FolkN.i, nl.map natsL, (i7 : Nat), (m7 : Nat)⟩).length = p.folk.length from HLF2.out] at h1
              exact h1)
            have HB10 := Lib.hid hB10
            have HC10 : Hid (p.folk.length + 1 ≤ c9) := Lib.hid (by
              rcases hown.2 with ⟨h1, _⟩ | ⟨_, _, _, h1, _, _, h2, _⟩
              · cases h1
              · injection h1 with _ _ h3
                rw [h3]; exact h2)
            have hoc := hv10.cell
            have hfz := hv10.frozen 0
            clear hown hgr hEA hVA hv10 hB10 HE9 HV9 HO9 HLA hl9
            go_upto_region 15 with fail
            obtain ⟨w11, hw11⟩ : ∃ z, w10.setCell ⟨ob, 0, none⟩ (.slice A9 (p.folk.length + 1) c9) = z := ⟨_, rfl⟩
            have HE11 := HMO.out _ rfl
            have HB11 : Hid (Below lo w9 w11) := Lib.hid (by rw [← hw11]; exact HB10.out.setCell (p := ⟨ob, 0, none⟩) hl12 _)
            rw [hw11] at HE11 ⊢
            clear hw11 HMO HB10 hoc hfz hxc
            have HF11 : Hid (BlockIs w11 w.heap.size 25 (cellsN ⟨fa, fc, na, nc⟩ p)) := Lib.hid (HF9.out.below HB11.out (by omega))
            have HV11 : Hid (BlockIs w11 ob 25 #[.slice A9 (p.folk.length + 1) c9, .slice na' p.needs.length nc', .int .i64 (i7 : Nat), .int .i64 (m7 : Nat)]) := Lib.hid (by
              have h1 := HE11.var
              rw [show cellsP ⟨A9, c9, na', nc'⟩ ⟨fl.map FolkN.i ++ [j], nl.map natsL, (i7 : Nat), (m7 : Nat)⟩ = #[.slice A9 (p.folk.length + 1) c9, .slice na' p.needs.length nc', .int .i64 (i7 : Nat), .int .i64 (m7 : Nat)] from by simp [cellsP, HFL.out, HNL.out]] at h1
              exact h1)
            rw [← HJ.out] at HE11
            have hdj : poolV ⟨A9, c9, na', nc'⟩ (joinI p ⟨who, a, b, c, sl, la, nn, ii, mm, j⟩) = .agg #[.slice A9 (p.folk.length + 1) c9, .slice na' p.needs.length nc', .int .i64 (i7 : Nat), .int .i64 (m7 : Nat)] := by rw [HJ.out]; simp [cellsP, HFL.out, HNL.out]
            have hsj : Short (joinI p ⟨who, a, b, c, sl, la, nn, ii, mm, j⟩) := by
              rw [HJ.out]
              refine ⟨?_, ?_, fun r hr => ?_⟩
              · show (fl.map FolkN.i ++ [j]).length ≤ 1000000
                rw [List.length_append, HLF2.out, List.length_singleton]; omega
              · show (nl.map natsL).length ≤ 1000000
                rw [HLN2.out]; have := G.n3; omega
              · obtain ⟨l, hl, rfl⟩ := List.mem_map.1 (show r ∈ nl.map natsL from hr)
                rw [natsL_length]; exact HNG.out l hl
            have HCK := Lib.hid (fun (w0 : World) (hw : Grow w11 w0) => rCheck_any ⟨A9, c9, na', nc'⟩ (joinI p ⟨who, a, b, c, sl, la, nn, ii, mm, j⟩) w0 ((HE11.grow hw).new.at_) hsj)
            rw [hdj] at HCK
            obtain ⟨dj, hj⟩ : ∃ z, joinI p ⟨who, a, b, c, sl, la, nn, ii, mm, j⟩ = z := ⟨_, rfl⟩
            rw [hj] at HE11 HCK HJE HJ
            have HE11 := Lib.hid HE11
            clear hj hdj hsj
            obtain ⟨qv, hqv⟩ : ∃ z, okPool dj = z := ⟨_, rfl⟩
            rw [hqv] at HJE
            have HPE : Hid (poolErr dj = if qv then 0 else 100) := Lib.hid (by unfold poolErr; rw [hqv])
            clear hqv
            go_cut [209] (fun v wx => v = .bool (!qv) ∧ Grow w11 wx)
            case first => as_aux_lemma =>
              have hoc := HV11.out.cell
              have hpe := HPE.out
              go_wp2_with fail
              refine (HCK.out w11 (Grow.refl _)).mono ?_
              rintro e w12 ⟨rfl, hb12⟩
              have HG12 : Hid (Grow w11 w12) := Lib.hid hb12
              clear hb12
              rw [hpe]
              cases qv with
              | false =>
                rw [if_neg Bool.false_ne_true]
                go_wp2_with fail
                go_meet
                exact ⟨rfl, HG12.out⟩
              | true =>
                rw [if_pos rfl]
                go_wp2_with fail
                go_meet
                exact ⟨rfl, HG12.out⟩
            case rest => as_aux_lemma =>
              obtain ⟨rfl, hgc⟩ := hcut
              rename World => w12
              have HL11 : lo ≤ w11.heap.size := Nat.le_trans HL9.out HB11.out.size
              have HB12 : Hid (Below lo w9 w12) := Lib.hid (Below.trans HB11.out (Below.mono hgc HL11))
              have HE12 := Lib.hid (HE11.out.grow hgc)
              have HV12 := Lib.hid ((show Grow w11 w12 from hgc).block HV11.out)
              clear hgc HE11 HV11 HB11 HL11 HCK HF11
              go_upto_if 209 with fail
              go_cut [5] (fun v wx => v = .pointer (some ⟨ob, 0, none⟩) ∧ ∃ (q : Pool) (A : Option Addr) (cq : Nat), Good q ∧ Easier p q ∧ Eased wx lo ob ⟨A, cq, na', nc'⟩ q.i ∧ Below lo w9 wx)
              case first => as_aux_lemma =>
                cases qv with
                | true =>
                  go_wp2_with fail
                  go_meet
                  obtain ⟨q, h1, h2, h3⟩ := HJE.out trivial
                  exact ⟨rfl, q, A9, c9, h2, h3, by rw [← h1]; exact HE12.out, HB12.out⟩
                | false =>
                  have he := HE12.out
                  rw [HJ.out] at he
                  obtain ⟨hf1, hf2⟩ := he.fewer
                  rw [HLF2.out] at hf1 hf2
                  have HFE := Lib.hid hf1
                  have HFB := Lib.hid hf2
                  clear he hf1 hf2
                  have hoc := HV12.out.cell
                  have hfz := HV12.out.frozen 0
                  have hws : IntKind.i64.wrap (((p.folk.length + 1 : Nat) : Int) - 1) = (p.folk.length : Int) := by rw [IntWalk.i64_in _ (by omega)]; omega
                  have hcl := HC10.out
                  go_wp2_with fail
                  go_meet
                  exact ⟨rfl, easeD p ⟨who, a, b, c, sl, la, nn, ii, mm, j⟩, A9, c9, HGE.out, HEE.out, by rw [HDP.out]; exact HFE.out, Below.trans HB12.out HFB.out⟩
              case rest => as_aux_lemma =>
                obtain ⟨rfl, q, A, cq, hGq, hEq, hE13, hB13⟩ := hcut
                rename World => w13
                have HF13 := Lib.hid (HF9.out.below hB13 (by omega))
                have HG13 : Hid (Grow w w13) := Lib.hid (HG9.out.trans' (Below.mono hB13 (by omega)))
                have hv13 := hE13.var
                rw [cells_i] at hv13
                have HV13 := Lib.hid hv13
                have HPP := Lib.hid (fun (w0 : World) (hw : Grow w w0) => planApi_any ⟨fa, fc, na, nc⟩ p G hok hsh w0 (HPT.out w0 hw))
                have HPQ := Lib.hid (fun (w0 : World) (hw : Grow w13 w0) => planApi_any ⟨A, cq, na', nc'⟩ q hGq (ok_of_good hGq) (short_good hGq) w0 ((hE13.grow hw).new.at_))
                have HPL := Lib.hid (fun h => Easier.plan hEq G hGq h)
                have HCS : Hid ((planErr (planD p) = 0 ∧ planErr (planD q) = 0 ∧ tripC (planD q) ≤ tripC (planD p)) ∨ (planErr (planD p) = 3 ∧ (planErr (planD q) = 0 ∨ planErr (planD q) = 3))) := Lib.hid (by
                  cases hp : (planD p).isSome with
                  | true =>
                    obtain ⟨h1, h2⟩ := HPL.out hp
                    exact .inl ⟨by unfold planErr; rw [hp]; rfl, by unfold planErr; rw [h1]; rfl, h2⟩
                  | false =>
                    refine .inr ⟨by unfold planErr; rw [hp]; rfl, ?_⟩
                    unfold planErr
                    cases (planD q).isSome
                    · exact .inr rfl
                    · exact .inl rfl)
                obtain ⟨e1, he1⟩ : ∃ z, planErr (planD p) = z := ⟨_, rfl⟩
                obtain ⟨e2, he2⟩ : ∃ z, planErr (planD q) = z := ⟨_, rfl⟩
                obtain ⟨t1, ht1⟩ : ∃ z, tripC (planD p) = z := ⟨_, rfl⟩
                obtain ⟨t2, ht2⟩ : ∃ z, tripC (planD q) = z := ⟨_, rfl⟩
                rw [he1, ht1] at HPP
                rw [he2, ht2] at HPQ
                rw [he1, he2, ht1, ht2] at HCS
                clear he1 he2 ht1 ht2 HPL hE13 hB13 hv13 hGq hEq HE12 HB12 HV12 HJE HJ
                have hcc := HF13.out.cell
                go_wp2_with fail
                refine (HPP.out w13 HG13.out).mono ?_
                rintro e w14 ⟨A2, c2, rfl, _, hb14⟩
                have HG14 : Hid (Grow w w14) := Lib.hid (HG13.out.trans hb14)
                have HV14 := Lib.hid ((show Grow w13 w14 from hb14).block HV13.out)
                have HB14 : Hid (Grow w13 w14) := Lib.hid hb14
                clear hb14 hcc
                have hoc := HV14.out.cell
                go_wp2_with fail
                refine (HPQ.out w14 HB14.out).mono ?_
                rintro e w15 ⟨A3, c3, rfl, _, hb15⟩
                have HG15 : Hid (Grow w w15) := Lib.hid (HG14.out.trans hb15)
                clear hb15 hoc
                rcases HCS.out with ⟨rfl, rfl, hle⟩ | ⟨rfl, rfl | rfl⟩
                · have hdl : decide ((t2 : Int) ≤ (t1 : Int)) = true := decide_eq_true (by omega)
                  go_wp2_with fail
                  refine (works_any _).mono ?_
                  rintro e w19 ⟨rfl, hb19⟩
                  have HGZ : Hid (Grow w w19) := Lib.hid (HG15.out.trans hb19)
                  clear hb19
                  go_wp2
                  go_ret
                  exact ⟨by simp, HGZ.out⟩
                · skip
                  go_wp2_with fail
                  refine (works_any _).mono ?_
                  rintro e w19 ⟨rfl, hb19⟩
                  have HGZ : Hid (Grow w w19) := Lib.hid (HG15.out.trans hb19)
                  clear hb19
                  go_wp2
                  go_ret
                  exact ⟨by simp, HGZ.out⟩
                · skip
                  go_wp2_with fail
                  refine (works_any _).mono ?_
                  rintro e w19 ⟨rfl, hb19⟩
                  have HGZ : Hid (Grow w w19) := Lib.hid (HG15.out.trans hb19)
                  clear hb19
                  go_wp2
                  go_ret
                  exact ⟨by simp, HGZ.out⟩


end Go.Proofs.Ytcgnibfcjadnjaa
