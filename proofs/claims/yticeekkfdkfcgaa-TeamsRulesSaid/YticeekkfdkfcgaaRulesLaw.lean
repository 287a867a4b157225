/- RulesLaw: TeamsRules; written by wip/tools/rules3.py. -/
import Derived.Test.YticeekkfdkfcgaaSame
namespace Go.Proofs.Yticeekkfdkfcgaa
open Go.RowKit

theorem natsL_len (l : List Nat) : (natsL l).length = l.length := List.length_map _

set_option maxRecDepth 100000 in
set_option maxHeartbeats 16000000 in
theorem rulesLaw_any (c : CrewR) (j : JobD) (team : Int) (n : Nat) (w : World) (hA : CrewAt w n c) (hn : n ≤ w.heap.size) :
    Calls Try.prog 3 #[crewV c, jobV j, .int .i64 team] w fun e w' => e = .returned (.bool true) ∧ Below w.heap.size w w' := by
  have HAT := Lib.hid (fun (w0 : World) (hw : Grow w w0) => ((hA.more hn).below hw).more hw.size)
  have HFA := Lib.hid (fun (w0 : World) (hw : Grow w w0) => far_any c w0.heap.size w0 (HAT.out w0 hw) (Nat.le_refl _))
  have HCP := Lib.hid (fun (h : farC c = false) (w0 : World) (hw : Grow w w0) => rCopy_any c w0.heap.size w0 (HAT.out w0 hw) (Nat.le_refl _) (far_small h).1 (far_small h).2.1 (far_small h).2.2)
  have HSH := Lib.hid (fun (h : farC c = false) => far_short h)
  have HLN := Lib.hid (fun (h : farC c = false) => (far_small h).1)
  obtain ⟨fa, hfa⟩ : ∃ z, farC c = z := ⟨_, rfl⟩
  rw [hfa] at HFA HCP HSH HLN
  clear hA hn hfa
  go_enter Try.func3, Try.ntmps3
  go_upto_region 1 with fail
  obtain ⟨W, hW, hg, hfr, hs1, _⟩ := two_blocks w 25 27 (cellsC c) (cellsJ j)
  rw [hW]
  clear hW
  have HG := Lib.hid hg
  have HF := Lib.hid hfr
  have HS := Lib.hid hs1
  have hcc := hfr.cell
  clear hg hfr hs1
  go_wp2_with fail
  refine (HFA.out W HG.out).mono ?_
  rintro e w1 ⟨rfl, hb1⟩
  have HG1 : Hid (Grow w w1) := Lib.hid (HG.out.trans hb1)
  have HF1 := Lib.hid ((show Grow W w1 from hb1).block HF.out)
  have HS1 := Lib.hid ((show Grow W w1 from hb1).block HS.out)
  clear hb1 hcc HF HS HG HFA
  cases fa with
  | true =>
    go_wp2_with fail
    refine (works_any _).mono ?_
    rintro e w2 ⟨rfl, hb2⟩
    have HG2 : Hid (Grow w w2) := Lib.hid (HG1.out.trans hb2)
    clear hb2
    go_wp2
    go_ret
    exact ⟨rfl, HG2.out⟩
  | false =>
    have HCC := Lib.hid (HCP.out rfl)
    have HSC := Lib.hid (HSH.out rfl)
    have HLC := Lib.hid (HLN.out rfl)
    have hcc := HF1.out.cell
    clear HCP HSH HLN
    go_wp2_with fail
    refine (HCC.out w1 HG1.out).mono ?_
    rintro e w2 ⟨d, rfl, hd, hdp, hdl, hnew, hb2⟩
    have HG2 : Hid (Grow w w2) := Lib.hid (HG1.out.trans hb2)
    have HF2 := Lib.hid ((show Grow w1 w2 from hb2).block HF1.out)
    have HS2 := Lib.hid ((show Grow w1 w2 from hb2).block HS1.out)
    have HDA := Lib.hid (fun (w0 : World) (hw : Grow w2 w0) => (hnew.grow hw).at_)
    have HCA := Lib.hid (fun (w0 : World) (hw : Grow w2 w0) => HAT.out w0 (HG2.out.trans hw))
    have HSD := Lib.hid (short_same hd hdl HSC.out)
    have HDD := Lib.hid hd
    clear hb2 hcc HG1 HF1 HS1 HCC hd hdp hdl hnew HAT
    have C1 : Hid (∀ w0, Grow w2 w0 → Calls Try.prog 13 #[crewV d, jobV j] w0 fun e w' => e = .returned (.int .i64 (crewErr c.d j)) ∧ Below w0.heap.size w0 w') := Lib.hid (fun w0 hw => by rw [← HDD.out]; exact check_any d j w0.heap.size w0 (HDA.out w0 hw) (Nat.le_refl _) HSD.out)
    have C2 : Hid (∀ w0, Grow w2 w0 → Calls Try.prog 14 #[crewV c, jobV j] w0 fun e w' => e = .returned (.int .i64 (crewErr c.d j)) ∧ Below w0.heap.size w0 w') := Lib.hid (fun w0 hw => rCheck_any c j w0.heap.size w0 (HCA.out w0 hw) (Nat.le_refl _) HSC.out)
    have C3 : Hid (∀ w0, Grow w2 w0 → Calls Try.prog 15 #[crewV d, jobV j] w0 fun e w' => ∃ A cap, e = .returned (.tuple #[.slice A (natsL (mayL c j)).length cap, .int .i64 (crewErr c.d j)]) ∧ Ints w' w'.heap.size A (natsL (mayL c j)) ∧ Below w0.heap.size w0 w') := Lib.hid (fun w0 hw => by rw [natsL_len, ← HDD.out, ← mayL_same HDD.out]; exact mayApi_any d j w0.heap.size w0 (HDA.out w0 hw) (Nat.le_refl _) HSD.out)
    have C4 : Hid (∀ w0, Grow w2 w0 → Calls Try.prog 16 #[crewV c, jobV j] w0 fun e w' => ∃ A cap, e = .returned (.tuple #[.slice A (natsL (mayL c j)).length cap, .int .i64 (crewErr c.d j)]) ∧ Ints w' w'.heap.size A (natsL (mayL c j)) ∧ Below w0.heap.size w0 w') := Lib.hid (fun w0 hw => by rw [natsL_len]; exact rMay_any c j w0.heap.size w0 (HCA.out w0 hw) (Nat.le_refl _) HSC.out)
    have C5 : Hid (∀ w0, Grow w2 w0 → Calls Try.prog 17 #[crewV d, jobV j, .int .i64 team] w0 fun e w' => e = .returned (.tuple #[.int .i64 (brY c j team : Nat), .int .i64 (teamErr c.d j team)]) ∧ Below w0.heap.size w0 w') := Lib.hid (fun w0 hw => by rw [← HDD.out, ← brY_same HDD.out]; exact broken_flat d j team w0.heap.size w0 (HDA.out w0 hw) (Nat.le_refl _) HSD.out)
    have C6 : Hid (∀ w0, Grow w2 w0 → Calls Try.prog 18 #[crewV c, jobV j, .int .i64 team] w0 fun e w' => e = .returned (.tuple #[.int .i64 (brY c j team : Nat), .int .i64 (teamErr c.d j team)]) ∧ Below w0.heap.size w0 w') := Lib.hid (fun w0 hw => rBroken_flat c j team w0.heap.size w0 (HCA.out w0 hw) (Nat.le_refl _) HSC.out)
    have C7 : Hid (∀ w0, Grow w2 w0 → Calls Try.prog 19 #[crewV d, jobV j, .int .i64 team] w0 fun e w' => ∃ A cap, e = .returned (.tuple #[.slice A (natsL (chL c j team)).length cap, .int .i64 (chE c j team)]) ∧ Ints w' w'.heap.size A (natsL (chL c j team)) ∧ Below w0.heap.size w0 w') := Lib.hid (fun w0 hw => by rw [natsL_len, ← chL_same HDD.out, ← chE_same HDD.out]; exact chainApi_flat d j team w0.heap.size w0 (HDA.out w0 hw) (Nat.le_refl _) HSD.out)
    have C8 : Hid (∀ w0, Grow w2 w0 → Calls Try.prog 20 #[crewV c, jobV j, .int .i64 team] w0 fun e w' => ∃ A cap, e = .returned (.tuple #[.slice A (natsL (chL c j team)).length cap, .int .i64 (chE c j team)]) ∧ Ints w' w'.heap.size A (natsL (chL c j team)) ∧ Below w0.heap.size w0 w') := Lib.hid (fun w0 hw => by rw [natsL_len]; exact rChain_flat c j team w0.heap.size w0 (HCA.out w0 hw) (Nat.le_refl _) HSC.out)
    have HX1 : Hid ((natsL (mayL c j)).length ≤ 1000000) := Lib.hid (by rw [natsL_len]; have := mayL_len c j; have := HLC.out; omega)
    have HX2 : Hid ((natsL (chL c j team)).length ≤ 1000000) := Lib.hid (by rw [natsL_len]; have := chL_len (c := c) (j := j) (team := team); omega)
    obtain ⟨er, her⟩ : ∃ z, crewErr c.d j = z := ⟨_, rfl⟩
    obtain ⟨xs, hxs⟩ : ∃ z, natsL (mayL c j) = z := ⟨_, rfl⟩
    obtain ⟨br, hbr⟩ : ∃ z, brY c j team = z := ⟨_, rfl⟩
    obtain ⟨te, hte⟩ : ∃ z, teamErr c.d j team = z := ⟨_, rfl⟩
    obtain ⟨ys, hys⟩ : ∃ z, natsL (chL c j team) = z := ⟨_, rfl⟩
    obtain ⟨ce, hce⟩ : ∃ z, chE c j team = z := ⟨_, rfl⟩
    rw [her] at C1 C2 C3 C4
    rw [hxs] at C3 C4 HX1
    rw [hbr, hte] at C5 C6
    rw [hys, hce] at C7 C8
    rw [hys] at HX2
    clear her hxs hbr hte hys hce HDD HSD HSC HDA HCA HLC
    go_upto_region 4 with fail
    obtain ⟨w3, hw3, hg3, hf3, _⟩ := one_block w2 25 (cellsC d)
    rw [hw3]
    have HG3 : Hid (Grow w2 w3) := hg3
    have HK3 := Lib.hid hf3
    have HF3 := Lib.hid (hg3.block HF2.out)
    have HS3 := Lib.hid (hg3.block HS2.out)
    clear hw3 hg3 hf3 HF2 HS2
    refine wp_region_lit 7 [[], [], [(0, 25), (1, 26)], [], [], [(3, 28), (4, 29)], [(2, 27), (5, 30)]] Grow (fun qi v w' => match qi with
        | 0 => v = crewV d
        | 1 => v = jobV j
        | 2 => v = .int .i64 er
        | 3 => v = crewV c
        | 4 => v = jobV j
        | 5 => v = .int .i64 er
        | 6 => v = .bool false
        | _ => False) (by kernel_rfl) (by kernel_rfl) (fun _ _ _ => Grow.trans) Grow.refl ?_ ?_ ?_
    · intro i v y y' h k
      match i, h with
      | 0, h | 1, h | 2, h | 3, h | 4, h | 5, h | 6, h => exact h
    · simp only [StepsLit, List.take_succ_cons, List.take_zero]
      refine ⟨?_, ?_, ?_, ?_, ?_, ?_, ?_, trivial⟩
      · intro w5 hR
        have hGw : Grow w3 w5 := hR.of_drew
        have HGW := Lib.hid hGw
        have kc := (HGW.out.block HK3.out).cell
        have fc := (HGW.out.block HF3.out).cell
        have jc := (HGW.out.block HS3.out).cell
        clear hR hGw
        simp only [depV]
        try go_simp
        all_goals first
          | (with_reducible exact Grow.refl _)
          | (with_reducible exact ⟨Grow.refl _, rfl⟩)
      · intro w5 hR
        have hGw : Grow w3 w5 := hR.of_drew
        have HGW := Lib.hid hGw
        have kc := (HGW.out.block HK3.out).cell
        have fc := (HGW.out.block HF3.out).cell
        have jc := (HGW.out.block HS3.out).cell
        clear hR hGw
        simp only [depV]
        try go_simp
        all_goals first
          | (with_reducible exact Grow.refl _)
          | (with_reducible exact ⟨Grow.refl _, rfl⟩)
      · intro w5 hR
        have hGw : Grow w3 w5 := hR.of_drew
        have HGW := Lib.hid hGw
        have kc := (HGW.out.block HK3.out).cell
        have fc := (HGW.out.block HF3.out).cell
        have jc := (HGW.out.block HS3.out).cell
        clear hR hGw
        simp only [depV]
        rintro _ rfl
        rintro _ rfl
        try go_simp
        refine (C1.out _ (HG3.out.trans HGW.out)).mono ?_
        rintro e w6 ⟨rfl, hg6⟩
        exact ⟨hg6, rfl⟩
      · intro w5 hR
        have hGw : Grow w3 w5 := hR.of_drew
        have HGW := Lib.hid hGw
        have kc := (HGW.out.block HK3.out).cell
        have fc := (HGW.out.block HF3.out).cell
        have jc := (HGW.out.block HS3.out).cell
        clear hR hGw
        simp only [depV]
        try go_simp
        all_goals first
          | (with_reducible exact Grow.refl _)
          | (with_reducible exact ⟨Grow.refl _, rfl⟩)
      · intro w5 hR
        have hGw : Grow w3 w5 := hR.of_drew
        have HGW := Lib.hid hGw
        have kc := (HGW.out.block HK3.out).cell
        have fc := (HGW.out.block HF3.out).cell
        have jc := (HGW.out.block HS3.out).cell
        clear hR hGw
        simp only [depV]
        try go_simp
        all_goals first
          | (with_reducible exact Grow.refl _)
          | (with_reducible exact ⟨Grow.refl _, rfl⟩)
      · intro w5 hR
        have hGw : Grow w3 w5 := hR.of_drew
        have HGW := Lib.hid hGw
        have kc := (HGW.out.block HK3.out).cell
        have fc := (HGW.out.block HF3.out).cell
        have jc := (HGW.out.block HS3.out).cell
        clear hR hGw
        simp only [depV]
        rintro _ rfl
        rintro _ rfl
        try go_simp
        refine (C2.out _ (HG3.out.trans HGW.out)).mono ?_
        rintro e w6 ⟨rfl, hg6⟩
        exact ⟨hg6, rfl⟩
      · intro w5 hR
        have hGw : Grow w3 w5 := hR.of_drew
        have HGW := Lib.hid hGw
        have kc := (HGW.out.block HK3.out).cell
        have fc := (HGW.out.block HF3.out).cell
        have jc := (HGW.out.block HS3.out).cell
        clear hR hGw
        simp only [depV]
        rintro _ rfl
        rintro _ rfl
        try go_simp
        all_goals first
          | (with_reducible exact Grow.refl _)
          | (with_reducible exact ⟨Grow.refl _, rfl⟩)
    · intro w4 hR
      have HG5 : Hid (Grow w3 w4) := Lib.hid hR.of_drew
      clear hR
      simp only [finVC, List.take_succ_cons, List.take_zero, List.drop_succ_cons, List.drop_zero]
      rintro _ rfl
      rintro _ rfl
      rintro _ rfl
      rintro _ rfl
      rintro _ rfl
      rintro _ rfl
      rintro _ rfl
      simp only [Act.put, List.setIfInBounds_toArray, List.set_cons_succ, List.set_cons_zero]
      have HG4 : Hid (Grow w2 w4) := Lib.hid (HG3.out.trans HG5.out)
      have HK4 := Lib.hid (HG5.out.block HK3.out)
      have HF4 := Lib.hid (HG5.out.block HF3.out)
      have HS4 := Lib.hid (HG5.out.block HS3.out)
      clear HG5 HK3 HF3 HS3 C1 C2
      simp only [wpList]
      go_upto_region 6 with fail
      have kc := HK4.out.cell
      have fc := HF4.out.cell
      have jc := HS4.out.cell
      go_wp2_with fail
      refine (C3.out _ HG4.out).mono ?_
      rintro e w5 ⟨A1, p1, rfl, hi1, hb5⟩
      have HX5 : Hid (Grow w4 w5) := hb5
      have HG5 : Hid (Grow w2 w5) := Lib.hid (HG4.out.trans hb5)
      have HK5 := Lib.hid (HX5.out.block HK4.out)
      have HF5 := Lib.hid (HX5.out.block HF4.out)
      have HS5 := Lib.hid (HX5.out.block HS4.out)
      have HI1 := Lib.hid hi1
      clear hi1
      clear hb5 kc fc jc HK4 HF4 HS4
      have kc := HK5.out.cell
      have fc := HF5.out.cell
      have jc := HS5.out.cell
      go_wp2_with fail
      refine (C4.out _ HG5.out).mono ?_
      rintro e w6 ⟨A2, p2, rfl, hi2, hb6⟩
      have HX6 : Hid (Grow w5 w6) := hb6
      have HG6 : Hid (Grow w2 w6) := Lib.hid (HG5.out.trans hb6)
      have HK6 := Lib.hid (HX6.out.block HK5.out)
      have HF6 := Lib.hid (HX6.out.block HF5.out)
      have HS6 := Lib.hid (HX6.out.block HS5.out)
      have HI2 := Lib.hid hi2
      clear hi2
      clear hb6 kc fc jc HK5 HF5 HS5
      have kc := HK6.out.cell
      have fc := HF6.out.cell
      have jc := HS6.out.cell
      go_wp2_with fail
      refine (C5.out _ HG6.out).mono ?_
      rintro e w7 ⟨rfl, hb7⟩
      have HX7 : Hid (Grow w6 w7) := hb7
      have HG7 : Hid (Grow w2 w7) := Lib.hid (HG6.out.trans hb7)
      have HK7 := Lib.hid (HX7.out.block HK6.out)
      have HF7 := Lib.hid (HX7.out.block HF6.out)
      have HS7 := Lib.hid (HX7.out.block HS6.out)
      clear hb7 kc fc jc HK6 HF6 HS6
      have kc := HK7.out.cell
      have fc := HF7.out.cell
      have jc := HS7.out.cell
      go_wp2_with fail
      refine (C6.out _ HG7.out).mono ?_
      rintro e w8 ⟨rfl, hb8⟩
      have HX8 : Hid (Grow w7 w8) := hb8
      have HG8 : Hid (Grow w2 w8) := Lib.hid (HG7.out.trans hb8)
      have HK8 := Lib.hid (HX8.out.block HK7.out)
      have HF8 := Lib.hid (HX8.out.block HF7.out)
      have HS8 := Lib.hid (HX8.out.block HS7.out)
      clear hb8 kc fc jc HK7 HF7 HS7
      have kc := HK8.out.cell
      have fc := HF8.out.cell
      have jc := HS8.out.cell
      go_wp2_with fail
      refine (C7.out _ HG8.out).mono ?_
      rintro e w9 ⟨A3, p3, rfl, hi3, hb9⟩
      have HX9 : Hid (Grow w8 w9) := hb9
      have HG9 : Hid (Grow w2 w9) := Lib.hid (HG8.out.trans hb9)
      have HK9 := Lib.hid (HX9.out.block HK8.out)
      have HF9 := Lib.hid (HX9.out.block HF8.out)
      have HS9 := Lib.hid (HX9.out.block HS8.out)
      have HI3 := Lib.hid hi3
      clear hi3
      clear hb9 kc fc jc HK8 HF8 HS8
      have kc := HK9.out.cell
      have fc := HF9.out.cell
      have jc := HS9.out.cell
      go_wp2_with fail
      refine (C8.out _ HG9.out).mono ?_
      rintro e w10 ⟨A4, p4, rfl, hi4, hb10⟩
      have HX10 : Hid (Grow w9 w10) := hb10
      have HG10 : Hid (Grow w2 w10) := Lib.hid (HG9.out.trans hb10)
      have HK10 := Lib.hid (HX10.out.block HK9.out)
      have HF10 := Lib.hid (HX10.out.block HF9.out)
      have HS10 := Lib.hid (HX10.out.block HS9.out)
      have HI4 := Lib.hid hi4
      clear hi4
      clear hb10 kc fc jc HK9 HF9 HS9
      have hq1 : (er == er) = true := by simp
      have G610 : Grow w6 w10 := HX7.out.trans (HX8.out.trans (HX9.out.trans HX10.out))
      have J1 := Lib.hid (HI1.out.below (HX6.out.trans G610))
      have J2 := Lib.hid (HI2.out.below G610)
      have J3 := Lib.hid (HI3.out.below HX10.out)
      have J4 := Lib.hid HI4.out
      have HGE : Hid (Grow w w10) := Lib.hid (HG2.out.trans HG10.out)
      clear G610 HI1 HI2 HI3 HI4 HX5 HX6 HX7 HX8 HX9 HX10 HK10 HF10 HS10 HG10 HG2 HG3 HG4 HG5 HG6 HG7 HG8 HG9 C3 C4 C5 C6 C7 C8
      go_wp2_with fail
      refine (same_self A1 A2 p1 p2 _ _ xs _ J1.out J2.out HX1.out).mono ?_
      rintro e w11 ⟨rfl, q1, rfl⟩
      go_wp2_with fail
      refine (same_self A3 A4 p3 p4 _ _ ys _ (J3.out.below (Below.drewN_ (Below.refl _ _) _)) (J4.out.below (Below.drewN_ (Below.refl _ _) _)) HX2.out).mono ?_
      rintro e w11 ⟨rfl, q2, rfl⟩
      go_wp2_with fail
      refine (works_any _).mono ?_
      rintro e w12 ⟨rfl, hb12⟩
      have HGF : Hid (Grow w w12) := Lib.hid (HGE.out.trans (Grow.trans (Below.drewN_ (Below.refl _ _) (q1 + q2)) hb12))
      clear hb12 hq1
      go_wp2
      go_ret
      exact ⟨rfl, HGF.out⟩

end Go.Proofs.Yticeekkfdkfcgaa
