/- TeamLaw: TeamsTeam; written by wip/tools/rules3.py. -/
import Derived.Test.YticeekkfdkfcgaaSame
import Derived.Test.YticeekkfdkfcgaaVital
namespace Go.Proofs.Yticeekkfdkfcgaa
open Go.RowKit

theorem vitE_same {c c' : CrewR} (h : c.d = c'.d) (j : JobD) : vitE c j (brokenT c j) = vitE c' j (brokenT c' j) := by unfold vitE; rw [brokenT_funext h, h, feeF_same h, len_d h]
theorem vitL_same {c c' : CrewR} (h : c.d = c'.d) (j : JobD) : vitL c j (brokenT c j) = vitL c' j (brokenT c' j) := by unfold vitL; rw [vitE_same h, brokenT_funext h, len_d h]
theorem vitL_len (c : CrewR) (j : JobD) : (vitL c j (brokenT c j)).length ≤ c.people.length := by
  unfold vitL
  split
  · exact Nat.zero_le _
  · exact Nat.le_trans (List.length_filter_le _ _) (Nat.le_of_eq (List.length_range))
theorem natsL_len2 (l : List Nat) : (natsL l).length = l.length := List.length_map _

set_option maxRecDepth 100000 in
set_option maxHeartbeats 16000000 in
theorem teamLaw_any (c : CrewR) (j : JobD) (n : Nat) (w : World) (hA : CrewAt w n c) (hn : n ≤ w.heap.size) :
    Calls Try.prog 4 #[crewV c, jobV j] w fun e w' => e = .returned (.bool true) ∧ Below w.heap.size w w' := by
  have HAT := Lib.hid (fun (w0 : World) (hw : Grow w w0) => ((hA.more hn).below hw).more hw.size)
  have HFA := Lib.hid (fun (w0 : World) (hw : Grow w w0) => far_any c w0.heap.size w0 (HAT.out w0 hw) (Nat.le_refl _))
  have HCP := Lib.hid (fun (h : farC c = false) (w0 : World) (hw : Grow w w0) => rCopy_any c w0.heap.size w0 (HAT.out w0 hw) (Nat.le_refl _) (far_small h).1 (far_small h).2.1 (far_small h).2.2)
  have HSH := Lib.hid (fun (h : farC c = false) => far_short h)
  have HLN := Lib.hid (fun (h : farC c = false) => (far_small h).1)
  obtain ⟨fa, hfa⟩ : ∃ z, farC c = z := ⟨_, rfl⟩
  rw [hfa] at HFA HCP HSH HLN
  clear hA hn hfa
  go_enter Try.func4, Try.ntmps4
  go_upto_region 1 with fail
  obtain ⟨W, hW, hg, hfr, hs1, _⟩ := two_blocks w 25 27 (cellsC c) (cellsJ j)
  rw [hW]
  clear hW
  have HG := Lib.hid hg
  have HF := Lib.hid hfr
  have HS := Lib.hid hs1
  have hcc := hfr.cell
  clear hg hfr hs1
  go_wp2_with fail
  refine (HFA.out W HG.out).mono ?_
  rintro e w1 ⟨rfl, hb1⟩
  have HG1 : Hid (Grow w w1) := Lib.hid (HG.out.trans hb1)
  have HF1 := Lib.hid ((show Grow W w1 from hb1).block HF.out)
  have HS1 := Lib.hid ((show Grow W w1 from hb1).block HS.out)
  clear hb1 hcc HF HS HG HFA
  cases fa with
  | true =>
    go_wp2_with fail
    refine (works_any _).mono ?_
    rintro e w2 ⟨rfl, hb2⟩
    have HG2 : Hid (Grow w w2) := Lib.hid (HG1.out.trans hb2)
    clear hb2
    go_wp2
    go_ret
    exact ⟨rfl, HG2.out⟩
  | false =>
    have HCC := Lib.hid (HCP.out rfl)
    have HSC := Lib.hid (HSH.out rfl)
    have HLC := Lib.hid (HLN.out rfl)
    have hcc := HF1.out.cell
    clear HCP HSH HLN
    go_wp2_with fail
    refine (HCC.out w1 HG1.out).mono ?_
    rintro e w2 ⟨d, rfl, hd, hdp, hdl, hnew, hb2⟩
    have HG2 : Hid (Grow w w2) := Lib.hid (HG1.out.trans hb2)
    have HF2 := Lib.hid ((show Grow w1 w2 from hb2).block HF1.out)
    have HS2 := Lib.hid ((show Grow w1 w2 from hb2).block HS1.out)
    have HDA := Lib.hid (fun (w0 : World) (hw : Grow w2 w0) => (hnew.grow hw).at_)
    have HCA := Lib.hid (fun (w0 : World) (hw : Grow w2 w0) => HAT.out w0 (HG2.out.trans hw))
    have HSD := Lib.hid (short_same hd hdl HSC.out)
    have HDD := Lib.hid hd
    clear hb2 hcc HG1 HF1 HS1 HCC hd hdp hdl hnew HAT
    have C1 : Hid (∀ w0, Grow w2 w0 → Calls Try.prog 22 #[crewV d, jobV j] w0 fun e w' => e = .returned (.tuple #[.int .i64 (tmT c j : Nat), .int .i64 (tmF c j), .int .i64 (tmE c j)]) ∧ Below w0.heap.size w0 w') := Lib.hid (fun w0 hw => by rw [← tmT_same HDD.out, ← tmF_same HDD.out, ← tmE_same HDD.out]; exact team_flat d j w0.heap.size w0 (HDA.out w0 hw) (Nat.le_refl _) HSD.out)
    have C2 : Hid (∀ w0, Grow w2 w0 → Calls Try.prog 23 #[crewV c, jobV j] w0 fun e w' => e = .returned (.tuple #[.int .i64 (tmT c j : Nat), .int .i64 (tmF c j), .int .i64 (tmE c j)]) ∧ Below w0.heap.size w0 w') := Lib.hid (fun w0 hw => rTeam_flat c j w0.heap.size w0 (HCA.out w0 hw) (Nat.le_refl _) HSC.out)
    have C3 : Hid (∀ w0, Grow w2 w0 → Calls Try.prog 24 #[crewV d, jobV j] w0 fun e w' => e = .returned (.tuple #[.int .i64 (whY c j (brokenT c j) : Nat), .int .i64 (whE c j (brokenT c j))]) ∧ Below w0.heap.size w0 w') := Lib.hid (fun w0 hw => by rw [← whY_same HDD.out, ← whE_same HDD.out]; exact whyApi_any d j w0.heap.size w0 (HDA.out w0 hw) (Nat.le_refl _) HSD.out)
    have C4 : Hid (∀ w0, Grow w2 w0 → Calls Try.prog 25 #[crewV c, jobV j] w0 fun e w' => e = .returned (.tuple #[.int .i64 (whY c j (brokenT c j) : Nat), .int .i64 (whE c j (brokenT c j))]) ∧ Below w0.heap.size w0 w') := Lib.hid (fun w0 hw => rWhy_flat c j w0.heap.size w0 (HCA.out w0 hw) (Nat.le_refl _) HSC.out)
    have C5 : Hid (∀ w0, Grow w2 w0 → Calls Try.prog 26 #[crewV d, jobV j] w0 fun e w' => ∃ A cap, e = .returned (.tuple #[.slice A (natsL (vitL c j (brokenT c j))).length cap, .int .i64 (vitE c j (brokenT c j))]) ∧ Ints w' w'.heap.size A (natsL (vitL c j (brokenT c j))) ∧ Below w0.heap.size w0 w') := Lib.hid (fun w0 hw => by rw [natsL_len2, ← vitL_same HDD.out, ← vitE_same HDD.out]; exact vitalApi_any d j w0.heap.size w0 (HDA.out w0 hw) (Nat.le_refl _) HSD.out)
    have C6 : Hid (∀ w0, Grow w2 w0 → Calls Try.prog 27 #[crewV c, jobV j] w0 fun e w' => ∃ A cap, e = .returned (.tuple #[.slice A (natsL (vitL c j (brokenT c j))).length cap, .int .i64 (vitE c j (brokenT c j))]) ∧ Ints w' w'.heap.size A (natsL (vitL c j (brokenT c j))) ∧ Below w0.heap.size w0 w') := Lib.hid (fun w0 hw => by rw [natsL_len2]; exact rVital_flat c j w0.heap.size w0 (HCA.out w0 hw) (Nat.le_refl _) HSC.out)
    have HX1 : Hid ((natsL (vitL c j (brokenT c j))).length ≤ 1000000) := Lib.hid (by rw [natsL_len2]; have := vitL_len c j; have := HLC.out; omega)
    obtain ⟨tt, htt⟩ : ∃ z, tmT c j = z := ⟨_, rfl⟩
    obtain ⟨tf, htf⟩ : ∃ z, tmF c j = z := ⟨_, rfl⟩
    obtain ⟨te, hte⟩ : ∃ z, tmE c j = z := ⟨_, rfl⟩
    obtain ⟨wy, hwy⟩ : ∃ z, whY c j (brokenT c j) = z := ⟨_, rfl⟩
    obtain ⟨we, hwe⟩ : ∃ z, whE c j (brokenT c j) = z := ⟨_, rfl⟩
    obtain ⟨ve, hve⟩ : ∃ z, vitE c j (brokenT c j) = z := ⟨_, rfl⟩
    obtain ⟨xs, hxs⟩ : ∃ z, natsL (vitL c j (brokenT c j)) = z := ⟨_, rfl⟩
    rw [htt, htf, hte] at C1 C2
    rw [hwy, hwe] at C3 C4
    rw [hxs, hve] at C5 C6
    rw [hxs] at HX1
    clear htt htf hte hwy hwe hve hxs HDD HSD HSC HDA HCA HLC
    go_upto_region 4 with fail
    obtain ⟨w3, hw3, hg3, hf3, _⟩ := one_block w2 25 (cellsC d)
    rw [hw3]
    have HG3 : Hid (Grow w2 w3) := hg3
    have HK3 := Lib.hid hf3
    have HF3 := Lib.hid (hg3.block HF2.out)
    have HS3 := Lib.hid (hg3.block HS2.out)
    clear hw3 hg3 hf3 HF2 HS2
    have kc := HK3.out.cell
    have fc := HF3.out.cell
    have jc := HS3.out.cell
    go_wp2_with fail
    refine (C1.out _ HG3.out).mono ?_
    rintro e w4 ⟨rfl, hb4⟩
    have HX4 : Hid (Grow w3 w4) := hb4
    have HG4 : Hid (Grow w2 w4) := Lib.hid (HG3.out.trans hb4)
    have HK4 := Lib.hid (HX4.out.block HK3.out)
    have HF4 := Lib.hid (HX4.out.block HF3.out)
    have HS4 := Lib.hid (HX4.out.block HS3.out)
    clear hb4 kc fc jc HK3 HF3 HS3
    have kc := HK4.out.cell
    have fc := HF4.out.cell
    have jc := HS4.out.cell
    go_wp2_with fail
    refine (C2.out _ HG4.out).mono ?_
    rintro e w5 ⟨rfl, hb5⟩
    have HX5 : Hid (Grow w4 w5) := hb5
    have HG5 : Hid (Grow w2 w5) := Lib.hid (HG4.out.trans hb5)
    have HK5 := Lib.hid (HX5.out.block HK4.out)
    have HF5 := Lib.hid (HX5.out.block HF4.out)
    have HS5 := Lib.hid (HX5.out.block HS4.out)
    clear hb5 kc fc jc HK4 HF4 HS4
    have kc := HK5.out.cell
    have fc := HF5.out.cell
    have jc := HS5.out.cell
    go_wp2_with fail
    refine (C3.out _ HG5.out).mono ?_
    rintro e w6 ⟨rfl, hb6⟩
    have HX6 : Hid (Grow w5 w6) := hb6
    have HG6 : Hid (Grow w2 w6) := Lib.hid (HG5.out.trans hb6)
    have HK6 := Lib.hid (HX6.out.block HK5.out)
    have HF6 := Lib.hid (HX6.out.block HF5.out)
    have HS6 := Lib.hid (HX6.out.block HS5.out)
    clear hb6 kc fc jc HK5 HF5 HS5
    have kc := HK6.out.cell
    have fc := HF6.out.cell
    have jc := HS6.out.cell
    go_wp2_with fail
    refine (C4.out _ HG6.out).mono ?_
    rintro e w7 ⟨rfl, hb7⟩
    have HX7 : Hid (Grow w6 w7) := hb7
    have HG7 : Hid (Grow w2 w7) := Lib.hid (HG6.out.trans hb7)
    have HK7 := Lib.hid (HX7.out.block HK6.out)
    have HF7 := Lib.hid (HX7.out.block HF6.out)
    have HS7 := Lib.hid (HX7.out.block HS6.out)
    clear hb7 kc fc jc HK6 HF6 HS6
    have kc := HK7.out.cell
    have fc := HF7.out.cell
    have jc := HS7.out.cell
    go_wp2_with fail
    refine (C5.out _ HG7.out).mono ?_
    rintro e w8 ⟨A1, p1, rfl, hi1, hb8⟩
    have HX8 : Hid (Grow w7 w8) := hb8
    have HG8 : Hid (Grow w2 w8) := Lib.hid (HG7.out.trans hb8)
    have HK8 := Lib.hid (HX8.out.block HK7.out)
    have HF8 := Lib.hid (HX8.out.block HF7.out)
    have HS8 := Lib.hid (HX8.out.block HS7.out)
    have HI1 := Lib.hid hi1
    clear hi1
    clear hb8 kc fc jc HK7 HF7 HS7
    have kc := HK8.out.cell
    have fc := HF8.out.cell
    have jc := HS8.out.cell
    go_wp2_with fail
    refine (C6.out _ HG8.out).mono ?_
    rintro e w9 ⟨A2, p2, rfl, hi2, hb9⟩
    have HX9 : Hid (Grow w8 w9) := hb9
    have HG9 : Hid (Grow w2 w9) := Lib.hid (HG8.out.trans hb9)
    have HK9 := Lib.hid (HX9.out.block HK8.out)
    have HF9 := Lib.hid (HX9.out.block HF8.out)
    have HS9 := Lib.hid (HX9.out.block HS8.out)
    have HI2 := Lib.hid hi2
    clear hi2
    clear hb9 kc fc jc HK8 HF8 HS8
    have hq1 : (tf == tf) = true := by simp
    have hq2 : (te == te) = true := by simp
    have hq3 : (we == we) = true := by simp
    have hq4 : (ve == ve) = true := by simp
    have hq5 : (((tt : Nat) : Int) == ((tt : Nat) : Int)) = true := by simp
    have hq6 : (((wy : Nat) : Int) == ((wy : Nat) : Int)) = true := by simp
    have J1 := Lib.hid (HI1.out.below HX9.out)
    have J2 := Lib.hid HI2.out
    have HGE : Hid (Grow w w9) := Lib.hid (HG2.out.trans HG9.out)
    clear HI1 HI2 HX4 HX5 HX6 HX7 HX8 HX9 HK9 HF9 HS9 HG2 HG3 HG4 HG5 HG6 HG7 HG8 HG9 C1 C2 C3 C4 C5 C6
    go_wp2_with fail
    refine (same_self A1 A2 p1 p2 _ _ xs _ J1.out J2.out HX1.out).mono ?_
    rintro e w11 ⟨rfl, q1, rfl⟩
    go_wp2_with fail
    refine (works_any _).mono ?_
    rintro e w12 ⟨rfl, hb12⟩
    have HGF : Hid (Grow w w12) := Lib.hid (HGE.out.trans (Grow.trans (Below.drewN_ (Below.refl _ _) q1) hb12))
    clear hb12 hq1 hq2 hq3 hq4 hq5 hq6
    go_wp2
    go_ret
    exact ⟨rfl, HGF.out⟩

end Go.Proofs.Yticeekkfdkfcgaa
