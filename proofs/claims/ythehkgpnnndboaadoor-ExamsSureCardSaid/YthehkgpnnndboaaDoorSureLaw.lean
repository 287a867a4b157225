/- SureLaw: the law ExamsSure answers true at any paper and any points; written by wip/tools/surelaw9.py. -/
import Derived.Test.YthehkgpnnndboaaDoorInside
import Derived.Test.YthehkgpnnndboaaDoorGrade
namespace Go.Proofs.YthehkgpnnndboaaDoor
open Go.RowKit

theorem natsL_length (l : List Nat) : (natsL l).length = l.length := by unfold natsL; exact List.length_map _
theorem in_nats {l : List Nat} {j : Nat} (h : decide ((j : Int) ∈ natsL l) = true) : j ∈ l := by
  have := of_decide_eq_true h
  unfold natsL at this
  obtain ⟨k, hk, e⟩ := List.mem_map.1 this
  have : k = j := by have e2 : (k : Int) = (j : Int) := e; omega
  rwa [← this]
set_option maxRecDepth 100000 in
set_option maxHeartbeats 32000000 in
theorem sure_any (p : PaperR) (A : Option Addr) (ca : Nat) (xs : List Int) (w : World) (hA : PaperAt w w.heap.size p) (hI : Ints w w.heap.size A xs) (hG : Glob w) :
    Calls Tryd.prog 7 #[paperV p, .slice A xs.length ca] w fun e w' => e = .returned (.bool true) ∧ Below w.heap.size w w' := by
  have HWK := Lib.hid (fun (w0 : World) (hw : Grow w w0) => works_any w0 (hG.grow hw))
  have HRY := Lib.hid (fun (w0 : World) (hw : Grow w w0) => ready_any p w0 (hA.grow hw))
  have HPA := Lib.hid (fun (w0 : World) (hw : Grow w w0) => hA.grow hw)
  have HGL := Lib.hid (fun (w0 : World) (hw : Grow w w0) => hG.grow hw)
  have HIX := Lib.hid (fun (w0 : World) (hw : Grow w w0) => (hI.below hw).more hw.size)
  obtain ⟨rd, hrd⟩ : ∃ z, readyP p = z := ⟨_, rfl⟩
  have HRD : Hid (readyP p = rd) := Lib.hid hrd
  rw [hrd] at HRY
  clear hrd hA hI hG
  go_enter Tryd.func7, Tryd.ntmps7
  go_upto_region 1 with fail
  obtain ⟨W, hW, hgr, hf, hsz⟩ := one_block w 26 (cellsP p)
  rw [hW]
  clear hW
  have HG := Lib.hid hgr
  have HF := Lib.hid hf
  have hcc := hf.cell
  clear hgr hf
  go_wp2_with fail
  refine (HRY.out W HG.out).mono ?_
  rintro e w1 ⟨rfl, hb1⟩
  have HG1 : Hid (Grow w w1) := Lib.hid (HG.out.trans hb1)
  have HF1 := Lib.hid ((show Grow W w1 from hb1).block HF.out)
  clear hb1 hcc HG HF HRY
  have hcc := HF1.out.cell
  cases rd with
  | false =>
    go_wp2_with fail
    refine (HWK.out _ HG1.out).mono ?_
    rintro e w9 ⟨rfl, hb9⟩
    have HG9 : Hid (Grow w w9) := Lib.hid ((HG1.out).trans hb9)
    clear hb9
    go_wp2_with fail
    go_ret
    exact ⟨rfl, HG9.out⟩
  | true =>
  obtain ⟨hok, G, hs, hj3⟩ := ready_parts HRD.out
  by_cases x20 : 20 < xs.length
  · have hd1 : decide ((20 : Int) < (xs.length : Int)) = true := decide_eq_true (by omega)
    go_wp2_with fail
    refine (HWK.out _ HG1.out).mono ?_
    rintro e w9 ⟨rfl, hb9⟩
    have HG9 : Hid (Grow w w9) := Lib.hid ((HG1.out).trans hb9)
    clear hb9
    go_wp2_with fail
    go_ret
    exact ⟨rfl, HG9.out⟩
  have hd1 : decide ((20 : Int) < (xs.length : Int)) = false := decide_eq_false (by omega)
  have HPX := Lib.hid (fun (w0 : World) (hw : Grow w w0) => rIsPossible_any p G A ca xs (by omega) w0 (HPA.out w0 hw) (HIX.out w0 hw))
  go_wp2_with fail
  refine (HPX.out _ HG1.out).mono ?_
  rintro e w2 ⟨rfl, hb2⟩
  have HG2 : Hid (Grow w w2) := Lib.hid (HG1.out.trans hb2)
  have HF2 := Lib.hid ((show Grow w1 w2 from hb2).block HF1.out)
  clear hb2 hcc HF1 HPX hd1
  have hcc := HF2.out.cell
  cases hps : possD p.d xs with
  | false =>
    clear hps
    go_wp2_with fail
    refine (HWK.out _ HG2.out).mono ?_
    rintro e w9 ⟨rfl, hb9⟩
    have HG9 : Hid (Grow w w9) := Lib.hid ((HG2.out).trans hb9)
    clear hb9
    go_wp2_with fail
    go_ret
    exact ⟨rfl, HG9.out⟩
  | true =>
  have HPS := Lib.hid hps
  have hT : truthsL p.d ≠ [] := truths_some.2 ⟨xs, hps⟩
  have hfi : fitsI p.items xs = true := by
    have h := hps
    unfold possD at h
    rw [Bool.and_eq_true] at h
    exact h.1
  have hlx := fitsI_len hfi
  have hn0 := num_some hok hT
  have HRG := Lib.hid (fun (w0 : World) (hw : Grow w w0) => rangeApi_any p w0 (HPA.out w0 hw) hs (HGL.out w0 hw))
  have HPT := Lib.hid (fun (w0 : World) (hw : Grow w w0) => points_good p w0 (HPA.out w0 hw) hs (HGL.out w0 hw) hn0)
  have HGD := Lib.hid (fun (w0 : World) (hw : Grow w w0) => gradeApi_any p w0 (HPA.out w0 hw) hs (HGL.out w0 hw))
  have HBL := Lib.hid (fun (w0 : World) (hw : Grow w w0) => blameApi_any p w0 (HPA.out w0 hw) hs)
  have HRS := Lib.hid (fun (w0 : World) (hw : Grow w w0) => rResult_any p G A ca xs hfi w0 (HPA.out w0 hw) (HIX.out w0 hw))
  have HGO := Lib.hid (fun (w0 : World) (hw : Grow w w0) => rGradeOf_any p (resD p.items xs) w0 (HPA.out w0 hw) (by have : p.grades.length ≤ 5 := G.gr; omega))
  have hrin := (range_is G hT).2.2 xs hps
  have hgin := (grade_is G hT).2.2 _ (grades_mem.2 ⟨xs, hps, rfl⟩)
  have HPI := Lib.hid (fun (k : Nat) (hk : k < p.items.length) => point_is (d := p.d) G hT (k := k) hk hps)
  have HBW := Lib.hid (fun (j : Nat) (hj : j ∈ blameL p.d) => blame_wrong hps hj)
  have HRI := Lib.hid (fun (k : Nat) (x : JudgeR) (hx : p.judges[k]? = some x) (w0 : World) (hw : Grow w w0) => rIsRight_any x A ca xs w0 ((HPA.out w0 hw).marks x (List.mem_of_getElem? hx)) (HIX.out w0 hw)
    (G.ju x.d (List.mem_map_of_mem (List.mem_of_getElem? hx))).1 (G.ju x.d (List.mem_map_of_mem (List.mem_of_getElem? hx))).2.1 (G.ju x.d (List.mem_map_of_mem (List.mem_of_getElem? hx))).2.2.2
    (by have h1 := (G.ju x.d (List.mem_map_of_mem (List.mem_of_getElem? hx))).2.2.1; have h2 : p.d.items.length = p.items.length := rfl; omega) (by have h3 := G.i4; have h2 : p.d.items.length = p.items.length := rfl; omega) (fits_bound G hfi))
  have HBLN : Hid ((blameL p.d).length ≤ 4) := Lib.hid (by
    have h := List.length_filter_le (fun j => (truthsL p.d).all fun ps => !rightJ (p.d.judges.getD j ⟨0, 0, 0, []⟩) ps) (List.range p.d.judges.length)
    have h2 := G.j4
    rw [List.length_range] at h
    unfold blameL
    omega)
  unfold rangeV at HRG
  unfold gradeV at HGD
  unfold blameV at HBL
  rw [hn0, if_pos rfl] at HRG HGD HBL
  have HLX := Lib.hid hlx
  rw [← hlx] at HPT HPI
  have hgd : gradeOf p.d xs = gradeD p.grades (resD p.items xs) := rfl
  rw [hgd] at hgin
  obtain ⟨rx, hrx⟩ : ∃ z, resD p.items xs = z := ⟨_, rfl⟩
  have hrx2 : resD p.d.items xs = rx := hrx
  rw [hrx2] at hrin
  rw [hrx] at HRS HGO hgin
  obtain ⟨gx, hgx⟩ : ∃ z, gradeD p.grades rx = z := ⟨_, rfl⟩
  rw [hgx] at HGO hgin
  obtain ⟨⟨r1, r2⟩, hrr⟩ : ∃ z, rangeD p.d = z := ⟨_, rfl⟩
  rw [hrr] at HRG hrin
  obtain ⟨⟨g1, g2⟩, hgg⟩ : ∃ z, gradeS p.d = z := ⟨_, rfl⟩
  rw [hgg] at HGD hgin
  have HIN1 := Lib.hid (fun w0 => inside_yes (n := rx) (a := r1) (b := r2) hrin w0)
  have HIN2 := Lib.hid (fun w0 => inside_yes (n := (gx : Int)) (a := g1) (b := g2) hgin w0)
  obtain ⟨bl, hbl⟩ : ∃ z, blameL p.d = z := ⟨_, rfl⟩
  rw [hbl] at HBL HBW HBLN
  have hx4 : xs.length ≤ 4 := by have : p.items.length ≤ 4 := G.i4; omega
  have hj4 : p.judges.length ≤ 3 := hj3
  clear hps hT hfi hlx hn0 hrin hgin hgd hrx hrx2 hgx hrr hgg hbl hs
  go_wp2_with fail
  refine (HRG.out _ HG2.out).mono ?_
  rintro e w3 ⟨rfl, hb3⟩
  have HG3 : Hid (Grow w w3) := Lib.hid (HG2.out.trans hb3)
  have HF3 := Lib.hid ((show Grow w2 w3 from hb3).block HF2.out)
  clear hb3 hcc HF2 HRG
  go_upto_region 4 with fail
  obtain ⟨w4, hw4, hg4, hf4, hs4⟩ := one_block w3 33 #[.int .i64 r1, .int .i64 r2]
  rw [show w3.alloc (.cells #[.int .i64 r1, .int .i64 r2] 33) = w4 from hw4]
  clear hw4
  have HS4 := Lib.hid hf4
  have HF4 := Lib.hid (hg4.block HF3.out)
  have HG4 : Hid (Grow w w4) := Lib.hid (HG3.out.trans hg4)
  obtain ⟨sb, hsb⟩ : ∃ z, w3.heap.size = z := ⟨_, rfl⟩
  rw [hsb] at HS4 hs4 ⊢
  clear hf4 hg4 hsb HF3
  have hcc := HF4.out.cell
  go_wp2_with fail
  refine (HPT.out _ HG4.out).mono ?_
  rintro e w5 ⟨⟨pb, rfl, hpb⟩, hb5⟩
  have HPB5 := Lib.hid hpb
  have HG5' : Hid (Grow w w5) := Lib.hid (HG4.out.trans hb5)
  have HF5 := Lib.hid ((show Grow w4 w5 from hb5).block HF4.out)
  have HS5 := Lib.hid ((show Grow w4 w5 from hb5).block HS4.out)
  clear hb5 hcc hpb HF4 HS4 HPT
  have hcc := HF5.out.cell
  go_wp2_with fail
  refine (HGD.out _ HG5'.out).mono ?_
  rintro e w6 ⟨rfl, hb6⟩
  have HG6 : Hid (Grow w w6) := Lib.hid (HG5'.out.trans hb6)
  have HF6 := Lib.hid ((show Grow w5 w6 from hb6).block HF5.out)
  have HS6 := Lib.hid ((show Grow w5 w6 from hb6).block HS5.out)
  have HPB6 := Lib.hid ((show Grow w5 w6 from hb6).block HPB5.out)
  clear hb6 hcc HF5 HS5 HPB5 HGD
  go_upto_region 6 with fail
  obtain ⟨w7, hw7, hg7, hf7, hs7⟩ := one_block w6 33 #[.int .i64 g1, .int .i64 g2]
  rw [show w6.alloc (.cells #[.int .i64 g1, .int .i64 g2] 33) = w7 from hw7]
  clear hw7
  have HH7 := Lib.hid hf7
  have HF7 := Lib.hid (hg7.block HF6.out)
  have HS7 := Lib.hid (hg7.block HS6.out)
  have HPB7 := Lib.hid (hg7.block HPB6.out)
  have HG7 : Hid (Grow w w7) := Lib.hid (HG6.out.trans hg7)
  obtain ⟨hb', hhb⟩ : ∃ z, w6.heap.size = z := ⟨_, rfl⟩
  rw [hhb] at HH7 hs7 ⊢
  clear hf7 hg7 hhb HF6 HS6 HPB6
  have hcc := HF7.out.cell
  go_wp2_with fail
  refine (HBL.out _ HG7.out).mono ?_
  rintro e w8 ⟨B, cb, rfl, hbi, hb8⟩
  have HBI8 := Lib.hid hbi
  have HG8 : Hid (Grow w w8) := Lib.hid (HG7.out.trans hb8)
  have HF8 := Lib.hid ((show Grow w7 w8 from hb8).block HF7.out)
  have HS8 := Lib.hid ((show Grow w7 w8 from hb8).block HS7.out)
  have HPB8 := Lib.hid ((show Grow w7 w8 from hb8).block HPB7.out)
  have HH8 := Lib.hid ((show Grow w7 w8 from hb8).block HH7.out)
  clear hb8 hcc hbi HF7 HS7 HPB7 HH7 HBL
  have hcc := HF8.out.cell
  go_wp2_with fail
  refine (HRS.out _ HG8.out).mono ?_
  rintro e wa ⟨rfl, hba⟩
  have HGA : Hid (Grow w wa) := Lib.hid (HG8.out.trans hba)
  have HFA := Lib.hid ((show Grow w8 wa from hba).block HF8.out)
  have HSA := Lib.hid ((show Grow w8 wa from hba).block HS8.out)
  have HPBA := Lib.hid ((show Grow w8 wa from hba).block HPB8.out)
  have HHA := Lib.hid ((show Grow w8 wa from hba).block HH8.out)
  have HBIA : Hid (Ints wa wa.heap.size B (natsL bl)) := Lib.hid ((HBI8.out.below hba).more (show Grow w8 wa from hba).size)
  clear hba hcc HF8 HS8 HPB8 HH8 HBI8 HRS HG1 HG2 HG3 HG4 HG5' HG6 HG7 HG8
  go_upto_region 8 with fail
  refine wp_region_lit 35 [[], [(0, 54)], [(1, 55)], [(2, 56)], [(2, 56), (3, 57)], [(2, 56), (4, 58)], [(5, 59)], [(6, 60)], [(6, 60), (7, 61)], [(6, 60), (8, 62)], [(9, 63)], [(10, 64)], [(10, 64), (11, 65)], [(10, 64), (12, 66)], [(13, 67)], [(14, 68)], [(14, 68), (15, 69)], [(14, 68)], [(14, 68), (17, 71)], [(14, 68), (16, 70), (18, 72)], [(14, 68), (19, 73)], [(20, 74)], [(21, 75)], [(21, 75)], [(21, 75), (22, 76), (23, 77)], [(21, 75), (24, 78)], [(21, 75), (25, 79)], [(26, 80)], [(27, 81)], [(27, 81)], [(27, 81), (28, 82), (29, 83)], [(27, 81)], [(27, 81), (30, 84), (31, 85)], [(27, 81), (32, 86)], [(27, 81), (33, 87)]] Grow (fun qi v w' => match qi with
      | 0 => v = .int .i64 0
      | 1 => v = .bool false
      | 2 => v = .bool false
      | 3 => v = .int .i64 0
      | 4 => v = .bool false
      | 5 => v = .bool false
      | 6 => v = .bool false
      | 7 => v = .int .i64 0
      | 8 => v = .bool false
      | 9 => v = .bool false
      | 10 => v = .bool false
      | 11 => v = .int .i64 0
      | 12 => v = .bool false
      | 13 => v = .bool false
      | 14 => v = .bool false
      | 15 => v = .slice (some ⟨pb, 0, none⟩) xs.length xs.length
      | 16 => v = .int .i64 (xs.length : Nat)
      | 17 => v = .slice A xs.length ca
      | 18 => v = .int .i64 (xs.length : Nat)
      | 19 => v = .bool false
      | 20 => v = .bool false
      | 21 => v = .bool false
      | 22 => v = .int .i64 rx
      | 23 => v = spanV (r1, r2)
      | 24 => v = .bool true
      | 25 => v = .bool false
      | 26 => v = .bool false
      | 27 => v = .bool false
      | 28 => v = paperV p
      | 29 => v = .int .i64 rx
      | 30 => v = .int .i64 (gx : Nat)
      | 31 => v = spanV (g1, g2)
      | 32 => v = .bool true
      | 33 => v = .bool false
      | 34 => v = .bool false
      | _ => False) (by kernel_rfl) (by kernel_rfl) (fun _ _ _ => Grow.trans) Grow.refl ?_ ?_ ?_
  · intro i v y y' h k
    match i, h with
    | 0, h | 1, h | 2, h | 3, h | 4, h | 5, h | 6, h | 7, h | 8, h | 9, h | 10, h | 11, h | 12, h | 13, h | 14, h | 15, h | 16, h | 17, h | 18, h | 19, h | 20, h | 21, h | 22, h | 23, h | 24, h | 25, h | 26, h | 27, h | 28, h | 29, h | 30, h | 31, h | 32, h | 33, h | 34, h => exact h
  · simp only [StepsLit, List.take_succ_cons, List.take_zero]
    refine ⟨?_, ?_, ?_, ?_, ?_, ?_, ?_, ?_, ?_, ?_, ?_, ?_, ?_, ?_, ?_, ?_, ?_, ?_, ?_, ?_, ?_, ?_, ?_, ?_, ?_, ?_, ?_, ?_, ?_, ?_, ?_, ?_, ?_, ?_, ?_, trivial⟩
    · intro w5 hR
      have hGw : Grow wa w5 := hR.of_drew
      have HGW := Lib.hid hGw
      have hcc := (HGW.out.block HFA.out).cell
      have hsc := (HGW.out.block HSA.out).cell
      have hhc := (HGW.out.block HHA.out).cell
      clear hR hGw
      simp only [depV]
      try go_simp
      all_goals first
        | (with_reducible exact Grow.refl _)
        | (with_reducible exact ⟨Grow.refl _, rfl⟩)
    · intro w5 hR
      have hGw : Grow wa w5 := hR.of_drew
      have HGW := Lib.hid hGw
      have hcc := (HGW.out.block HFA.out).cell
      have hsc := (HGW.out.block HSA.out).cell
      have hhc := (HGW.out.block HHA.out).cell
      clear hR hGw
      simp only [depV]
      rintro _ rfl
      try go_simp
      all_goals first
        | (with_reducible exact Grow.refl _)
        | (with_reducible exact ⟨Grow.refl _, rfl⟩)
    · intro w5 hR
      have hGw : Grow wa w5 := hR.of_drew
      have HGW := Lib.hid hGw
      have hcc := (HGW.out.block HFA.out).cell
      have hsc := (HGW.out.block HSA.out).cell
      have hhc := (HGW.out.block HHA.out).cell
      clear hR hGw
      simp only [depV]
      rintro _ rfl
      try go_simp
      all_goals first
        | (with_reducible exact Grow.refl _)
        | (with_reducible exact ⟨Grow.refl _, rfl⟩)
    · intro w5 hR
      have hGw : Grow wa w5 := hR.of_drew
      have HGW := Lib.hid hGw
      have hcc := (HGW.out.block HFA.out).cell
      have hsc := (HGW.out.block HSA.out).cell
      have hhc := (HGW.out.block HHA.out).cell
      clear hR hGw
      simp only [depV]
      rintro _ rfl
      try go_simp
      all_goals first
        | (with_reducible exact Grow.refl _)
        | (with_reducible exact ⟨Grow.refl _, rfl⟩)
    · intro w5 hR
      have hGw : Grow wa w5 := hR.of_drew
      have HGW := Lib.hid hGw
      have hcc := (HGW.out.block HFA.out).cell
      have hsc := (HGW.out.block HSA.out).cell
      have hhc := (HGW.out.block HHA.out).cell
      clear hR hGw
      simp only [depV]
      rintro _ rfl
      rintro _ rfl
      try go_simp
      all_goals first
        | (with_reducible exact Grow.refl _)
        | (with_reducible exact ⟨Grow.refl _, rfl⟩)
    · intro w5 hR
      have hGw : Grow wa w5 := hR.of_drew
      have HGW := Lib.hid hGw
      have hcc := (HGW.out.block HFA.out).cell
      have hsc := (HGW.out.block HSA.out).cell
      have hhc := (HGW.out.block HHA.out).cell
      clear hR hGw
      simp only [depV]
      rintro _ rfl
      rintro _ rfl
      try go_simp
      all_goals first
        | (with_reducible exact Grow.refl _)
        | (with_reducible exact ⟨Grow.refl _, rfl⟩)
    · intro w5 hR
      have hGw : Grow wa w5 := hR.of_drew
      have HGW := Lib.hid hGw
      have hcc := (HGW.out.block HFA.out).cell
      have hsc := (HGW.out.block HSA.out).cell
      have hhc := (HGW.out.block HHA.out).cell
      clear hR hGw
      simp only [depV]
      rintro _ rfl
      try go_simp
      all_goals first
        | (with_reducible exact Grow.refl _)
        | (with_reducible exact ⟨Grow.refl _, rfl⟩)
    · intro w5 hR
      have hGw : Grow wa w5 := hR.of_drew
      have HGW := Lib.hid hGw
      have hcc := (HGW.out.block HFA.out).cell
      have hsc := (HGW.out.block HSA.out).cell
      have hhc := (HGW.out.block HHA.out).cell
      clear hR hGw
      simp only [depV]
      rintro _ rfl
      try go_simp
      all_goals first
        | (with_reducible exact Grow.refl _)
        | (with_reducible exact ⟨Grow.refl _, rfl⟩)
    · intro w5 hR
      have hGw : Grow wa w5 := hR.of_drew
      have HGW := Lib.hid hGw
      have hcc := (HGW.out.block HFA.out).cell
      have hsc := (HGW.out.block HSA.out).cell
      have hhc := (HGW.out.block HHA.out).cell
      clear hR hGw
      simp only [depV]
      rintro _ rfl
      rintro _ rfl
      try go_simp
      all_goals first
        | (with_reducible exact Grow.refl _)
        | (with_reducible exact ⟨Grow.refl _, rfl⟩)
    · intro w5 hR
      have hGw : Grow wa w5 := hR.of_drew
      have HGW := Lib.hid hGw
      have hcc := (HGW.out.block HFA.out).cell
      have hsc := (HGW.out.block HSA.out).cell
      have hhc := (HGW.out.block HHA.out).cell
      clear hR hGw
      simp only [depV]
      rintro _ rfl
      rintro _ rfl
      try go_simp
      all_goals first
        | (with_reducible exact Grow.refl _)
        | (with_reducible exact ⟨Grow.refl _, rfl⟩)
    · intro w5 hR
      have hGw : Grow wa w5 := hR.of_drew
      have HGW := Lib.hid hGw
      have hcc := (HGW.out.block HFA.out).cell
      have hsc := (HGW.out.block HSA.out).cell
      have hhc := (HGW.out.block HHA.out).cell
      clear hR hGw
      simp only [depV]
      rintro _ rfl
      try go_simp
      all_goals first
        | (with_reducible exact Grow.refl _)
        | (with_reducible exact ⟨Grow.refl _, rfl⟩)
    · intro w5 hR
      have hGw : Grow wa w5 := hR.of_drew
      have HGW := Lib.hid hGw
      have hcc := (HGW.out.block HFA.out).cell
      have hsc := (HGW.out.block HSA.out).cell
      have hhc := (HGW.out.block HHA.out).cell
      clear hR hGw
      simp only [depV]
      rintro _ rfl
      try go_simp
      all_goals first
        | (with_reducible exact Grow.refl _)
        | (with_reducible exact ⟨Grow.refl _, rfl⟩)
    · intro w5 hR
      have hGw : Grow wa w5 := hR.of_drew
      have HGW := Lib.hid hGw
      have hcc := (HGW.out.block HFA.out).cell
      have hsc := (HGW.out.block HSA.out).cell
      have hhc := (HGW.out.block HHA.out).cell
      clear hR hGw
      simp only [depV]
      rintro _ rfl
      rintro _ rfl
      try go_simp
      all_goals first
        | (with_reducible exact Grow.refl _)
        | (with_reducible exact ⟨Grow.refl _, rfl⟩)
    · intro w5 hR
      have hGw : Grow wa w5 := hR.of_drew
      have HGW := Lib.hid hGw
      have hcc := (HGW.out.block HFA.out).cell
      have hsc := (HGW.out.block HSA.out).cell
      have hhc := (HGW.out.block HHA.out).cell
      clear hR hGw
      simp only [depV]
      rintro _ rfl
      rintro _ rfl
      try go_simp
      all_goals first
        | (with_reducible exact Grow.refl _)
        | (with_reducible exact ⟨Grow.refl _, rfl⟩)
    · intro w5 hR
      have hGw : Grow wa w5 := hR.of_drew
      have HGW := Lib.hid hGw
      have hcc := (HGW.out.block HFA.out).cell
      have hsc := (HGW.out.block HSA.out).cell
      have hhc := (HGW.out.block HHA.out).cell
      clear hR hGw
      simp only [depV]
      rintro _ rfl
      try go_simp
      all_goals first
        | (with_reducible exact Grow.refl _)
        | (with_reducible exact ⟨Grow.refl _, rfl⟩)
    · intro w5 hR
      have hGw : Grow wa w5 := hR.of_drew
      have HGW := Lib.hid hGw
      have hcc := (HGW.out.block HFA.out).cell
      have hsc := (HGW.out.block HSA.out).cell
      have hhc := (HGW.out.block HHA.out).cell
      clear hR hGw
      simp only [depV]
      rintro _ rfl
      try go_simp
      all_goals first
        | (with_reducible exact Grow.refl _)
        | (with_reducible exact ⟨Grow.refl _, rfl⟩)
    · intro w5 hR
      have hGw : Grow wa w5 := hR.of_drew
      have HGW := Lib.hid hGw
      have hcc := (HGW.out.block HFA.out).cell
      have hsc := (HGW.out.block HSA.out).cell
      have hhc := (HGW.out.block HHA.out).cell
      clear hR hGw
      simp only [depV]
      rintro _ rfl
      rintro _ rfl
      try go_simp
      all_goals first
        | (with_reducible exact Grow.refl _)
        | (with_reducible exact ⟨Grow.refl _, rfl⟩)
    · intro w5 hR
      have hGw : Grow wa w5 := hR.of_drew
      have HGW := Lib.hid hGw
      have hcc := (HGW.out.block HFA.out).cell
      have hsc := (HGW.out.block HSA.out).cell
      have hhc := (HGW.out.block HHA.out).cell
      clear hR hGw
      simp only [depV]
      rintro _ rfl
      try go_simp
      all_goals first
        | (with_reducible exact Grow.refl _)
        | (with_reducible exact ⟨Grow.refl _, rfl⟩)
    · intro w5 hR
      have hGw : Grow wa w5 := hR.of_drew
      have HGW := Lib.hid hGw
      have hcc := (HGW.out.block HFA.out).cell
      have hsc := (HGW.out.block HSA.out).cell
      have hhc := (HGW.out.block HHA.out).cell
      clear hR hGw
      simp only [depV]
      rintro _ rfl
      rintro _ rfl
      try go_simp
      all_goals first
        | (with_reducible exact Grow.refl _)
        | (with_reducible exact ⟨Grow.refl _, rfl⟩)
    · intro w5 hR
      have hGw : Grow wa w5 := hR.of_drew
      have HGW := Lib.hid hGw
      have hcc := (HGW.out.block HFA.out).cell
      have hsc := (HGW.out.block HSA.out).cell
      have hhc := (HGW.out.block HHA.out).cell
      clear hR hGw
      simp only [depV]
      rintro _ rfl
      rintro _ rfl
      rintro _ rfl
      try go_simp
      all_goals first
        | (with_reducible exact Grow.refl _)
        | (with_reducible exact ⟨Grow.refl _, rfl⟩)
    · intro w5 hR
      have hGw : Grow wa w5 := hR.of_drew
      have HGW := Lib.hid hGw
      have hcc := (HGW.out.block HFA.out).cell
      have hsc := (HGW.out.block HSA.out).cell
      have hhc := (HGW.out.block HHA.out).cell
      clear hR hGw
      simp only [depV]
      rintro _ rfl
      rintro _ rfl
      try go_simp
      all_goals first
        | (with_reducible exact Grow.refl _)
        | (with_reducible exact ⟨Grow.refl _, rfl⟩)
    · intro w5 hR
      have hGw : Grow wa w5 := hR.of_drew
      have HGW := Lib.hid hGw
      have hcc := (HGW.out.block HFA.out).cell
      have hsc := (HGW.out.block HSA.out).cell
      have hhc := (HGW.out.block HHA.out).cell
      clear hR hGw
      simp only [depV]
      rintro _ rfl
      try go_simp
      all_goals first
        | (with_reducible exact Grow.refl _)
        | (with_reducible exact ⟨Grow.refl _, rfl⟩)
    · intro w5 hR
      have hGw : Grow wa w5 := hR.of_drew
      have HGW := Lib.hid hGw
      have hcc := (HGW.out.block HFA.out).cell
      have hsc := (HGW.out.block HSA.out).cell
      have hhc := (HGW.out.block HHA.out).cell
      clear hR hGw
      simp only [depV]
      rintro _ rfl
      try go_simp
      all_goals first
        | (with_reducible exact Grow.refl _)
        | (with_reducible exact ⟨Grow.refl _, rfl⟩)
    · intro w5 hR
      have hGw : Grow wa w5 := hR.of_drew
      have HGW := Lib.hid hGw
      have hcc := (HGW.out.block HFA.out).cell
      have hsc := (HGW.out.block HSA.out).cell
      have hhc := (HGW.out.block HHA.out).cell
      clear hR hGw
      simp only [depV]
      rintro _ rfl
      try go_simp
      all_goals first
        | (with_reducible exact Grow.refl _)
        | (with_reducible exact ⟨Grow.refl _, rfl⟩)
    · intro w5 hR
      have hGw : Grow wa w5 := hR.of_drew
      have HGW := Lib.hid hGw
      have hcc := (HGW.out.block HFA.out).cell
      have hsc := (HGW.out.block HSA.out).cell
      have hhc := (HGW.out.block HHA.out).cell
      clear hR hGw
      simp only [depV]
      rintro _ rfl
      rintro _ rfl
      rintro _ rfl
      try go_simp
      refine (HIN1.out w5).mono ?_
      rintro e w6 ⟨rfl, hb6⟩
      exact ⟨hb6, rfl⟩
    · intro w5 hR
      have hGw : Grow wa w5 := hR.of_drew
      have HGW := Lib.hid hGw
      have hcc := (HGW.out.block HFA.out).cell
      have hsc := (HGW.out.block HSA.out).cell
      have hhc := (HGW.out.block HHA.out).cell
      clear hR hGw
      simp only [depV]
      rintro _ rfl
      rintro _ rfl
      try go_simp
      all_goals first
        | (with_reducible exact Grow.refl _)
        | (with_reducible exact ⟨Grow.refl _, rfl⟩)
    · intro w5 hR
      have hGw : Grow wa w5 := hR.of_drew
      have HGW := Lib.hid hGw
      have hcc := (HGW.out.block HFA.out).cell
      have hsc := (HGW.out.block HSA.out).cell
      have hhc := (HGW.out.block HHA.out).cell
      clear hR hGw
      simp only [depV]
      rintro _ rfl
      rintro _ rfl
      try go_simp
      all_goals first
        | (with_reducible exact Grow.refl _)
        | (with_reducible exact ⟨Grow.refl _, rfl⟩)
    · intro w5 hR
      have hGw : Grow wa w5 := hR.of_drew
      have HGW := Lib.hid hGw
      have hcc := (HGW.out.block HFA.out).cell
      have hsc := (HGW.out.block HSA.out).cell
      have hhc := (HGW.out.block HHA.out).cell
      clear hR hGw
      simp only [depV]
      rintro _ rfl
      try go_simp
      all_goals first
        | (with_reducible exact Grow.refl _)
        | (with_reducible exact ⟨Grow.refl _, rfl⟩)
    · intro w5 hR
      have hGw : Grow wa w5 := hR.of_drew
      have HGW := Lib.hid hGw
      have hcc := (HGW.out.block HFA.out).cell
      have hsc := (HGW.out.block HSA.out).cell
      have hhc := (HGW.out.block HHA.out).cell
      clear hR hGw
      simp only [depV]
      rintro _ rfl
      try go_simp
      all_goals first
        | (with_reducible exact Grow.refl _)
        | (with_reducible exact ⟨Grow.refl _, rfl⟩)
    · intro w5 hR
      have hGw : Grow wa w5 := hR.of_drew
      have HGW := Lib.hid hGw
      have hcc := (HGW.out.block HFA.out).cell
      have hsc := (HGW.out.block HSA.out).cell
      have hhc := (HGW.out.block HHA.out).cell
      clear hR hGw
      simp only [depV]
      rintro _ rfl
      try go_simp
      all_goals first
        | (with_reducible exact Grow.refl _)
        | (with_reducible exact ⟨Grow.refl _, rfl⟩)
    · intro w5 hR
      have hGw : Grow wa w5 := hR.of_drew
      have HGW := Lib.hid hGw
      have hcc := (HGW.out.block HFA.out).cell
      have hsc := (HGW.out.block HSA.out).cell
      have hhc := (HGW.out.block HHA.out).cell
      clear hR hGw
      simp only [depV]
      rintro _ rfl
      rintro _ rfl
      rintro _ rfl
      try go_simp
      refine (HGO.out w5 (HGA.out.trans HGW.out)).mono ?_
      rintro e w6 ⟨rfl, hb6⟩
      exact ⟨hb6, rfl⟩
    · intro w5 hR
      have hGw : Grow wa w5 := hR.of_drew
      have HGW := Lib.hid hGw
      have hcc := (HGW.out.block HFA.out).cell
      have hsc := (HGW.out.block HSA.out).cell
      have hhc := (HGW.out.block HHA.out).cell
      clear hR hGw
      simp only [depV]
      rintro _ rfl
      try go_simp
      all_goals first
        | (with_reducible exact Grow.refl _)
        | (with_reducible exact ⟨Grow.refl _, rfl⟩)
    · intro w5 hR
      have hGw : Grow wa w5 := hR.of_drew
      have HGW := Lib.hid hGw
      have hcc := (HGW.out.block HFA.out).cell
      have hsc := (HGW.out.block HSA.out).cell
      have hhc := (HGW.out.block HHA.out).cell
      clear hR hGw
      simp only [depV]
      rintro _ rfl
      rintro _ rfl
      rintro _ rfl
      try go_simp
      refine (HIN2.out w5).mono ?_
      rintro e w6 ⟨rfl, hb6⟩
      exact ⟨hb6, rfl⟩
    · intro w5 hR
      have hGw : Grow wa w5 := hR.of_drew
      have HGW := Lib.hid hGw
      have hcc := (HGW.out.block HFA.out).cell
      have hsc := (HGW.out.block HSA.out).cell
      have hhc := (HGW.out.block HHA.out).cell
      clear hR hGw
      simp only [depV]
      rintro _ rfl
      rintro _ rfl
      try go_simp
      all_goals first
        | (with_reducible exact Grow.refl _)
        | (with_reducible exact ⟨Grow.refl _, rfl⟩)
    · intro w5 hR
      have hGw : Grow wa w5 := hR.of_drew
      have HGW := Lib.hid hGw
      have hcc := (HGW.out.block HFA.out).cell
      have hsc := (HGW.out.block HSA.out).cell
      have hhc := (HGW.out.block HHA.out).cell
      clear hR hGw
      simp only [depV]
      rintro _ rfl
      rintro _ rfl
      try go_simp
      all_goals first
        | (with_reducible exact Grow.refl _)
        | (with_reducible exact ⟨Grow.refl _, rfl⟩)
  · intro w5 hR
    have HG5 : Hid (Grow wa w5) := Lib.hid hR.of_drew
    clear hR
    simp only [finVC, List.take_succ_cons, List.take_zero, List.drop_succ_cons, List.drop_zero]
    rintro _ rfl
    rintro _ rfl
    rintro _ rfl
    rintro _ rfl
    rintro _ rfl
    rintro _ rfl
    rintro _ rfl
    rintro _ rfl
    rintro _ rfl
    rintro _ rfl
    rintro _ rfl
    rintro _ rfl
    rintro _ rfl
    rintro _ rfl
    rintro _ rfl
    rintro _ rfl
    rintro _ rfl
    rintro _ rfl
    rintro _ rfl
    rintro _ rfl
    rintro _ rfl
    rintro _ rfl
    rintro _ rfl
    rintro _ rfl
    rintro _ rfl
    rintro _ rfl
    rintro _ rfl
    rintro _ rfl
    rintro _ rfl
    rintro _ rfl
    rintro _ rfl
    rintro _ rfl
    rintro _ rfl
    rintro _ rfl
    rintro _ rfl
    simp only [Act.put, List.setIfInBounds_toArray, List.set_cons_succ, List.set_cons_zero]
    rename World => wq
    have HGQ : Hid (Grow w wq) := Lib.hid (HGA.out.trans HG5.out)
    have HFQ := Lib.hid (HG5.out.block HFA.out)
    have HPBQ := Lib.hid (HG5.out.block HPBA.out)
    have HBIQ : Hid (Ints wq wq.heap.size B (natsL bl)) := Lib.hid ((HBIA.out.below HG5.out).more HG5.out.size)
    clear HG5 HFA HSA HPBA HHA HBIA HGA HIN1 HIN2 HGO
    go_wp2_with fail
    go_loopw [14] (fun iv wr => ∃ k : Nat, k ≤ xs.length ∧ iv = .int .i64 (k : Nat) ∧ Grow wq wr) (fun iv _ => xs.length - (intOf iv).toNat)
    case atStart => exact ⟨0, Nat.zero_le _, rfl, Grow.refl _⟩
    case round =>
      obtain ⟨k, hk, rfl, hgr⟩ := hrel
      rename World => wr
      have HGR := Lib.hid hgr
      clear hgr
      have hk0 : (0 : Int) ≤ (k : Int) := by omega
      by_cases hlt : k < xs.length
      · have hd : decide ((k : Int) < (xs.length : Int)) = true := decide_eq_true (by omega)
        have hk1 : (k : Int) < (xs.length : Int) := by omega
        obtain ⟨xb, xo, x, rfl, hxb, hxc, HXX⟩ := (HIX.out wr (HGQ.out.trans HGR.out)).at_ hlt
        have HXC := Lib.hid hxc
        have hpi := HPI.out k hlt
        rw [show xs.getD k 0 = x by rw [List.getD_eq_getElem?_getD, HXX.out]; rfl] at hpi
        have hp0 := ((HGR.out.block HPBQ.out).cell (k * 2)).trans (rowC_lo (pointD p.d) hlt)
        have hp1 := ((HGR.out.block HPBQ.out).cell (k * 2 + 1)).trans (rowC_hi (pointD p.d) hlt)
        obtain ⟨⟨q1, q2⟩, hq⟩ : ∃ z, pointD p.d k = z := ⟨_, rfl⟩
        rw [hq] at hpi hp0 hp1
        have HP0 := Lib.hid hp0
        have HP1 := Lib.hid hp1
        have HIN := Lib.hid (fun w0 => inside_yes (n := x) (a := q1) (b := q2) hpi w0)
        clear hq hpi hp0 hp1 hxc
        go_wp2_with fail
        refine wp_region_lit 10 [[], [], [(0, 95), (1, 96)], [(2, 97)], [], [], [(4, 99), (5, 100)], [(6, 101)], [(3, 98), (7, 102)], [(8, 103)]] Grow (fun qi v w' => match qi with
            | 0 => v = .slice (some ⟨xb, xo, none⟩) xs.length ca
            | 1 => v = .int .i64 (k : Nat)
            | 2 => v = .pointer (some ⟨xb, xo + k, none⟩)
            | 3 => v = .int .i64 x
            | 4 => v = .slice (some ⟨pb, 0, none⟩) xs.length xs.length
            | 5 => v = .int .i64 (k : Nat)
            | 6 => v = .pointer (some ⟨pb, k * 2, none⟩)
            | 7 => v = spanV (q1, q2)
            | 8 => v = .bool true
            | 9 => v = .bool false
            | _ => False) (by kernel_rfl) (by kernel_rfl) (fun _ _ _ => Grow.trans) Grow.refl ?_ ?_ ?_
        · intro i v y y' h k
          match i, h with
          | 0, h | 1, h | 2, h | 3, h | 4, h | 5, h | 6, h | 7, h | 8, h | 9, h => exact h
        · simp only [StepsLit, List.take_succ_cons, List.take_zero]
          refine ⟨?_, ?_, ?_, ?_, ?_, ?_, ?_, ?_, ?_, ?_, trivial⟩
          · intro w5 hR
            have hGw : Grow wr w5 := hR.of_drew
            have HGW := Lib.hid hGw
            have hxc := HGW.out.cell HXC.out
            have hp0 := HGW.out.cell HP0.out
            have hp1 := HGW.out.cell HP1.out
            clear hR hGw
            simp only [depV]
            try go_simp
            all_goals first
              | (with_reducible exact Grow.refl _)
              | (with_reducible exact ⟨Grow.refl _, rfl⟩)
          · intro w5 hR
            have hGw : Grow wr w5 := hR.of_drew
            have HGW := Lib.hid hGw
            have hxc := HGW.out.cell HXC.out
            have hp0 := HGW.out.cell HP0.out
            have hp1 := HGW.out.cell HP1.out
            clear hR hGw
            simp only [depV]
            try go_simp
            all_goals first
              | (with_reducible exact Grow.refl _)
              | (with_reducible exact ⟨Grow.refl _, rfl⟩)
          · intro w5 hR
            have hGw : Grow wr w5 := hR.of_drew
            have HGW := Lib.hid hGw
            have hxc := HGW.out.cell HXC.out
            have hp0 := HGW.out.cell HP0.out
            have hp1 := HGW.out.cell HP1.out
            clear hR hGw
            simp only [depV]
            rintro _ rfl
            rintro _ rfl
            try go_simp
            all_goals first
              | (with_reducible exact Grow.refl _)
              | (with_reducible exact ⟨Grow.refl _, rfl⟩)
          · intro w5 hR
            have hGw : Grow wr w5 := hR.of_drew
            have HGW := Lib.hid hGw
            have hxc := HGW.out.cell HXC.out
            have hp0 := HGW.out.cell HP0.out
            have hp1 := HGW.out.cell HP1.out
            clear hR hGw
            simp only [depV]
            rintro _ rfl
            try go_simp
            all_goals first
              | (with_reducible exact Grow.refl _)
              | (with_reducible exact ⟨Grow.refl _, rfl⟩)
          · intro w5 hR
            have hGw : Grow wr w5 := hR.of_drew
            have HGW := Lib.hid hGw
            have hxc := HGW.out.cell HXC.out
            have hp0 := HGW.out.cell HP0.out
            have hp1 := HGW.out.cell HP1.out
            clear hR hGw
            simp only [depV]
            try go_simp
            all_goals first
              | (with_reducible exact Grow.refl _)
              | (with_reducible exact ⟨Grow.refl _, rfl⟩)
          · intro w5 hR
            have hGw : Grow wr w5 := hR.of_drew
            have HGW := Lib.hid hGw
            have hxc := HGW.out.cell HXC.out
            have hp0 := HGW.out.cell HP0.out
            have hp1 := HGW.out.cell HP1.out
            clear hR hGw
            simp only [depV]
            try go_simp
            all_goals first
              | (with_reducible exact Grow.refl _)
              | (with_reducible exact ⟨Grow.refl _, rfl⟩)
          · intro w5 hR
            have hGw : Grow wr w5 := hR.of_drew
            have HGW := Lib.hid hGw
            have hxc := HGW.out.cell HXC.out
            have hp0 := HGW.out.cell HP0.out
            have hp1 := HGW.out.cell HP1.out
            clear hR hGw
            simp only [depV]
            rintro _ rfl
            rintro _ rfl
            try go_simp
            all_goals first
              | (with_reducible exact Grow.refl _)
              | (with_reducible exact ⟨Grow.refl _, rfl⟩)
          · intro w5 hR
            have hGw : Grow wr w5 := hR.of_drew
            have HGW := Lib.hid hGw
            have hxc := HGW.out.cell HXC.out
            have hp0 := HGW.out.cell HP0.out
            have hp1 := HGW.out.cell HP1.out
            clear hR hGw
            simp only [depV]
            rintro _ rfl
            try go_simp
            all_goals first
              | (with_reducible exact Grow.refl _)
              | (with_reducible exact ⟨Grow.refl _, rfl⟩)
          · intro w5 hR
            have hGw : Grow wr w5 := hR.of_drew
            have HGW := Lib.hid hGw
            have hxc := HGW.out.cell HXC.out
            have hp0 := HGW.out.cell HP0.out
            have hp1 := HGW.out.cell HP1.out
            clear hR hGw
            simp only [depV]
            rintro _ rfl
            rintro _ rfl
            try go_simp
            refine (HIN.out w5).mono ?_
            rintro e w6 ⟨rfl, hb6⟩
            exact ⟨hb6, rfl⟩
          · intro w5 hR
            have hGw : Grow wr w5 := hR.of_drew
            have HGW := Lib.hid hGw
            have hxc := HGW.out.cell HXC.out
            have hp0 := HGW.out.cell HP0.out
            have hp1 := HGW.out.cell HP1.out
            clear hR hGw
            simp only [depV]
            rintro _ rfl
            try go_simp
            all_goals first
              | (with_reducible exact Grow.refl _)
              | (with_reducible exact ⟨Grow.refl _, rfl⟩)
        · intro w5 hR
          have HG5 : Hid (Grow wr w5) := Lib.hid hR.of_drew
          clear hR
          simp only [finVC, List.take_succ_cons, List.take_zero, List.drop_succ_cons, List.drop_zero]
          rintro _ rfl
          rintro _ rfl
          rintro _ rfl
          rintro _ rfl
          rintro _ rfl
          rintro _ rfl
          rintro _ rfl
          rintro _ rfl
          rintro _ rfl
          rintro _ rfl
          simp only [Act.put, List.setIfInBounds_toArray, List.set_cons_succ, List.set_cons_zero]
          rename World => wz
          have HGZ : Hid (Grow wq wz) := Lib.hid (HGR.out.trans HG5.out)
          go_wp2_with fail
          go_roundw
          case rel => exact ⟨k + 1, by omega, by go_num, HGZ.out⟩
          case measure => simp [intOf]; omega
      · obtain rfl : k = xs.length := by omega
        have hd : decide ((xs.length : Int) < (xs.length : Int)) = false := decide_eq_false (by omega)
        have HGS : Hid (Grow w wr) := Lib.hid (HGQ.out.trans HGR.out)
        have HFS := Lib.hid (HGR.out.block HFQ.out)
        have HBIS : Hid (Ints wr wr.heap.size B (natsL bl)) := Lib.hid ((HBIQ.out.below HGR.out).more HGR.out.size)
        clear HGQ HGR HFQ HPBQ HBIQ hk hk0 hlt
        rename World => ws
        go_wp2_with fail
        go_loopw [15] (fun iv wt => ∃ j : Nat, j ≤ p.judges.length ∧ iv = .int .i64 (j : Nat) ∧ Grow ws wt) (fun iv _ => p.judges.length - (intOf iv).toNat)
        case atStart => exact ⟨0, Nat.zero_le _, rfl, Grow.refl _⟩
        case round =>
          obtain ⟨j, hj, rfl, hgt⟩ := hrel
          rename World => wt
          have HGT := Lib.hid hgt
          have HGW2 : Hid (Grow w wt) := Lib.hid (HGS.out.trans HGT.out)
          have HFT := Lib.hid (hgt.block HFS.out)
          have hcc := HFT.out.cell
          clear hgt
          have hj0 : (0 : Int) ≤ (j : Int) := by omega
          by_cases hlj : j < p.judges.length
          · have hdj : decide ((j : Int) < (p.judges.length : Int)) = true := decide_eq_true (by omega)
            have hj1 : (j : Int) < (p.judges.length : Int) := by omega
            have HINJ := Lib.hid (in_any B cb (natsL bl) (j : Int) wt ((HBIS.out.below HGT.out).more HGT.out.size) (by rw [natsL_length]; have := HBLN.out; omega))
            rw [natsL_length] at HINJ
            have HMEM := Lib.hid (fun h => HBW.out j (in_nats h))
            obtain ⟨bj, hbj⟩ : ∃ z, decide ((j : Int) ∈ natsL bl) = z := ⟨_, rfl⟩
            rw [hbj] at HINJ HMEM
            clear hbj
            go_wp2_with fail
            refine HINJ.out.mono ?_
            rintro e wu ⟨rfl, hbu⟩
            have HGU : Hid (Grow ws wu) := Lib.hid (HGT.out.trans hbu)
            have HGV : Hid (Grow w wu) := Lib.hid (HGS.out.trans HGU.out)
            have hcc := (HGU.out.block HFS.out).cell
            clear hbu
            cases bj with
            | false =>
              go_wp2_with fail
              go_roundw
              case rel => exact ⟨j + 1, by omega, by go_num, HGU.out⟩
              case measure => simp [intOf]; omega
            | true =>
              obtain ⟨b, off, x, hja, hb, c0, c1, c2, c3, HX, HGE⟩ := judge_at (HPA.out wu HGV.out) hlj
              have hrw := HMEM.out (by simp)
              have hge : p.d.judges.getD j ⟨0, 0, 0, []⟩ = x.d := HGE.out
              rw [hge] at hrw
              have HR := Lib.hid (HRI.out j x HX.out wu HGV.out)
              rw [hrw] at HR
              have hja1 : wu.cell? ⟨w.heap.size, 1, none⟩ = some (.slice (some ⟨b, off, none⟩) p.judges.length p.jc) := (hcc 1).trans (by show some (Value.slice p.ja p.judges.length p.jc) = _; rw [hja])
              clear hcc hja hrw hge
              go_wp2_with fail
              refine HR.out.mono ?_
              rintro e wv ⟨rfl, hbv⟩
              have HGX : Hid (Grow ws wv) := Lib.hid (HGU.out.trans hbv)
              clear hbv c0 c1 c2 c3 hja1
              go_wp2_with fail
              go_roundw
              case rel => exact ⟨j + 1, by omega, by go_num, HGX.out⟩
              case measure => simp [intOf]; omega
          · obtain rfl : j = p.judges.length := by omega
            have hdj : decide ((p.judges.length : Int) < (p.judges.length : Int)) = false := decide_eq_false (by omega)
            go_wp2_with fail
            refine (HWK.out _ HGW2.out).mono ?_
            rintro e w9 ⟨rfl, hb9⟩
            have HG9 : Hid (Grow w w9) := Lib.hid ((HGW2.out).trans hb9)
            clear hb9
            go_wp2_with fail
            go_ret
            exact ⟨rfl, HG9.out⟩

end Go.Proofs.YthehkgpnnndboaaDoor
