/- ShownLaw: the law ExamsShown answers true at any paper and any grade; written by wip/tools/shownlaw9.py. -/
import Derived.Test.YthehkgpnnndboaaDoorInside
import Derived.Test.YthehkgpnnndboaaDoorShow
namespace Go.Proofs.YthehkgpnnndboaaDoor
open Go.RowKit

set_option maxRecDepth 100000 in
set_option maxHeartbeats 32000000 in
theorem shownLaw_any (p : PaperR) (g : Int) (w : World) (hA : PaperAt w w.heap.size p) (hG : Glob w) :
    Calls Tryd.prog 8 #[paperV p, .int .i64 g] w fun e w' => e = .returned (.bool true) ∧ Below w.heap.size w w' := by
  have HWK := Lib.hid (fun (w0 : World) (hw : Grow w w0) => works_any w0 (hG.grow hw))
  have HRY := Lib.hid (fun (w0 : World) (hw : Grow w w0) => ready_any p w0 (hA.grow hw))
  have HPA := Lib.hid (fun (w0 : World) (hw : Grow w w0) => hA.grow hw)
  have HGL := Lib.hid (fun (w0 : World) (hw : Grow w w0) => hG.grow hw)
  obtain ⟨rd, hrd⟩ : ∃ z, readyP p = z := ⟨_, rfl⟩
  have HRD : Hid (readyP p = rd) := Lib.hid hrd
  rw [hrd] at HRY
  clear hrd hA hG
  go_enter Tryd.func8, Tryd.ntmps8
  go_upto_region 1 with fail
  obtain ⟨W, hW, hgr, hf, hsz⟩ := one_block w 26 (cellsP p)
  rw [hW]
  clear hW
  have HG := Lib.hid hgr
  have HF := Lib.hid hf
  have hcc := hf.cell
  clear hgr hf
  go_wp2_with fail
  refine (HRY.out W HG.out).mono ?_
  rintro e w1 ⟨rfl, hb1⟩
  have HG1 : Hid (Grow w w1) := Lib.hid (HG.out.trans hb1)
  have HF1 := Lib.hid ((show Grow W w1 from hb1).block HF.out)
  clear hb1 hcc HG HF HRY
  have hcc := HF1.out.cell
  cases rd with
  | false =>
    go_wp2_with fail
    refine (HWK.out _ HG1.out).mono ?_
    rintro e w9 ⟨rfl, hb9⟩
    have HG9 : Hid (Grow w w9) := Lib.hid ((HG1.out).trans hb9)
    clear hb9
    go_wp2_with fail
    go_ret
    exact ⟨rfl, HG9.out⟩
  | true =>
  obtain ⟨hok, G, hs, hj3⟩ := ready_parts HRD.out
  by_cases c0 : g < 0
  · have hd1 : decide (g < 0) = true := decide_eq_true c0
    go_wp2_with fail
    refine (HWK.out _ HG1.out).mono ?_
    rintro e w9 ⟨rfl, hb9⟩
    have HG9 : Hid (Grow w w9) := Lib.hid ((HG1.out).trans hb9)
    clear hb9
    go_wp2_with fail
    go_ret
    exact ⟨rfl, HG9.out⟩
  have hd1 : decide (g < 0) = false := decide_eq_false c0
  by_cases c1 : (p.grades.length : Int) < g
  · have hd2 : decide ((p.grades.length : Int) < g) = true := decide_eq_true c1
    go_wp2_with fail
    refine (HWK.out _ HG1.out).mono ?_
    rintro e w9 ⟨rfl, hb9⟩
    have HG9 : Hid (Grow w w9) := Lib.hid ((HG1.out).trans hb9)
    clear hb9
    go_wp2_with fail
    go_ret
    exact ⟨rfl, HG9.out⟩
  have hd2 : decide ((p.grades.length : Int) < g) = false := decide_eq_false c1
  have HGD := Lib.hid (fun (w0 : World) (hw : Grow w w0) => gradeApi_any p w0 (HPA.out w0 hw) hs (HGL.out w0 hw))
  have HSW := Lib.hid (fun (w0 : World) (hw : Grow w w0) => showApi_any p g w0 (HPA.out w0 hw) hs)
  have hnum : numErr p g p.grades.length = numErr p 0 0 := num_same (inB_iff.2 (by omega))
  unfold gradeV at HGD
  unfold showL showErr at HSW
  rw [hnum] at HSW
  by_cases hT : truthsL p.d = []
  · have h3 := num_none hok hT
    rw [h3, if_neg (by decide)] at HGD
    rw [h3, if_neg (by decide), if_neg (by decide)] at HSW
    clear h3 hT hnum hs
    go_wp2_with fail
    refine (HGD.out _ HG1.out).mono ?_
    rintro e w2 ⟨rfl, hb2⟩
    have HG2 : Hid (Grow w w2) := Lib.hid (HG1.out.trans hb2)
    have HF2 := Lib.hid ((show Grow w1 w2 from hb2).block HF1.out)
    clear hb2 hcc
    go_upto_region 4 with fail
    obtain ⟨w3, hw3, hg3, hf3, hs3⟩ := one_block w2 33 #[.int .i64 0, .int .i64 0]
    rw [show w2.alloc (.cells #[.int .i64 0, .int .i64 0] 33) = w3 from hw3]
    clear hw3
    obtain ⟨sb, hsb⟩ : ∃ z, w2.heap.size = z := ⟨_, rfl⟩
    rw [hsb] at hf3 hs3 ⊢
    have HS3 := Lib.hid hf3
    have HF3 := Lib.hid (hg3.block HF2.out)
    have HG3 : Hid (Grow w w3) := Lib.hid (HG2.out.trans hg3)
    have hcc := HF3.out.cell
    clear hf3 hg3 hsb HF2
    go_wp2_with fail
    refine (HSW.out _ HG3.out).mono ?_
    rintro e w4 ⟨⟨A, rfl, hai⟩, hb4⟩
    have HG4 : Hid (Grow w w4) := Lib.hid (HG3.out.trans hb4)
    have HF4 := Lib.hid ((show Grow w3 w4 from hb4).block HF3.out)
    have HS4 := Lib.hid ((show Grow w3 w4 from hb4).block HS3.out)
    have HAI4 := Lib.hid hai
    clear hb4 hai hcc HF3 HS3
    have hcc := HF4.out.cell
    have hsc := HS4.out.cell
    go_wp2_with fail
    refine (HWK.out _ HG4.out).mono ?_
    rintro e w9 ⟨rfl, hb9⟩
    have HG9 : Hid (Grow w w9) := Lib.hid ((HG4.out).trans hb9)
    clear hb9
    go_wp2_with fail
    go_ret
    exact ⟨rfl, HG9.out⟩
  have h0 := num_some hok hT
  obtain ⟨hgi1, hgi2, hgi3⟩ := grade_is G hT
  have hbnd : ∀ n, n ∈ gradesL p.d → 0 ≤ n ∧ n ≤ (p.grades.length : Int) := fun n hn => by
    obtain ⟨ps, _, rfl⟩ := List.mem_map.1 hn
    have := gradeD_le p.grades (resD p.items ps)
    constructor
    · omega
    · show ((gradeD p.grades (resD p.items ps) : Nat) : Int) ≤ _
      omega
  have hb1 := hbnd _ hgi1
  have hb2 := hbnd _ hgi2
  have hb3 := (hgi3 _ hgi1).2
  have HIS := Lib.hid (show_is (d := p.d) (g := g))
  have HSS := Lib.hid (fun ps => show_some (d := p.d) (g := g) (ps := ps))
  have HGM := Lib.hid hgi3
  have HG1M := Lib.hid hgi1
  have HG2M := Lib.hid hgi2
  rw [h0, if_pos rfl] at HGD
  rw [h0, if_pos rfl, if_pos rfl] at HSW
  obtain ⟨⟨g1, g2⟩, hgg⟩ : ∃ z, gradeS p.d = z := ⟨_, rfl⟩
  rw [hgg] at HGD HGM HG1M HG2M hb1 hb2 hb3
  dsimp only at hb1 hb2 hb3 HG1M HG2M
  have hq1 : decide (g1 < 0) = false := decide_eq_false (by omega)
  have hq2 : decide (g2 < g1) = false := decide_eq_false (by omega)
  have hq3 : decide ((p.grades.length : Int) < g2) = false := decide_eq_false (by omega)
  obtain ⟨sd, hsd⟩ : ∃ z, showD p.d g = z := ⟨_, rfl⟩
  rw [hsd] at HSW HIS HSS
  clear hgg h0 hnum hT hgi1 hgi2 hgi3 hbnd hsd
  cases sd with
  | some ps =>
    obtain ⟨hps, hgo⟩ := HSS.out ps rfl
    have hfi : fitsI p.items ps = true := by
      have h := hps
      unfold possD at h
      rw [Bool.and_eq_true] at h
      exact h.1
    have hl4 := fitsI_len hfi
    have hgl : g ∈ gradesL p.d := HIS.out.1 rfl
    have hin := HGM.out g hgl
    have HINS := Lib.hid (fun w0 => inside_yes (n := g) (a := g1) (b := g2) hin w0)
    have HPO := Lib.hid (fun (A : Option Addr) (w0 : World) (hw : Grow w w0) (hi : Ints w0 w0.heap.size A ps) => rIsPossible_any p G A ps.length ps (by have : p.items.length ≤ 4 := G.i4; omega) w0 (HPA.out w0 hw) hi)
    rw [hps] at HPO
    have HRS := Lib.hid (fun (A : Option Addr) (w0 : World) (hw : Grow w w0) (hi : Ints w0 w0.heap.size A ps) => rResult_any p G A ps.length ps hfi w0 (HPA.out w0 hw) hi)
    have HGO := Lib.hid (fun (w0 : World) (hw : Grow w w0) => rGradeOf_any p (resD p.items ps) w0 (HPA.out w0 hw) (by have : p.grades.length ≤ 5 := G.gr; omega))
    rw [show ((gradeD p.grades (resD p.items ps) : Nat) : Int) = g from hgo] at HGO
    obtain ⟨rx, hrx⟩ : ∃ z, resD p.items ps = z := ⟨_, rfl⟩
    rw [hrx] at HRS HGO
    clear hps hgo hfi hl4 hgl hin hrx hs
    go_wp2_with fail
    refine (HGD.out _ HG1.out).mono ?_
    rintro e w2 ⟨rfl, hb2⟩
    have HG2 : Hid (Grow w w2) := Lib.hid (HG1.out.trans hb2)
    have HF2 := Lib.hid ((show Grow w1 w2 from hb2).block HF1.out)
    clear hb2 hcc
    go_upto_region 4 with fail
    obtain ⟨w3, hw3, hg3, hf3, hs3⟩ := one_block w2 33 #[.int .i64 g1, .int .i64 g2]
    rw [show w2.alloc (.cells #[.int .i64 g1, .int .i64 g2] 33) = w3 from hw3]
    clear hw3
    obtain ⟨sb, hsb⟩ : ∃ z, w2.heap.size = z := ⟨_, rfl⟩
    rw [hsb] at hf3 hs3 ⊢
    have HS3 := Lib.hid hf3
    have HF3 := Lib.hid (hg3.block HF2.out)
    have HG3 : Hid (Grow w w3) := Lib.hid (HG2.out.trans hg3)
    have hcc := HF3.out.cell
    clear hf3 hg3 hsb HF2
    go_wp2_with fail
    refine (HSW.out _ HG3.out).mono ?_
    rintro e w4 ⟨⟨A, rfl, hai⟩, hb4⟩
    have HG4 : Hid (Grow w w4) := Lib.hid (HG3.out.trans hb4)
    have HF4 := Lib.hid ((show Grow w3 w4 from hb4).block HF3.out)
    have HS4 := Lib.hid ((show Grow w3 w4 from hb4).block HS3.out)
    have HAI4 := Lib.hid hai
    clear hb4 hai hcc HF3 HS3
    have hcc := HF4.out.cell
    have hsc := HS4.out.cell
    go_wp2_with fail
    refine wp_region_lit 39 [[], [(0, 72)], [(1, 73)], [(2, 74)], [(2, 74)], [(2, 74), (3, 75), (4, 76)], [(2, 74), (5, 77)], [(2, 74), (6, 78)], [(7, 79)], [(7, 79)], [(7, 79), (8, 80), (9, 81)], [(7, 79), (10, 82)], [(2, 74), (7, 79), (11, 83)], [(2, 74), (12, 84)], [(13, 85)], [(13, 85)], [(13, 85)], [(13, 85), (15, 87), (16, 88)], [(13, 85), (14, 86), (17, 89)], [(13, 85)], [(13, 85), (18, 90), (19, 91)], [(2, 74), (13, 85), (20, 92)], [(2, 74), (21, 93)], [(22, 94)], [(23, 95)], [(23, 95), (24, 96)], [(23, 95), (25, 97)], [(26, 98)], [(26, 98)], [(26, 98), (28, 100)], [(26, 98), (27, 99), (29, 101)], [(26, 98), (30, 102)], [(31, 103)], [(31, 103)], [(31, 103), (33, 105)], [(31, 103), (32, 104), (34, 106)], [(26, 98), (31, 103), (35, 107)], [(23, 95), (26, 98), (36, 108)], [(23, 95), (37, 109)]] Grow (fun qi v w' => match qi with
        | 0 => v = .int .i64 0
        | 1 => v = .bool true
        | 2 => v = .bool true
        | 3 => v = .int .i64 g
        | 4 => v = spanV (g1, g2)
        | 5 => v = .bool true
        | 6 => v = .bool false
        | 7 => v = .bool false
        | 8 => v = paperV p
        | 9 => v = .slice A ps.length ps.length
        | 10 => v = .bool true
        | 11 => v = .bool false
        | 12 => v = .bool false
        | 13 => v = .bool false
        | 14 => v = paperV p
        | 15 => v = paperV p
        | 16 => v = .slice A ps.length ps.length
        | 17 => v = .int .i64 rx
        | 18 => v = .int .i64 g
        | 19 => v = .int .i64 g
        | 20 => v = .bool false
        | 21 => v = .bool false
        | 22 => v = .bool false
        | 23 => v = .bool false
        | 24 => v = .int .i64 0
        | 25 => v = .bool false
        | 26 => v = .bool false
        | 27 => v = undef
        | 28 => v = undef
        | 29 => v = undef
        | 30 => v = undef
        | 31 => v = undef
        | 32 => v = undef
        | 33 => v = undef
        | 34 => v = undef
        | 35 => v = undef
        | 36 => v = undef
        | 37 => v = .bool false
        | 38 => v = .bool false
        | _ => False) (by kernel_rfl) (by kernel_rfl) (fun _ _ _ => Grow.trans) Grow.refl ?_ ?_ ?_
    · intro i v y y' h k
      match i, h with
      | 0, h | 1, h | 2, h | 3, h | 4, h | 5, h | 6, h | 7, h | 8, h | 9, h | 10, h | 11, h | 12, h | 13, h | 14, h | 15, h | 16, h | 17, h | 18, h | 19, h | 20, h | 21, h | 22, h | 23, h | 24, h | 25, h | 26, h | 27, h | 28, h | 29, h | 30, h | 31, h | 32, h | 33, h | 34, h | 35, h | 36, h | 37, h | 38, h => exact h
    · simp only [StepsLit, List.take_succ_cons, List.take_zero]
      refine ⟨?_, ?_, ?_, ?_, ?_, ?_, ?_, ?_, ?_, ?_, ?_, ?_, ?_, ?_, ?_, ?_, ?_, ?_, ?_, ?_, ?_, ?_, ?_, ?_, ?_, ?_, ?_, ?_, ?_, ?_, ?_, ?_, ?_, ?_, ?_, ?_, ?_, ?_, ?_, trivial⟩
      · intro w5 hR
        have hGw : Grow w4 w5 := hR.of_drew
        have HGW := Lib.hid hGw
        have hcc := (HGW.out.block HF4.out).cell
        have hsc := (HGW.out.block HS4.out).cell
        have hai : Ints w5 w5.heap.size A ps := (HAI4.out.below HGW.out).more HGW.out.size
        clear hR hGw
        simp only [depV]
        try go_simp
        all_goals first
          | (with_reducible exact Grow.refl _)
          | (with_reducible exact ⟨Grow.refl _, rfl⟩)
      · intro w5 hR
        have hGw : Grow w4 w5 := hR.of_drew
        have HGW := Lib.hid hGw
        have hcc := (HGW.out.block HF4.out).cell
        have hsc := (HGW.out.block HS4.out).cell
        have hai : Ints w5 w5.heap.size A ps := (HAI4.out.below HGW.out).more HGW.out.size
        clear hR hGw
        simp only [depV]
        rintro _ rfl
        try go_simp
        all_goals first
          | (with_reducible exact Grow.refl _)
          | (with_reducible exact ⟨Grow.refl _, rfl⟩)
      · intro w5 hR
        have hGw : Grow w4 w5 := hR.of_drew
        have HGW := Lib.hid hGw
        have hcc := (HGW.out.block HF4.out).cell
        have hsc := (HGW.out.block HS4.out).cell
        have hai : Ints w5 w5.heap.size A ps := (HAI4.out.below HGW.out).more HGW.out.size
        clear hR hGw
        simp only [depV]
        rintro _ rfl
        try go_simp
        all_goals first
          | (with_reducible exact Grow.refl _)
          | (with_reducible exact ⟨Grow.refl _, rfl⟩)
      · intro w5 hR
        have hGw : Grow w4 w5 := hR.of_drew
        have HGW := Lib.hid hGw
        have hcc := (HGW.out.block HF4.out).cell
        have hsc := (HGW.out.block HS4.out).cell
        have hai : Ints w5 w5.heap.size A ps := (HAI4.out.below HGW.out).more HGW.out.size
        clear hR hGw
        simp only [depV]
        rintro _ rfl
        try go_simp
        all_goals first
          | (with_reducible exact Grow.refl _)
          | (with_reducible exact ⟨Grow.refl _, rfl⟩)
      · intro w5 hR
        have hGw : Grow w4 w5 := hR.of_drew
        have HGW := Lib.hid hGw
        have hcc := (HGW.out.block HF4.out).cell
        have hsc := (HGW.out.block HS4.out).cell
        have hai : Ints w5 w5.heap.size A ps := (HAI4.out.below HGW.out).more HGW.out.size
        clear hR hGw
        simp only [depV]
        rintro _ rfl
        try go_simp
        all_goals first
          | (with_reducible exact Grow.refl _)
          | (with_reducible exact ⟨Grow.refl _, rfl⟩)
      · intro w5 hR
        have hGw : Grow w4 w5 := hR.of_drew
        have HGW := Lib.hid hGw
        have hcc := (HGW.out.block HF4.out).cell
        have hsc := (HGW.out.block HS4.out).cell
        have hai : Ints w5 w5.heap.size A ps := (HAI4.out.below HGW.out).more HGW.out.size
        clear hR hGw
        simp only [depV]
        rintro _ rfl
        rintro _ rfl
        rintro _ rfl
        have HAI := Lib.hid hai
        clear hai
        try go_simp
        refine (HINS.out w5).mono ?_
        rintro e w6 ⟨rfl, hb6⟩
        exact ⟨hb6, rfl⟩
      · intro w5 hR
        have hGw : Grow w4 w5 := hR.of_drew
        have HGW := Lib.hid hGw
        have hcc := (HGW.out.block HF4.out).cell
        have hsc := (HGW.out.block HS4.out).cell
        have hai : Ints w5 w5.heap.size A ps := (HAI4.out.below HGW.out).more HGW.out.size
        clear hR hGw
        simp only [depV]
        rintro _ rfl
        rintro _ rfl
        try go_simp
        all_goals first
          | (with_reducible exact Grow.refl _)
          | (with_reducible exact ⟨Grow.refl _, rfl⟩)
      · intro w5 hR
        have hGw : Grow w4 w5 := hR.of_drew
        have HGW := Lib.hid hGw
        have hcc := (HGW.out.block HF4.out).cell
        have hsc := (HGW.out.block HS4.out).cell
        have hai : Ints w5 w5.heap.size A ps := (HAI4.out.below HGW.out).more HGW.out.size
        clear hR hGw
        simp only [depV]
        rintro _ rfl
        rintro _ rfl
        try go_simp
        all_goals first
          | (with_reducible exact Grow.refl _)
          | (with_reducible exact ⟨Grow.refl _, rfl⟩)
      · intro w5 hR
        have hGw : Grow w4 w5 := hR.of_drew
        have HGW := Lib.hid hGw
        have hcc := (HGW.out.block HF4.out).cell
        have hsc := (HGW.out.block HS4.out).cell
        have hai : Ints w5 w5.heap.size A ps := (HAI4.out.below HGW.out).more HGW.out.size
        clear hR hGw
        simp only [depV]
        rintro _ rfl
        try go_simp
        all_goals first
          | (with_reducible exact Grow.refl _)
          | (with_reducible exact ⟨Grow.refl _, rfl⟩)
      · intro w5 hR
        have hGw : Grow w4 w5 := hR.of_drew
        have HGW := Lib.hid hGw
        have hcc := (HGW.out.block HF4.out).cell
        have hsc := (HGW.out.block HS4.out).cell
        have hai : Ints w5 w5.heap.size A ps := (HAI4.out.below HGW.out).more HGW.out.size
        clear hR hGw
        simp only [depV]
        rintro _ rfl
        try go_simp
        all_goals first
          | (with_reducible exact Grow.refl _)
          | (with_reducible exact ⟨Grow.refl _, rfl⟩)
      · intro w5 hR
        have hGw : Grow w4 w5 := hR.of_drew
        have HGW := Lib.hid hGw
        have hcc := (HGW.out.block HF4.out).cell
        have hsc := (HGW.out.block HS4.out).cell
        have hai : Ints w5 w5.heap.size A ps := (HAI4.out.below HGW.out).more HGW.out.size
        clear hR hGw
        simp only [depV]
        rintro _ rfl
        rintro _ rfl
        rintro _ rfl
        have HAI := Lib.hid hai
        clear hai
        try go_simp
        refine (HPO.out A w5 (HG4.out.trans HGW.out) HAI.out).mono ?_
        rintro e w6 ⟨rfl, hb6⟩
        exact ⟨hb6, rfl⟩
      · intro w5 hR
        have hGw : Grow w4 w5 := hR.of_drew
        have HGW := Lib.hid hGw
        have hcc := (HGW.out.block HF4.out).cell
        have hsc := (HGW.out.block HS4.out).cell
        have hai : Ints w5 w5.heap.size A ps := (HAI4.out.below HGW.out).more HGW.out.size
        clear hR hGw
        simp only [depV]
        rintro _ rfl
        rintro _ rfl
        try go_simp
        all_goals first
          | (with_reducible exact Grow.refl _)
          | (with_reducible exact ⟨Grow.refl _, rfl⟩)
      · intro w5 hR
        have hGw : Grow w4 w5 := hR.of_drew
        have HGW := Lib.hid hGw
        have hcc := (HGW.out.block HF4.out).cell
        have hsc := (HGW.out.block HS4.out).cell
        have hai : Ints w5 w5.heap.size A ps := (HAI4.out.below HGW.out).more HGW.out.size
        clear hR hGw
        simp only [depV]
        rintro _ rfl
        rintro _ rfl
        rintro _ rfl
        try go_simp
        all_goals first
          | (with_reducible exact Grow.refl _)
          | (with_reducible exact ⟨Grow.refl _, rfl⟩)
      · intro w5 hR
        have hGw : Grow w4 w5 := hR.of_drew
        have HGW := Lib.hid hGw
        have hcc := (HGW.out.block HF4.out).cell
        have hsc := (HGW.out.block HS4.out).cell
        have hai : Ints w5 w5.heap.size A ps := (HAI4.out.below HGW.out).more HGW.out.size
        clear hR hGw
        simp only [depV]
        rintro _ rfl
        rintro _ rfl
        try go_simp
        all_goals first
          | (with_reducible exact Grow.refl _)
          | (with_reducible exact ⟨Grow.refl _, rfl⟩)
      · intro w5 hR
        have hGw : Grow w4 w5 := hR.of_drew
        have HGW := Lib.hid hGw
        have hcc := (HGW.out.block HF4.out).cell
        have hsc := (HGW.out.block HS4.out).cell
        have hai : Ints w5 w5.heap.size A ps := (HAI4.out.below HGW.out).more HGW.out.size
        clear hR hGw
        simp only [depV]
        rintro _ rfl
        try go_simp
        all_goals first
          | (with_reducible exact Grow.refl _)
          | (with_reducible exact ⟨Grow.refl _, rfl⟩)
      · intro w5 hR
        have hGw : Grow w4 w5 := hR.of_drew
        have HGW := Lib.hid hGw
        have hcc := (HGW.out.block HF4.out).cell
        have hsc := (HGW.out.block HS4.out).cell
        have hai : Ints w5 w5.heap.size A ps := (HAI4.out.below HGW.out).more HGW.out.size
        clear hR hGw
        simp only [depV]
        rintro _ rfl
        try go_simp
        all_goals first
          | (with_reducible exact Grow.refl _)
          | (with_reducible exact ⟨Grow.refl _, rfl⟩)
      · intro w5 hR
        have hGw : Grow w4 w5 := hR.of_drew
        have HGW := Lib.hid hGw
        have hcc := (HGW.out.block HF4.out).cell
        have hsc := (HGW.out.block HS4.out).cell
        have hai : Ints w5 w5.heap.size A ps := (HAI4.out.below HGW.out).more HGW.out.size
        clear hR hGw
        simp only [depV]
        rintro _ rfl
        try go_simp
        all_goals first
          | (with_reducible exact Grow.refl _)
          | (with_reducible exact ⟨Grow.refl _, rfl⟩)
      · intro w5 hR
        have hGw : Grow w4 w5 := hR.of_drew
        have HGW := Lib.hid hGw
        have hcc := (HGW.out.block HF4.out).cell
        have hsc := (HGW.out.block HS4.out).cell
        have hai : Ints w5 w5.heap.size A ps := (HAI4.out.below HGW.out).more HGW.out.size
        clear hR hGw
        simp only [depV]
        rintro _ rfl
        rintro _ rfl
        rintro _ rfl
        have HAI := Lib.hid hai
        clear hai
        try go_simp
        refine (HRS.out A w5 (HG4.out.trans HGW.out) HAI.out).mono ?_
        rintro e w6 ⟨rfl, hb6⟩
        exact ⟨hb6, rfl⟩
      · intro w5 hR
        have hGw : Grow w4 w5 := hR.of_drew
        have HGW := Lib.hid hGw
        have hcc := (HGW.out.block HF4.out).cell
        have hsc := (HGW.out.block HS4.out).cell
        have hai : Ints w5 w5.heap.size A ps := (HAI4.out.below HGW.out).more HGW.out.size
        clear hR hGw
        simp only [depV]
        rintro _ rfl
        rintro _ rfl
        rintro _ rfl
        have HAI := Lib.hid hai
        clear hai
        try go_simp
        refine (HGO.out w5 (HG4.out.trans HGW.out)).mono ?_
        rintro e w6 ⟨rfl, hb6⟩
        exact ⟨hb6, rfl⟩
      · intro w5 hR
        have hGw : Grow w4 w5 := hR.of_drew
        have HGW := Lib.hid hGw
        have hcc := (HGW.out.block HF4.out).cell
        have hsc := (HGW.out.block HS4.out).cell
        have hai : Ints w5 w5.heap.size A ps := (HAI4.out.below HGW.out).more HGW.out.size
        clear hR hGw
        simp only [depV]
        rintro _ rfl
        try go_simp
        all_goals first
          | (with_reducible exact Grow.refl _)
          | (with_reducible exact ⟨Grow.refl _, rfl⟩)
      · intro w5 hR
        have hGw : Grow w4 w5 := hR.of_drew
        have HGW := Lib.hid hGw
        have hcc := (HGW.out.block HF4.out).cell
        have hsc := (HGW.out.block HS4.out).cell
        have hai : Ints w5 w5.heap.size A ps := (HAI4.out.below HGW.out).more HGW.out.size
        clear hR hGw
        simp only [depV]
        rintro _ rfl
        rintro _ rfl
        rintro _ rfl
        try go_simp
        all_goals first
          | (with_reducible exact Grow.refl _)
          | (with_reducible exact ⟨Grow.refl _, rfl⟩)
      · intro w5 hR
        have hGw : Grow w4 w5 := hR.of_drew
        have HGW := Lib.hid hGw
        have hcc := (HGW.out.block HF4.out).cell
        have hsc := (HGW.out.block HS4.out).cell
        have hai : Ints w5 w5.heap.size A ps := (HAI4.out.below HGW.out).more HGW.out.size
        clear hR hGw
        simp only [depV]
        rintro _ rfl
        rintro _ rfl
        rintro _ rfl
        try go_simp
        all_goals first
          | (with_reducible exact Grow.refl _)
          | (with_reducible exact ⟨Grow.refl _, rfl⟩)
      · intro w5 hR
        have hGw : Grow w4 w5 := hR.of_drew
        have HGW := Lib.hid hGw
        have hcc := (HGW.out.block HF4.out).cell
        have hsc := (HGW.out.block HS4.out).cell
        have hai : Ints w5 w5.heap.size A ps := (HAI4.out.below HGW.out).more HGW.out.size
        clear hR hGw
        simp only [depV]
        rintro _ rfl
        rintro _ rfl
        try go_simp
        all_goals first
          | (with_reducible exact Grow.refl _)
          | (with_reducible exact ⟨Grow.refl _, rfl⟩)
      · intro w5 hR
        have hGw : Grow w4 w5 := hR.of_drew
        have HGW := Lib.hid hGw
        have hcc := (HGW.out.block HF4.out).cell
        have hsc := (HGW.out.block HS4.out).cell
        have hai : Ints w5 w5.heap.size A ps := (HAI4.out.below HGW.out).more HGW.out.size
        clear hR hGw
        simp only [depV]
        rintro _ rfl
        try go_simp
        all_goals first
          | (with_reducible exact Grow.refl _)
          | (with_reducible exact ⟨Grow.refl _, rfl⟩)
      · intro w5 hR
        have hGw : Grow w4 w5 := hR.of_drew
        have HGW := Lib.hid hGw
        have hcc := (HGW.out.block HF4.out).cell
        have hsc := (HGW.out.block HS4.out).cell
        have hai : Ints w5 w5.heap.size A ps := (HAI4.out.below HGW.out).more HGW.out.size
        clear hR hGw
        simp only [depV]
        rintro _ rfl
        try go_simp
        all_goals first
          | (with_reducible exact Grow.refl _)
          | (with_reducible exact ⟨Grow.refl _, rfl⟩)
      · intro w5 hR
        have hGw : Grow w4 w5 := hR.of_drew
        have HGW := Lib.hid hGw
        have hcc := (HGW.out.block HF4.out).cell
        have hsc := (HGW.out.block HS4.out).cell
        have hai : Ints w5 w5.heap.size A ps := (HAI4.out.below HGW.out).more HGW.out.size
        clear hR hGw
        simp only [depV]
        rintro _ rfl
        rintro _ rfl
        try go_simp
        all_goals first
          | (with_reducible exact Grow.refl _)
          | (with_reducible exact ⟨Grow.refl _, rfl⟩)
      · intro w5 hR
        have hGw : Grow w4 w5 := hR.of_drew
        have HGW := Lib.hid hGw
        have hcc := (HGW.out.block HF4.out).cell
        have hsc := (HGW.out.block HS4.out).cell
        have hai : Ints w5 w5.heap.size A ps := (HAI4.out.below HGW.out).more HGW.out.size
        clear hR hGw
        simp only [depV]
        rintro _ rfl
        rintro _ rfl
        try go_simp
        all_goals first
          | (with_reducible exact Grow.refl _)
          | (with_reducible exact ⟨Grow.refl _, rfl⟩)
      · intro w5 hR
        have hGw : Grow w4 w5 := hR.of_drew
        have HGW := Lib.hid hGw
        have hcc := (HGW.out.block HF4.out).cell
        have hsc := (HGW.out.block HS4.out).cell
        have hai : Ints w5 w5.heap.size A ps := (HAI4.out.below HGW.out).more HGW.out.size
        clear hR hGw
        simp only [depV]
        rintro _ rfl
        try go_simp
        all_goals first
          | (with_reducible exact Grow.refl _)
          | (with_reducible exact ⟨Grow.refl _, rfl⟩)
      · intro w5 hR
        have hGw : Grow w4 w5 := hR.of_drew
        have HGW := Lib.hid hGw
        have hcc := (HGW.out.block HF4.out).cell
        have hsc := (HGW.out.block HS4.out).cell
        have hai : Ints w5 w5.heap.size A ps := (HAI4.out.below HGW.out).more HGW.out.size
        clear hR hGw
        simp only [depV]
        rintro _ rfl
        try go_simp
        all_goals first
          | (with_reducible exact Grow.refl _)
          | (with_reducible exact ⟨Grow.refl _, rfl⟩)
      · intro w5 hR
        have hGw : Grow w4 w5 := hR.of_drew
        have HGW := Lib.hid hGw
        have hcc := (HGW.out.block HF4.out).cell
        have hsc := (HGW.out.block HS4.out).cell
        have hai : Ints w5 w5.heap.size A ps := (HAI4.out.below HGW.out).more HGW.out.size
        clear hR hGw
        simp only [depV]
        rintro _ rfl
        rintro _ rfl
        try go_simp
        all_goals first
          | (with_reducible exact Grow.refl _)
          | (with_reducible exact ⟨Grow.refl _, rfl⟩)
      · intro w5 hR
        have hGw : Grow w4 w5 := hR.of_drew
        have HGW := Lib.hid hGw
        have hcc := (HGW.out.block HF4.out).cell
        have hsc := (HGW.out.block HS4.out).cell
        have hai : Ints w5 w5.heap.size A ps := (HAI4.out.below HGW.out).more HGW.out.size
        clear hR hGw
        simp only [depV]
        rintro _ rfl
        rintro _ rfl
        rintro _ rfl
        try go_simp
        all_goals first
          | (with_reducible exact Grow.refl _)
          | (with_reducible exact ⟨Grow.refl _, rfl⟩)
      · intro w5 hR
        have hGw : Grow w4 w5 := hR.of_drew
        have HGW := Lib.hid hGw
        have hcc := (HGW.out.block HF4.out).cell
        have hsc := (HGW.out.block HS4.out).cell
        have hai : Ints w5 w5.heap.size A ps := (HAI4.out.below HGW.out).more HGW.out.size
        clear hR hGw
        simp only [depV]
        rintro _ rfl
        rintro _ rfl
        try go_simp
        all_goals first
          | (with_reducible exact Grow.refl _)
          | (with_reducible exact ⟨Grow.refl _, rfl⟩)
      · intro w5 hR
        have hGw : Grow w4 w5 := hR.of_drew
        have HGW := Lib.hid hGw
        have hcc := (HGW.out.block HF4.out).cell
        have hsc := (HGW.out.block HS4.out).cell
        have hai : Ints w5 w5.heap.size A ps := (HAI4.out.below HGW.out).more HGW.out.size
        clear hR hGw
        simp only [depV]
        rintro _ rfl
        try go_simp
        intro h
        exact absurd (show (none : Option Bool) = some false from h) (by simp)
      · intro w5 hR
        have hGw : Grow w4 w5 := hR.of_drew
        have HGW := Lib.hid hGw
        have hcc := (HGW.out.block HF4.out).cell
        have hsc := (HGW.out.block HS4.out).cell
        have hai : Ints w5 w5.heap.size A ps := (HAI4.out.below HGW.out).more HGW.out.size
        clear hR hGw
        simp only [depV]
        rintro _ rfl
        try go_simp
        intro h
        exact absurd (show (none : Option Bool) = some false from h) (by simp)
      · intro w5 hR
        have hGw : Grow w4 w5 := hR.of_drew
        have HGW := Lib.hid hGw
        have hcc := (HGW.out.block HF4.out).cell
        have hsc := (HGW.out.block HS4.out).cell
        have hai : Ints w5 w5.heap.size A ps := (HAI4.out.below HGW.out).more HGW.out.size
        clear hR hGw
        simp only [depV]
        rintro _ rfl
        rintro _ rfl
        try go_simp
        intro h
        exact absurd (show (none : Option Bool) = some false from h) (by simp)
      · intro w5 hR
        have hGw : Grow w4 w5 := hR.of_drew
        have HGW := Lib.hid hGw
        have hcc := (HGW.out.block HF4.out).cell
        have hsc := (HGW.out.block HS4.out).cell
        have hai : Ints w5 w5.heap.size A ps := (HAI4.out.below HGW.out).more HGW.out.size
        clear hR hGw
        simp only [depV]
        rintro _ rfl
        rintro _ rfl
        rintro _ rfl
        try go_simp
        intro h
        exact absurd (show (none : Option Bool) = some false from h) (by simp)
      · intro w5 hR
        have hGw : Grow w4 w5 := hR.of_drew
        have HGW := Lib.hid hGw
        have hcc := (HGW.out.block HF4.out).cell
        have hsc := (HGW.out.block HS4.out).cell
        have hai : Ints w5 w5.heap.size A ps := (HAI4.out.below HGW.out).more HGW.out.size
        clear hR hGw
        simp only [depV]
        rintro _ rfl
        rintro _ rfl
        rintro _ rfl
        try go_simp
        all_goals first
          | (with_reducible exact Grow.refl _)
          | (with_reducible exact ⟨Grow.refl _, rfl⟩)
      · intro w5 hR
        have hGw : Grow w4 w5 := hR.of_drew
        have HGW := Lib.hid hGw
        have hcc := (HGW.out.block HF4.out).cell
        have hsc := (HGW.out.block HS4.out).cell
        have hai : Ints w5 w5.heap.size A ps := (HAI4.out.below HGW.out).more HGW.out.size
        clear hR hGw
        simp only [depV]
        rintro _ rfl
        rintro _ rfl
        rintro _ rfl
        try go_simp
        all_goals first
          | (with_reducible exact Grow.refl _)
          | (with_reducible exact ⟨Grow.refl _, rfl⟩)
      · intro w5 hR
        have hGw : Grow w4 w5 := hR.of_drew
        have HGW := Lib.hid hGw
        have hcc := (HGW.out.block HF4.out).cell
        have hsc := (HGW.out.block HS4.out).cell
        have hai : Ints w5 w5.heap.size A ps := (HAI4.out.below HGW.out).more HGW.out.size
        clear hR hGw
        simp only [depV]
        rintro _ rfl
        rintro _ rfl
        try go_simp
        all_goals first
          | (with_reducible exact Grow.refl _)
          | (with_reducible exact ⟨Grow.refl _, rfl⟩)
    · intro w5 hR
      have HG5 : Hid (Grow w4 w5) := Lib.hid hR.of_drew
      clear hR
      simp only [finVC, List.take_succ_cons, List.take_zero, List.drop_succ_cons, List.drop_zero]
      rintro _ rfl
      rintro _ rfl
      rintro _ rfl
      rintro _ rfl
      rintro _ rfl
      rintro _ rfl
      rintro _ rfl
      rintro _ rfl
      rintro _ rfl
      rintro _ rfl
      rintro _ rfl
      rintro _ rfl
      rintro _ rfl
      rintro _ rfl
      rintro _ rfl
      rintro _ rfl
      rintro _ rfl
      rintro _ rfl
      rintro _ rfl
      rintro _ rfl
      rintro _ rfl
      rintro _ rfl
      rintro _ rfl
      rintro _ rfl
      rintro _ rfl
      rintro _ rfl
      rintro _ rfl
      rintro _ rfl
      rintro _ rfl
      rintro _ rfl
      rintro _ rfl
      rintro _ rfl
      rintro _ rfl
      rintro _ rfl
      rintro _ rfl
      rintro _ rfl
      rintro _ rfl
      rintro _ rfl
      rintro _ rfl
      simp only [Act.put, List.setIfInBounds_toArray, List.set_cons_succ, List.set_cons_zero]
      have HG8 : Hid (Grow w w5) := Lib.hid (HG4.out.trans HG5.out)
      go_wp2_with fail
      refine (HWK.out _ HG8.out).mono ?_
      rintro e w9 ⟨rfl, hb9⟩
      have HG9 : Hid (Grow w w9) := Lib.hid ((HG8.out).trans hb9)
      clear hb9
      go_wp2_with fail
      go_ret
      exact ⟨rfl, HG9.out⟩
  | none =>
    have hn1 : g ≠ g1 := fun e => by
      have := HIS.out.2 (by rw [e]; exact HG1M.out)
      cases this
    have hn2 : g ≠ g2 := fun e => by
      have := HIS.out.2 (by rw [e]; exact HG2M.out)
      cases this
    have he1 : (g == g1) = false := beq_eq_false_iff_ne.2 hn1
    have he2 : (g == g2) = false := beq_eq_false_iff_ne.2 hn2
    clear hs
    go_wp2_with fail
    refine (HGD.out _ HG1.out).mono ?_
    rintro e w2 ⟨rfl, hb2⟩
    have HG2 : Hid (Grow w w2) := Lib.hid (HG1.out.trans hb2)
    have HF2 := Lib.hid ((show Grow w1 w2 from hb2).block HF1.out)
    clear hb2 hcc
    go_upto_region 4 with fail
    obtain ⟨w3, hw3, hg3, hf3, hs3⟩ := one_block w2 33 #[.int .i64 g1, .int .i64 g2]
    rw [show w2.alloc (.cells #[.int .i64 g1, .int .i64 g2] 33) = w3 from hw3]
    clear hw3
    obtain ⟨sb, hsb⟩ : ∃ z, w2.heap.size = z := ⟨_, rfl⟩
    rw [hsb] at hf3 hs3 ⊢
    have HS3 := Lib.hid hf3
    have HF3 := Lib.hid (hg3.block HF2.out)
    have HG3 : Hid (Grow w w3) := Lib.hid (HG2.out.trans hg3)
    have hcc := HF3.out.cell
    clear hf3 hg3 hsb HF2
    go_wp2_with fail
    refine (HSW.out _ HG3.out).mono ?_
    rintro e w4 ⟨⟨A, rfl, hai⟩, hb4⟩
    have HG4 : Hid (Grow w w4) := Lib.hid (HG3.out.trans hb4)
    have HF4 := Lib.hid ((show Grow w3 w4 from hb4).block HF3.out)
    have HS4 := Lib.hid ((show Grow w3 w4 from hb4).block HS3.out)
    have HAI4 := Lib.hid hai
    clear hb4 hai hcc HF3 HS3
    have hcc := HF4.out.cell
    have hsc := HS4.out.cell
    go_wp2_with fail
    refine wp_region_lit 39 [[], [(0, 72)], [(1, 73)], [(2, 74)], [(2, 74)], [(2, 74), (3, 75), (4, 76)], [(2, 74), (5, 77)], [(2, 74), (6, 78)], [(7, 79)], [(7, 79)], [(7, 79), (8, 80), (9, 81)], [(7, 79), (10, 82)], [(2, 74), (7, 79), (11, 83)], [(2, 74), (12, 84)], [(13, 85)], [(13, 85)], [(13, 85)], [(13, 85), (15, 87), (16, 88)], [(13, 85), (14, 86), (17, 89)], [(13, 85)], [(13, 85), (18, 90), (19, 91)], [(2, 74), (13, 85), (20, 92)], [(2, 74), (21, 93)], [(22, 94)], [(23, 95)], [(23, 95), (24, 96)], [(23, 95), (25, 97)], [(26, 98)], [(26, 98)], [(26, 98), (28, 100)], [(26, 98), (27, 99), (29, 101)], [(26, 98), (30, 102)], [(31, 103)], [(31, 103)], [(31, 103), (33, 105)], [(31, 103), (32, 104), (34, 106)], [(26, 98), (31, 103), (35, 107)], [(23, 95), (26, 98), (36, 108)], [(23, 95), (37, 109)]] Grow (fun qi v w' => match qi with
        | 0 => v = .int .i64 3
        | 1 => v = .bool false
        | 2 => v = .bool false
        | 3 => v = undef
        | 4 => v = undef
        | 5 => v = undef
        | 6 => v = undef
        | 7 => v = undef
        | 8 => v = undef
        | 9 => v = undef
        | 10 => v = undef
        | 11 => v = undef
        | 12 => v = undef
        | 13 => v = undef
        | 14 => v = undef
        | 15 => v = undef
        | 16 => v = undef
        | 17 => v = undef
        | 18 => v = undef
        | 19 => v = undef
        | 20 => v = undef
        | 21 => v = undef
        | 22 => v = .bool false
        | 23 => v = .bool false
        | 24 => v = .int .i64 3
        | 25 => v = .bool true
        | 26 => v = .bool true
        | 27 => v = .int .i64 g
        | 28 => v = .pointer (some ⟨sb, 0, none⟩)
        | 29 => v = .int .i64 g1
        | 30 => v = .bool false
        | 31 => v = .bool false
        | 32 => v = .int .i64 g
        | 33 => v = .pointer (some ⟨sb, 1, none⟩)
        | 34 => v = .int .i64 g2
        | 35 => v = .bool false
        | 36 => v = .bool false
        | 37 => v = .bool false
        | 38 => v = .bool false
        | _ => False) (by kernel_rfl) (by kernel_rfl) (fun _ _ _ => Grow.trans) Grow.refl ?_ ?_ ?_
    · intro i v y y' h k
      match i, h with
      | 0, h | 1, h | 2, h | 3, h | 4, h | 5, h | 6, h | 7, h | 8, h | 9, h | 10, h | 11, h | 12, h | 13, h | 14, h | 15, h | 16, h | 17, h | 18, h | 19, h | 20, h | 21, h | 22, h | 23, h | 24, h | 25, h | 26, h | 27, h | 28, h | 29, h | 30, h | 31, h | 32, h | 33, h | 34, h | 35, h | 36, h | 37, h | 38, h => exact h
    · simp only [StepsLit, List.take_succ_cons, List.take_zero]
      refine ⟨?_, ?_, ?_, ?_, ?_, ?_, ?_, ?_, ?_, ?_, ?_, ?_, ?_, ?_, ?_, ?_, ?_, ?_, ?_, ?_, ?_, ?_, ?_, ?_, ?_, ?_, ?_, ?_, ?_, ?_, ?_, ?_, ?_, ?_, ?_, ?_, ?_, ?_, ?_, trivial⟩
      · intro w5 hR
        have hGw : Grow w4 w5 := hR.of_drew
        have HGW := Lib.hid hGw
        have hcc := (HGW.out.block HF4.out).cell
        have hsc := (HGW.out.block HS4.out).cell
        clear hR hGw
        simp only [depV]
        try go_simp
        all_goals first
          | (with_reducible exact Grow.refl _)
          | (with_reducible exact ⟨Grow.refl _, rfl⟩)
      · intro w5 hR
        have hGw : Grow w4 w5 := hR.of_drew
        have HGW := Lib.hid hGw
        have hcc := (HGW.out.block HF4.out).cell
        have hsc := (HGW.out.block HS4.out).cell
        clear hR hGw
        simp only [depV]
        rintro _ rfl
        try go_simp
        all_goals first
          | (with_reducible exact Grow.refl _)
          | (with_reducible exact ⟨Grow.refl _, rfl⟩)
      · intro w5 hR
        have hGw : Grow w4 w5 := hR.of_drew
        have HGW := Lib.hid hGw
        have hcc := (HGW.out.block HF4.out).cell
        have hsc := (HGW.out.block HS4.out).cell
        clear hR hGw
        simp only [depV]
        rintro _ rfl
        try go_simp
        all_goals first
          | (with_reducible exact Grow.refl _)
          | (with_reducible exact ⟨Grow.refl _, rfl⟩)
      · intro w5 hR
        have hGw : Grow w4 w5 := hR.of_drew
        have HGW := Lib.hid hGw
        have hcc := (HGW.out.block HF4.out).cell
        have hsc := (HGW.out.block HS4.out).cell
        clear hR hGw
        simp only [depV]
        rintro _ rfl
        try go_simp
        all_goals first
          | (with_reducible exact Grow.refl _)
          | (with_reducible exact ⟨Grow.refl _, rfl⟩)
      · intro w5 hR
        have hGw : Grow w4 w5 := hR.of_drew
        have HGW := Lib.hid hGw
        have hcc := (HGW.out.block HF4.out).cell
        have hsc := (HGW.out.block HS4.out).cell
        clear hR hGw
        simp only [depV]
        rintro _ rfl
        try go_simp
        all_goals first
          | (with_reducible exact Grow.refl _)
          | (with_reducible exact ⟨Grow.refl _, rfl⟩)
      · intro w5 hR
        have hGw : Grow w4 w5 := hR.of_drew
        have HGW := Lib.hid hGw
        have hcc := (HGW.out.block HF4.out).cell
        have hsc := (HGW.out.block HS4.out).cell
        clear hR hGw
        simp only [depV]
        rintro _ rfl
        rintro _ rfl
        rintro _ rfl
        try go_simp
        all_goals first
          | (with_reducible exact Grow.refl _)
          | (with_reducible exact ⟨Grow.refl _, rfl⟩)
      · intro w5 hR
        have hGw : Grow w4 w5 := hR.of_drew
        have HGW := Lib.hid hGw
        have hcc := (HGW.out.block HF4.out).cell
        have hsc := (HGW.out.block HS4.out).cell
        clear hR hGw
        simp only [depV]
        rintro _ rfl
        rintro _ rfl
        try go_simp
        all_goals first
          | (with_reducible exact Grow.refl _)
          | (with_reducible exact ⟨Grow.refl _, rfl⟩)
      · intro w5 hR
        have hGw : Grow w4 w5 := hR.of_drew
        have HGW := Lib.hid hGw
        have hcc := (HGW.out.block HF4.out).cell
        have hsc := (HGW.out.block HS4.out).cell
        clear hR hGw
        simp only [depV]
        rintro _ rfl
        rintro _ rfl
        try go_simp
        all_goals first
          | (with_reducible exact Grow.refl _)
          | (with_reducible exact ⟨Grow.refl _, rfl⟩)
      · intro w5 hR
        have hGw : Grow w4 w5 := hR.of_drew
        have HGW := Lib.hid hGw
        have hcc := (HGW.out.block HF4.out).cell
        have hsc := (HGW.out.block HS4.out).cell
        clear hR hGw
        simp only [depV]
        rintro _ rfl
        try go_simp
        intro h
        exact absurd (show (none : Option Bool) = some false from h) (by simp)
      · intro w5 hR
        have hGw : Grow w4 w5 := hR.of_drew
        have HGW := Lib.hid hGw
        have hcc := (HGW.out.block HF4.out).cell
        have hsc := (HGW.out.block HS4.out).cell
        clear hR hGw
        simp only [depV]
        rintro _ rfl
        try go_simp
        intro h
        exact absurd (show (none : Option Bool) = some false from h) (by simp)
      · intro w5 hR
        have hGw : Grow w4 w5 := hR.of_drew
        have HGW := Lib.hid hGw
        have hcc := (HGW.out.block HF4.out).cell
        have hsc := (HGW.out.block HS4.out).cell
        clear hR hGw
        simp only [depV]
        rintro _ rfl
        rintro _ rfl
        rintro _ rfl
        try go_simp
        intro h
        exact absurd (show (none : Option Bool) = some false from h) (by simp)
      · intro w5 hR
        have hGw : Grow w4 w5 := hR.of_drew
        have HGW := Lib.hid hGw
        have hcc := (HGW.out.block HF4.out).cell
        have hsc := (HGW.out.block HS4.out).cell
        clear hR hGw
        simp only [depV]
        rintro _ rfl
        rintro _ rfl
        try go_simp
        intro h
        exact absurd (show (none : Option Bool) = some false from h) (by simp)
      · intro w5 hR
        have hGw : Grow w4 w5 := hR.of_drew
        have HGW := Lib.hid hGw
        have hcc := (HGW.out.block HF4.out).cell
        have hsc := (HGW.out.block HS4.out).cell
        clear hR hGw
        simp only [depV]
        rintro _ rfl
        rintro _ rfl
        rintro _ rfl
        try go_simp
        all_goals first
          | (with_reducible exact Grow.refl _)
          | (with_reducible exact ⟨Grow.refl _, rfl⟩)
      · intro w5 hR
        have hGw : Grow w4 w5 := hR.of_drew
        have HGW := Lib.hid hGw
        have hcc := (HGW.out.block HF4.out).cell
        have hsc := (HGW.out.block HS4.out).cell
        clear hR hGw
        simp only [depV]
        rintro _ rfl
        rintro _ rfl
        try go_simp
        all_goals first
          | (with_reducible exact Grow.refl _)
          | (with_reducible exact ⟨Grow.refl _, rfl⟩)
      · intro w5 hR
        have hGw : Grow w4 w5 := hR.of_drew
        have HGW := Lib.hid hGw
        have hcc := (HGW.out.block HF4.out).cell
        have hsc := (HGW.out.block HS4.out).cell
        clear hR hGw
        simp only [depV]
        rintro _ rfl
        try go_simp
        intro h
        exact absurd (show (none : Option Bool) = some false from h) (by simp)
      · intro w5 hR
        have hGw : Grow w4 w5 := hR.of_drew
        have HGW := Lib.hid hGw
        have hcc := (HGW.out.block HF4.out).cell
        have hsc := (HGW.out.block HS4.out).cell
        clear hR hGw
        simp only [depV]
        rintro _ rfl
        try go_simp
        intro h
        exact absurd (show (none : Option Bool) = some false from h) (by simp)
      · intro w5 hR
        have hGw : Grow w4 w5 := hR.of_drew
        have HGW := Lib.hid hGw
        have hcc := (HGW.out.block HF4.out).cell
        have hsc := (HGW.out.block HS4.out).cell
        clear hR hGw
        simp only [depV]
        rintro _ rfl
        try go_simp
        intro h
        exact absurd (show (none : Option Bool) = some false from h) (by simp)
      · intro w5 hR
        have hGw : Grow w4 w5 := hR.of_drew
        have HGW := Lib.hid hGw
        have hcc := (HGW.out.block HF4.out).cell
        have hsc := (HGW.out.block HS4.out).cell
        clear hR hGw
        simp only [depV]
        rintro _ rfl
        rintro _ rfl
        rintro _ rfl
        try go_simp
        intro h
        exact absurd (show (none : Option Bool) = some false from h) (by simp)
      · intro w5 hR
        have hGw : Grow w4 w5 := hR.of_drew
        have HGW := Lib.hid hGw
        have hcc := (HGW.out.block HF4.out).cell
        have hsc := (HGW.out.block HS4.out).cell
        clear hR hGw
        simp only [depV]
        rintro _ rfl
        rintro _ rfl
        rintro _ rfl
        try go_simp
        intro h
        exact absurd (show (none : Option Bool) = some false from h) (by simp)
      · intro w5 hR
        have hGw : Grow w4 w5 := hR.of_drew
        have HGW := Lib.hid hGw
        have hcc := (HGW.out.block HF4.out).cell
        have hsc := (HGW.out.block HS4.out).cell
        clear hR hGw
        simp only [depV]
        rintro _ rfl
        try go_simp
        intro h
        exact absurd (show (none : Option Bool) = some false from h) (by simp)
      · intro w5 hR
        have hGw : Grow w4 w5 := hR.of_drew
        have HGW := Lib.hid hGw
        have hcc := (HGW.out.block HF4.out).cell
        have hsc := (HGW.out.block HS4.out).cell
        clear hR hGw
        simp only [depV]
        rintro _ rfl
        rintro _ rfl
        rintro _ rfl
        try go_simp
        intro h
        exact absurd (show (none : Option Bool) = some false from h) (by simp)
      · intro w5 hR
        have hGw : Grow w4 w5 := hR.of_drew
        have HGW := Lib.hid hGw
        have hcc := (HGW.out.block HF4.out).cell
        have hsc := (HGW.out.block HS4.out).cell
        clear hR hGw
        simp only [depV]
        rintro _ rfl
        rintro _ rfl
        rintro _ rfl
        try go_simp
        all_goals first
          | (with_reducible exact Grow.refl _)
          | (with_reducible exact ⟨Grow.refl _, rfl⟩)
      · intro w5 hR
        have hGw : Grow w4 w5 := hR.of_drew
        have HGW := Lib.hid hGw
        have hcc := (HGW.out.block HF4.out).cell
        have hsc := (HGW.out.block HS4.out).cell
        clear hR hGw
        simp only [depV]
        rintro _ rfl
        rintro _ rfl
        try go_simp
        all_goals first
          | (with_reducible exact Grow.refl _)
          | (with_reducible exact ⟨Grow.refl _, rfl⟩)
      · intro w5 hR
        have hGw : Grow w4 w5 := hR.of_drew
        have HGW := Lib.hid hGw
        have hcc := (HGW.out.block HF4.out).cell
        have hsc := (HGW.out.block HS4.out).cell
        clear hR hGw
        simp only [depV]
        rintro _ rfl
        try go_simp
        all_goals first
          | (with_reducible exact Grow.refl _)
          | (with_reducible exact ⟨Grow.refl _, rfl⟩)
      · intro w5 hR
        have hGw : Grow w4 w5 := hR.of_drew
        have HGW := Lib.hid hGw
        have hcc := (HGW.out.block HF4.out).cell
        have hsc := (HGW.out.block HS4.out).cell
        clear hR hGw
        simp only [depV]
        rintro _ rfl
        try go_simp
        all_goals first
          | (with_reducible exact Grow.refl _)
          | (with_reducible exact ⟨Grow.refl _, rfl⟩)
      · intro w5 hR
        have hGw : Grow w4 w5 := hR.of_drew
        have HGW := Lib.hid hGw
        have hcc := (HGW.out.block HF4.out).cell
        have hsc := (HGW.out.block HS4.out).cell
        clear hR hGw
        simp only [depV]
        rintro _ rfl
        rintro _ rfl
        try go_simp
        all_goals first
          | (with_reducible exact Grow.refl _)
          | (with_reducible exact ⟨Grow.refl _, rfl⟩)
      · intro w5 hR
        have hGw : Grow w4 w5 := hR.of_drew
        have HGW := Lib.hid hGw
        have hcc := (HGW.out.block HF4.out).cell
        have hsc := (HGW.out.block HS4.out).cell
        clear hR hGw
        simp only [depV]
        rintro _ rfl
        rintro _ rfl
        try go_simp
        all_goals first
          | (with_reducible exact Grow.refl _)
          | (with_reducible exact ⟨Grow.refl _, rfl⟩)
      · intro w5 hR
        have hGw : Grow w4 w5 := hR.of_drew
        have HGW := Lib.hid hGw
        have hcc := (HGW.out.block HF4.out).cell
        have hsc := (HGW.out.block HS4.out).cell
        clear hR hGw
        simp only [depV]
        rintro _ rfl
        try go_simp
        all_goals first
          | (with_reducible exact Grow.refl _)
          | (with_reducible exact ⟨Grow.refl _, rfl⟩)
      · intro w5 hR
        have hGw : Grow w4 w5 := hR.of_drew
        have HGW := Lib.hid hGw
        have hcc := (HGW.out.block HF4.out).cell
        have hsc := (HGW.out.block HS4.out).cell
        clear hR hGw
        simp only [depV]
        rintro _ rfl
        try go_simp
        all_goals first
          | (with_reducible exact Grow.refl _)
          | (with_reducible exact ⟨Grow.refl _, rfl⟩)
      · intro w5 hR
        have hGw : Grow w4 w5 := hR.of_drew
        have HGW := Lib.hid hGw
        have hcc := (HGW.out.block HF4.out).cell
        have hsc := (HGW.out.block HS4.out).cell
        clear hR hGw
        simp only [depV]
        rintro _ rfl
        rintro _ rfl
        try go_simp
        all_goals first
          | (with_reducible exact Grow.refl _)
          | (with_reducible exact ⟨Grow.refl _, rfl⟩)
      · intro w5 hR
        have hGw : Grow w4 w5 := hR.of_drew
        have HGW := Lib.hid hGw
        have hcc := (HGW.out.block HF4.out).cell
        have hsc := (HGW.out.block HS4.out).cell
        clear hR hGw
        simp only [depV]
        rintro _ rfl
        rintro _ rfl
        rintro _ rfl
        try go_simp
        all_goals first
          | (with_reducible exact Grow.refl _)
          | (with_reducible exact ⟨Grow.refl _, rfl⟩)
      · intro w5 hR
        have hGw : Grow w4 w5 := hR.of_drew
        have HGW := Lib.hid hGw
        have hcc := (HGW.out.block HF4.out).cell
        have hsc := (HGW.out.block HS4.out).cell
        clear hR hGw
        simp only [depV]
        rintro _ rfl
        rintro _ rfl
        try go_simp
        all_goals first
          | (with_reducible exact Grow.refl _)
          | (with_reducible exact ⟨Grow.refl _, rfl⟩)
      · intro w5 hR
        have hGw : Grow w4 w5 := hR.of_drew
        have HGW := Lib.hid hGw
        have hcc := (HGW.out.block HF4.out).cell
        have hsc := (HGW.out.block HS4.out).cell
        clear hR hGw
        simp only [depV]
        rintro _ rfl
        try go_simp
        all_goals first
          | (with_reducible exact Grow.refl _)
          | (with_reducible exact ⟨Grow.refl _, rfl⟩)
      · intro w5 hR
        have hGw : Grow w4 w5 := hR.of_drew
        have HGW := Lib.hid hGw
        have hcc := (HGW.out.block HF4.out).cell
        have hsc := (HGW.out.block HS4.out).cell
        clear hR hGw
        simp only [depV]
        rintro _ rfl
        try go_simp
        all_goals first
          | (with_reducible exact Grow.refl _)
          | (with_reducible exact ⟨Grow.refl _, rfl⟩)
      · intro w5 hR
        have hGw : Grow w4 w5 := hR.of_drew
        have HGW := Lib.hid hGw
        have hcc := (HGW.out.block HF4.out).cell
        have hsc := (HGW.out.block HS4.out).cell
        clear hR hGw
        simp only [depV]
        rintro _ rfl
        rintro _ rfl
        try go_simp
        all_goals first
          | (with_reducible exact Grow.refl _)
          | (with_reducible exact ⟨Grow.refl _, rfl⟩)
      · intro w5 hR
        have hGw : Grow w4 w5 := hR.of_drew
        have HGW := Lib.hid hGw
        have hcc := (HGW.out.block HF4.out).cell
        have hsc := (HGW.out.block HS4.out).cell
        clear hR hGw
        simp only [depV]
        rintro _ rfl
        rintro _ rfl
        rintro _ rfl
        try go_simp
        all_goals first
          | (with_reducible exact Grow.refl _)
          | (with_reducible exact ⟨Grow.refl _, rfl⟩)
      · intro w5 hR
        have hGw : Grow w4 w5 := hR.of_drew
        have HGW := Lib.hid hGw
        have hcc := (HGW.out.block HF4.out).cell
        have hsc := (HGW.out.block HS4.out).cell
        clear hR hGw
        simp only [depV]
        rintro _ rfl
        rintro _ rfl
        rintro _ rfl
        try go_simp
        all_goals first
          | (with_reducible exact Grow.refl _)
          | (with_reducible exact ⟨Grow.refl _, rfl⟩)
      · intro w5 hR
        have hGw : Grow w4 w5 := hR.of_drew
        have HGW := Lib.hid hGw
        have hcc := (HGW.out.block HF4.out).cell
        have hsc := (HGW.out.block HS4.out).cell
        clear hR hGw
        simp only [depV]
        rintro _ rfl
        rintro _ rfl
        rintro _ rfl
        try go_simp
        all_goals first
          | (with_reducible exact Grow.refl _)
          | (with_reducible exact ⟨Grow.refl _, rfl⟩)
      · intro w5 hR
        have hGw : Grow w4 w5 := hR.of_drew
        have HGW := Lib.hid hGw
        have hcc := (HGW.out.block HF4.out).cell
        have hsc := (HGW.out.block HS4.out).cell
        clear hR hGw
        simp only [depV]
        rintro _ rfl
        rintro _ rfl
        try go_simp
        all_goals first
          | (with_reducible exact Grow.refl _)
          | (with_reducible exact ⟨Grow.refl _, rfl⟩)
    · intro w5 hR
      have HG5 : Hid (Grow w4 w5) := Lib.hid hR.of_drew
      clear hR
      simp only [finVC, List.take_succ_cons, List.take_zero, List.drop_succ_cons, List.drop_zero]
      rintro _ rfl
      rintro _ rfl
      rintro _ rfl
      rintro _ rfl
      rintro _ rfl
      rintro _ rfl
      rintro _ rfl
      rintro _ rfl
      rintro _ rfl
      rintro _ rfl
      rintro _ rfl
      rintro _ rfl
      rintro _ rfl
      rintro _ rfl
      rintro _ rfl
      rintro _ rfl
      rintro _ rfl
      rintro _ rfl
      rintro _ rfl
      rintro _ rfl
      rintro _ rfl
      rintro _ rfl
      rintro _ rfl
      rintro _ rfl
      rintro _ rfl
      rintro _ rfl
      rintro _ rfl
      rintro _ rfl
      rintro _ rfl
      rintro _ rfl
      rintro _ rfl
      rintro _ rfl
      rintro _ rfl
      rintro _ rfl
      rintro _ rfl
      rintro _ rfl
      rintro _ rfl
      rintro _ rfl
      rintro _ rfl
      simp only [Act.put, List.setIfInBounds_toArray, List.set_cons_succ, List.set_cons_zero]
      have HG8 : Hid (Grow w w5) := Lib.hid (HG4.out.trans HG5.out)
      go_wp2_with fail
      refine (HWK.out _ HG8.out).mono ?_
      rintro e w9 ⟨rfl, hb9⟩
      have HG9 : Hid (Grow w w9) := Lib.hid ((HG8.out).trans hb9)
      clear hb9
      go_wp2_with fail
      go_ret
      exact ⟨rfl, HG9.out⟩

end Go.Proofs.YthehkgpnnndboaaDoor
