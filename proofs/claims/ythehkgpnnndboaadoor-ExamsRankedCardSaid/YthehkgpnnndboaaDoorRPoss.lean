/- RPoss: the specification's IsPossible; written by wip/tools/rposs9.py. -/
import Derived.Test.YthehkgpnnndboaaDoorRWrongs
import Derived.Test.YthehkgpnnndboaaDoorRegion
namespace Go.Proofs.YthehkgpnnndboaaDoor
open Go.RowKit

set_option maxRecDepth 100000 in
set_option maxHeartbeats 8000000 in
theorem rIsPossible_any (p : PaperR) (G : GoodP p.d) (A : Option Addr) (cap : Nat) (ps : List Int) (hl : ps.length ≤ 1000000) (w : World) (hA : PaperAt w w.heap.size p) (hP : Ints w w.heap.size A ps) :
    Calls Tryd.prog 34 #[paperV p, .slice A ps.length cap] w fun e w' => e = .returned (.bool (possD p.d ps)) ∧ Below w.heap.size w w' := by
  have hi4 : p.items.length ≤ 1000000 := by have : p.items.length ≤ 4 := G.i4; omega
  have HTR := Lib.hid (fun (w0 : World) (hw : Grow w w0) => rIsTruth_any p A cap ps w0 (hA.grow hw) ((hP.below hw).more hw.size) hi4 hl)
  have HWR := Lib.hid (fun (hf : fitsI p.items ps = true) (w0 : World) (hw : Grow w w0) => rWrongs_any p G A cap ps hf w0 (hA.grow hw) ((hP.below hw).more hw.size))
  have HPD : Hid (possD p.d ps = (fitsI p.items ps && decide ((wrongC p.d.judges ps : Int) ≤ p.wrong))) := Lib.hid rfl
  rw [HPD.out]
  obtain ⟨wc, hwc⟩ : ∃ z, wrongC p.d.judges ps = z := ⟨_, rfl⟩
  rw [hwc] at HWR ⊢
  clear hA hP hwc HPD
  go_enter Tryd.func34, Tryd.ntmps34
  go_upto_region 1 with fail
  obtain ⟨W, hW, hg, hfb, hsz⟩ := one_block w 26 (cellsP p)
  rw [hW]
  clear hW
  have HG := Lib.hid hg
  have HF := Lib.hid hfb
  clear hg hfb
  cases hfi : fitsI p.items ps with
  | true =>
    have HWR2 := Lib.hid (HWR.out hfi)
    simp only [hfi] at HTR
    have HFI := Lib.hid hfi
    clear HWR hfi
    refine wp_region_lit 11 [[], [], [(0, 5), (1, 6)], [(2, 7)], [(3, 8)], [(3, 8)], [(3, 8), (4, 9), (5, 10)], [(3, 8)], [(3, 8), (7, 12)], [(3, 8), (6, 11), (8, 13)], [(3, 8), (9, 14)]] Grow (fun qi v w' => match qi with
        | 0 => v = paperV p
        | 1 => v = .slice A ps.length cap
        | 2 => v = .bool true
        | 3 => v = .bool true
        | 4 => v = paperV p
        | 5 => v = .slice A ps.length cap
        | 6 => v = .int .i64 (wc : Nat)
        | 7 => v = .pointer (some ⟨w.heap.size, 2, none⟩)
        | 8 => v = .int .i64 p.wrong
        | 9 => v = .bool (decide ((wc : Int) ≤ p.wrong))
        | 10 => v = .bool (decide ((wc : Int) ≤ p.wrong))
        | _ => False) (by kernel_rfl) (by kernel_rfl) (fun _ _ _ => Grow.trans) Grow.refl ?_ ?_ ?_
    · intro i v y y' h k
      match i, h with
      | 0, h | 1, h | 2, h | 3, h | 4, h | 5, h | 6, h | 7, h | 8, h | 9, h | 10, h => exact h
    · simp only [StepsLit, List.take_succ_cons, List.take_zero]
      refine ⟨?_, ?_, ?_, ?_, ?_, ?_, ?_, ?_, ?_, ?_, ?_, trivial⟩
      · intro w5 hR
        have hGw : Grow W w5 := hR.of_drew
        have HGW := Lib.hid hGw
        have hcc := (HGW.out.block HF.out).cell
        clear hR hGw
        simp only [depV]
        try go_simp
        all_goals first
          | (with_reducible exact Grow.refl _)
          | (with_reducible exact ⟨Grow.refl _, rfl⟩)
      · intro w5 hR
        have hGw : Grow W w5 := hR.of_drew
        have HGW := Lib.hid hGw
        have hcc := (HGW.out.block HF.out).cell
        clear hR hGw
        simp only [depV]
        try go_simp
        all_goals first
          | (with_reducible exact Grow.refl _)
          | (with_reducible exact ⟨Grow.refl _, rfl⟩)
      · intro w5 hR
        have hGw : Grow W w5 := hR.of_drew
        have HGW := Lib.hid hGw
        have hcc := (HGW.out.block HF.out).cell
        clear hR hGw
        simp only [depV]
        rintro _ rfl
        rintro _ rfl
        try go_simp
        refine (HTR.out w5 (HG.out.trans HGW.out)).mono ?_
        rintro e w6 ⟨rfl, hb6⟩
        exact ⟨hb6, rfl⟩
      · intro w5 hR
        have hGw : Grow W w5 := hR.of_drew
        have HGW := Lib.hid hGw
        have hcc := (HGW.out.block HF.out).cell
        clear hR hGw
        simp only [depV]
        rintro _ rfl
        try go_simp
        all_goals first
          | (with_reducible exact Grow.refl _)
          | (with_reducible exact ⟨Grow.refl _, rfl⟩)
      · intro w5 hR
        have hGw : Grow W w5 := hR.of_drew
        have HGW := Lib.hid hGw
        have hcc := (HGW.out.block HF.out).cell
        clear hR hGw
        simp only [depV]
        rintro _ rfl
        try go_simp
        all_goals first
          | (with_reducible exact Grow.refl _)
          | (with_reducible exact ⟨Grow.refl _, rfl⟩)
      · intro w5 hR
        have hGw : Grow W w5 := hR.of_drew
        have HGW := Lib.hid hGw
        have hcc := (HGW.out.block HF.out).cell
        clear hR hGw
        simp only [depV]
        rintro _ rfl
        try go_simp
        all_goals first
          | (with_reducible exact Grow.refl _)
          | (with_reducible exact ⟨Grow.refl _, rfl⟩)
      · intro w5 hR
        have hGw : Grow W w5 := hR.of_drew
        have HGW := Lib.hid hGw
        have hcc := (HGW.out.block HF.out).cell
        clear hR hGw
        simp only [depV]
        rintro _ rfl
        rintro _ rfl
        rintro _ rfl
        try go_simp
        refine (HWR2.out w5 (HG.out.trans HGW.out)).mono ?_
        rintro e w6 ⟨rfl, hb6⟩
        exact ⟨hb6, rfl⟩
      · intro w5 hR
        have hGw : Grow W w5 := hR.of_drew
        have HGW := Lib.hid hGw
        have hcc := (HGW.out.block HF.out).cell
        clear hR hGw
        simp only [depV]
        rintro _ rfl
        try go_simp
        all_goals first
          | (with_reducible exact Grow.refl _)
          | (with_reducible exact ⟨Grow.refl _, rfl⟩)
      · intro w5 hR
        have hGw : Grow W w5 := hR.of_drew
        have HGW := Lib.hid hGw
        have hcc := (HGW.out.block HF.out).cell
        clear hR hGw
        simp only [depV]
        rintro _ rfl
        rintro _ rfl
        try go_simp
        all_goals first
          | (with_reducible exact Grow.refl _)
          | (with_reducible exact ⟨Grow.refl _, rfl⟩)
      · intro w5 hR
        have hGw : Grow W w5 := hR.of_drew
        have HGW := Lib.hid hGw
        have hcc := (HGW.out.block HF.out).cell
        clear hR hGw
        simp only [depV]
        rintro _ rfl
        rintro _ rfl
        rintro _ rfl
        try go_simp
        all_goals first
          | (with_reducible exact Grow.refl _)
          | (with_reducible exact ⟨Grow.refl _, rfl⟩)
      · intro w5 hR
        have hGw : Grow W w5 := hR.of_drew
        have HGW := Lib.hid hGw
        have hcc := (HGW.out.block HF.out).cell
        clear hR hGw
        simp only [depV]
        rintro _ rfl
        rintro _ rfl
        try go_simp
        all_goals first
          | (with_reducible exact Grow.refl _)
          | (with_reducible exact ⟨Grow.refl _, rfl⟩)
    · intro w5 hR
      have HG5 : Hid (Grow W w5) := Lib.hid hR.of_drew
      clear hR
      simp only [finVC, List.take_succ_cons, List.take_zero, List.drop_succ_cons, List.drop_zero]
      rintro _ rfl
      rintro _ rfl
      rintro _ rfl
      rintro _ rfl
      rintro _ rfl
      rintro _ rfl
      rintro _ rfl
      rintro _ rfl
      rintro _ rfl
      rintro _ rfl
      rintro _ rfl
      simp only [Act.put, List.setIfInBounds_toArray, List.set_cons_succ, List.set_cons_zero]
      go_wp2_with fail
      go_ret
      exact ⟨by rw [HFI.out]; rfl, HG.out.trans HG5.out⟩
  | false =>
    simp only [hfi] at HTR
    have HFI := Lib.hid hfi
    clear HWR hfi
    refine wp_region_lit 11 [[], [], [(0, 5), (1, 6)], [(2, 7)], [(3, 8)], [(3, 8)], [(3, 8), (4, 9), (5, 10)], [(3, 8)], [(3, 8), (7, 12)], [(3, 8), (6, 11), (8, 13)], [(3, 8), (9, 14)]] Grow (fun qi v w' => match qi with
        | 0 => v = paperV p
        | 1 => v = .slice A ps.length cap
        | 2 => v = .bool false
        | 3 => v = .bool false
        | 4 => v = undef
        | 5 => v = undef
        | 6 => v = undef
        | 7 => v = undef
        | 8 => v = undef
        | 9 => v = undef
        | 10 => v = .bool false
        | _ => False) (by kernel_rfl) (by kernel_rfl) (fun _ _ _ => Grow.trans) Grow.refl ?_ ?_ ?_
    · intro i v y y' h k
      match i, h with
      | 0, h | 1, h | 2, h | 3, h | 4, h | 5, h | 6, h | 7, h | 8, h | 9, h | 10, h => exact h
    · simp only [StepsLit, List.take_succ_cons, List.take_zero]
      refine ⟨?_, ?_, ?_, ?_, ?_, ?_, ?_, ?_, ?_, ?_, ?_, trivial⟩
      · intro w5 hR
        have hGw : Grow W w5 := hR.of_drew
        have HGW := Lib.hid hGw
        have hcc := (HGW.out.block HF.out).cell
        clear hR hGw
        simp only [depV]
        try go_simp
        all_goals first
          | (with_reducible exact Grow.refl _)
          | (with_reducible exact ⟨Grow.refl _, rfl⟩)
      · intro w5 hR
        have hGw : Grow W w5 := hR.of_drew
        have HGW := Lib.hid hGw
        have hcc := (HGW.out.block HF.out).cell
        clear hR hGw
        simp only [depV]
        try go_simp
        all_goals first
          | (with_reducible exact Grow.refl _)
          | (with_reducible exact ⟨Grow.refl _, rfl⟩)
      · intro w5 hR
        have hGw : Grow W w5 := hR.of_drew
        have HGW := Lib.hid hGw
        have hcc := (HGW.out.block HF.out).cell
        clear hR hGw
        simp only [depV]
        rintro _ rfl
        rintro _ rfl
        try go_simp
        refine (HTR.out w5 (HG.out.trans HGW.out)).mono ?_
        rintro e w6 ⟨rfl, hb6⟩
        exact ⟨hb6, rfl⟩
      · intro w5 hR
        have hGw : Grow W w5 := hR.of_drew
        have HGW := Lib.hid hGw
        have hcc := (HGW.out.block HF.out).cell
        clear hR hGw
        simp only [depV]
        rintro _ rfl
        try go_simp
        all_goals first
          | (with_reducible exact Grow.refl _)
          | (with_reducible exact ⟨Grow.refl _, rfl⟩)
      · intro w5 hR
        have hGw : Grow W w5 := hR.of_drew
        have HGW := Lib.hid hGw
        have hcc := (HGW.out.block HF.out).cell
        clear hR hGw
        simp only [depV]
        rintro _ rfl
        try go_simp
        all_goals first
          | (with_reducible exact Grow.refl _)
          | (with_reducible exact ⟨Grow.refl _, rfl⟩)
      · intro w5 hR
        have hGw : Grow W w5 := hR.of_drew
        have HGW := Lib.hid hGw
        have hcc := (HGW.out.block HF.out).cell
        clear hR hGw
        simp only [depV]
        rintro _ rfl
        try go_simp
        all_goals first
          | (with_reducible exact Grow.refl _)
          | (with_reducible exact ⟨Grow.refl _, rfl⟩)
      · intro w5 hR
        have hGw : Grow W w5 := hR.of_drew
        have HGW := Lib.hid hGw
        have hcc := (HGW.out.block HF.out).cell
        clear hR hGw
        simp only [depV]
        rintro _ rfl
        rintro _ rfl
        rintro _ rfl
        try go_simp
        all_goals first
          | (with_reducible exact Grow.refl _)
          | (with_reducible exact ⟨Grow.refl _, rfl⟩)
      · intro w5 hR
        have hGw : Grow W w5 := hR.of_drew
        have HGW := Lib.hid hGw
        have hcc := (HGW.out.block HF.out).cell
        clear hR hGw
        simp only [depV]
        rintro _ rfl
        try go_simp
        all_goals first
          | (with_reducible exact Grow.refl _)
          | (with_reducible exact ⟨Grow.refl _, rfl⟩)
      · intro w5 hR
        have hGw : Grow W w5 := hR.of_drew
        have HGW := Lib.hid hGw
        have hcc := (HGW.out.block HF.out).cell
        clear hR hGw
        simp only [depV]
        rintro _ rfl
        rintro _ rfl
        try go_simp
        all_goals first
          | (with_reducible exact Grow.refl _)
          | (with_reducible exact ⟨Grow.refl _, rfl⟩)
      · intro w5 hR
        have hGw : Grow W w5 := hR.of_drew
        have HGW := Lib.hid hGw
        have hcc := (HGW.out.block HF.out).cell
        clear hR hGw
        simp only [depV]
        rintro _ rfl
        rintro _ rfl
        rintro _ rfl
        try go_simp
        all_goals first
          | (with_reducible exact Grow.refl _)
          | (with_reducible exact ⟨Grow.refl _, rfl⟩)
      · intro w5 hR
        have hGw : Grow W w5 := hR.of_drew
        have HGW := Lib.hid hGw
        have hcc := (HGW.out.block HF.out).cell
        clear hR hGw
        simp only [depV]
        rintro _ rfl
        rintro _ rfl
        try go_simp
        all_goals first
          | (with_reducible exact Grow.refl _)
          | (with_reducible exact ⟨Grow.refl _, rfl⟩)
    · intro w5 hR
      have HG5 : Hid (Grow W w5) := Lib.hid hR.of_drew
      clear hR
      simp only [finVC, List.take_succ_cons, List.take_zero, List.drop_succ_cons, List.drop_zero]
      rintro _ rfl
      rintro _ rfl
      rintro _ rfl
      rintro _ rfl
      rintro _ rfl
      rintro _ rfl
      rintro _ rfl
      rintro _ rfl
      rintro _ rfl
      rintro _ rfl
      rintro _ rfl
      simp only [Act.put, List.setIfInBounds_toArray, List.set_cons_succ, List.set_cons_zero]
      go_wp2_with fail
      go_ret
      exact ⟨by rw [HFI.out]; rfl, HG.out.trans HG5.out⟩

end Go.Proofs.YthehkgpnnndboaaDoor
