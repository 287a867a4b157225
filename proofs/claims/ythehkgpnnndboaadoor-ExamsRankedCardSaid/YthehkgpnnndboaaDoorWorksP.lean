/- WorksP: the program answers the chapter's examples as the chapter says; written by wip/tools/works9.py. -/
import Derived.Test.YthehkgpnnndboaaDoorWorks
namespace Go.Proofs.YthehkgpnnndboaaDoor
open Go.RowKit

theorem run_eqS (a b c d : Int) (w : World) : (Op.equalIn 10000 33 (.agg #[.int .i64 a, .int .i64 b]) (.agg #[.int .i64 c, .int .i64 d])).run Tryd.prog w = .ok (decide (a = c ∧ b = d)) w := by
  by_cases h1 : a = c
  · by_cases h2 : b = d
    · subst h1 h2; simp [go_sem]
    · subst h1; simp [go_sem, h2]
  · simp [go_sem, h1]
theorem ex_ok : okPaper exP = true := by decide +kernel
theorem ex_num {p : PaperR} (hp : p.d = exP) {n most : Int} (h : inB n 0 most = true) : numErr p n most = 0 := by
  unfold numErr
  rw [hp, if_pos ex_ok, if_pos h, if_neg (by rw [ex_some]; exact Bool.false_ne_true)]
theorem exR_short (b0 b1 m1 m2 m3 b2 : Nat) : Short (exR b0 b1 m1 m2 m3 b2) := by
  refine ⟨by simp [exR], by simp [exR], by simp [exR], ?_⟩
  intro x hx
  have h : x = ⟨⟨0, 1, 1, [7, 15]⟩, some ⟨m1, 0, none⟩, 2⟩ ∨ x = ⟨⟨-1, 0, 0, [6, 13]⟩, some ⟨m2, 0, none⟩, 2⟩ ∨ x = ⟨⟨0, 0, 1, [3, 14]⟩, some ⟨m3, 0, none⟩, 2⟩ := by simpa [exR] using hx
  rcases h with rfl | rfl | rfl <;> simp
theorem ex_range_api {p : PaperR} (hp : p.d = exP) (w : World) (hA : PaperAt w w.heap.size p) (hs : Short p) (hG : Glob w) :
    Calls Tryd.prog 18 #[paperV p] w fun e w' => e = .returned (.tuple #[spanV (25, 28), .int .i64 0]) ∧ Below w.heap.size w w' := by
  have h := rangeApi_any p w hA hs hG
  unfold rangeV at h
  rwa [ex_num hp (by decide), if_pos rfl, hp, ex_range] at h
theorem ex_blame_api {p : PaperR} (hp : p.d = exP) (w : World) (hA : PaperAt w w.heap.size p) (hs : Short p) :
    Calls Tryd.prog 25 #[paperV p] w fun e w' => ∃ A cap, e = .returned (.tuple #[.slice A 1 cap, .int .i64 0]) ∧ Ints w' w'.heap.size A [2] ∧ Below w.heap.size w w' := by
  have h := blameApi_any p w hA hs
  unfold blameV at h
  rw [ex_num hp (by decide), if_pos rfl, hp, ex_blame] at h
  exact h
theorem ex_next_api {p : PaperR} (hp : p.d = exP) (w : World) (hA : PaperAt w w.heap.size p) (hs : Short p) (hG : Glob w) :
    Calls Tryd.prog 30 #[paperV p, .int .i64 1] w fun e w' => e = .returned (.tuple #[.int .i64 0, .int .i64 3, .int .i64 0]) ∧ Below w.heap.size w w' := by
  have h := nextApi_any p 1 w hA hs hG
  unfold nextV at h
  rw [ex_num hp (by decide), if_pos rfl, hp, show Int.toNat 1 = 1 from rfl, ex_next] at h
  exact h

set_option maxRecDepth 100000 in
set_option maxHeartbeats 16000000 in
theorem works_any (w : World) (hG : Glob w) : Calls Tryd.prog 14 #[] w fun e w' => e = .returned (.bool true) ∧ Below w.heap.size w w' := by
  have HGL := Lib.hid (fun (w0 : World) (hw : Grow w w0) => hG.grow hw)
  have heqS := run_eqS 25 28 25 28
  clear hG
  go_enter Tryd.func14, Tryd.ntmps14
  go_upto_region 1 with fail
  go_wp2_with fail
  refine (example_any _).mono ?_
  rintro e w1 ⟨b0, b1, m1, m2, m3, b2, rfl, hp, hb⟩
  have HG1 : Hid (Grow w w1) := hb
  have hsh := exR_short b0 b1 m1 m2 m3 b2
  have hpd := exR_d b0 b1 m1 m2 m3 b2
  obtain ⟨p, hpp⟩ : ∃ z, exR b0 b1 m1 m2 m3 b2 = z := ⟨_, rfl⟩
  rw [hpp] at hp hsh hpd ⊢
  have HR := Lib.hid (fun (w0 : World) (hw : Grow w1 w0) => ex_range_api hpd w0 (hp.grow hw) hsh)
  have HB := Lib.hid (fun (w0 : World) (hw : Grow w1 w0) => ex_blame_api hpd w0 (hp.grow hw) hsh)
  have HN := Lib.hid (fun (w0 : World) (hw : Grow w1 w0) => ex_next_api hpd w0 (hp.grow hw) hsh)
  clear hpp hb hp hsh hpd
  go_upto_region 2 with fail
  obtain ⟨W1, hW1, hg1, hf1, hsz1⟩ := one_block w1 26 (cellsP p)
  rw [show w1.alloc (.cells (cellsP p) 26) = W1 from hW1]
  clear hW1
  have HF1 := Lib.hid hf1
  have HD1 := Lib.hid hg1
  have hcc := hf1.cell
  clear hf1 hg1
  go_wp2_with fail
  refine (HR.out W1 HD1.out (HGL.out W1 (HG1.out.trans HD1.out))).mono ?_
  rintro e w2 ⟨rfl, hb2⟩
  have HD2 : Hid (Grow w1 w2) := Lib.hid (HD1.out.trans hb2)
  have HF2 := Lib.hid ((show Grow W1 w2 from hb2).block HF1.out)
  clear hb2 hcc
  go_upto_region 3 with fail
  obtain ⟨W2, hW2, hg2, hf2, hsz2⟩ := one_block w2 33 #[.int .i64 25, .int .i64 28]
  rw [show w2.alloc (.cells #[.int .i64 25, .int .i64 28] 33) = W2 from hW2]
  clear hW2
  have HS2 := Lib.hid hf2
  have HD3 : Hid (Grow w1 W2) := Lib.hid (HD2.out.trans hg2)
  have HF3 := Lib.hid (hg2.block HF2.out)
  clear hf2 hg2
  have hcc := HF3.out.cell
  go_wp2_with fail
  refine (HB.out W2 HD3.out).mono ?_
  rintro e w3 ⟨A, cap, rfl, hi3, hb3⟩
  have HI3 := Lib.hid hi3
  have HD4 : Hid (Grow w1 w3) := Lib.hid (HD3.out.trans hb3)
  have HF4 := Lib.hid ((show Grow W2 w3 from hb3).block HF3.out)
  have HS4 := Lib.hid ((show Grow W2 w3 from hb3).block HS2.out)
  clear hb3 hcc hi3
  have hcc := HF4.out.cell
  go_wp2_with fail
  refine (HN.out w3 HD4.out (HGL.out w3 (HG1.out.trans HD4.out))).mono ?_
  rintro e w4 ⟨rfl, hb4⟩
  have HD5 : Hid (Grow w1 w4) := Lib.hid (HD4.out.trans hb4)
  have HS5 := Lib.hid ((show Grow w3 w4 from hb4).block HS4.out)
  have HI5 : Hid (Ints w4 w4.heap.size A [2]) := Lib.hid ((HI3.out.below hb4).more (show Grow w3 w4 from hb4).size)
  clear hb4 hcc HR HB HN
  go_upto_region 5 with fail
  refine wp_region_lit 28 [[], [(0, 26)], [(1, 27)], [(2, 28)], [(2, 28), (3, 29)], [(2, 28), (4, 30)], [(5, 31)], [(6, 32)], [(6, 32), (7, 33)], [(6, 32), (8, 34)], [(9, 35)], [(10, 36)], [(10, 36)], [(10, 36), (11, 37), (12, 38)], [(10, 36), (13, 39)], [(14, 40)], [(15, 41)], [(15, 41)], [(15, 41), (16, 42), (17, 43)], [(15, 41), (18, 44)], [(19, 45)], [(20, 46)], [(20, 46), (21, 47)], [(20, 46), (22, 48)], [(23, 49)], [(24, 50)], [(24, 50), (25, 51)], [(24, 50), (26, 52)]] Grow (fun qi v w' => match qi with
      | 0 => v = .int .i64 0
      | 1 => v = .bool true
      | 2 => v = .bool true
      | 3 => v = .int .i64 0
      | 4 => v = .bool true
      | 5 => v = .bool true
      | 6 => v = .bool true
      | 7 => v = .int .i64 0
      | 8 => v = .bool true
      | 9 => v = .bool true
      | 10 => v = .bool true
      | 11 => v = spanV (25, 28)
      | 12 => v = spanV (25, 28)
      | 13 => v = .bool true
      | 14 => v = .bool true
      | 15 => v = .bool true
      | 16 => v = .slice A 1 cap
      | 17 => ∃ q, v = .slice (some ⟨q, 0, none⟩) 1 1 ∧ BlockIs w' q 3 #[.int .i64 2]
      | 18 => v = .bool true
      | 19 => v = .bool true
      | 20 => v = .bool true
      | 21 => v = .int .i64 0
      | 22 => v = .bool true
      | 23 => v = .bool true
      | 24 => v = .bool true
      | 25 => v = .int .i64 3
      | 26 => v = .bool true
      | 27 => v = .bool true
      | _ => False) (by kernel_rfl) (by kernel_rfl) (fun _ _ _ => Grow.trans) Grow.refl ?_ ?_ ?_
  · intro i v y y' h k
    match i, h with
    | 17, h => let ⟨q, h1, h2⟩ := h; exact ⟨q, h1, Grow.block k h2⟩
    | 0, h | 1, h | 2, h | 3, h | 4, h | 5, h | 6, h | 7, h | 8, h | 9, h | 10, h | 11, h | 12, h | 13, h | 14, h | 15, h | 16, h | 18, h | 19, h | 20, h | 21, h | 22, h | 23, h | 24, h | 25, h | 26, h | 27, h => exact h
  · simp only [StepsLit, List.take_succ_cons, List.take_zero]
    refine ⟨?_, ?_, ?_, ?_, ?_, ?_, ?_, ?_, ?_, ?_, ?_, ?_, ?_, ?_, ?_, ?_, ?_, ?_, ?_, ?_, ?_, ?_, ?_, ?_, ?_, ?_, ?_, ?_, trivial⟩
    · intro w5 hR
      have hGw : Grow w4 w5 := hR.of_drew
      have HGW := Lib.hid hGw
      have hsc := (HGW.out.block HS5.out).cell
      clear hR hGw
      simp only [depV]
      try go_simp
      all_goals first
        | (with_reducible exact Grow.refl _)
        | (with_reducible exact ⟨Grow.refl _, rfl⟩)
    · intro w5 hR
      have hGw : Grow w4 w5 := hR.of_drew
      have HGW := Lib.hid hGw
      have hsc := (HGW.out.block HS5.out).cell
      clear hR hGw
      simp only [depV]
      rintro _ rfl
      try go_simp
      all_goals first
        | (with_reducible exact Grow.refl _)
        | (with_reducible exact ⟨Grow.refl _, rfl⟩)
    · intro w5 hR
      have hGw : Grow w4 w5 := hR.of_drew
      have HGW := Lib.hid hGw
      have hsc := (HGW.out.block HS5.out).cell
      clear hR hGw
      simp only [depV]
      rintro _ rfl
      try go_simp
      all_goals first
        | (with_reducible exact Grow.refl _)
        | (with_reducible exact ⟨Grow.refl _, rfl⟩)
    · intro w5 hR
      have hGw : Grow w4 w5 := hR.of_drew
      have HGW := Lib.hid hGw
      have hsc := (HGW.out.block HS5.out).cell
      clear hR hGw
      simp only [depV]
      rintro _ rfl
      try go_simp
      all_goals first
        | (with_reducible exact Grow.refl _)
        | (with_reducible exact ⟨Grow.refl _, rfl⟩)
    · intro w5 hR
      have hGw : Grow w4 w5 := hR.of_drew
      have HGW := Lib.hid hGw
      have hsc := (HGW.out.block HS5.out).cell
      clear hR hGw
      simp only [depV]
      rintro _ rfl
      rintro _ rfl
      try go_simp
      all_goals first
        | (with_reducible exact Grow.refl _)
        | (with_reducible exact ⟨Grow.refl _, rfl⟩)
    · intro w5 hR
      have hGw : Grow w4 w5 := hR.of_drew
      have HGW := Lib.hid hGw
      have hsc := (HGW.out.block HS5.out).cell
      clear hR hGw
      simp only [depV]
      rintro _ rfl
      rintro _ rfl
      try go_simp
      all_goals first
        | (with_reducible exact Grow.refl _)
        | (with_reducible exact ⟨Grow.refl _, rfl⟩)
    · intro w5 hR
      have hGw : Grow w4 w5 := hR.of_drew
      have HGW := Lib.hid hGw
      have hsc := (HGW.out.block HS5.out).cell
      clear hR hGw
      simp only [depV]
      rintro _ rfl
      try go_simp
      all_goals first
        | (with_reducible exact Grow.refl _)
        | (with_reducible exact ⟨Grow.refl _, rfl⟩)
    · intro w5 hR
      have hGw : Grow w4 w5 := hR.of_drew
      have HGW := Lib.hid hGw
      have hsc := (HGW.out.block HS5.out).cell
      clear hR hGw
      simp only [depV]
      rintro _ rfl
      try go_simp
      all_goals first
        | (with_reducible exact Grow.refl _)
        | (with_reducible exact ⟨Grow.refl _, rfl⟩)
    · intro w5 hR
      have hGw : Grow w4 w5 := hR.of_drew
      have HGW := Lib.hid hGw
      have hsc := (HGW.out.block HS5.out).cell
      clear hR hGw
      simp only [depV]
      rintro _ rfl
      rintro _ rfl
      try go_simp
      all_goals first
        | (with_reducible exact Grow.refl _)
        | (with_reducible exact ⟨Grow.refl _, rfl⟩)
    · intro w5 hR
      have hGw : Grow w4 w5 := hR.of_drew
      have HGW := Lib.hid hGw
      have hsc := (HGW.out.block HS5.out).cell
      clear hR hGw
      simp only [depV]
      rintro _ rfl
      rintro _ rfl
      try go_simp
      all_goals first
        | (with_reducible exact Grow.refl _)
        | (with_reducible exact ⟨Grow.refl _, rfl⟩)
    · intro w5 hR
      have hGw : Grow w4 w5 := hR.of_drew
      have HGW := Lib.hid hGw
      have hsc := (HGW.out.block HS5.out).cell
      clear hR hGw
      simp only [depV]
      rintro _ rfl
      try go_simp
      all_goals first
        | (with_reducible exact Grow.refl _)
        | (with_reducible exact ⟨Grow.refl _, rfl⟩)
    · intro w5 hR
      have hGw : Grow w4 w5 := hR.of_drew
      have HGW := Lib.hid hGw
      have hsc := (HGW.out.block HS5.out).cell
      clear hR hGw
      simp only [depV]
      rintro _ rfl
      try go_simp
      all_goals first
        | (with_reducible exact Grow.refl _)
        | (with_reducible exact ⟨Grow.refl _, rfl⟩)
    · intro w5 hR
      have hGw : Grow w4 w5 := hR.of_drew
      have HGW := Lib.hid hGw
      have hsc := (HGW.out.block HS5.out).cell
      clear hR hGw
      simp only [depV]
      rintro _ rfl
      try go_simp
      refine (span_any _ _ w5).mono ?_
      rintro e w6 ⟨rfl, hb6⟩
      exact ⟨hb6, rfl⟩
    · intro w5 hR
      have hGw : Grow w4 w5 := hR.of_drew
      have HGW := Lib.hid hGw
      have hsc := (HGW.out.block HS5.out).cell
      clear hR hGw
      simp only [depV]
      rintro _ rfl
      rintro _ rfl
      rintro _ rfl
      try go_simp
      all_goals first
        | (with_reducible exact Grow.refl _)
        | (with_reducible exact ⟨Grow.refl _, rfl⟩)
    · intro w5 hR
      have hGw : Grow w4 w5 := hR.of_drew
      have HGW := Lib.hid hGw
      have hsc := (HGW.out.block HS5.out).cell
      clear hR hGw
      simp only [depV]
      rintro _ rfl
      rintro _ rfl
      try go_simp
      all_goals first
        | (with_reducible exact Grow.refl _)
        | (with_reducible exact ⟨Grow.refl _, rfl⟩)
    · intro w5 hR
      have hGw : Grow w4 w5 := hR.of_drew
      have HGW := Lib.hid hGw
      have hsc := (HGW.out.block HS5.out).cell
      clear hR hGw
      simp only [depV]
      rintro _ rfl
      try go_simp
      all_goals first
        | (with_reducible exact Grow.refl _)
        | (with_reducible exact ⟨Grow.refl _, rfl⟩)
    · intro w5 hR
      have hGw : Grow w4 w5 := hR.of_drew
      have HGW := Lib.hid hGw
      have hsc := (HGW.out.block HS5.out).cell
      clear hR hGw
      simp only [depV]
      rintro _ rfl
      try go_simp
      all_goals first
        | (with_reducible exact Grow.refl _)
        | (with_reducible exact ⟨Grow.refl _, rfl⟩)
    · intro w5 hR
      have hGw : Grow w4 w5 := hR.of_drew
      have HGW := Lib.hid hGw
      have hsc := (HGW.out.block HS5.out).cell
      clear hR hGw
      simp only [depV]
      rintro _ rfl
      try go_simp
      exact ⟨Grow.alloc _ _, BlockIs.new _ _ _⟩
    · intro w5 hR
      have hGw : Grow w4 w5 := hR.of_drew
      have HGW := Lib.hid hGw
      have hsc := (HGW.out.block HS5.out).cell
      clear hR hGw
      simp only [depV]
      rintro _ rfl
      rintro _ rfl
      intro v17 hv17
      obtain ⟨q3, rfl, hq3⟩ := hv17
      try go_simp
      refine (sameInts_any A (some ⟨q3, 0, none⟩) cap 1 _ _ [2] [2] w5 ((HI5.out.below HGW.out).more HGW.out.size) (ints_block (xs := [2]) hq3) (by decide) (by decide)).mono ?_
      rintro e w6 ⟨rfl, n6, rfl⟩
      exact ⟨Below.drewN_ (Grow.refl _) _, rfl⟩
    · intro w5 hR
      have hGw : Grow w4 w5 := hR.of_drew
      have HGW := Lib.hid hGw
      have hsc := (HGW.out.block HS5.out).cell
      clear hR hGw
      simp only [depV]
      rintro _ rfl
      rintro _ rfl
      try go_simp
      all_goals first
        | (with_reducible exact Grow.refl _)
        | (with_reducible exact ⟨Grow.refl _, rfl⟩)
    · intro w5 hR
      have hGw : Grow w4 w5 := hR.of_drew
      have HGW := Lib.hid hGw
      have hsc := (HGW.out.block HS5.out).cell
      clear hR hGw
      simp only [depV]
      rintro _ rfl
      try go_simp
      all_goals first
        | (with_reducible exact Grow.refl _)
        | (with_reducible exact ⟨Grow.refl _, rfl⟩)
    · intro w5 hR
      have hGw : Grow w4 w5 := hR.of_drew
      have HGW := Lib.hid hGw
      have hsc := (HGW.out.block HS5.out).cell
      clear hR hGw
      simp only [depV]
      rintro _ rfl
      try go_simp
      all_goals first
        | (with_reducible exact Grow.refl _)
        | (with_reducible exact ⟨Grow.refl _, rfl⟩)
    · intro w5 hR
      have hGw : Grow w4 w5 := hR.of_drew
      have HGW := Lib.hid hGw
      have hsc := (HGW.out.block HS5.out).cell
      clear hR hGw
      simp only [depV]
      rintro _ rfl
      rintro _ rfl
      try go_simp
      all_goals first
        | (with_reducible exact Grow.refl _)
        | (with_reducible exact ⟨Grow.refl _, rfl⟩)
    · intro w5 hR
      have hGw : Grow w4 w5 := hR.of_drew
      have HGW := Lib.hid hGw
      have hsc := (HGW.out.block HS5.out).cell
      clear hR hGw
      simp only [depV]
      rintro _ rfl
      rintro _ rfl
      try go_simp
      all_goals first
        | (with_reducible exact Grow.refl _)
        | (with_reducible exact ⟨Grow.refl _, rfl⟩)
    · intro w5 hR
      have hGw : Grow w4 w5 := hR.of_drew
      have HGW := Lib.hid hGw
      have hsc := (HGW.out.block HS5.out).cell
      clear hR hGw
      simp only [depV]
      rintro _ rfl
      try go_simp
      all_goals first
        | (with_reducible exact Grow.refl _)
        | (with_reducible exact ⟨Grow.refl _, rfl⟩)
    · intro w5 hR
      have hGw : Grow w4 w5 := hR.of_drew
      have HGW := Lib.hid hGw
      have hsc := (HGW.out.block HS5.out).cell
      clear hR hGw
      simp only [depV]
      rintro _ rfl
      try go_simp
      all_goals first
        | (with_reducible exact Grow.refl _)
        | (with_reducible exact ⟨Grow.refl _, rfl⟩)
    · intro w5 hR
      have hGw : Grow w4 w5 := hR.of_drew
      have HGW := Lib.hid hGw
      have hsc := (HGW.out.block HS5.out).cell
      clear hR hGw
      simp only [depV]
      rintro _ rfl
      rintro _ rfl
      try go_simp
      all_goals first
        | (with_reducible exact Grow.refl _)
        | (with_reducible exact ⟨Grow.refl _, rfl⟩)
    · intro w5 hR
      have hGw : Grow w4 w5 := hR.of_drew
      have HGW := Lib.hid hGw
      have hsc := (HGW.out.block HS5.out).cell
      clear hR hGw
      simp only [depV]
      rintro _ rfl
      rintro _ rfl
      try go_simp
      all_goals first
        | (with_reducible exact Grow.refl _)
        | (with_reducible exact ⟨Grow.refl _, rfl⟩)
  · intro w5 hR
    have HG5 : Hid (Grow w4 w5) := Lib.hid hR.of_drew
    clear hR
    simp only [finVC, List.take_succ_cons, List.take_zero, List.drop_succ_cons, List.drop_zero]
    rintro _ rfl
    rintro _ rfl
    rintro _ rfl
    rintro _ rfl
    rintro _ rfl
    rintro _ rfl
    rintro _ rfl
    rintro _ rfl
    rintro _ rfl
    rintro _ rfl
    rintro _ rfl
    rintro _ rfl
    rintro _ rfl
    rintro _ rfl
    rintro _ rfl
    rintro _ rfl
    rintro _ rfl
    intro v17 hv17
    rintro _ rfl
    rintro _ rfl
    rintro _ rfl
    rintro _ rfl
    rintro _ rfl
    rintro _ rfl
    rintro _ rfl
    rintro _ rfl
    rintro _ rfl
    rintro _ rfl
    simp only [Act.put, List.setIfInBounds_toArray, List.set_cons_succ, List.set_cons_zero]
    go_wp2_with fail
    go_ret
    exact ⟨rfl, (HG1.out.trans HD5.out).trans HG5.out⟩

end Go.Proofs.YthehkgpnnndboaaDoor
