/- SignsForms: the law's walk. -/
import Derived.Test.YtjpnblflenlnaaaGreatWorks
import Derived.Test.YtjpnblflenlnaaaGreatCopy
namespace Go.Proofs.YtjpnblflenlnaaaGreat
open Go.RowKit

theorem canonD_len (f : FormD) : (canonD f).moves.length = f.moves.length := by
  rcases canon_cases f with h | h
  · rw [h]
  · rw [h]; simp [mirrorD]
theorem canonR_len (f : FormD) : (canonR f).1.moves.length ≤ f.moves.length := by
  unfold canonR
  split
  · exact Nat.le_of_eq (canonD_len f)
  · exact Nat.zero_le _

theorem sameForms_self (f : FormD) (A A' : Option Addr) (cap cap' : Nat) (w : World) (hA : Ints w w.heap.size A f.moves) (hA' : Ints w w.heap.size A' f.moves) (hl : f.moves.length ≤ 1000000) (hl' : f.moves.length ≤ 1000000) :
    Calls Tryz.prog 20 #[formV f A cap, formV f A' cap'] w fun e w' => e = .returned (.bool true) ∧ Below w.heap.size w w' := by
  have h := sameForms_any f f A A' cap cap' w hA hA' hl hl'
  have e : decide (f = f) = true := by simp
  rw [e] at h
  exact h

set_option maxRecDepth 100000 in
set_option maxHeartbeats 8000000 in
theorem signsForms_small (f g : FormD) (A A' : Option Addr) (cap cap' : Nat) (w : World) (hA : Ints w w.heap.size A f.moves) (hA' : Ints w w.heap.size A' g.moves) (hs : f.moves.length ≤ 20 ∧ g.moves.length ≤ 20) :
    Calls Tryz.prog 3 #[formV f A cap, formV g A' cap'] w fun e w' => e = .returned (.bool true) ∧ Below w.heap.size w w' := by
  have HWK := Lib.hid works_any
  obtain ⟨hs1, hs2⟩ := hs
  have HCA := Lib.hid (fun w0 (h : Grow w w0) => rCopyForm_any f A cap w.heap.size w0 (hA.below h) (by omega) h.size)
  have HCB := Lib.hid (fun w0 (h : Grow w w0) => rCopyForm_any g A' cap' w.heap.size w0 (hA'.below h) (by omega) h.size)
  have HRA := Lib.hid (fun w0 (h : Grow w w0) => rCanon_any f A cap w.heap.size w0 (hA.below h) h.size (by omega))
  have HRC := Lib.hid (fun w0 (h : Grow w w0) => rCompare_any f g A A' cap cap' w.heap.size w0 (hA.below h) (hA'.below h) h.size (by omega) (by omega))
  have d1 : decide (20 < (f.moves.length : Int)) = false := by simp; omega
  have d2 : decide (20 < (g.moves.length : Int)) = false := by simp; omega
  have hcl : (canonR f).1.moves.length ≤ 20 := Nat.le_trans (canonR_len f) hs1
  clear hA hA'
  go_enter Tryz.func3, Tryz.ntmps3
  go_upto_region 1 with fail
  obtain ⟨W, hW, hg, hf, hf', hsz⟩ := two_blocks w 24 24 (cellsF f A cap) (cellsF g A' cap')
  rw [hW]
  clear hW
  have HG := Lib.hid hg
  have HF := Lib.hid hf
  have HF' := Lib.hid hf'
  have hfc := hf.cell
  have hgc := hf'.cell
  clear hg hf hf'
  go_wp2_with fail
  refine (HCA.out _ HG.out).mono ?_
  rintro e w2 ⟨A2, c2, rfl, hi2, hb2⟩
  have HG2 : Hid (Grow w w2) := HG.out.trans hb2
  have HC := Lib.hid (Canon_any f A2 c2 w2.heap.size w2 hi2.ints (Nat.le_refl _) (by omega))
  have HF2 := Lib.hid (Grow.block hb2 HF.out)
  have HF2' := Lib.hid (Grow.block hb2 HF'.out)
  clear hi2 hb2 hfc hgc
  go_wp2_with fail
  refine HC.out.mono ?_
  rintro e w3 ⟨A3, c3, rfl, hi3, hb3⟩
  generalize hcr : canonR f = cr at *
  obtain ⟨cf, ce⟩ := cr
  dsimp only at *
  have HCR := Lib.hid hcr
  obtain ⟨W4, hW4, hg4, hf4, hsz4⟩ := one_block w3 24 (cellsF cf A3 c3)
  have HG4 : Hid (Grow w W4) := (HG2.out.trans hb3).trans hg4
  have HF4 := Lib.hid (hg4.block (Grow.block hb3 HF2.out))
  have HF4' := Lib.hid (hg4.block (Grow.block hb3 HF2'.out))
  have HB4 := Lib.hid hf4
  have HI4 := Lib.hid (hi3.grow hg4).ints
  have hfc := HF4.out.cell
  have HW4 := Lib.hid hW4
  clear hcr hi3 hb3 hg4 hf4 hW4
  go_upto_region 4 with fail
  rw [HW4.out]
  go_wp2_with fail
  refine (HRA.out _ HG4.out).mono ?_
  rintro e w5 ⟨A5, c5, rfl, hi5, hb5⟩
  obtain ⟨W6, hW6, hg6, hf6, hsz6⟩ := one_block w5 24 (cellsF cf A5 c5)
  have HG6 : Hid (Grow w W6) := (HG4.out.trans hb5).trans hg6
  have hg46 : Grow W4 W6 := Grow.trans hb5 hg6
  have HF6 := Lib.hid (hg46.block HF4.out)
  have HF6' := Lib.hid (hg46.block HF4'.out)
  have HB6 := Lib.hid (hg46.block HB4.out)
  have HB6' := Lib.hid hf6
  have HI6 := Lib.hid ((HI4.out.below hg46).more hg46.size)
  have HI6' := Lib.hid (hi5.grow hg6).ints
  have HW6 := Lib.hid hW6
  clear hi5 hb5 hg6 hf6 hW6 hg46 hfc
  go_upto_region 5 with fail
  rw [HW6.out]
  generalize hcm : compareR f g = cm at *
  obtain ⟨cm1, cm2⟩ := cm
  dsimp only at *
  have HCC := Lib.hid (fun (A8 A9 : Option Addr) (c8 c9 : Nat) (w7 : World) (h8 : Ints w7 w7.heap.size A8 f.moves) (h9 : Ints w7 w7.heap.size A9 g.moves) => by
    have h := Compare_any f g A8 A9 c8 c9 w7.heap.size w7 h8 h9 (Nat.le_refl _) (by omega) (by omega)
    rw [hcm] at h
    exact h)
  clear hcm
  refine wp_region_lit 10 [[], [(0, 36)], [], [(2, 38)], [(1, 37), (3, 39)], [(4, 40)], [(5, 35)], [(5, 35)], [(6, 41)], [(7, 42)]] Grow (fun i v w' => match i with
      | 0 => v = formV f A cap | 1 => NewForm f w.heap.size v w'
      | 2 => v = formV g A' cap' | 3 => NewForm g w.heap.size v w'
      | 4 | 5 => v = .tuple #[.int .i64 cm1, .int .i64 cm2]
      | 6 | 8 => v = .int .i64 cm1 | 7 | 9 => v = .int .i64 cm2
      | _ => False) (by kernel_rfl) (by kernel_rfl) (fun _ _ _ => Grow.trans) Grow.refl ?_ ?_ ?_
  · intro i v x y h k
    match i, h with
    | 0, h | 2, h | 4, h | 5, h | 6, h | 7, h | 8, h | 9, h => exact h
    | 1, ⟨a, c, h1, h2⟩ | 3, ⟨a, c, h1, h2⟩ => exact ⟨a, c, h1, h2.grow k⟩
  · simp only [StepsLit, List.take_succ_cons, List.take_zero]
    refine ⟨?_, ?_, ?_, ?_, ?_, ?_, ?_, ?_, ?_, ?_, trivial⟩
    all_goals
      intro w7 hR
      have hfc := (hR.of_drew.block HF6.out).cell
      have hgc := (hR.of_drew.block HF6'.out).cell
      have HGW : Hid (Grow w w7) := HG6.out.trans hR.of_drew
      simp only [depV, Region.wanted, cond_true]
      repeat (first | rintro _ rfl | rintro _ ⟨A8, c8, rfl, hi8⟩ _ ⟨A9, c9, rfl, hi9⟩)
      go_simp
    · exact Grow.refl _
    · refine (HCA.out _ HGW.out).mono ?_
      rintro e w8 ⟨A8, c8, rfl, hi8, hb8⟩
      exact ⟨hb8, A8, c8, rfl, hi8.mono HGW.out.size⟩
    · exact Grow.refl _
    · refine (HCB.out _ HGW.out).mono ?_
      rintro e w8 ⟨A8, c8, rfl, hi8, hb8⟩
      exact ⟨hb8, A8, c8, rfl, hi8.mono HGW.out.size⟩
    · refine (HCC.out A8 A9 c8 c9 _ hi8.ints hi9.ints).mono ?_
      rintro e w8 ⟨rfl, hb8⟩
      exact ⟨hb8, rfl⟩
    all_goals exact Grow.refl _
  · intro w10 hR
    have HG10 : Hid (Grow w w10) := HG6.out.trans hR.of_drew
    have HF10 := Lib.hid (hR.of_drew.block HF6.out)
    have HF10' := Lib.hid (hR.of_drew.block HF6'.out)
    have HB10 := Lib.hid (hR.of_drew.block HB6.out)
    have HB10' := Lib.hid (hR.of_drew.block HB6'.out)
    have HI10 := Lib.hid ((HI6.out.below hR.of_drew).more hR.of_drew.size)
    have HI10' := Lib.hid ((HI6'.out.below hR.of_drew).more hR.of_drew.size)
    have hfc := HF10.out.cell
    have hgc := HF10'.out.cell
    have HRC10 := Lib.hid (HRC.out _ HG10.out)
    clear hR
    simp only [finVC, List.take_succ_cons, List.take_zero, List.drop_succ_cons, List.drop_zero]
    rintro _ rfl _ ⟨A8, c8, rfl, hi8⟩ _ rfl _ ⟨A9, c9, rfl, hi9⟩
    iterate 6 rintro _ rfl
    simp only [Act.put, List.setIfInBounds_toArray, List.set_cons_succ, List.set_cons_zero]
    clear hi8 hi9
    go_wp2_with fail
    refine HRC10.out.mono ?_
    rintro e w11 ⟨rfl, hb11⟩
    have HG11 : Hid (Grow w w11) := HG10.out.trans hb11
    have hbc := (Grow.block hb11 HB10.out).cell
    have hbc' := (Grow.block hb11 HB10'.out).cell
    have HSF := Lib.hid (sameForms_self cf A3 A5 c3 c5 w11 ((HI10.out.below hb11).more hb11.size) ((HI10'.out.below hb11).more hb11.size) (by omega) (by omega))
    clear hb11 hfc hgc
    go_wp2_with fail
    refine HSF.out.mono ?_
    rintro e w12 ⟨rfl, hb12⟩
    have HG12 : Hid (Grow w w12) := HG11.out.trans hb12
    clear hb12 hbc hbc'
    go_wp2_with fail
    refine (HWK.out _).mono ?_
    rintro e w13 ⟨rfl, hb13⟩
    have HG13 : Hid (Grow w w13) := HG12.out.trans hb13
    clear hb13
    go_wp2
    go_ret
    exact ⟨rfl, HG13.out⟩

set_option maxRecDepth 100000 in
set_option maxHeartbeats 8000000 in
theorem signsForms_great (f g : FormD) (A A' : Option Addr) (cap cap' : Nat) (w : World) (hs : ¬(f.moves.length ≤ 20 ∧ g.moves.length ≤ 20)) :
    Calls Tryz.prog 3 #[formV f A cap, formV g A' cap'] w fun e w' => e = .returned (.bool true) ∧ Below w.heap.size w w' := by
  have HWK := Lib.hid works_any
  by_cases h1 : f.moves.length ≤ 20
  · have h2 : ¬g.moves.length ≤ 20 := fun h => hs ⟨h1, h⟩
    have d1 : decide (20 < (f.moves.length : Int)) = false := by simp; omega
    have d2 : decide (20 < (g.moves.length : Int)) = true := by simp; omega
    go_enter Tryz.func3, Tryz.ntmps3
    go_wp2_with fail
    refine (HWK.out _).mono ?_
    rintro e w13 ⟨rfl, hb13⟩
    have HB13 := Lib.hid hb13
    clear hb13
    go_wp2
    go_ret
    exact ⟨rfl, (show Below w.heap.size w _ from (Grow.alloc _ _).trans (Grow.alloc _ _)).trans (HB13.out.mono (by simp; omega))⟩
  · have d1 : decide (20 < (f.moves.length : Int)) = true := by simp; omega
    go_enter Tryz.func3, Tryz.ntmps3
    go_wp2_with fail
    refine (HWK.out _).mono ?_
    rintro e w13 ⟨rfl, hb13⟩
    have HB13 := Lib.hid hb13
    clear hb13
    go_wp2
    go_ret
    exact ⟨rfl, (show Below w.heap.size w _ from (Grow.alloc _ _).trans (Grow.alloc _ _)).trans (HB13.out.mono (by simp; omega))⟩


theorem signsForms_any (f g : FormD) (A A' : Option Addr) (cap cap' : Nat) (w : World) (hA : Ints w w.heap.size A f.moves) (hA' : Ints w w.heap.size A' g.moves) :
    Calls Tryz.prog 3 #[formV f A cap, formV g A' cap'] w fun e w' => e = .returned (.bool true) ∧ Below w.heap.size w w' :=
  if hs : f.moves.length ≤ 20 ∧ g.moves.length ≤ 20 then signsForms_small f g A A' cap cap' w hA hA' hs else signsForms_great f g A A' cap cap' w hs

end Go.Proofs.YtjpnblflenlnaaaGreat
