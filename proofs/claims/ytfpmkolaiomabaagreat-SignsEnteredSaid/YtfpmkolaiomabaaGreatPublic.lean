/- Canon and Compare: the program's and the specification's. -/
import Derived.Test.YtfpmkolaiomabaaGreatCanon
namespace Go.Proofs.YtfpmkolaiomabaaGreat
open Go.RowKit

/-- v is the form f, with its moves in new memory from lo on -/
def NewForm (f : FormD) (lo : Nat) (v : Value) (w : World) : Prop := ∃ A c, v = formV f A c ∧ IntsF w lo A f.moves
def zeroF : FormD := { right := 0, left := 0, column := 0, row := 0, face := 0, moves := [] }
def canonR (f : FormD) : FormD × Int := if okForm f = true then (canonD f, 0) else (zeroF, 10)
def compareR (f g : FormD) : Int × Int := if okForm f = true ∧ okForm g = true then (cmpF (canonD f) (canonD g), 0) else (0, 10)

set_option maxRecDepth 100000 in
set_option maxHeartbeats 2000000 in
theorem Canon_any (f : FormD) (A : Option Addr) (cap B : Nat) (w : World) (hA : Ints w B A f.moves) (hB : B ≤ w.heap.size) (hl : f.moves.length ≤ 1000000) :
    Calls Tryz.prog 15 #[formV f A cap] w fun e w' => ∃ A' cap', e = .returned (.tuple #[formV (canonR f).1 A' cap', .int .i64 (canonR f).2]) ∧ IntsF w' w.heap.size A' (canonR f).1.moves ∧ Below w.heap.size w w' := by
  have hAm := hA.more hB
  have HAm := Lib.hid hAm
  clear hA hAm
  go_enter Tryz.func15, Tryz.ntmps15
  go_wp2_with fail
  obtain ⟨W, hW, hg, hf, hr, hsz⟩ := two_blocks w 24 24 (cellsF f A cap) cells0
  rw [hW]
  clear hW
  refine (validForm_any f A cap w.heap.size W (HAm.out.below hg) hl hg.size).mono ?_
  rintro e w1 ⟨rfl, hb1⟩
  have hf1 := hf.below hb1 (by omega)
  have hr1 := hr.below hb1 (by omega)
  have hfc := hf1.cell
  have hrc := hr1.cell
  have hrf := hr1.frozen
  have hg1 : Grow w w1 := hg.trans hb1
  have hz1 := hb1.size
  have HR1 := Lib.hid hr1
  have HG1 := Lib.hid hg1
  clear hf hr hf1 hr1 hg1 hb1 hg
  cases hok : okForm f with
  | false =>
    go_wp2
    refine bodyPost_ret (results_form_tmp Tryz.results15 _ _ _ _ _ _ _ _ _ _ (six_stores HR1.out _ _ _ _ _ _) rfl rfl) rfl ⟨none, 0, ?_, ?_, ?_⟩
    · simp [canonR, hok, zeroF]
    · simp [canonR, hok, zeroF]; exact .inl rfl
    · exact HG1.out.trans' (six_below (by omega) _ _ _ _ _ _)
  | true =>
    have HC := Lib.hid (canon_any f A cap w.heap.size w1 (HAm.out.below HG1.out) HG1.out.size hok)
    have HOK := Lib.hid hok
    go_wp2_with fail
    refine HC.out.mono ?_
    rintro e w2 ⟨A2, cap2, rfl, hi2, hb2⟩
    have hr2 := Grow.block hb2 HR1.out
    have hrc2 := hr2.cell
    have hrf2 := hr2.frozen
    have HR2 := Lib.hid hr2
    have HI2 := Lib.hid hi2
    have HG2 := Lib.hid (HG1.out.trans hb2)
    have hz2 := hb2.size
    clear hr2 hi2 hb2 hfc hrc hrf hok
    go_wp2
    refine bodyPost_ret (results_form_tmp Tryz.results15 _ _ _ _ _ _ _ _ _ _ (six_stores HR2.out _ _ _ _ _ _) rfl rfl) rfl ⟨A2, cap2, ?_, ?_, ?_⟩
    · simp [canonR, HOK.out]
    · simp only [canonR, HOK.out, if_true]
      exact (six_ints HI2.out (by omega) _ _ _ _ _ _).mono (by omega)
    · exact HG2.out.trans' (six_below (by omega) _ _ _ _ _ _)

set_option maxRecDepth 100000 in
set_option maxHeartbeats 2000000 in
theorem rCanon_any (f : FormD) (A : Option Addr) (cap B : Nat) (w : World) (hA : Ints w B A f.moves) (hB : B ≤ w.heap.size) (hl : f.moves.length ≤ 1000000) :
    Calls Tryz.prog 17 #[formV f A cap] w fun e w' => ∃ A' cap', e = .returned (.tuple #[formV (canonR f).1 A' cap', .int .i64 (canonR f).2]) ∧ IntsF w' w.heap.size A' (canonR f).1.moves ∧ Below w.heap.size w w' := by
  have hAm := hA.more hB
  have HAm := Lib.hid hAm
  clear hA hAm
  go_enter Tryz.func17, Tryz.ntmps17
  go_wp2_with fail
  obtain ⟨W, hW, hg, hf, hr, hsz⟩ := two_blocks w 24 24 (cellsF f A cap) cells0
  rw [hW]
  clear hW
  refine (IsForm_any f A cap w.heap.size W (HAm.out.below hg) hl hg.size).mono ?_
  rintro e w1 ⟨rfl, hb1⟩
  have hf1 := hf.below hb1 (by omega)
  have hr1 := hr.below hb1 (by omega)
  have hfc := hf1.cell
  have hrc := hr1.cell
  have hrf := hr1.frozen
  have hg1 : Grow w w1 := hg.trans hb1
  have hz1 := hb1.size
  have HR1 := Lib.hid hr1
  have HG1 := Lib.hid hg1
  clear hf hr hf1 hr1 hg1 hb1 hg
  cases hok : okForm f with
  | false =>
    go_wp2
    refine bodyPost_ret (results_form_tmp Tryz.results17 _ _ _ _ _ _ _ _ _ _ (six_stores HR1.out _ _ _ _ _ _) rfl rfl) rfl ⟨none, 0, ?_, ?_, ?_⟩
    · simp [canonR, hok, zeroF]
    · simp [canonR, hok, zeroF]; exact .inl rfl
    · exact HG1.out.trans' (six_below (by omega) _ _ _ _ _ _)
  | true =>
    have HC := Lib.hid (rcanon_any f A cap w.heap.size w1 (HAm.out.below HG1.out) HG1.out.size hok)
    have HOK := Lib.hid hok
    go_wp2_with fail
    refine HC.out.mono ?_
    rintro e w2 ⟨A2, cap2, rfl, hi2, hb2⟩
    have hr2 := Grow.block hb2 HR1.out
    have hrc2 := hr2.cell
    have hrf2 := hr2.frozen
    have HR2 := Lib.hid hr2
    have HI2 := Lib.hid hi2
    have HG2 := Lib.hid (HG1.out.trans hb2)
    have hz2 := hb2.size
    clear hr2 hi2 hb2 hfc hrc hrf hok
    go_wp2
    refine bodyPost_ret (results_form_tmp Tryz.results17 _ _ _ _ _ _ _ _ _ _ (six_stores HR2.out _ _ _ _ _ _) rfl rfl) rfl ⟨A2, cap2, ?_, ?_, ?_⟩
    · simp [canonR, HOK.out]
    · simp only [canonR, HOK.out, if_true]
      exact (six_ints HI2.out (by omega) _ _ _ _ _ _).mono (by omega)
    · exact HG2.out.trans' (six_below (by omega) _ _ _ _ _ _)

set_option maxRecDepth 100000 in
set_option maxHeartbeats 2000000 in
theorem Compare_any (f g : FormD) (A A' : Option Addr) (cap cap' B : Nat) (w : World) (hA : Ints w B A f.moves) (hA' : Ints w B A' g.moves) (hB : B ≤ w.heap.size) (hl : f.moves.length ≤ 1000000) (hl' : g.moves.length ≤ 1000000) :
    Calls Tryz.prog 18 #[formV f A cap, formV g A' cap'] w fun e w' => e = .returned (.tuple #[.int .i64 (compareR f g).1, .int .i64 (compareR f g).2]) ∧ Below w.heap.size w w' := by
  have HA := Lib.hid (hA.more hB)
  have HA' := Lib.hid (hA'.more hB)
  clear hA hA'
  go_enter Tryz.func18, Tryz.ntmps18
  go_wp2_with fail
  obtain ⟨W, hW, hg, hf, hf', hsz⟩ := two_blocks w 24 24 (cellsF f A cap) (cellsF g A' cap')
  rw [hW]
  clear hW
  refine (validForm_any f A cap w.heap.size W (HA.out.below hg) hl hg.size).mono ?_
  rintro e w1 ⟨rfl, hb1⟩
  have hf1 := hf.below hb1 (by omega)
  have hf1' := hf'.below hb1 (by omega)
  have hfc := hf1.cell
  have hfc' := hf1'.cell
  have hg1 : Grow w w1 := hg.trans hb1
  have HG1 := Lib.hid hg1
  have HF1 := Lib.hid hf1
  have HF1' := Lib.hid hf1'
  clear hf hf' hf1 hf1' hg1 hb1 hg
  cases hok : okForm f with
  | false =>
    go_wp2
    go_ret2
    exact ⟨by simp [compareR, hok], HG1.out⟩
  | true =>
    have HOK := Lib.hid hok
    have HV := Lib.hid (validForm_any g A' cap' w.heap.size w1 (HA'.out.below HG1.out) hl' HG1.out.size)
    go_wp2_with fail
    refine HV.out.mono ?_
    rintro e w2 ⟨rfl, hb2⟩
    have hf2 := Grow.block hb2 HF1.out
    have hf2' := Grow.block hb2 HF1'.out
    have hg2 : Grow w w2 := HG1.out.trans hb2
    have HF2 := Lib.hid hf2
    have HF2' := Lib.hid hf2'
    have HG2 := Lib.hid hg2
    clear hf2 hf2' hg2 hb2 hfc hfc' hok
    cases hok' : okForm g with
    | false =>
      go_wp2
      go_ret2
      exact ⟨by simp [compareR, HOK.out, hok'], HG2.out⟩
    | true =>
      have HOK' := Lib.hid hok'
      clear hok'
      go_wp2
      refine wp_region_lit 4 [[], [(0, 14)], [], [(2, 16)]] Grow (fun i v w' => match i with
          | 0 => v = formV f A cap | 1 => NewForm (canonD f) w.heap.size v w'
          | 2 => v = formV g A' cap' | 3 => NewForm (canonD g) w.heap.size v w'
          | _ => False) (by kernel_rfl) (by kernel_rfl) (fun _ _ _ => Grow.trans) Grow.refl ?_ ?_ ?_
      · intro i v x y h k
        match i, h with
        | 0, h | 2, h => exact h
        | 1, ⟨a, c, h1, h2⟩ | 3, ⟨a, c, h1, h2⟩ => exact ⟨a, c, h1, h2.grow k⟩
      · simp only [StepsLit, List.take_succ_cons, List.take_zero]
        refine ⟨?_, ?_, ?_, ?_, trivial⟩
        all_goals
          intro w3 hR
          have hfc := (hR.of_drew.block HF2.out).cell
          have hfc' := (hR.of_drew.block HF2'.out).cell
          have hgw : Grow w w3 := HG2.out.trans hR.of_drew
          have HGW := Lib.hid hgw
          clear hgw
          simp only [depV, Region.wanted, cond_true]
          repeat (rintro _ rfl)
          go_simp
        · exact Grow.refl _
        · refine (canon_any f A cap w.heap.size w3 (HA.out.below HGW.out) HGW.out.size HOK.out).mono ?_
          rintro e w4 ⟨A4, c4, rfl, hi4, hb4⟩
          exact ⟨hb4, A4, c4, rfl, hi4.mono HGW.out.size⟩
        · exact Grow.refl _
        · refine (canon_any g A' cap' w.heap.size w3 (HA'.out.below HGW.out) HGW.out.size HOK'.out).mono ?_
          rintro e w4 ⟨A4, c4, rfl, hi4, hb4⟩
          exact ⟨hb4, A4, c4, rfl, hi4.mono HGW.out.size⟩
      · intro w3 hR
        have hgw : Grow w w3 := HG2.out.trans hR.of_drew
        simp only [finVC, List.take_succ_cons, List.take_zero, List.drop_succ_cons, List.drop_zero]
        rintro _ rfl _ ⟨A4, c4, rfl, hi4⟩ _ rfl _ ⟨A5, c5, rfl, hi5⟩
        simp only [Act.put, List.setIfInBounds_toArray, List.set_cons_succ, List.set_cons_zero]
        have HC := Lib.hid (compareForms_any (canonD f) (canonD g) A4 A5 c4 c5 w3 hi4.ints hi5.ints (by have := okForm_len (okForm_canon HOK.out); omega) (by have := okForm_len (okForm_canon HOK'.out); omega))
        have HGW := Lib.hid hgw
        clear hi4 hi5 hgw hR
        go_wp2_with fail
        refine HC.out.mono ?_
        rintro e w4 ⟨rfl, hb4⟩
        have HG4 := Lib.hid (HGW.out.trans hb4)
        clear hb4
        go_wp2
        go_ret2
        exact ⟨by simp [compareR, HOK.out, HOK'.out], HG4.out⟩

set_option maxRecDepth 100000 in
set_option maxHeartbeats 2000000 in
theorem rCompare_any (f g : FormD) (A A' : Option Addr) (cap cap' B : Nat) (w : World) (hA : Ints w B A f.moves) (hA' : Ints w B A' g.moves) (hB : B ≤ w.heap.size) (hl : f.moves.length ≤ 1000000) (hl' : g.moves.length ≤ 1000000) :
    Calls Tryz.prog 19 #[formV f A cap, formV g A' cap'] w fun e w' => e = .returned (.tuple #[.int .i64 (compareR f g).1, .int .i64 (compareR f g).2]) ∧ Below w.heap.size w w' := by
  have HA := Lib.hid (hA.more hB)
  have HA' := Lib.hid (hA'.more hB)
  clear hA hA'
  go_enter Tryz.func19, Tryz.ntmps19
  go_wp2_with fail
  obtain ⟨W, hW, hg, hf, hf', hsz⟩ := two_blocks w 24 24 (cellsF f A cap) (cellsF g A' cap')
  rw [hW]
  clear hW
  refine (IsForm_any f A cap w.heap.size W (HA.out.below hg) hl hg.size).mono ?_
  rintro e w1 ⟨rfl, hb1⟩
  have hf1 := hf.below hb1 (by omega)
  have hf1' := hf'.below hb1 (by omega)
  have hfc := hf1.cell
  have hfc' := hf1'.cell
  have hg1 : Grow w w1 := hg.trans hb1
  have HG1 := Lib.hid hg1
  have HF1 := Lib.hid hf1
  have HF1' := Lib.hid hf1'
  clear hf hf' hf1 hf1' hg1 hb1 hg
  cases hok : okForm f with
  | false =>
    go_wp2
    go_ret2
    exact ⟨by simp [compareR, hok], HG1.out⟩
  | true =>
    have HOK := Lib.hid hok
    have HV := Lib.hid (IsForm_any g A' cap' w.heap.size w1 (HA'.out.below HG1.out) hl' HG1.out.size)
    go_wp2_with fail
    refine HV.out.mono ?_
    rintro e w2 ⟨rfl, hb2⟩
    have hf2 := Grow.block hb2 HF1.out
    have hf2' := Grow.block hb2 HF1'.out
    have hg2 : Grow w w2 := HG1.out.trans hb2
    have HF2 := Lib.hid hf2
    have HF2' := Lib.hid hf2'
    have HG2 := Lib.hid hg2
    clear hf2 hf2' hg2 hb2 hfc hfc' hok
    cases hok' : okForm g with
    | false =>
      go_wp2
      go_ret2
      exact ⟨by simp [compareR, HOK.out, hok'], HG2.out⟩
    | true =>
      have HOK' := Lib.hid hok'
      clear hok'
      go_wp2
      refine wp_region_lit 4 [[], [(0, 14)], [], [(2, 16)]] Grow (fun i v w' => match i with
          | 0 => v = formV f A cap | 1 => NewForm (canonD f) w.heap.size v w'
          | 2 => v = formV g A' cap' | 3 => NewForm (canonD g) w.heap.size v w'
          | _ => False) (by kernel_rfl) (by kernel_rfl) (fun _ _ _ => Grow.trans) Grow.refl ?_ ?_ ?_
      · intro i v x y h k
        match i, h with
        | 0, h | 2, h => exact h
        | 1, ⟨a, c, h1, h2⟩ | 3, ⟨a, c, h1, h2⟩ => exact ⟨a, c, h1, h2.grow k⟩
      · simp only [StepsLit, List.take_succ_cons, List.take_zero]
        refine ⟨?_, ?_, ?_, ?_, trivial⟩
        all_goals
          intro w3 hR
          have hfc := (hR.of_drew.block HF2.out).cell
          have hfc' := (hR.of_drew.block HF2'.out).cell
          have hgw : Grow w w3 := HG2.out.trans hR.of_drew
          have HGW := Lib.hid hgw
          clear hgw
          simp only [depV, Region.wanted, cond_true]
          repeat (rintro _ rfl)
          go_simp
        · exact Grow.refl _
        · refine (rcanon_any f A cap w.heap.size w3 (HA.out.below HGW.out) HGW.out.size HOK.out).mono ?_
          rintro e w4 ⟨A4, c4, rfl, hi4, hb4⟩
          exact ⟨hb4, A4, c4, rfl, hi4.mono HGW.out.size⟩
        · exact Grow.refl _
        · refine (rcanon_any g A' cap' w.heap.size w3 (HA'.out.below HGW.out) HGW.out.size HOK'.out).mono ?_
          rintro e w4 ⟨A4, c4, rfl, hi4, hb4⟩
          exact ⟨hb4, A4, c4, rfl, hi4.mono HGW.out.size⟩
      · intro w3 hR
        have hgw : Grow w w3 := HG2.out.trans hR.of_drew
        simp only [finVC, List.take_succ_cons, List.take_zero, List.drop_succ_cons, List.drop_zero]
        rintro _ rfl _ ⟨A4, c4, rfl, hi4⟩ _ rfl _ ⟨A5, c5, rfl, hi5⟩
        simp only [Act.put, List.setIfInBounds_toArray, List.set_cons_succ, List.set_cons_zero]
        have HC := Lib.hid (rFirst_any (canonD f) (canonD g) A4 A5 c4 c5 w3 hi4.ints hi5.ints (okForm_canon HOK.out) (okForm_canon HOK'.out))
        have HGW := Lib.hid hgw
        clear hi4 hi5 hgw hR
        go_wp2_with fail
        refine HC.out.mono ?_
        rintro e w4 ⟨rfl, hb4⟩
        have HG4 := Lib.hid (HGW.out.trans hb4)
        clear hb4
        go_wp2
        go_ret2
        exact ⟨by simp [compareR, HOK.out, HOK'.out], HG4.out⟩

end Go.Proofs.YtfpmkolaiomabaaGreat
