/- Job: whether a job is valid, as the program and the specification say; the specification's Check. -/
import Derived.Test.YticeekkfdkfcgaaHas
namespace Go.Proofs.Yticeekkfdkfcgaa
open Go.RowKit

def jobL (n : Int) (j : JobD) : Bool := inB j.fr 0 (n - 1) && (inB j.dest 0 (n - 1) && decide (j.fr ≠ j.dest))
theorem okJob_parts (n : Int) (j : JobD) : okJob n j = (jobL n j && ((inB j.field 0 7 && inB j.kind 0 3) && (inB j.client 0 99 && inB j.size 1 8))) := by
  unfold okJob jobL
  cases inB j.fr 0 (n - 1) <;> cases inB j.dest 0 (n - 1) <;> cases decide (j.fr ≠ j.dest) <;> cases inB j.field 0 7 <;> cases inB j.kind 0 3 <;> cases inB j.client 0 99 <;> cases inB j.size 1 8 <;> rfl

set_option maxRecDepth 100000 in
set_option maxHeartbeats 4000000 in
theorem validJob_any (c : CrewR) (j : JobD) (w : World) (hn : 2 ≤ c.languages ∧ c.languages ≤ 5) :
    Calls Try.prog 55 #[crewV c, jobV j] w fun e w' => e = .returned (.bool (okJob c.languages j)) ∧ Below w.heap.size w w' := by
  obtain ⟨hn0, hn5⟩ := hn
  have HO := Lib.hid (okJob_parts c.languages j)
  have HJ : Hid (jobL c.languages j = (inB j.fr 0 (c.languages - 1) && (inB j.dest 0 (c.languages - 1) && decide (j.fr ≠ j.dest)))) := rfl
  have hwr : IntKind.i64.wrap (c.languages - 1) = c.languages - 1 := IntWalk.i64_in _ (by omega)
  have H1 := Lib.hid (fun w0 => within_any j.fr 0 (c.languages - 1) w0)
  have H2 := Lib.hid (fun w0 => within_any j.dest 0 (c.languages - 1) w0)
  have H3 := Lib.hid (fun w0 => within_any j.field 0 7 w0)
  have H4 := Lib.hid (fun w0 => within_any j.kind 0 3 w0)
  have H5 := Lib.hid (fun w0 => validClient_any j.client w0)
  have H6 := Lib.hid (fun w0 => validSize_any j.size w0)
  have HNE : Hid (decide (j.fr ≠ j.dest) = (j.fr != j.dest)) := Lib.hid (by
    by_cases h : j.fr = j.dest
    · simp [h]
    · simp [h])
  rw [HNE.out] at HJ
  generalize inB j.fr 0 (c.languages - 1) = a1 at H1 HJ
  generalize inB j.dest 0 (c.languages - 1) = a2 at H2 HJ
  generalize inB j.field 0 7 = a3 at H3 HO
  generalize inB j.kind 0 3 = a4 at H4 HO
  generalize inB j.client 0 99 = a5 at H5 HO
  generalize inB j.size 1 8 = a6 at H6 HO
  generalize jobL c.languages j = jl at HO HJ
  go_enter Try.func55, Try.ntmps55
  go_upto_region 1 with fail
  obtain ⟨W, hW, hg, hf, hs, hsz⟩ := two_blocks w 25 27 (cellsC c) (cellsJ j)
  rw [hW]
  clear hW
  have hcc := hf.cell
  have hjc := hs.cell
  have HG := Lib.hid hg
  clear hf hs hg
  go_cut [5] (fun v wx => v = .bool jl ∧ wx = W)
  case first =>
    cases a1 with
    | false =>
      obtain rfl : jl = false := HJ.out
      go_wp2_with fail
      refine (H1.out _).mono ?_
      rintro e w' ⟨rfl, rfl⟩
      go_wp2
      go_meet
      exact ⟨rfl, rfl⟩
    | true =>
      cases a2 with
      | false =>
        obtain rfl : jl = false := HJ.out
        go_wp2_with fail
        refine (H1.out _).mono ?_
        rintro e w' ⟨rfl, rfl⟩
        go_wp2_with fail
        refine (H2.out _).mono ?_
        rintro e w' ⟨rfl, rfl⟩
        go_wp2
        go_meet
        exact ⟨rfl, rfl⟩
      | true =>
        have HJ2 : Hid (jl = (j.fr != j.dest)) := HJ
        clear HNE HJ
        obtain ⟨ne, hne⟩ : ∃ q, (j.fr != j.dest) = q := ⟨_, rfl⟩
        rw [hne] at HJ2
        obtain rfl : jl = ne := HJ2.out
        go_wp2_with fail
        refine (H1.out _).mono ?_
        rintro e w' ⟨rfl, rfl⟩
        go_wp2_with fail
        refine (H2.out _).mono ?_
        rintro e w' ⟨rfl, rfl⟩
        go_wp2
        go_meet
        exact ⟨rfl, rfl⟩
  case rest =>
    obtain ⟨rfl, rfl⟩ := hcut
    rename World => W
    clear H1 H2 HJ HNE
    go_upto_region 2 with fail
    go_cut [6] (fun v wx => v = .bool (a3 && a4) ∧ wx = W)
    case first =>
      cases a3 with
      | false =>
        go_wp2_with fail
        refine (H3.out _).mono ?_
        rintro e w' ⟨rfl, rfl⟩
        go_wp2
        go_meet
        exact ⟨rfl, rfl⟩
      | true =>
        go_wp2_with fail
        refine (H3.out _).mono ?_
        rintro e w' ⟨rfl, rfl⟩
        go_wp2_with fail
        refine (H4.out _).mono ?_
        rintro e w' ⟨rfl, rfl⟩
        go_wp2
        go_meet
        exact ⟨rfl, rfl⟩
    case rest =>
      obtain ⟨rfl, rfl⟩ := hcut
      rename World => W
      obtain ⟨pl, hpl⟩ : ∃ z, (a3 && a4) = z := ⟨_, rfl⟩
      rw [hpl] at HO ⊢
      clear hpl H3 H4
      cases jl with
      | false =>
        go_wp2
        go_ret
        exact ⟨ret_bool (by rw [HO.out]; rfl), HG.out⟩
      | true =>
        cases pl with
        | false =>
          go_wp2
          go_ret
          exact ⟨ret_bool (by rw [HO.out]; rfl), HG.out⟩
        | true =>
          cases a5 with
          | false =>
            go_wp2_with fail
            refine (H5.out _).mono ?_
            rintro e w' ⟨rfl, rfl⟩
            go_wp2
            go_ret
            exact ⟨ret_bool (by rw [HO.out]; rfl), HG.out⟩
          | true =>
            go_wp2_with fail
            refine (H5.out _).mono ?_
            rintro e w' ⟨rfl, rfl⟩
            go_wp2_with fail
            refine (H6.out _).mono ?_
            rintro e w' ⟨rfl, rfl⟩
            go_wp2
            go_ret
            exact ⟨ret_bool (by rw [HO.out]; cases a6 <;> rfl), HG.out⟩

theorem okJob_chain (n : Int) (j : JobD) : okJob n j = (inB j.fr 0 (n - 1) && (inB j.dest 0 (n - 1) && ((j.fr != j.dest) && (inB j.client 0 99 && (inB j.field 0 7 && (inB j.kind 0 3 && inB j.size 1 8)))))) := by
  have HNE : decide (j.fr ≠ j.dest) = (j.fr != j.dest) := by
    by_cases h : j.fr = j.dest
    · simp [h]
    · simp [h]
  unfold okJob
  rw [HNE]
  cases inB j.fr 0 (n - 1) <;> cases inB j.dest 0 (n - 1) <;> cases (j.fr != j.dest) <;> cases inB j.field 0 7 <;> cases inB j.kind 0 3 <;> cases inB j.client 0 99 <;> cases inB j.size 1 8 <;> rfl

set_option maxRecDepth 100000 in
set_option maxHeartbeats 8000000 in
theorem isJob_any (c : CrewR) (j : JobD) (w : World) (hn : 2 ≤ c.languages ∧ c.languages ≤ 5) :
    Calls Try.prog 39 #[crewV c, jobV j] w fun e w' => e = .returned (.bool (okJob c.languages j)) ∧ Below w.heap.size w w' := by
  obtain ⟨hn0, hn5⟩ := hn
  have HO := Lib.hid (okJob_chain c.languages j)
  have hwr : IntKind.i64.wrap (c.languages - 1) = c.languages - 1 := IntWalk.i64_in _ (by omega)
  have H1 := Lib.hid (fun w0 => rwithin_any j.fr 0 (c.languages - 1) w0)
  have H2 := Lib.hid (fun w0 => rwithin_any j.dest 0 (c.languages - 1) w0)
  have H3 := Lib.hid (fun w0 => rwithin_any j.client 0 99 w0)
  have H4 := Lib.hid (fun w0 => rwithin_any j.field 0 7 w0)
  have H5 := Lib.hid (fun w0 => rwithin_any j.kind 0 3 w0)
  have H6 := Lib.hid (fun w0 => rwithin_any j.size 1 8 w0)
  generalize inB j.fr 0 (c.languages - 1) = a1 at H1 HO
  generalize inB j.dest 0 (c.languages - 1) = a2 at H2 HO
  generalize inB j.client 0 99 = a3 at H3 HO
  generalize inB j.field 0 7 = a4 at H4 HO
  generalize inB j.kind 0 3 = a5 at H5 HO
  generalize inB j.size 1 8 = a6 at H6 HO
  obtain ⟨ne, hne⟩ : ∃ q, (j.fr != j.dest) = q := ⟨_, rfl⟩
  rw [hne] at HO
  go_enter Try.func39, Try.ntmps39
  go_upto_region 1 with fail
  obtain ⟨W, hW, hg, hf, hs, hsz⟩ := two_blocks w 25 27 (cellsC c) (cellsJ j)
  rw [hW]
  clear hW
  have hcc := hf.cell
  have hjc := hs.cell
  have HG := Lib.hid hg
  clear hf hs hg
  cases a1 with
  | false =>
    go_wp2_with fail
    refine (H1.out _).mono ?_
    rintro e w' ⟨rfl, rfl⟩
    go_wp2
    go_ret
    exact ⟨ret_bool (by rw [HO.out]; rfl), HG.out⟩
  | true =>
    cases a2 with
    | false =>
      go_wp2_with fail
      refine (H1.out _).mono ?_
      rintro e w' ⟨rfl, rfl⟩
      go_wp2_with fail
      refine (H2.out _).mono ?_
      rintro e w' ⟨rfl, rfl⟩
      go_wp2
      go_ret
      exact ⟨ret_bool (by rw [HO.out]; rfl), HG.out⟩
    | true =>
      cases ne with
      | false =>
        go_wp2_with fail
        refine (H1.out _).mono ?_
        rintro e w' ⟨rfl, rfl⟩
        go_wp2_with fail
        refine (H2.out _).mono ?_
        rintro e w' ⟨rfl, rfl⟩
        go_wp2
        go_ret
        exact ⟨ret_bool (by rw [HO.out]; rfl), HG.out⟩
      | true =>
        cases a3 with
        | false =>
          go_wp2_with fail
          refine (H1.out _).mono ?_
          rintro e w' ⟨rfl, rfl⟩
          go_wp2_with fail
          refine (H2.out _).mono ?_
          rintro e w' ⟨rfl, rfl⟩
          go_wp2_with fail
          refine (H3.out _).mono ?_
          rintro e w' ⟨rfl, rfl⟩
          go_wp2
          go_ret
          exact ⟨ret_bool (by rw [HO.out]; rfl), HG.out⟩
        | true =>
          cases a4 with
          | false =>
            go_wp2_with fail
            refine (H1.out _).mono ?_
            rintro e w' ⟨rfl, rfl⟩
            go_wp2_with fail
            refine (H2.out _).mono ?_
            rintro e w' ⟨rfl, rfl⟩
            go_wp2_with fail
            refine (H3.out _).mono ?_
            rintro e w' ⟨rfl, rfl⟩
            go_wp2_with fail
            refine (H4.out _).mono ?_
            rintro e w' ⟨rfl, rfl⟩
            go_wp2
            go_ret
            exact ⟨ret_bool (by rw [HO.out]; rfl), HG.out⟩
          | true =>
            cases a5 with
            | false =>
              go_wp2_with fail
              refine (H1.out _).mono ?_
              rintro e w' ⟨rfl, rfl⟩
              go_wp2_with fail
              refine (H2.out _).mono ?_
              rintro e w' ⟨rfl, rfl⟩
              go_wp2_with fail
              refine (H3.out _).mono ?_
              rintro e w' ⟨rfl, rfl⟩
              go_wp2_with fail
              refine (H4.out _).mono ?_
              rintro e w' ⟨rfl, rfl⟩
              go_wp2_with fail
              refine (H5.out _).mono ?_
              rintro e w' ⟨rfl, rfl⟩
              go_wp2
              go_ret
              exact ⟨ret_bool (by rw [HO.out]; rfl), HG.out⟩
            | true =>
              go_wp2_with fail
              refine (H1.out _).mono ?_
              rintro e w' ⟨rfl, rfl⟩
              go_wp2_with fail
              refine (H2.out _).mono ?_
              rintro e w' ⟨rfl, rfl⟩
              go_wp2_with fail
              refine (H3.out _).mono ?_
              rintro e w' ⟨rfl, rfl⟩
              go_wp2_with fail
              refine (H4.out _).mono ?_
              rintro e w' ⟨rfl, rfl⟩
              go_wp2_with fail
              refine (H5.out _).mono ?_
              rintro e w' ⟨rfl, rfl⟩
              go_wp2_with fail
              refine (H6.out _).mono ?_
              rintro e w' ⟨rfl, rfl⟩
              go_wp2
              go_ret
              exact ⟨ret_bool (by rw [HO.out]; rfl), HG.out⟩

set_option maxRecDepth 100000 in
set_option maxHeartbeats 4000000 in
theorem rCheck_any (c : CrewR) (j : JobD) (n : Nat) (w : World) (hA : CrewAt w n c) (hn : n ≤ w.heap.size) (hs : Short c) :
    Calls Try.prog 14 #[crewV c, jobV j] w fun e w' => e = .returned (.int .i64 (crewErr c.d j)) ∧ Below w.heap.size w w' := by
  have HC := Lib.hid (fun (w0 : World) (hw : Grow w w0) => isCrew_any c w0.heap.size w0 (((hA.more hn).below hw).more hw.size) (Nat.le_refl _) hs)
  have HJ := Lib.hid (fun (h : okCrew c.d = true) (w0 : World) => isJob_any c j w0 (by
    unfold okCrew at h
    simp only [Bool.and_eq_true] at h
    exact inB_iff.1 h.1.1))
  have HE : Hid (crewErr c.d j = if okCrew c.d = false then 30 else if okJob c.languages j = false then 31 else 0) := rfl
  generalize okCrew c.d = oc at HC HJ HE
  generalize crewErr c.d j = er at HE ⊢
  clear hA hn
  go_enter Try.func14, Try.ntmps14
  go_upto_region 1 with fail
  obtain ⟨W, hW, hg, hf, hs, hsz⟩ := two_blocks w 25 27 (cellsC c) (cellsJ j)
  rw [hW]
  clear hW
  have hcc := hf.cell
  have HF := Lib.hid hf
  have HS := Lib.hid hs
  have HG := Lib.hid hg
  clear hf hs hg
  go_wp2_with fail
  refine (HC.out W HG.out).mono ?_
  rintro e w1 ⟨rfl, hb1⟩
  have HG1 : Hid (Grow W w1) := hb1
  clear hb1 hcc
  cases oc with
  | false =>
    obtain rfl : er = 30 := HE.out
    go_wp2
    go_ret
    exact ⟨rfl, HG.out.trans HG1.out⟩
  | true =>
    have hcc := (HG1.out.block HF.out).cell
    have hjc := (HG1.out.block HS.out).cell
    have HJ1 := Lib.hid (HJ.out rfl)
    have HE1 : Hid (er = if okJob c.languages j = false then 31 else 0) := HE
    clear HJ HE
    generalize okJob c.languages j = oj at HJ1 HE1
    go_wp2_with fail
    refine (HJ1.out _).mono ?_
    rintro e w2 ⟨rfl, hb2⟩
    have HG2 : Hid (Grow W w2) := Lib.hid (HG1.out.trans hb2)
    clear hb2
    cases oj with
    | false =>
      obtain rfl : er = 31 := HE1.out
      go_wp2
      go_ret
      exact ⟨rfl, HG.out.trans HG2.out⟩
    | true =>
      obtain rfl : er = 0 := HE1.out
      go_wp2
      go_ret
      exact ⟨rfl, HG.out.trans HG2.out⟩

end Go.Proofs.Yticeekkfdkfcgaa
