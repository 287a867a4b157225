/- Far: the specification's Check; Far and valid of the laws. -/
import Derived.Test.YtinlojealfbbfaaRClash
import Derived.Test.YtinlojealfbbfaaRMsgs
import Derived.Test.YtinlojealfbbfaaRds
import Derived.Test.YtinlojealfbbfaaRSort
import Derived.BigQuiet
namespace Go.Proofs.Ytinlojealfbbfaa
open Go.RowKit

def rErrD (f : FilmsD) (l : List GlossD) : Int := if okFilms f = true then (if okMsgs f l = true then (if clashB l = true then 22 else 0) else 21) else 20
theorem rErr_eq (f : FilmsD) (l : List GlossD) : rErrD f l = readErr f [l] := by
  unfold rErrD readErr
  by_cases h1 : okFilms f = true
  · rw [if_pos h1, if_pos h1]
    by_cases h2 : okMsgs f l = true
    · rw [if_pos h2]
      by_cases h3 : clashB l = true
      · rw [if_pos h3]
        have e : listErr f l = 22 := listErr_clash h2 h3
        have : listsErr f [l] = 22 := by unfold listsErr; rw [e]; rfl
        rw [this]; rfl
      · have h3' : clashB l = false := by simpa using h3
        rw [if_neg h3]
        have e : listErr f l = 0 := listErr_ok h2 h3'
        have : listsErr f [l] = 0 := by unfold listsErr; rw [if_pos e]; rfl
        rw [if_pos this, show ([l] : List (List GlossD)).flatten = l by simp, h3']; rfl
    · have h2' : okMsgs f l = false := by simpa using h2
      rw [if_neg h2]
      have e : listErr f l = 21 := listErr_bad h2'
      have : listsErr f [l] = 21 := by unfold listsErr; rw [e]; rfl
      rw [this]; rfl
  · rw [if_neg h1, if_neg h1]

set_option maxRecDepth 100000 in
set_option maxHeartbeats 4000000 in
theorem rCheck_any (f : FilmsR) (l : List GlossD) (A : Option Addr) (c n : Nat) (w : World) (hf : Ints w n f.A f.d.frames) (hA : GlossAt w n A l) (hn : n ≤ w.heap.size) (hfl : f.d.frames.length ≤ 1000000) (hl : l.length ≤ 1000) :
    Calls Try.prog 34 #[filmsV f, .slice A l.length c] w fun e w' => e = .returned (.int .i64 (readErr f.d [l])) ∧ Below w.heap.size w w' := by
  rw [← rErr_eq]
  have HFC := Lib.hid (fun (w0 : World) (hw : Grow w w0) => rFilms_any f w0.heap.size w0 (((hf.more hn).below hw).more hw.size) (Nat.le_refl _) hfl)
  have HMC := Lib.hid (fun (w0 : World) (hw : Grow w w0) (hok : okFilms f.d = true) => rMsgs_any f l A c w0.heap.size w0.heap.size w0 (((hf.more hn).below hw).more hw.size) (Nat.le_refl _) hok (((hA.more hn).below hw).more hw.size) (Nat.le_refl _) hl)
  have HCC := Lib.hid (fun (w0 : World) (hw : Grow w w0) => rclash_any l A c w0.heap.size w0 (((hA.more hn).below hw).more hw.size) hl)
  have HE : Hid (rErrD f.d l = if okFilms f.d = true then (if okMsgs f.d l = true then (if clashB l = true then 22 else 0) else 21) else 20) := rfl
  generalize rErrD f.d l = er at HE ⊢
  generalize okMsgs f.d l = b2 at HE HMC
  generalize clashB l = b3 at HE HCC
  obtain ⟨b1, hb1⟩ : ∃ q, okFilms f.d = q := ⟨_, rfl⟩
  rw [hb1] at HE HFC HMC
  clear hf hA hb1
  go_enter Try.func34, Try.ntmps34
  go_upto_region 1 with fail
  obtain ⟨W, hW, hg, hf, hsz⟩ := one_block w 24 (cellsF f)
  rw [hW]
  clear hW
  have hcc := hf.cell
  have HF := Lib.hid hf
  have HG := Lib.hid hg
  clear hf hg
  go_wp2_with fail
  refine (HFC.out W HG.out).mono ?_
  rintro e w1 ⟨rfl, hb1⟩
  have HG1 : Hid (Grow w w1) := Lib.hid (HG.out.trans' (Below.mono hb1 HG.out.size))
  have hcc := (Grow.block hb1 HF.out).cell
  have HF1 : Hid (BlockIs w1 w.heap.size 24 (cellsF f)) := Lib.hid (Grow.block hb1 HF.out)
  clear hb1
  cases b1 with
  | false =>
    have HER : Hid (er = 20) := Lib.hid (by rw [HE.out]; rfl)
    go_wp2
    go_ret
    exact ⟨ret_int HER.out.symm, HG1.out⟩
  | true =>
    go_wp2_with fail
    refine (HMC.out w1 HG1.out (by trivial)).mono ?_
    rintro e w2 ⟨rfl, hb2⟩
    have HG2 : Hid (Grow w w2) := Lib.hid (HG1.out.trans hb2)
    clear hb2 hcc
    cases b2 with
    | false =>
      have HER : Hid (er = 21) := Lib.hid (by rw [HE.out]; rfl)
      go_wp2
      go_ret
      exact ⟨ret_int HER.out.symm, HG2.out⟩
    | true =>
      go_wp2_with fail
      refine (HCC.out w2 HG2.out).mono ?_
      rintro e w3 ⟨rfl, q, rfl⟩
      have HG3 : Hid (Grow w (w2.drewN q)) := Lib.hid (Below.drewN_ HG2.out q)
      cases b3 with
      | false =>
        have HER : Hid (er = 0) := Lib.hid (by rw [HE.out]; rfl)
        go_wp2
        go_ret
        exact ⟨ret_int HER.out.symm, HG3.out⟩
      | true =>
        have HER : Hid (er = 22) := Lib.hid (by rw [HE.out]; rfl)
        go_wp2
        go_ret
        exact ⟨ret_int HER.out.symm, HG3.out⟩

def farD (f : FilmsD) (l : List GlossD) : Bool := (decide (20 < f.frames.length) || decide (60 < l.length)) || ((decide (12 < l.length) && decide (l.length ≤ 40)) || (okFilms f && (f.frames.any (fun n => decide (12 < n)) || decide (6 < f.signs))))
def validD (f : FilmsD) (l : List GlossD) : Bool := !farD f l && decide (readErr f [l] = 0)
theorem validD_parts {f : FilmsD} {l : List GlossD} (h : validD f l = true) : readErr f [l] = 0 ∧ l.length ≤ 12 ∧ (∀ n ∈ f.frames, 1 ≤ n ∧ n ≤ 12) ∧ 1 ≤ f.signs ∧ f.signs ≤ 6 ∧ f.frames.length ≤ 4 := by
  unfold validD at h
  simp only [Bool.and_eq_true, Bool.not_eq_true', decide_eq_true_eq] at h
  obtain ⟨hf, he⟩ := h
  obtain ⟨h1, h2, h3, h4⟩ := readErr_zero he
  have hp := okFilms_parts h1
  unfold farD at hf
  simp only [Bool.or_eq_false_iff, Bool.and_eq_false_iff, decide_eq_false_iff_not, h1, List.any_eq_false, decide_eq_true_eq] at hf
  obtain ⟨⟨hf1, hf2⟩, hf3, hf4⟩ := hf
  have hf5 : (∀ x ∈ f.frames, ¬ 12 < x) ∧ ¬ 6 < f.signs := by
    rcases hf4 with g | g
    · cases g
    · exact g
  refine ⟨he, by omega, fun n hn => ?_, by omega, by omega, hp.1.2⟩
  have := hp.2.2 n hn
  have := hf5.1 n hn
  omega
theorem readErr_nil (f : FilmsD) : readErr f [[]] = if okFilms f = true then 0 else 20 := by
  rw [← rErr_eq]
  unfold rErrD
  have h1 : okMsgs f [] = true := rfl
  have h2 : clashB [] = false := rfl
  rw [h1, h2]
  rfl

set_option maxRecDepth 100000 in
set_option maxHeartbeats 4000000 in
theorem far_any (f : FilmsR) (l : List GlossD) (A : Option Addr) (c n : Nat) (w : World) (hf : Ints w n f.A f.d.frames) (hn : n ≤ w.heap.size) :
    Calls Try.prog 31 #[filmsV f, .slice A l.length c] w fun e w' => e = .returned (.bool (farD f.d l)) ∧ Below w.heap.size w w' := by
  have HC := Lib.hid (fun (w0 : World) (hw : Grow w w0) (hfl : f.d.frames.length ≤ 1000000) => rCheck_any f [] none 0 w0.heap.size w0 (((hf.more hn).below hw).more hw.size) (.inl rfl) (Nat.le_refl _) hfl (by simp))
  rw [readErr_nil] at HC
  have HI := Lib.hid (hf.more hn)
  obtain ⟨⟨frames, signs⟩, Af, ca⟩ := f
  dsimp only at HC HI ⊢
  have HO : Hid (farD ⟨frames, signs⟩ l = ((decide (20 < frames.length) || decide (60 < l.length)) || ((decide (12 < l.length) && decide (l.length ≤ 40)) || (okFilms ⟨frames, signs⟩ && (frames.any (fun n => decide (12 < n)) || decide (6 < signs)))))) := rfl
  generalize okFilms ⟨frames, signs⟩ = ok at HC HO
  generalize farD ⟨frames, signs⟩ l = fd at HO ⊢
  clear hf hn
  obtain ⟨m, hm⟩ : ∃ q, l.length = q := ⟨_, rfl⟩
  rw [hm] at HO ⊢
  clear hm
  go_enter Try.func31, Try.ntmps31
  go_upto_region 1 with fail
  obtain ⟨W, hW, hg, hf, hsz⟩ := one_block w 24 (cellsF ⟨⟨frames, signs⟩, Af, ca⟩)
  rw [hW]
  clear hW
  have hcc := hf.cell
  have HF := Lib.hid hf
  have HG := Lib.hid hg
  clear hf hg
  by_cases h1 : 20 < frames.length
  · have d1 : decide ((20 : Int) < (frames.length : Int)) = true := decide_eq_true (by omega)
    have HFD : Hid (fd = true) := Lib.hid (by rw [HO.out, decide_eq_true h1]; rfl)
    go_wp2
    go_ret
    exact ⟨ret_bool HFD.out.symm, HG.out⟩
  · have d1 : decide ((20 : Int) < (frames.length : Int)) = false := decide_eq_false (by omega)
    by_cases h2 : 60 < m
    · have d2 : decide ((60 : Int) < (m : Int)) = true := decide_eq_true (by omega)
      have HFD : Hid (fd = true) := Lib.hid (by rw [HO.out, decide_eq_true h2]; simp)
      go_wp2
      go_ret
      exact ⟨ret_bool HFD.out.symm, HG.out⟩
    · have d2 : decide ((60 : Int) < (m : Int)) = false := decide_eq_false (by omega)
      by_cases h3 : 12 < m ∧ m ≤ 40
      · have d3 : decide ((12 : Int) < (m : Int)) = true := decide_eq_true (by omega)
        have d4 : decide ((m : Int) ≤ (40 : Int)) = true := decide_eq_true (by omega)
        have HFD : Hid (fd = true) := Lib.hid (by rw [HO.out, decide_eq_true h3.1, decide_eq_true h3.2]; simp)
        clear h3
        go_wp2
        go_ret
        exact ⟨ret_bool HFD.out.symm, HG.out⟩
      · have HFD : Hid (fd = (ok && (frames.any (fun n => decide (12 < n)) || decide (6 < signs)))) := Lib.hid (by
          rw [HO.out, decide_eq_false h1, decide_eq_false h2]
          have : (decide (12 < m) && decide (m ≤ 40)) = false := by
            simp only [Bool.and_eq_false_iff, decide_eq_false_iff_not]; omega
          rw [this]; rfl)
        have hl9 : frames.length ≤ 1000000 := by omega
        clear HO
        go_cut [24] (fun v wx => v = .bool false ∧ W = wx)
        case first =>
          by_cases h4 : 12 < m
          · have d3 : decide ((12 : Int) < (m : Int)) = true := decide_eq_true (by omega)
            have d4 : decide ((m : Int) ≤ (40 : Int)) = false := decide_eq_false (by omega)
            clear h3 h4
            go_wp2
            go_meet
            exact ⟨rfl, rfl⟩
          · have d3 : decide ((12 : Int) < (m : Int)) = false := decide_eq_false (by omega)
            clear h3 h4
            go_wp2
            go_meet
            exact ⟨rfl, rfl⟩
        case rest =>
          obtain ⟨rfl, rfl⟩ := hcut
          go_wp2_with fail
          refine (HC.out W HG.out hl9).mono ?_
          rintro e w2 ⟨rfl, hb2⟩
          have HG2 : Hid (Grow w w2) := Lib.hid (HG.out.trans hb2)
          have hcc := (Grow.block hb2 HF.out).cell
          have HI2 : Hid (Ints w2 w.heap.size Af frames) := Lib.hid (HI.out.below HG2.out)
          clear hb2 HC
          cases ok with
          | false =>
            have HFE : Hid (fd = false) := Lib.hid (by rw [HFD.out]; rfl)
            go_wp2
            go_ret
            exact ⟨ret_bool HFE.out.symm, HG2.out⟩
          | true =>
            go_wp2_with fail
            go_loop [5] (fun i => ∃ k : Nat, k ≤ frames.length ∧ i = .int .i64 k ∧ Hid ((frames.take k).any (fun n => decide (12 < n)) = false)) (fun i => frames.length - (intOf i).toNat)
            case atStart => exact ⟨0, Nat.zero_le _, rfl, rfl⟩
            case round =>
              obtain ⟨k, hk, rfl, HA⟩ := hrel
              by_cases hlt : k < frames.length
              · obtain ⟨b, off, x, rfl, hb, hc, HX⟩ := HI2.out.at_ hlt
                have hki : (k : Int) < (frames.length : Int) := by omega
                have hk0 : (0 : Int) ≤ (k : Int) := by omega
                have HT := Lib.hid (any_take_succ (fun n => decide (12 < n)) HX.out HA.out)
                by_cases hx : 12 < x
                · have d5 : decide (12 < x) = true := decide_eq_true hx
                  have HFE : Hid (fd = true) := Lib.hid (by rw [HFD.out, any_of_take (k := k + 1) (fun n => decide (12 < n)) (by rw [HT.out]; exact decide_eq_true hx)]; rfl)
                  clear hx
                  go_wp2
                  go_ret
                  exact ⟨ret_bool HFE.out.symm, HG2.out⟩
                · have d5 : decide (12 < x) = false := decide_eq_false hx
                  have HF2 : Hid ((frames.take (k + 1)).any (fun n => decide (12 < n)) = false) := Lib.hid (by rw [HT.out]; exact decide_eq_false hx)
                  clear hx
                  go_wp2
                  go_round
                  case rel => exact ⟨k + 1, hlt, by go_num, HF2⟩
                  case measure => simp [intOf]; omega
              · obtain rfl : k = frames.length := by omega
                have HFE : Hid (decide (6 < signs) = fd) := Lib.hid (by have h := HA.out; rw [List.take_length] at h; rw [HFD.out, h]; rfl)
                clear hlt
                go_wp2
                go_ret
                exact ⟨ret_bool HFE.out, HG2.out⟩

set_option maxRecDepth 100000 in
set_option maxHeartbeats 4000000 in
theorem valid_any (f : FilmsR) (l : List GlossD) (A : Option Addr) (c n : Nat) (w : World) (hf : Ints w n f.A f.d.frames) (hA : GlossAt w n A l) (hn : n ≤ w.heap.size) :
    Calls Try.prog 12 #[filmsV f, .slice A l.length c] w fun e w' => e = .returned (.bool (validD f.d l)) ∧ Below w.heap.size w w' := by
  have HFR := Lib.hid (fun (w0 : World) (hw : Grow w w0) => far_any f l A c w0.heap.size w0 (((hf.more hn).below hw).more hw.size) (Nat.le_refl _))
  have HC := Lib.hid (fun (w0 : World) (hw : Grow w w0) (h9 : f.d.frames.length ≤ 1000000) (h8 : l.length ≤ 1000) => rCheck_any f l A c w0.heap.size w0 (((hf.more hn).below hw).more hw.size) (((hA.more hn).below hw).more hw.size) (Nat.le_refl _) h9 h8)
  have HNF : Hid (farD f.d l = false → f.d.frames.length ≤ 1000000 ∧ l.length ≤ 1000) := Lib.hid (fun h => by
    unfold farD at h
    simp only [Bool.or_eq_false_iff, decide_eq_false_iff_not] at h
    omega)
  have HO : Hid (validD f.d l = (!farD f.d l && decide (readErr f.d [l] = 0))) := rfl
  generalize farD f.d l = fd at HFR HNF HO
  generalize readErr f.d [l] = er at HC HO
  generalize validD f.d l = vd at HO ⊢
  clear hf hA hn
  go_enter Try.func12, Try.ntmps12
  go_upto_region 1 with fail
  obtain ⟨W, hW, hg, hf, hsz⟩ := one_block w 24 (cellsF f)
  rw [hW]
  clear hW
  have hcc := hf.cell
  have HF := Lib.hid hf
  have HG := Lib.hid hg
  clear hf hg
  cases fd with
  | true =>
    have HV : Hid (vd = false) := Lib.hid (by rw [HO.out]; rfl)
    go_wp2_with fail
    refine (HFR.out _ HG.out).mono ?_
    rintro e w2 ⟨rfl, hb2⟩
    have HG2 : Hid (Grow w w2) := Lib.hid (HG.out.trans hb2)
    clear hb2
    go_wp2
    go_ret
    exact ⟨ret_bool HV.out.symm, HG2.out⟩
  | false =>
    have HV : Hid (decide (er = 0) = vd) := Lib.hid (by rw [HO.out]; rfl)
    go_wp2_with fail
    refine (HFR.out _ HG.out).mono ?_
    rintro e w2 ⟨rfl, hb2⟩
    have HG2 : Hid (Grow w w2) := Lib.hid (HG.out.trans hb2)
    have hcc := (Grow.block hb2 HF.out).cell
    clear hb2
    go_wp2_with fail
    refine (HC.out _ HG2.out (HNF.out (by trivial)).1 (HNF.out (by trivial)).2).mono ?_
    rintro e w3 ⟨rfl, hb3⟩
    have HG3 : Hid (Grow w w3) := Lib.hid (HG2.out.trans hb3)
    clear hb3 hcc
    go_wp2
    go_ret
    exact ⟨ret_bool HV.out, HG3.out⟩

end Go.Proofs.Ytinlojealfbbfaa
