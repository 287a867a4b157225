/- Frame: the specification's CheckFrame; what the laws know of valid films and messages. -/
import Derived.Test.YtinlojealfbbfaaFar
import Derived.Test.YtinlojealfbbfaaReadL
import Derived.Test.YtinlojealfbbfaaPairM
namespace Go.Proofs.Ytinlojealfbbfaa
open Go.RowKit

def frameErr (f : FilmsD) (l : List GlossD) (film frame : Int) : Int := if readErr f [l] = 0 then (if (inB film 0 (f.frames.length - 1) && inB frame 0 (frameOf f film - 1)) = true then 0 else 1) else readErr f [l]
theorem frameErr_zero {f : FilmsD} {l : List GlossD} {film frame : Int} (h : frameErr f l film frame = 0) : readErr f [l] = 0 ∧ (0 ≤ film ∧ film ≤ f.frames.length - 1) ∧ 0 ≤ frame ∧ frame ≤ frameOf f film - 1 := by
  unfold frameErr at h
  by_cases h1 : readErr f [l] = 0
  · rw [if_pos h1] at h
    by_cases h2 : (inB film 0 (f.frames.length - 1) && inB frame 0 (frameOf f film - 1)) = true
    · simp only [Bool.and_eq_true, inB_iff] at h2
      exact ⟨h1, h2.1, h2.2⟩
    · rw [if_neg h2] at h; simp at h
  · rw [if_neg h1] at h; exact absurd h h1

set_option maxRecDepth 100000 in
set_option maxHeartbeats 4000000 in
theorem rFrame_any (f : FilmsR) (l : List GlossD) (A : Option Addr) (c : Nat) (film frame : Int) (n : Nat) (w : World) (hf : Ints w n f.A f.d.frames) (hA : GlossAt w n A l) (hn : n ≤ w.heap.size) (hfl : f.d.frames.length ≤ 1000000) (hl : l.length ≤ 1000) :
    Calls Try.prog 20 #[filmsV f, .slice A l.length c, .int .i64 film, .int .i64 frame] w fun e w' => e = .returned (.int .i64 (frameErr f.d l film frame)) ∧ Below w.heap.size w w' := by
  have HC := Lib.hid (fun (w0 : World) (hw : Grow w w0) => rCheck_any f l A c w0.heap.size w0 (((hf.more hn).below hw).more hw.size) (((hA.more hn).below hw).more hw.size) (Nat.le_refl _) hfl hl)
  have HE : Hid (frameErr f.d l film frame = if readErr f.d [l] = 0 then (if (inB film 0 (f.d.frames.length - 1) && inB frame 0 (frameOf f.d film - 1)) = true then 0 else 1) else readErr f.d [l]) := rfl
  have HOK : Hid (readErr f.d [l] = 0 → okFilms f.d = true) := Lib.hid (fun h => (readErr_zero h).1)
  have HI := Lib.hid (hf.more hn)
  have HFR := Lib.hid (fun (h : okFilms f.d = true) (h0 : 0 ≤ film) (h1 : film ≤ f.d.frames.length - 1) => frameOf_at h h0 h1)
  generalize frameErr f.d l film frame = er at HE ⊢
  generalize readErr f.d [l] = e0 at HE HC HOK
  have HB1 := Lib.hid (fun w0 => rwithin_any film 0 (f.d.frames.length - 1) w0)
  have HB2 := Lib.hid (fun w0 => rwithin_any frame 0 (frameOf f.d film - 1) w0)
  obtain ⟨b1, hb1⟩ : ∃ q, inB film 0 (f.d.frames.length - 1) = q := ⟨_, rfl⟩
  rw [hb1] at HE HB1
  generalize inB frame 0 (frameOf f.d film - 1) = b2 at HE HB2
  have HI1 := Lib.hid hb1
  generalize frameOf f.d film = fr at HB2 HFR
  clear hf hA hb1
  go_enter Try.func20, Try.ntmps20
  go_upto_region 1 with fail
  obtain ⟨W, hW, hg, hf, hsz⟩ := one_block w 24 (cellsF f)
  rw [hW]
  clear hW
  have hcc := hf.cell
  have HF := Lib.hid hf
  have HG := Lib.hid hg
  clear hf hg
  go_wp2_with fail
  refine (HC.out W HG.out).mono ?_
  rintro e w1 ⟨rfl, hb1⟩
  have HG1 : Hid (Grow w w1) := Lib.hid (HG.out.trans hb1)
  have hcc := (Grow.block hb1 HF.out).cell
  clear hb1
  by_cases h0 : e0 = 0
  · subst h0
    have HOK2 := HOK.out rfl
    have HOK3 := Lib.hid HOK2
    clear HOK HOK2
    cases b1 with
    | false =>
      have HER : Hid (er = 1) := Lib.hid (by rw [HE.out]; rfl)
      go_wp2_with fail
      refine (HB1.out _).mono ?_
      rintro e w2 ⟨rfl, rfl⟩
      go_wp2
      go_ret
      exact ⟨ret_int HER.out.symm, HG1.out⟩
    | true =>
      have hin := inB_iff.1 HI1.out
      obtain ⟨hx, h1, h2⟩ := HFR.out HOK3.out hin.1 hin.2
      obtain ⟨k, hk⟩ := Int.eq_ofNat_of_zero_le hin.1
      have HX := Lib.hid hx
      have hkl : film.toNat < f.d.frames.length := lt_of_at hx
      obtain ⟨b, off, y, hAe, hb, hcell, HY⟩ := (HI.out.below HG1.out).at_ hkl
      obtain rfl : y = fr := by have h := HY.out; rw [hx] at h; exact (Option.some.inj h).symm
      subst hk
      rw [Int.toNat_natCast] at hcell hkl
      have hki : (k : Int) < (f.d.frames.length : Int) := by omega
      have hk0 : (0 : Int) ≤ (k : Int) := by omega
      have hcc2 : w1.cell? ⟨w.heap.size, 0, none⟩ = some (.slice (some ⟨b, off, none⟩) f.d.frames.length f.ca) := by rw [hcc, ← hAe]; rfl
      have HER : Hid (er = if b2 = true then 0 else 1) := Lib.hid (by rw [HE.out]; rfl)
      clear hcc hx hin hb
      go_wp2_with fail
      refine (HB1.out _).mono ?_
      rintro e w2 ⟨rfl, rfl⟩
      go_wp2_with fail
      refine (HB2.out _).mono ?_
      rintro e w2 ⟨rfl, rfl⟩
      cases b2 with
      | false =>
        go_wp2
        go_ret
        exact ⟨ret_int HER.out.symm, HG1.out⟩
      | true =>
        go_wp2
        go_ret
        exact ⟨ret_int HER.out.symm, HG1.out⟩
  · have HER : Hid (e0 = er) := Lib.hid (by rw [HE.out, if_neg h0])
    have hne : decide (e0 = 0) = false := decide_eq_false h0
    have hneb : (e0 == 0) = false := by simpa using h0
    have hnec : (e0 != 0) = true := by simpa using h0
    clear h0
    go_wp2
    go_ret
    exact ⟨ret_int HER.out, HG1.out⟩

theorem valid_facts {f : FilmsD} {l : List GlossD} (h : validD f l = true) : okFilms f = true ∧ (∀ x ∈ l, okGloss f x = true) ∧ l.length ≤ 12 ∧ ¬ Clash l ∧ readErr f [l] = 0 ∧ f.frames.length ≤ 4 := by
  have h1 := validD_parts h
  have h2 := readErr_zero h1.1
  exact ⟨h2.1, h2.2.1, h1.2.1, h2.2.2.2, h1.1, h1.2.2.2.2.2⟩
theorem okGloss_span {f : FilmsD} {x : GlossD} (h : okGloss f x = true) : SpanG x := (okGloss_parts h).2.2.2.2.1
theorem okGloss_in {f : FilmsD} {x : GlossD} (h : okGloss f x = true) : InFilm f x := by
  obtain ⟨_, _, h3, h4, h5, h6, _⟩ := okGloss_parts h
  exact ⟨h3.1, by omega, h4, h5, h6⟩
theorem film_zero {f : FilmsD} {l : List GlossD} {film : Int} (h : readErr f [l] = 0) (h0 : 0 ≤ film) (h1 : film ≤ f.frames.length - 1) : filmErr f l film = 0 := by
  unfold filmErr
  rw [if_pos h, if_pos (inB_iff.2 ⟨h0, h1⟩)]
theorem agree_zero {f : FilmsD} {l : List GlossD} {a b : Int} (h : readErr f [l] = 0) (ha : rAuthD a b = true) : agreeErr f l a b = 0 := by
  unfold agreeErr
  rw [if_pos h, if_pos]
  simp only [rAuthD, Bool.and_eq_true, decide_eq_true_eq] at ha
  simp only [authorsOK, Bool.and_eq_true, Bool.not_eq_true', decide_eq_false_iff_not]
  exact ⟨ha.1.1, ha.1.2, ha.2⟩
theorem rAuthD_comm (a b : Int) : rAuthD a b = rAuthD b a := by
  rw [Bool.eq_iff_iff]
  simp only [rAuthD, Bool.and_eq_true, decide_eq_true_eq]
  exact ⟨fun h => ⟨⟨h.1.2, h.1.1⟩, fun e => h.2 e.symm⟩, fun h => ⟨⟨h.1.2, h.1.1⟩, fun e => h.2 e.symm⟩⟩
/-- the glosses of a frame: their signs -/
theorem at_facts {f : FilmsD} {l : List GlossD} (h : readErr f [l] = 0) (fm fr : Int) : ∀ x ∈ rAtD l fm fr, SignsOK x ∧ x.signs.toNat ≠ 0 ∧ x.signs.toNat < 2 ^ f.signs.toNat := fun x hx => by
  obtain ⟨h1, h2, _, h4⟩ := readErr_zero h
  rw [rAt_eq h4 (sortU_sorted h4) (fun y hy => okGloss_span (h2 y hy))] at hx
  exact held_facts h (sortU_sorted h4) x (List.mem_filter.1 hx).1
theorem rAtD_len (l : List GlossD) (fm fr : Int) : (rAtD l fm fr).length ≤ l.length := Nat.le_trans (List.length_filter_le _ _) (rheldD_len l)
/-- the reading of a frame -/
theorem read_at {f : FilmsD} {l all : List GlossD} (h : readErr f [l] = 0) (hs : SortedG l all) {film frame : Int} (h0 : 0 ≤ frame) (h1 : frame ≤ frameOf f film - 1) :
    readS (rdsTo (setAt f.signs.toNat (all.filter (holdsD all)) film) (frameOf f film).toNat) frame = firstD f.signs.toNat (rAtD l film frame) ∧ (sgAt (rdsTo (setAt f.signs.toNat (all.filter (holdsD all)) film) (frameOf f film).toNat) frame).length ≤ 1 := by
  obtain ⟨k, rfl⟩ := Int.eq_ofNat_of_zero_le h0
  obtain ⟨_, h2, _, h4⟩ := readErr_zero h
  have hr := readS_rds (set := setAt f.signs.toNat (all.filter (holdsD all)) film) (m := (frameOf f film).toNat) (k := k) (by omega)
  refine ⟨?_, hr.2⟩
  rw [hr.1, rAt_eq h4 hs (fun y hy => okGloss_span (h2 y hy))]
  rfl
theorem rds_len (set : Nat → Nat) {f : FilmsD} {film : Int} (h : 0 ≤ frameOf f film) : ((rdsTo set (frameOf f film).toNat).length : Int) ≤ frameOf f film := by
  have := rdsTo_len set (frameOf f film).toNat
  omega
theorem first_lt {f : FilmsD} {l : List GlossD} (h : readErr f [l] = 0) (fm fr : Int) : readD f.signs.toNat (rAtD l fm fr) ≠ [] ∧ firstD f.signs.toNat (rAtD l fm fr) < 1024 := by
  have h1 := (okFilms_parts (readErr_zero h).1).2.1
  have hne := readD_ne (n := f.signs.toNat) (by omega) (fun x hx => (at_facts h fm fr x hx).2)
  refine ⟨hne, Nat.lt_of_lt_of_le (firstD_facts hne).1 ?_⟩
  exact Nat.le_trans (Nat.pow_le_pow_right (n := 2) (by omega) (show f.signs.toNat ≤ 10 by omega)) (by decide)
theorem popD_zero : ∀ s : Nat, s < 1024 → popD s = 0 → s = 0 := by
  have h : ∀ s ∈ List.range 1024, popD s = 0 → s = 0 := by decide +kernel
  exact fun s hs => h s (List.mem_range.2 hs)
theorem popD_pow : ∀ i : Nat, i < 10 → popD (2 ^ i) = 1 := by
  have h : ∀ i ∈ List.range 10, popD (2 ^ i) = 1 := by decide +kernel
  exact fun i hi => h i (List.mem_range.2 hi)
theorem hit_pow {x : GlossD} {i : Nat} (h : x.signs.toNat.testBit i = true) : hitD (2 ^ i) x = true := by
  unfold hitD
  refine decide_eq_true (fun e => ?_)
  have := congrArg (fun q => Nat.testBit q i) e
  simp [Nat.testBit_and, h, Nat.testBit_two_pow_self] at this
/-- two glosses with a sign in common need one sign -/
theorem pair_size {n : Nat} {x y : GlossD} (hn : n ≤ 10) (h : ∀ z ∈ [x, y], z.signs.toNat ≠ 0 ∧ z.signs.toNat < 2 ^ n) (hb : x.signs.toNat &&& y.signs.toNat ≠ 0) : popD (firstD n [x, y]) = 1 := by
  have hne := readD_ne hn h
  obtain ⟨h1, h2, h3, h4⟩ := firstD_facts hne
  obtain ⟨i, hi⟩ := Nat.exists_testBit_of_ne_zero hb
  rw [Nat.testBit_and, Bool.and_eq_true] at hi
  have hin : i < n := by
    rcases Nat.lt_or_ge i n with g | g
    · exact g
    · have := Nat.testBit_lt_two_pow (Nat.lt_of_lt_of_le (h x (by simp)).2 (Nat.pow_le_pow_right (n := 2) (by omega) g))
      rw [this] at hi
      exact absurd hi.1 (by decide)
  have h5 := h4 (2 ^ i) (Nat.pow_lt_pow_right (by omega) hin) (by
    unfold agreesD
    simp [hit_pow hi.1, hit_pow hi.2])
  rw [popD_pow i (by omega)] at h5
  have h6 : firstD n [x, y] < 1024 := Nat.lt_of_lt_of_le h1 (Nat.le_trans (Nat.pow_le_pow_right (n := 2) (by omega) hn) (by decide))
  have h7 : popD (firstD n [x, y]) ≠ 0 := fun e => by
    have e0 := popD_zero _ h6 e
    rw [e0] at h2
    simp [agreesD, hitD] at h2
  omega

end Go.Proofs.Ytinlojealfbbfaa
