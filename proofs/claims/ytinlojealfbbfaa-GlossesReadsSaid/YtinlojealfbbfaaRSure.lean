/- RSure: the specification's Sure; written by wip/tools/rsure02.py. -/
import Derived.Test.YtinlojealfbbfaaRSmall
namespace Go.Proofs.Ytinlojealfbbfaa
open Go.RowKit

set_option maxRecDepth 100000 in
set_option maxHeartbeats 16000000 in
theorem rSureApi_any (f : FilmsR) (l : List GlossD) (A : Option Addr) (c : Nat) (film frame : Int) (n : Nat) (w : World) (hf : Ints w n f.A f.d.frames) (hA : GlossAt w n A l) (hn : n ≤ w.heap.size) (hfl : f.d.frames.length ≤ 1000000) (hl : l.length ≤ 1000) :
    Calls Try.prog 38 #[filmsV f, .slice A l.length c, .int .i64 film, .int .i64 frame] w fun e w' => ∃ m n, e = .returned (.tuple #[.int .i64 m, .int .i64 n, .int .i64 (frameErr f.d l film frame)]) ∧ SureV f.d l film frame m n (frameErr f.d l film frame) ∧ Below w.heap.size w w' := by
  have HFC := Lib.hid (fun (w0 : World) (hw : Grow w w0) => rFrame_any f l A c film frame w0.heap.size w0 (((hf.more hn).below hw).more hw.size) (((hA.more hn).below hw).more hw.size) (Nat.le_refl _) hfl hl)
  have HGL := Lib.hid (fun (w0 : World) (hw : Grow w w0) => ((hA.more hn).below hw).more hw.size)
  obtain ⟨fe, hfe⟩ : ∃ q, frameErr f.d l film frame = q := ⟨_, rfl⟩
  rw [hfe] at HFC ⊢
  have HFE := Lib.hid hfe
  clear hfe hf hA hn
  go_enter Try.func38, Try.ntmps38
  go_upto_region 1 with fail
  obtain ⟨W, hW, hg, hf, hsz⟩ := one_block w 24 (cellsF f)
  rw [hW]
  clear hW
  have hcc := hf.cell
  have HF := Lib.hid hf
  have HG := Lib.hid hg
  clear hf hg
  go_wp2_with fail
  refine (HFC.out W HG.out).mono ?_
  rintro e w4 ⟨rfl, hb1⟩
  have HG1 : Hid (Grow w w4) := Lib.hid (HG.out.trans hb1)
  have HF1 : Hid (BlockIs w4 w.heap.size 24 (cellsF f)) := Lib.hid (Grow.block hb1 HF.out)
  clear hb1 hcc HFC HF
  by_cases h0 : fe = 0
  · subst h0
    have hfz := frameErr_zero HFE.out
    have hre := hfz.1
    obtain ⟨hok, hgl, hl40, hncl⟩ := readErr_zero hre
    have HSO := Lib.hid (sortU_sorted hncl)
    have HSA := Lib.hid (sure_at hre (sortU_sorted hncl) film frame)
    have hsg := (okFilms_parts hok).2.1
    obtain ⟨sn, hsn⟩ := Int.eq_ofNat_of_zero_le (show 0 ≤ f.d.signs by omega)
    have hst : f.d.signs.toNat = sn := by rw [hsn]; rfl
    have h10 : sn ≤ 10 := by omega
    have HAF := Lib.hid (fun x hx => at_facts hre film frame x hx)
    have HATi := Lib.hid (fun (w0 : World) (hw : Grow w w0) => rAt_any rsort_ok l A c w0.heap.size film frame w0 (HGL.out w0 hw) (Nat.le_refl _) hl (fun x hx => okGloss_small hok (hgl x hx)))
    have hal : (rAtD l film frame).length ≤ 1000 := Nat.le_trans (rAtD_len l film frame) hl
    have HSF : Hid (readD f.d.signs.toNat (((sortU l).filter (holdsD (sortU l))).filter (inD film frame)) = readD sn (rAtD l film frame)) := Lib.hid (by rw [HSA.out, hst])
    rw [hst] at HAF
    have HNE := Lib.hid (readD_ne (n := sn) (l := rAtD l film frame) h10 (fun x hx => (HAF.out x hx).2))
    obtain ⟨fl, hfl2⟩ : ∃ q, rAtD l film frame = q := ⟨_, rfl⟩
    rw [hfl2] at HAF HATi HSF HNE hal
    have HRDi := Lib.hid (fun (A' : Option Addr) (c' : Nat) (w0 : World) (ht : GlossAt w0 w0.heap.size A' fl) => rsmall_any f fl A' c' w0.heap.size w0 ht (Nat.le_refl _) hal (fun x hx => (HAF.out x hx).1) sn hsn h10)
    have hsl : 0 < (readD sn fl).length := List.length_pos_iff.2 HNE.out
    have hS9 : (readD sn fl).length ≤ 1024 := by
      rw [(readD_is sn _).all]
      refine Nat.le_trans (List.length_filter_le _ _) ?_
      rw [List.length_range]
      exact Nat.le_trans (Nat.pow_le_pow_right (n := 2) (by omega) h10) (by decide)
    have HSL : Hid (∀ s ∈ readD sn fl, s < 1024) := Lib.hid (readD_lt h10 fl)
    obtain ⟨S, hS⟩ : ∃ q, readD sn fl = q := ⟨_, rfl⟩
    rw [hS] at HRDi hsl HSL HSF hS9
    have HHD : Hid (S.headD 0 < 1024) := Lib.hid (by
      match S, hsl, HSL.out with
      | s :: S, _, h => exact h s (by simp))
    clear hfl2 hS HNE hfz hre hok hgl hl40 hncl hsg hsn hst hal HSA HAF
    go_upto_region 4 with fail
    refine wp_region_lit 6 [[], [], [], [], [(1, 23), (2, 24), (3, 25)], [(0, 22), (4, 26)]] Grow (fun qi v w' => match qi with
        | 0 => v = filmsV f
        | 1 => v = .slice A l.length c
        | 2 => v = .int .i64 film
        | 3 => v = .int .i64 frame
        | 4 => IsAtV 0 fl v w'
        | 5 => IsSets S v w'
        | _ => False) (by kernel_rfl) (by kernel_rfl) (fun _ _ _ => Grow.trans) Grow.refl ?_ ?_ ?_
    · intro i v y y' h k
      match i, h with
      | 4, h => exact h.grow k
      | 5, h => exact h.grow k
      | 0, h | 1, h | 2, h | 3, h => exact h
    · simp only [StepsLit, List.take_succ_cons, List.take_zero]
      refine ⟨?_, ?_, ?_, ?_, ?_, ?_, trivial⟩
      · intro w5 hR
        have hGw : Grow w4 w5 := hR.of_drew
        have HGW := Lib.hid hGw
        have hnc := (HGW.out.block HF1.out).cell
        clear hR hGw
        simp only [depV]
        try go_simp
        all_goals first
          | (with_reducible exact Grow.refl _)
          | (with_reducible exact ⟨Grow.refl _, rfl⟩)
      · intro w5 hR
        have hGw : Grow w4 w5 := hR.of_drew
        have HGW := Lib.hid hGw
        have hnc := (HGW.out.block HF1.out).cell
        clear hR hGw
        simp only [depV]
        try go_simp
        all_goals first
          | (with_reducible exact Grow.refl _)
          | (with_reducible exact ⟨Grow.refl _, rfl⟩)
      · intro w5 hR
        have hGw : Grow w4 w5 := hR.of_drew
        have HGW := Lib.hid hGw
        have hnc := (HGW.out.block HF1.out).cell
        clear hR hGw
        simp only [depV]
        try go_simp
        all_goals first
          | (with_reducible exact Grow.refl _)
          | (with_reducible exact ⟨Grow.refl _, rfl⟩)
      · intro w5 hR
        have hGw : Grow w4 w5 := hR.of_drew
        have HGW := Lib.hid hGw
        have hnc := (HGW.out.block HF1.out).cell
        clear hR hGw
        simp only [depV]
        try go_simp
        all_goals first
          | (with_reducible exact Grow.refl _)
          | (with_reducible exact ⟨Grow.refl _, rfl⟩)
      · intro w5 hR
        have hGw : Grow w4 w5 := hR.of_drew
        have HGW := Lib.hid hGw
        have hnc := (HGW.out.block HF1.out).cell
        clear hR hGw
        simp only [depV]
        rintro _ rfl
        rintro _ rfl
        rintro _ rfl
        try go_simp
        refine (HATi.out w5 (HG1.out.trans HGW.out)).mono ?_
        rintro e w6 ⟨A6, c6, rfl, ht6, hb6⟩
        exact ⟨hb6, A6, c6, rfl, ht6.mono (Nat.zero_le _)⟩
      · intro w5 hR
        have hGw : Grow w4 w5 := hR.of_drew
        have HGW := Lib.hid hGw
        have hnc := (HGW.out.block HF1.out).cell
        clear hR hGw
        simp only [depV]
        rintro _ rfl
        intro v4 hv4
        obtain ⟨A4, c4, rfl, ht4⟩ := hv4
        clear hnc
        try go_simp
        refine (HRDi.out A4 c4 w5 ht4.at_).mono ?_
        rintro e w6 ⟨A6, c6, rfl, ho6, hb6⟩
        exact ⟨hb6, A6, c6, rfl, (own_ints ho6).1⟩
    · intro w5 hR
      have HG5 : Hid (Grow w4 w5) := Lib.hid hR.of_drew
      clear hR
      simp only [finVC, List.take_succ_cons, List.take_zero, List.drop_succ_cons, List.drop_zero]
      rintro _ rfl
      rintro _ rfl
      rintro _ rfl
      rintro _ rfl
      intro v4 hv4
      intro v5 hv5
      simp only [Act.put, List.setIfInBounds_toArray, List.set_cons_succ, List.set_cons_zero]
      obtain ⟨A7, c7, rfl, hs7⟩ := hv5
      have HG7 : Hid (Grow w w5) := Lib.hid (HG1.out.trans HG5.out)
      obtain ⟨b7, o7, y7, rfl, hb7, hy7, HY7⟩ := hs7.at_ (k := 0) (by rw [List.length_map]; exact hsl)
      have hys : y7 = (S.headD 0 : Nat) := by
        have h1 := HY7.out
        rw [List.getElem?_map] at h1
        match S, hsl, h1 with
        | s :: S, _, h1 => exact (Option.some.inj h1).symm
      rw [hys, Nat.add_zero] at hy7
      have HS7 := Lib.hid hs7
      have hh9 : S.headD 0 < 1024 := HHD.out
      obtain ⟨hd, hhd⟩ : ∃ q, S.headD 0 = q := ⟨_, rfl⟩
      rw [hhd] at hy7 hh9
      have HHE := Lib.hid hhd
      have hsi : (0 : Int) < (S.length : Int) := by omega
      clear hs7 hv4 hys hb7 hhd
      go_wp2_with fail
      go_loopw [8, 9, 13] (fun u v iv wr => ∃ (i a b : Nat), i ≤ S.length ∧ iv = .int .i64 i ∧ u = .int .i64 a ∧ v = .int .i64 b ∧ Hid (a = sureTo S i ∧ b = mayTo S i) ∧ a < 1024 ∧ b < 1024 ∧ wr = w5) (fun _ _ v _ => S.length - (intOf v).toNat)
      case atStart => exact ⟨0, hd, 0, Nat.zero_le _, rfl, rfl, rfl, Lib.hid ⟨HHE.out.symm, rfl⟩, hh9, by decide, rfl⟩
      case round =>
        obtain ⟨i, a, b, hi, rfl, rfl, rfl, HAB, ha9, hb9, hwr⟩ := hrel
        subst hwr
        by_cases hlt : i < S.length
        · have hld : decide ((i : Int) < (S.length : Int)) = true := decide_eq_true (by omega)
          have hldn : decide (i < S.length) = true := decide_eq_true hlt
          obtain ⟨b8, o8, y8, e8, hb8, hy8, HY8⟩ := HS7.out.at_ (k := i) (by rw [List.length_map]; exact hlt)
          obtain ⟨rfl, rfl⟩ : b7 = b8 ∧ o7 = o8 := by injection e8 with e8; injection e8 with e1 e2; exact ⟨e1, e2⟩
          have hsi : S[i]? = some S[i] := List.getElem?_eq_getElem hlt
          have hy8e : y8 = (S[i] : Nat) := by
            have h1 := HY8.out
            rw [List.getElem?_map, hsi] at h1
            exact (Option.some.inj h1).symm
          have hs9 : S[i] < 1024 := HSL.out _ (List.getElem_mem hlt)
          have HT : Hid (sureTo S (i + 1) = a &&& S[i] ∧ mayTo S (i + 1) = b ||| S[i]) := Lib.hid (by rw [HAB.out.1, HAB.out.2]; exact sets_succ hsi)
          obtain ⟨s, hs⟩ : ∃ q, S[i] = q := ⟨_, rfl⟩
          rw [hs] at hs9 HT hy8e
          rw [hy8e] at hy8
          have hba := and_i64 a s (by omega) (by omega)
          have hbo := or_i64 b s (by omega) (by omega)
          have ha8 : a &&& s < 1024 := Nat.lt_of_le_of_lt Nat.and_le_left ha9
          have hb8 : b ||| s < 1024 := Nat.or_lt_two_pow (n := 10) hb9 hs9
          have hil : (i : Int) < (S.length : Int) := by omega
          have hi0 : (0 : Int) ≤ (i : Int) := by omega
          clear e8 hsi hy8e hs hy7
          generalize a &&& s = a2 at hba HT ha8
          generalize b ||| s = b2 at hbo HT hb8
          go_wp2
          go_roundw
          case rel => exact ⟨i + 1, a2, b2, hlt, by go_num, rfl, rfl, Lib.hid ⟨HT.out.1.symm, HT.out.2.symm⟩, ha8, hb8, by first | rfl | trivial⟩
          case measure => simp [intOf]; omega
        · obtain rfl : i = S.length := by omega
          have hld : decide ((S.length : Int) < (S.length : Int)) = false := by simp
          have hldn : decide (S.length < S.length) = false := by simp
          clear hlt hy7
          go_wp2
          exact bodyPost_ret (results_three8 Try.results38 _ _ _ _ _ rfl rfl rfl) rfl ⟨(a : Int), (b : Int), rfl, ⟨fun h => absurd rfl h, fun _ => ⟨sortU l, HSO.out, by rw [HAB.out.1, HSF.out]; rfl, by rw [HAB.out.2, HSF.out]; rfl⟩⟩, HG7.out⟩
  · have hne : decide (fe = 0) = false := decide_eq_false h0
    have hnec : (fe != 0) = true := by simpa using h0
    have HNE := Lib.hid h0
    clear h0
    go_wp2
    exact bodyPost_ret (results_three8 Try.results38 _ _ _ _ _ rfl rfl rfl) rfl ⟨0, 0, rfl, ⟨fun _ => ⟨rfl, rfl⟩, fun h => absurd h HNE.out⟩, HG1.out⟩

end Go.Proofs.Ytinlojealfbbfaa
