/- MoreLaw: the law GlossesMore answers true; written by wip/tools/more02.py. -/
import Derived.Test.YtinlojealfbbfaaMoreM
import Derived.Test.YtinlojealfbbfaaCopies
import Derived.Test.YtinlojealfbbfaaPairLaw
import Derived.RegionTactic
import Derived.BigRegion
import Derived.Deep.DeepCutAuto
namespace Go.Proofs.Ytinlojealfbbfaa
open Go.RowKit

abbrev cellsAd (x : GlossD) (fr : Int) : Array Value := #[.int .i64 x.author, .int .i64 x.stamp, .int .i64 x.film, .int .i64 x.frm, .int .i64 x.to, .int .i64 x.signs, .int .i64 fr]
abbrev addedV (x : GlossD) (fr : Int) : Value := .agg (cellsAd x fr)
theorem any_author_succ {l : List GlossD} {a : Int} {k : Nat} {y : GlossD} (hy : l[k]? = some y) (h : ∀ z ∈ l.take k, z.author ≠ a) (hn : y.author ≠ a) : ∀ z ∈ l.take (k + 1), z.author ≠ a := fun z hz => by
  rw [take_snoc hy] at hz
  rcases List.mem_append.1 hz with hz | hz
  · exact h z hz
  · rw [List.mem_singleton.1 hz]; exact hn

set_option maxRecDepth 100000 in
set_option maxHeartbeats 16000000 in
theorem glossesMore_any (f : FilmsR) (l : List GlossD) (A : Option Addr) (cap : Nat) (x : GlossD) (fr : Int) (w : World) (hf : Ints w w.heap.size f.A f.d.frames) (hA : GlossAt w w.heap.size A l) (hl48 : l.length * 48 ≤ 140737488351232) :
    Calls Try.prog 6 #[filmsV f, .slice A l.length cap, addedV x fr] w fun e w' => e = .returned (.bool true) ∧ Below w.heap.size w w' := by
  obtain ⟨j0, hj, hy0, hy1, hy2⟩ := info_parts Try.infoGloss
  have HI := Lib.hid (fun (w0 : World) (hw : Grow w w0) => (hf.below hw).more hw.size)
  have HGL := Lib.hid (fun (w0 : World) (hw : Grow w w0) => (hA.below hw).more hw.size)
  clear hf hA
  go_enter Try.func6, Try.ntmps6
  go_upto_region 1 with fail
  obtain ⟨W, hW, hg, hf, hs, hsz⟩ := two_blocks w 24 59 (cellsF f) (cellsAd x fr)
  rw [hW]
  clear hW
  have HF := Lib.hid hf
  have HD := Lib.hid hs
  have HG := Lib.hid hg
  have hac := hs.cell
  clear hf hs hg
  go_cut [7, 8] (fun v u wx => ∃ b, v = .pointer (some ⟨b, 0, none⟩) ∧ u = .int .i64 fr ∧ W.heap.size ≤ b ∧ BlockIs wx b 55 (cellsG x) ∧ Grow W wx)
  case first =>
    go_region
    all_goals go_wp2
    all_goals
      go_meet
      exact ⟨_, rfl, rfl, Nat.le_refl _, BlockIs.new _ _ _, Below.drew (Grow.alloc _ _)⟩
  case rest =>
    obtain ⟨bm, rfl, rfl, hbm, hB, hgr⟩ := hcut
    rename World => W2
    have HM2 := Lib.hid hB
    have HG2 : Hid (Grow w W2) := Lib.hid (HG.out.trans hgr)
    have HF2 := Lib.hid (hgr.block HF.out)
    clear hB hac HD HF hgr
    go_upto_region 2 with fail
    refine wp_region_lit 4 [[], [(0, 26)], [], [(2, 28)]] Grow (fun qi v w' => match qi with
        | 0 => v = .slice A l.length cap
        | 1 => IsAtV W2.heap.size l v w'
        | 2 => v = glossV x
        | 3 => NewGloss W2.heap.size x v w'
        | _ => False) (by kernel_rfl) (by kernel_rfl) (fun _ _ _ => Grow.trans) Grow.refl ?_ ?_ ?_
    · intro i v y y' h k
      match i, h with
      | 1, h => exact h.grow k
      | 3, h => exact h.grow k
      | 0, h | 2, h => exact h
    · simp only [StepsLit, List.take_succ_cons, List.take_zero]
      refine ⟨?_, ?_, ?_, ?_, trivial⟩
      · intro w5 hR
        have hGw : Grow W2 w5 := hR.of_drew
        have HGW := Lib.hid hGw
        have hmc := (HGW.out.block HM2.out).cell
        clear hR hGw
        simp only [depV]
        try go_simp
        all_goals first
          | (with_reducible exact Grow.refl _)
          | (with_reducible exact ⟨Grow.refl _, rfl⟩)
      · intro w5 hR
        have hGw : Grow W2 w5 := hR.of_drew
        have HGW := Lib.hid hGw
        have hmc := (HGW.out.block HM2.out).cell
        clear hR hGw
        simp only [depV]
        rintro _ rfl
        try go_simp
        refine (copied_any l A cap w5.heap.size w5 (HGL.out w5 (HG2.out.trans HGW.out)) (Nat.le_refl _) hl48).mono ?_
        rintro e w6 ⟨A6, c6, rfl, ht6, hb6⟩
        exact ⟨hb6, A6, c6, rfl, ht6.mono HGW.out.size⟩
      · intro w5 hR
        have hGw : Grow W2 w5 := hR.of_drew
        have HGW := Lib.hid hGw
        have hmc := (HGW.out.block HM2.out).cell
        clear hR hGw
        simp only [depV]
        try go_simp
        all_goals first
          | (with_reducible exact Grow.refl _)
          | (with_reducible exact ⟨Grow.refl _, rfl⟩)
      · intro w5 hR
        have hGw : Grow W2 w5 := hR.of_drew
        have HGW := Lib.hid hGw
        have hmc := (HGW.out.block HM2.out).cell
        clear hR hGw
        simp only [depV]
        rintro _ rfl
        try go_simp
        exact ⟨Grow.alloc _ _, _, rfl, HGW.out.size, BlockIs.new _ _ _⟩
    · intro w5 hR
      have HG5 : Hid (Grow W2 w5) := Lib.hid hR.of_drew
      clear hR
      simp only [finVC, List.take_succ_cons, List.take_zero, List.drop_succ_cons, List.drop_zero]
      rintro _ rfl
      intro v1 hv1
      rintro _ rfl
      intro v3 hv3
      simp only [Act.put, List.setIfInBounds_toArray, List.set_cons_succ, List.set_cons_zero]
      obtain ⟨A5, c5, rfl, ht5⟩ := hv1
      obtain ⟨b3, rfl, _, hB3⟩ := hv3
      have HT5 := Lib.hid ht5
      have HB3 := Lib.hid hB3
      have hle5 := HG5.out.size
      clear ht5 hB3
      go_wp2_with (at_builtin; go_loud (refine wpList_append_gloss rfl _ _ 25 rfl W2.heap.size 55 j0 (.agg #[.int .i64 0, .int .i64 0, .int .i64 0, .int .i64 0, .int .i64 0, .int .i64 0]) 48 Try.underlying25 hj hy0 hy1 hy2 rfl _ l.length (l.flatMap cellsGL) rfl HT5.out (some ⟨b3, 0, none⟩) 1 1 _ [x] rfl rfl (news_gloss HB3.out) ?c2 ?c3 ?c4 ?_))
      case c2 => unfold maxLen; omega
      case c3 => omega
      case c4 => exact hle5
      intro v' W3 hown hgr
      obtain ⟨An, cn, rfl⟩ := own_form hown
      obtain ⟨al, hal⟩ : ∃ q, l ++ [x] = q := ⟨_, rfl⟩
      have hall : al.length = l.length + 1 := by rw [← hal]; simp
      have HT3 : Hid (GlossT W3 W2.heap.size An cn al) := Lib.hid (by
        unfold GlossT
        rw [hall, ← hal, List.flatMap_append]
        exact hown)
      have HG3 : Hid (Grow W2 W3) := Lib.hid (below_grown HG5.out HT5.out hgr hle5)
      have HAL := Lib.hid hal
      have HLEN := Lib.hid hall
      have HSN : Hid (Value.slice An (l.length + 1) cn = Value.slice An al.length cn) := Lib.hid (by rw [hall])
      clear hown hgr HB3 HT5 hal hall hle5
      rw [HSN.out]
      have HGM : Hid (Grow w W3) := Lib.hid (HG2.out.trans HG3.out)
      have hmc := (HG3.out.block HM2.out).cell
      have hcc := (HG3.out.block HF2.out).cell
      have HV := Lib.hid (fun (w0 : World) (hw : Grow w w0) => valid_any f l A cap w0.heap.size w0 (HI.out w0 hw) (HGL.out w0 hw) (Nat.le_refl _))
      have HV2 := Lib.hid (fun (w0 : World) (hw : Grow W3 w0) => valid_any f al An cn w0.heap.size w0 (HI.out w0 (HGM.out.trans hw)) ((HT3.out.grow hw).at_) (Nat.le_refl _))
      have HVF := Lib.hid (fun (h : validD f.d l = true) => valid_facts h)
      have HVF2 := Lib.hid (fun (h : validD f.d al = true) => valid_facts h)
      obtain ⟨vd, hvd⟩ : ∃ q, validD f.d l = q := ⟨_, rfl⟩
      obtain ⟨vd2, hvd2⟩ : ∃ q, validD f.d al = q := ⟨_, rfl⟩
      rw [hvd] at HV HVF
      rw [hvd2] at HV2 HVF2
      clear hvd hvd2
      go_wp2_with fail
      refine (HV.out W3 HGM.out).mono ?_
      rintro e w1 ⟨rfl, hb1⟩
      have HG1 : Hid (Grow W3 w1) := hb1
      clear hb1 hcc hmc HV
      cases vd with
      | false =>
        go_wp2_with fail
        refine (works_any _).mono ?_
        rintro e w2 ⟨rfl, hb2⟩
        go_wp2
        go_ret
        exact ⟨rfl, HGM.out.trans (HG1.out.trans hb2)⟩
      | true =>
        have hcc := ((HG3.out.trans HG1.out).block HF2.out).cell
        go_wp2_with fail
        refine (HV2.out w1 HG1.out).mono ?_
        rintro e w2 ⟨rfl, hb2⟩
        have HG4 : Hid (Grow W3 w2) := Lib.hid (HG1.out.trans hb2)
        clear hb2 hcc HV2 HG1
        cases vd2 with
        | false =>
          go_wp2_with fail
          refine (works_any _).mono ?_
          rintro e w3 ⟨rfl, hb3⟩
          go_wp2
          go_ret
          exact ⟨rfl, HGM.out.trans (HG4.out.trans hb3)⟩
        | true =>
          obtain ⟨hok, hgl, hl12, hncl, hre, hfl4⟩ := HVF.out (by first | rfl | trivial)
          obtain ⟨_, hgl2, hl13, hncl2, hre2, _⟩ := HVF2.out (by first | rfl | trivial)
          have HOK := Lib.hid hok
          have HRE := Lib.hid hre
          have HRE2 := Lib.hid hre2
          have HGO := Lib.hid hgl
          have HGO2 := Lib.hid hgl2
          have HNC := Lib.hid hncl
          have HNC2 := Lib.hid hncl2
          clear HVF HVF2 hok hgl hncl hre hgl2 hncl2 hre2
          have hl9 : l.length ≤ 1000 := by omega
          have hl92 : al.length ≤ 1000 := by omega
          have hf9 : f.d.frames.length ≤ 1000000 := by omega
          have hmc := ((HG3.out.trans HG4.out).block HM2.out).cell
          have hcc := ((HG3.out.trans HG4.out).block HF2.out).cell
          have HFRM := Lib.hid (fun (w0 : World) (hw : Grow w w0) => rFrame_any f l A cap x.film fr w0.heap.size w0 (HI.out w0 hw) (HGL.out w0 hw) (Nat.le_refl _) hf9 hl9)
          obtain ⟨fe, hfe⟩ : ∃ q, frameErr f.d l x.film fr = q := ⟨_, rfl⟩
          rw [hfe] at HFRM
          have HFE := Lib.hid hfe
          clear hfe
          go_wp2_with fail
          refine (HFRM.out _ (HGM.out.trans HG4.out)).mono ?_
          rintro e w4 ⟨rfl, hb4⟩
          have HG5 : Hid (Grow W3 w4) := Lib.hid (HG4.out.trans hb4)
          clear hb4 hmc hcc HG4 HFRM
          by_cases h0 : fe = 0
          · subst h0
            have hfz := frameErr_zero HFE.out
            have HFZ := Lib.hid hfz
            have hfo := frameOf_at HOK.out hfz.2.1.1 hfz.2.1.2
            have HFO := Lib.hid hfo
            have hmc := ((HG3.out.trans HG5.out).block HM2.out).cell
            clear hfz hfo
            have HSM := Lib.hid (fun (y : GlossD) (hy : y ∈ l) => okGloss_small HOK.out (HGO.out y hy))
            go_wp2_with fail
            refine (rAt_any rsort_ok l A cap w4.heap.size x.film fr w4 (HGL.out w4 (HGM.out.trans HG5.out)) (Nat.le_refl _) hl9 HSM.out).mono ?_
            rintro e w5 ⟨A6, c6, rfl, hT6, hb5⟩
            have HG6 : Hid (Grow W3 w5) := Lib.hid (HG5.out.trans hb5)
            clear hT6 hb5 hmc HG5 HSM
            have hmc := ((HG3.out.trans HG6.out).block HM2.out).cell
            obtain ⟨at9, hat9⟩ : ∃ q, (rAtD l x.film fr).length = q := ⟨_, rfl⟩
            have hat12 : at9 ≤ 12 := by rw [← hat9]; exact Nat.le_trans (rAtD_len _ _ _) hl12
            have HAT9 := Lib.hid hat9
            rw [hat9]
            clear hat9
            have HGA := Lib.hid (HGL.out w5 (HGM.out.trans HG6.out))
            go_wp2_with fail
            go_loopw [11] (fun i wx => ∃ k q : Nat, k ≤ l.length ∧ i = .int .i64 k ∧ Hid (∀ z ∈ l.take k, z.author ≠ x.author) ∧ wx = w5.drewN q) (fun i _ => l.length - (intOf i).toNat)
            case atStart => exact ⟨0, 0, Nat.zero_le _, rfl, Lib.hid (fun z hz => by simp at hz), rfl⟩
            case round =>
              obtain ⟨k, q, hk, rfl, HNA, rfl⟩ := hrel
              by_cases hlt : k < l.length
              · have hkd : decide ((k : Int) < (l.length : Int)) = true := decide_eq_true (by omega)
                have hkdn : decide (k < l.length) = true := decide_eq_true hlt
                obtain ⟨b, off, y, rfl, hb, hc, HX⟩ := HGA.out.at_ hlt
                have hki : (k : Int) < (l.length : Int) := by omega
                have hk0 : (0 : Int) ≤ (k : Int) := by omega
                have e0 := hc 0 (by omega)
                rw [Nat.add_zero] at e0
                clear hc hb
                by_cases h1 : y.author = x.author
                · have d1 : decide (y.author = x.author) = true := decide_eq_true h1
                  have b1 : (y.author == x.author) = true := by simpa using h1
                  clear h1
                  go_wp2
                  go_quiet (fail)
                  go_wp2_with fail
                  refine (works_any _).mono ?_
                  rintro e w6 ⟨rfl, hb6⟩
                  go_wp2
                  go_ret
                  exact ⟨rfl, HGM.out.trans (HG6.out.trans ((show Grow w5 _ from Below.drewN_ (Grow.refl w5) _).trans hb6))⟩
                · have d1 : decide (y.author = x.author) = false := decide_eq_false h1
                  have b1 : (y.author == x.author) = false := by simpa using h1
                  have HNA2 : Hid (∀ z ∈ l.take (k + 1), z.author ≠ x.author) := Lib.hid (any_author_succ HX.out HNA.out h1)
                  clear h1
                  go_wp2
                  go_quiet (fail)
                  go_wp2
                  go_roundw
                  case rel => exact ⟨k + 1, _, hlt, by go_num, HNA2, by first | rfl | exact drewN_two _ _ _⟩
                  case measure => simp [intOf]; omega
              · obtain rfl : k = l.length := by omega
                have hkd : decide ((l.length : Int) < (l.length : Int)) = false := by simp
                have hkdn : decide (l.length < l.length) = false := by simp
                have HMM := Lib.hid (more_math (n := f.d.signs.toNat) (l := l) (x := x) (by have := (okFilms_parts HOK.out).2.1; omega) HNC.out (by rw [HAL.out]; exact HNC2.out) (fun y hy => by rw [HAL.out] at hy; exact okGloss_span (HGO2.out y hy)) (fun y hy => by have h := HNA.out; rw [List.take_length] at h; exact h y hy) (fun a b y hy => (at_facts HRE.out a b y hy).2) (fun a b y hy => (at_facts HRE2.out a b y (by rw [← HAL.out]; exact hy)).2) x.film fr)
                rw [HAL.out, HAT9.out] at HMM
                obtain ⟨w6, hw6⟩ : ∃ z, w5.drewN q = z := ⟨_, rfl⟩
                have HG7 : Hid (Grow W3 w6) := Lib.hid (by rw [← hw6]; exact Below.drewN_ HG6.out q)
                rw [hw6]
                clear hlt HGA HNA hmc hw6 HG6
                have hmc := ((HG3.out.trans HG7.out).block HM2.out).cell
                have hcc := ((HG3.out.trans HG7.out).block HF2.out).cell
                have HRA := Lib.hid (fun (w0 : World) (hw : Grow w w0) => readingsApi_any sortG_ok f l A cap x.film w0.heap.size w0 (HI.out w0 hw) (HGL.out w0 hw) (Nat.le_refl _) hf9 hl9)
                have HRA2 := Lib.hid (fun (w0 : World) (hw : Grow W3 w0) => readingsApi_any sortG_ok f al An cn x.film w0.heap.size w0 (HI.out w0 (HGM.out.trans hw)) ((HT3.out.grow hw).at_) (Nat.le_refl _) hf9 hl92)
                rw [film_zero HRE.out HFZ.out.2.1.1 HFZ.out.2.1.2] at HRA
                rw [film_zero HRE2.out HFZ.out.2.1.1 HFZ.out.2.1.2] at HRA2
                go_wp2_with fail
                refine (HRA.out _ (HGM.out.trans HG7.out)).mono ?_
                rintro e w7 ⟨v7, rfl, hrv, hb7⟩
                obtain ⟨A7, c7, all7, rfl, hso7, hrt7⟩ := hrv.2 rfl
                have HR7 := Lib.hid (read_at HRE.out hso7 HFZ.out.2.2.1 HFZ.out.2.2.2)
                have HL7 := Lib.hid (rds_len (setAt f.d.signs.toNat (all7.filter (holdsD all7)) x.film) (f := f.d) (film := x.film) (by have := HFO.out; omega))
                have HT7 := Lib.hid hrt7
                have HG8 : Hid (Grow W3 w7) := Lib.hid (HG7.out.trans hb7)
                generalize rdsTo (setAt f.d.signs.toNat (all7.filter (holdsD all7)) x.film) (frameOf f.d x.film).toNat = rds7 at HR7 HL7 HT7
                clear hrv hso7 hrt7 hb7 hmc hcc HRA
                have hmc := ((HG3.out.trans HG8.out).block HM2.out).cell
                have hcc := ((HG3.out.trans HG8.out).block HF2.out).cell
                go_wp2_with fail
                refine (HRA2.out _ HG8.out).mono ?_
                rintro e w8 ⟨v8, rfl, hrv, hb8⟩
                obtain ⟨A8, c8, all8, rfl, hso8, hrt8⟩ := hrv.2 rfl
                have HR8 := Lib.hid (read_at HRE2.out hso8 HFZ.out.2.2.1 HFZ.out.2.2.2)
                have HL8 := Lib.hid (rds_len (setAt f.d.signs.toNat (all8.filter (holdsD all8)) x.film) (f := f.d) (film := x.film) (by have := HFO.out; omega))
                have HT8 := Lib.hid hrt8
                have HG9 : Hid (Grow W3 w8) := Lib.hid (HG8.out.trans hb8)
                have HT7' := Lib.hid (HT7.out.grow hb8)
                generalize rdsTo (setAt f.d.signs.toNat (all8.filter (holdsD all8)) x.film) (frameOf f.d x.film).toNat = rds8 at HR8 HL8 HT8
                clear hrv hso8 hrt8 hb8 hmc hcc HRA2 HT7 HG7 HG8
                obtain ⟨kf, hkf⟩ := Int.eq_ofNat_of_zero_le HFZ.out.2.1.1
                have hfo := HFO.out
                have hkl : x.film.toNat < f.d.frames.length := lt_of_at hfo.1
                obtain ⟨b, off, y, hAe, hb, hcell, HY⟩ := (HI.out w8 (HGM.out.trans HG9.out)).at_ hkl
                have hyf : y = frameOf f.d x.film := by
                  have h := HY.out
                  rw [hfo.1] at h
                  exact (Option.some.inj h).symm
                have hcc0 := ((HG3.out.trans HG9.out).block HF2.out).cell 0
                have hcc2 : w8.cell? ⟨w.heap.size, 0, none⟩ = some (.slice (some ⟨b, off, none⟩) f.d.frames.length f.ca) := by rw [hcc0, ← hAe]; rfl
                have hs2 : w8.cell? ⟨bm, 2, none⟩ = some (.int .i64 (kf : Nat)) := by rw [((HG3.out.trans HG9.out).block HM2.out).cell 2, ← hkf]; rfl
                have hrl7 : (rds7.length : Int) ≤ y := by rw [hyf]; exact HL7.out
                have hrl8 : (rds8.length : Int) ≤ y := by rw [hyf]; exact HL8.out
                have q4 : decide (y < (rds7.length : Int)) = false := decide_eq_false (by omega)
                have q5 : decide (y < (rds8.length : Int)) = false := decide_eq_false (by omega)
                have hki : (kf : Int) < (f.d.frames.length : Int) := by omega
                have hk0 : (0 : Int) ≤ (kf : Int) := by omega
                rw [hkf, Int.toNat_natCast] at hcell
                clear hcc0 hAe hfo hkl hb hyf hrl7 hrl8 hkf
                have HLR7 := Lib.hid (lread_any rds7 A7 c7 w8.heap.size fr w8 HT7'.out.at_ (by have := HL7.out; have := HFO.out; omega))
                have HLR8 := Lib.hid (lread_any rds8 A8 c8 w8.heap.size fr w8 HT8.out.at_ (by have := HL8.out; have := HFO.out; omega))
                have HRS7 := Lib.hid (HR7.out.1)
                have HRS8 := Lib.hid (HR8.out.1)
                rw [HRS7.out] at HLR7
                rw [HRS8.out] at HLR8
                have hf7 := (first_lt HRE.out x.film fr).2
                have hf8 := (first_lt HRE2.out x.film fr).2
                generalize firstD f.d.signs.toNat (rAtD l x.film fr) = s7 at HLR7 HMM hf7
                generalize firstD f.d.signs.toNat (rAtD al x.film fr) = s8 at HLR8 HMM hf8
                clear HRS7 HRS8 HR7 HR8
                go_wp2_with fail
                refine HLR7.out.mono ?_
                rintro e w9 ⟨rfl, rfl⟩
                go_wp2_with fail
                refine HLR8.out.mono ?_
                rintro e w9 ⟨rfl, rfl⟩
                clear HLR7 HLR8 hcc2 hs2 hcell q4 q5 hki hk0
                go_wp2_with fail
                refine (rSize_any s7 _ hf7).mono ?_
                rintro e w9 ⟨rfl, rfl⟩
                go_wp2_with fail
                refine (rSize_any s8 _ hf8).mono ?_
                rintro e w9 ⟨rfl, rfl⟩
                have hmm := HMM.out
                generalize popD s7 = p7 at hmm ⊢
                generalize popD s8 = p8 at hmm ⊢
                have hp7 : p7 ≤ 13 := by omega
                have z1 : decide ((p7 : Int) ≤ (p8 : Int)) = true := decide_eq_true (by omega)
                have z1' : decide (p7 ≤ p8) = true := decide_eq_true (by omega)
                have z2 : decide ((p8 : Int) ≤ (p7 : Int) + 1) = true := decide_eq_true (by omega)
                have z3 : decide ((p8 : Int) ≤ (at9 : Int) + 1) = true := decide_eq_true (by omega)
                clear hmm HMM
                go_wp2_with fail
                refine (works_any _).mono ?_
                rintro e w9 ⟨rfl, hb9⟩
                go_wp2
                go_ret
                exact ⟨rfl, HGM.out.trans (HG9.out.trans hb9)⟩
          · have hne : decide (fe = 0) = false := decide_eq_false h0
            have hneb : (fe == 0) = false := by simpa using h0
            have hnec : (fe != 0) = true := by simpa using h0
            clear h0
            go_wp2_with fail
            refine (works_any _).mono ?_
            rintro e w5 ⟨rfl, hb5⟩
            go_wp2
            go_ret
            exact ⟨rfl, HGM.out.trans (HG5.out.trans hb5)⟩

end Go.Proofs.Ytinlojealfbbfaa
