/- PairLaw: the law GlossesPair answers true; written by wip/tools/pair02.py. -/
import Derived.Test.YtinlojealfbbfaaFrame
import Derived.Test.YtinlojealfbbfaaWorks
import Derived.Deep.DeepCutAuto
namespace Go.Proofs.Ytinlojealfbbfaa
open Go.RowKit

structure SpotD where
  film : Int
  frame : Int
  a : Int
  b : Int
  set : Int
abbrev cellsS (x : SpotD) : Array Value := #[.int .i64 x.film, .int .i64 x.frame, .int .i64 x.a, .int .i64 x.b, .int .i64 x.set]
abbrev spotV (x : SpotD) : Value := .agg (cellsS x)
/-- what GlossesPair knows -/
theorem pair_math {f : FilmsD} {l all all2 : List GlossD} {a b m n m2 n2 : Int} (hv : validD f l = true) (hs : SortedG l all) (hs2 : SortedG l all2)
    (hm : m = bothD a b (all.filter (holdsD all))) (hn : n = sameD a b (all.filter (holdsD all))) (hm2 : m2 = bothD b a (all2.filter (holdsD all2))) (hn2 : n2 = sameD b a (all2.filter (holdsD all2))) :
    m2 = m ∧ n2 = n ∧ 0 ≤ n ∧ n ≤ m ∧ m ≤ framesTo f f.frames.length := by
  obtain ⟨h1, h2, h3, h4, h5, h6⟩ := valid_facts hv
  obtain rfl := hs.unique hs2
  have hb := pair_bounds h1 (a := a) (b := b) (l := all.filter (holdsD all)) (fun x hx => okGloss_in (h2 x ((hs.2 x).1 (List.mem_filter.1 hx).1))) (held_once hs h4)
  refine ⟨by rw [hm2, hm, both_comm], by rw [hn2, hn, same_comm], ?_, ?_, ?_⟩
  · rw [hn]; exact hb.1
  · rw [hn, hm]; exact hb.2.1
  · rw [hm]; exact hb.2.2
theorem framesTo_bound {f : FilmsD} (hok : okFilms f = true) : ∀ k, k ≤ f.frames.length → 0 ≤ framesTo f k ∧ framesTo f k ≤ 200 * k
  | 0, _ => ⟨Int.le_refl _, Int.le_refl _⟩
  | k + 1, h => by
    have h1 := framesTo_bound hok k (by omega)
    have h2 := frameOf_at hok (k := (k : Int)) (by omega) (by omega)
    show 0 ≤ framesTo f k + frameOf f k ∧ framesTo f k + frameOf f k ≤ _
    omega

set_option maxRecDepth 100000 in
set_option maxHeartbeats 16000000 in
theorem glossesPair_any (f : FilmsR) (l : List GlossD) (A : Option Addr) (cap : Nat) (x : SpotD) (w : World) (hf : Ints w w.heap.size f.A f.d.frames) (hA : GlossAt w w.heap.size A l) :
    Calls Try.prog 8 #[filmsV f, .slice A l.length cap, spotV x] w fun e w' => e = .returned (.bool true) ∧ Below w.heap.size w w' := by
  have HI := Lib.hid (fun (w0 : World) (hw : Grow w w0) => (hf.below hw).more hw.size)
  have HGL := Lib.hid (fun (w0 : World) (hw : Grow w w0) => (hA.below hw).more hw.size)
  have HV := Lib.hid (fun (w0 : World) (hw : Grow w w0) => valid_any f l A cap w0.heap.size w0 (HI.out w0 hw) (HGL.out w0 hw) (Nat.le_refl _))
  have HVF := Lib.hid (fun (h : validD f.d l = true) => valid_facts h)
  have HPM := Lib.hid (fun (h : validD f.d l = true) (all all2 : List GlossD) (m n m2 n2 : Int) => pair_math (a := x.a) (b := x.b) (all := all) (all2 := all2) (m := m) (n := n) (m2 := m2) (n2 := n2) h)
  obtain ⟨vd, hvd⟩ : ∃ q, validD f.d l = q := ⟨_, rfl⟩
  rw [hvd] at HV HVF HPM
  clear hvd hf hA
  go_enter Try.func8, Try.ntmps8
  go_upto_region 1 with fail
  obtain ⟨W, hW, hg, hf, hs, hsz⟩ := two_blocks w 24 42 (cellsF f) (cellsS x)
  rw [hW]
  clear hW
  have hcc := hf.cell
  have hsc := hs.cell
  have HF := Lib.hid hf
  have HS := Lib.hid hs
  have HG := Lib.hid hg
  clear hf hs hg
  go_wp2_with fail
  refine (HV.out W HG.out).mono ?_
  rintro e w1 ⟨rfl, hb1⟩
  have HG1 : Hid (Grow W w1) := hb1
  clear hb1 hcc hsc HV
  cases vd with
  | false =>
    go_wp2_with fail
    refine (works_any _).mono ?_
    rintro e w2 ⟨rfl, hb2⟩
    go_wp2
    go_ret
    exact ⟨rfl, HG.out.trans (HG1.out.trans hb2)⟩
  | true =>
    obtain ⟨hok, hgl, hl12, hncl, hre, hfl4⟩ := HVF.out rfl
    have HPM2 := Lib.hid (HPM.out rfl)
    have HOK := Lib.hid hok
    have HRE := Lib.hid hre
    have HGO := Lib.hid hgl
    have HNC := Lib.hid hncl
    clear HVF HPM hok hgl hncl hre
    have hsc := (HG1.out.block HS.out).cell
    have hcc := (HG1.out.block HF.out).cell
    obtain ⟨ad, had⟩ : ∃ q, rAuthD x.a x.b = q := ⟨_, rfl⟩
    have HAD := Lib.hid had
    clear had
    go_wp2_with fail
    refine (rAre_any _ _ _).mono ?_
    rintro e w2 ⟨rfl, rfl⟩
    rw [HAD.out]
    cases ad with
    | false =>
      go_wp2_with fail
      refine (works_any _).mono ?_
      rintro e w2 ⟨rfl, hb2⟩
      go_wp2
      go_ret
      exact ⟨rfl, HG.out.trans (HG1.out.trans hb2)⟩
    | true =>
      have hl9 : l.length ≤ 1000 := by omega
      have hf9 : f.d.frames.length ≤ 1000000 := by omega
      have HAG := Lib.hid (fun (w0 : World) (hw : Grow w w0) => agreeApi_any sortG_ok f l A cap x.a x.b w0.heap.size w0 (HI.out w0 hw) (HGL.out w0 hw) (Nat.le_refl _) hf9 hl9)
      have HAG2 := Lib.hid (fun (w0 : World) (hw : Grow w w0) => agreeApi_any sortG_ok f l A cap x.b x.a w0.heap.size w0 (HI.out w0 hw) (HGL.out w0 hw) (Nat.le_refl _) hf9 hl9)
      rw [agree_zero HRE.out HAD.out] at HAG
      rw [agree_zero HRE.out (by rw [rAuthD_comm]; exact HAD.out)] at HAG2
      have HG0 := Lib.hid (HG.out.trans HG1.out)
      go_wp2_with fail
      refine (HAG.out _ HG0.out).mono ?_
      rintro e w2 ⟨m, n, rfl, hav, hb2⟩
      obtain ⟨all, hso, hm, hn⟩ := hav.2 rfl
      have HM := Lib.hid hm
      have HN := Lib.hid hn
      have HSO := Lib.hid hso
      have HG2 : Hid (Grow W w2) := Lib.hid (HG1.out.trans hb2)
      clear hav hb2 hm hn hso hsc hcc
      have hsc := (HG2.out.block HS.out).cell
      have hcc := (HG2.out.block HF.out).cell
      go_wp2_with fail
      refine (HAG2.out _ (HG.out.trans HG2.out)).mono ?_
      rintro e w3 ⟨m2, n2, rfl, hav, hb3⟩
      obtain ⟨all2, hso2, hm2, hn2⟩ := hav.2 rfl
      obtain ⟨rfl, rfl, hn0, hnm, hmf⟩ := HPM2.out all all2 m n m2 n2 HSO.out hso2 HM.out HN.out hm2 hn2
      have HG3 : Hid (Grow W w3) := Lib.hid (HG2.out.trans hb3)
      have HNB := Lib.hid (And.intro hn0 (And.intro hnm hmf))
      clear hav hb3 hm2 hn2 hso2 hsc hcc hn0 hnm hmf HAG HAG2 HPM2 HM HN
      have hsc := (HG3.out.block HS.out).cell
      have hcc := (HG3.out.block HF.out).cell
      have HIW := Lib.hid (HI.out w3 (HG.out.trans HG3.out))
      go_wp2_with fail
      go_loop [13, 14] (fun v i => ∃ (k : Nat) (fs : Int), k ≤ f.d.frames.length ∧ i = .int .i64 k ∧ v = .int .i64 fs ∧ Hid (fs = framesTo f.d k)) (fun _ i => f.d.frames.length - (intOf i).toNat)
      case atStart => exact ⟨0, 0, Nat.zero_le _, rfl, rfl, rfl⟩
      case round =>
        obtain ⟨k, fs, hk, rfl, rfl, HFS⟩ := hrel
        by_cases hlt : k < f.d.frames.length
        · obtain ⟨b, off, y, hAe, hb, hcell, HY⟩ := HIW.out.at_ hlt
          have hcc2 : w3.cell? ⟨w.heap.size, 0, none⟩ = some (.slice (some ⟨b, off, none⟩) f.d.frames.length f.ca) := by rw [hcc, ← hAe]; rfl
          have hkd : decide ((k : Int) < (f.d.frames.length : Int)) = true := decide_eq_true (by omega)
          have hkdn : decide (k < f.d.frames.length) = true := decide_eq_true hlt
          have hki : (k : Int) < (f.d.frames.length : Int) := by omega
          have hk0 : (0 : Int) ≤ (k : Int) := by omega
          have hfo := frameOf_at HOK.out hk0 (by omega)
          have hyf : y = frameOf f.d k := by
            have h := HY.out
            have h2 := hfo.1
            rw [Int.toNat_natCast] at h2
            rw [h2] at h
            exact (Option.some.inj h).symm
          have hbd := framesTo_bound HOK.out k hk
          have HFS2 : Hid (fs + y = framesTo f.d (k + 1)) := Lib.hid (by rw [HFS.out, hyf]; rfl)
          have hwr : IntKind.i64.wrap (fs + y) = fs + y := IntWalk.i64_in _ (by rw [HFS.out, hyf]; omega)
          clear hcc hAe hfo hyf hbd hb
          go_wp2
          go_round
          case rel => exact ⟨k + 1, fs + y, hlt, by go_num, rfl, HFS2⟩
          case measure => show f.d.frames.length - ((k : Int) + 1).toNat < f.d.frames.length - (k : Int).toNat; omega
        · obtain rfl : k = f.d.frames.length := by omega
          have hkd : decide ((f.d.frames.length : Int) < (f.d.frames.length : Int)) = false := by simp
          have hkdn : decide (f.d.frames.length < f.d.frames.length) = false := by simp
          have hfsm : m2 ≤ fs := by rw [HFS.out]; exact HNB.out.2.2
          have hnm := HNB.out.2.1
          have hn0 := HNB.out.1
          have q1 : decide (n2 < 0) = false := decide_eq_false (by omega)
          have q2 : decide (m2 < n2) = false := decide_eq_false (by omega)
          have q3 : decide (fs < m2) = false := decide_eq_false (by omega)
          clear hfsm hnm hn0 hlt
          have HFRM := Lib.hid (fun (w0 : World) (hw : Grow w w0) => rFrame_any f l A cap x.film x.frame w0.heap.size w0 (HI.out w0 hw) (HGL.out w0 hw) (Nat.le_refl _) hf9 hl9)
          obtain ⟨fe, hfe⟩ : ∃ q, frameErr f.d l x.film x.frame = q := ⟨_, rfl⟩
          rw [hfe] at HFRM
          have HFE := Lib.hid hfe
          clear hfe
          go_wp2_with fail
          refine (HFRM.out _ (HG.out.trans HG3.out)).mono ?_
          rintro e w4 ⟨rfl, hb4⟩
          have HG4 : Hid (Grow W w4) := Lib.hid (HG3.out.trans hb4)
          clear hb4 hsc hcc HIW q1 q2 q3
          by_cases h0 : fe = 0
          · subst h0
            have hfz := frameErr_zero HFE.out
            have HFZ := Lib.hid hfz
            have hfo := frameOf_at HOK.out hfz.2.1.1 hfz.2.1.2
            have HFO := Lib.hid hfo
            have hsc := (HG4.out.block HS.out).cell
            clear hfz hfo
            have HSM := Lib.hid (fun (y : GlossD) (hy : y ∈ l) => okGloss_small HOK.out (HGO.out y hy))
            go_wp2_with fail
            refine (rAt_any rsort_ok l A cap w4.heap.size x.film x.frame w4 (HGL.out w4 (HG.out.trans HG4.out)) (Nat.le_refl _) hl9 HSM.out).mono ?_
            rintro e w5 ⟨A6, c6, rfl, hT6, hb5⟩
            have HT6 := Lib.hid hT6
            have HG5' : Hid (Grow W w5) := Lib.hid (HG4.out.trans hb5)
            have HAF := Lib.hid (at_facts HRE.out x.film x.frame)
            have HRDA := Lib.hid (fun (all : List GlossD) (hs : SortedG l all) => read_at HRE.out hs HFZ.out.2.2.1 HFZ.out.2.2.2)
            have HFL := Lib.hid (first_lt HRE.out x.film x.frame)
            have HSGN := Lib.hid (okFilms_parts HOK.out).2.1
            generalize rAtD l x.film x.frame = at_ at HT6 HAF HRDA HFL
            clear hT6 hb5 hsc
            have hsc := (HG5'.out.block HS.out).cell
            have hcc := (HG5'.out.block HF.out).cell
            have HRA := Lib.hid (fun (w0 : World) (hw : Grow w w0) => readingsApi_any sortG_ok f l A cap x.film w0.heap.size w0 (HI.out w0 hw) (HGL.out w0 hw) (Nat.le_refl _) hf9 hl9)
            rw [film_zero HRE.out HFZ.out.2.1.1 HFZ.out.2.1.2] at HRA
            go_wp2_with fail
            refine (HRA.out _ (HG.out.trans HG5'.out)).mono ?_
            rintro e w6 ⟨v6, rfl, hrv, hb6⟩
            obtain ⟨A7, c7, all3, rfl, hso3, hrt⟩ := hrv.2 rfl
            have HR3 := Lib.hid (HRDA.out all3 hso3)
            have HRL := Lib.hid (rds_len (setAt f.d.signs.toNat (all3.filter (holdsD all3)) x.film) (f := f.d) (film := x.film) (by have := HFO.out; omega))
            have HRT := Lib.hid hrt
            have HG6 : Hid (Grow W w6) := Lib.hid (HG5'.out.trans hb6)
            have HT7 : Hid (GlossT w6 w4.heap.size A6 c6 at_) := Lib.hid (HT6.out.grow hb6)
            generalize rdsTo (setAt f.d.signs.toNat (all3.filter (holdsD all3)) x.film) (frameOf f.d x.film).toNat = rds at HR3 HRL HRT
            clear hrv hso3 hrt hb6 hsc hcc HRA HRDA HT6
            obtain ⟨kf, hkf⟩ := Int.eq_ofNat_of_zero_le HFZ.out.2.1.1
            have hfo := HFO.out
            have hkl : x.film.toNat < f.d.frames.length := lt_of_at hfo.1
            obtain ⟨b, off, y, hAe, hb, hcell, HY⟩ := (HI.out w6 (HG.out.trans HG6.out)).at_ hkl
            have hyf : y = frameOf f.d x.film := by
              have h := HY.out
              rw [hfo.1] at h
              exact (Option.some.inj h).symm
            have hsc := (HG6.out.block HS.out).cell
            have hcc0 := (HG6.out.block HF.out).cell 0
            have hcc2 : w6.cell? ⟨w.heap.size, 0, none⟩ = some (.slice (some ⟨b, off, none⟩) f.d.frames.length f.ca) := by rw [hcc0, ← hAe]; rfl
            have hs0 : w6.cell? ⟨w.heap.size + 1, 0, none⟩ = some (.int .i64 (kf : Nat)) := by rw [hsc 0, ← hkf]; rfl
            have hs1 : w6.cell? ⟨w.heap.size + 1, 1, none⟩ = some (.int .i64 x.frame) := hsc 1
            have hrl : (rds.length : Int) ≤ y := by rw [hyf]; exact HRL.out
            have q4 : decide (y < (rds.length : Int)) = false := decide_eq_false (by omega)
            have hki : (kf : Int) < (f.d.frames.length : Int) := by omega
            have hk0 : (0 : Int) ≤ (kf : Int) := by omega
            rw [hkf, Int.toNat_natCast] at hcell
            clear hsc hcc0 hAe hfo hkl hb hyf hrl hkf
            have HLR := Lib.hid (fun (w0 : World) (hw : Grow w6 w0) => lread_any rds A7 c7 w0.heap.size x.frame w0 ((HRT.out.grow hw).at_) (by have := HRL.out; have := HFO.out; omega))
            have HRS := Lib.hid (HR3.out.1)
            have HRN := Lib.hid (decide_eq_true HR3.out.2)
            rw [HRS.out, HRN.out] at HLR
            obtain ⟨s8, hs8⟩ : ∃ q, firstD f.d.signs.toNat at_ = q := ⟨_, rfl⟩
            have HPS : Hid (∀ x y, at_ = [x, y] → x.signs.toNat &&& y.signs.toNat ≠ 0 → popD s8 = 1) := Lib.hid (fun x y e hb => by
              subst e
              rw [← hs8]
              exact pair_size (by have := HSGN.out; omega) (fun z hz => (HAF.out z hz).2) hb)
            have hs9 : s8 < 1024 := by rw [← hs8]; exact HFL.out.2
            rw [hs8] at HLR
            clear hs8 HRS HRN HR3 HFL
            go_wp2_with fail
            refine (HLR.out _ (Grow.refl _)).mono ?_
            rintro e w7 ⟨rfl, rfl⟩
            have HSZ := Lib.hid (fun w0 => rSize_any s8 w0 hs9)
            have HG8 : Hid (Grow w w6) := Lib.hid (HG.out.trans HG6.out)
            clear HLR hcc2 hs0 hs1 hcell q4 hki hk0
            go_upto_region 19 with fail
            by_cases hl2 : at_.length = 2
            · obtain ⟨x, y, rfl⟩ : ∃ x y, at_ = [x, y] := by
                match at_, hl2 with
                | [x, y], _ => exact ⟨x, y, rfl⟩
              rcases HT7.out.block with h | ⟨b, cs, rfl, hlo, hB, hcs⟩
              · cases h
              · have HB := Lib.hid hB
                have HC5 := Lib.hid (fun (w5 : World) (hg : Grow w6 w5) => show w5.cell? ⟨b, 5, none⟩ = some (.int .i64 x.signs) by rw [(hg.block HB.out).cell]; exact hcs 0 x rfl 5 (by omega))
                have HC11 := Lib.hid (fun (w5 : World) (hg : Grow w6 w5) => show w5.cell? ⟨b, 11, none⟩ = some (.int .i64 y.signs) by rw [(hg.block HB.out).cell]; exact hcs 1 y rfl 5 (by omega))
                have HBB := Lib.hid (bits_both (HAF.out x (by simp)).1 (HAF.out y (by simp)).1)
                have HPS2 := Lib.hid (HPS.out x y rfl)
                generalize x.signs.toNat &&& y.signs.toNat = bb at HBB HPS2
                have hbb := HBB.out
                clear hB hcs hlo hl2 HPS HAF HBB
                by_cases hz : bb = 0
                · subst hz
                  refine wp_region_lit 24 [[], [(0, 142)], [(1, 143)], [(1, 143), (2, 144)], [(1, 143), (3, 145)], [(1, 143), (4, 146)], [(5, 147)], [(5, 147), (6, 148)], [(5, 147), (7, 149)], [(5, 147), (8, 150)], [(5, 147)], [(5, 147), (10, 152)], [(5, 147), (11, 153)], [(5, 147), (12, 154)], [(5, 147), (9, 151), (13, 155)], [(5, 147), (14, 156)], [(1, 143), (5, 147), (15, 157)], [(1, 143), (16, 158)], [(17, 159)], [(17, 159), (18, 160)], [(17, 159), (19, 161)], [(1, 143), (17, 159), (20, 162)], [(1, 143), (21, 163)], [(22, 164)]] Grow (fun qi v w' => match qi with
                      | 0 => v = .bool true
                      | 1 => v = .bool true
                      | 2 => v = .slice (some ⟨b, 0, none⟩) 2 c6
                      | 3 => v = .int .i64 2
                      | 4 => v = .bool false
                      | 5 => v = .bool false
                      | 6 => v = .slice (some ⟨b, 0, none⟩) 2 c6
                      | 7 => v = .pointer (some ⟨b, 0, none⟩)
                      | 8 => v = .pointer (some ⟨b, 5, none⟩)
                      | 9 => v = .int .i64 x.signs
                      | 10 => v = .slice (some ⟨b, 0, none⟩) 2 c6
                      | 11 => v = .pointer (some ⟨b, 6, none⟩)
                      | 12 => v = .pointer (some ⟨b, 11, none⟩)
                      | 13 => v = .int .i64 y.signs
                      | 14 => v = .int .i64 0
                      | 15 => v = .bool true
                      | 16 => v = .bool true
                      | 17 => v = .bool true
                      | 18 => v = undef
                      | 19 => v = undef
                      | 20 => v = undef
                      | 21 => v = .bool true
                      | 22 => v = .bool true
                      | 23 => v = .bool true
                      | _ => False) (by kernel_rfl) (by kernel_rfl) (fun _ _ _ => Grow.trans) Grow.refl ?_ ?_ ?_
                  · intro i v y y' h k
                    match i, h with
                    | 0, h | 1, h | 2, h | 3, h | 4, h | 5, h | 6, h | 7, h | 8, h | 9, h | 10, h | 11, h | 12, h | 13, h | 14, h | 15, h | 16, h | 17, h | 18, h | 19, h | 20, h | 21, h | 22, h | 23, h => exact h
                  · simp only [StepsLit, List.take_succ_cons, List.take_zero]
                    refine ⟨?_, ?_, ?_, ?_, ?_, ?_, ?_, ?_, ?_, ?_, ?_, ?_, ?_, ?_, ?_, ?_, ?_, ?_, ?_, ?_, ?_, ?_, ?_, ?_, trivial⟩
                    · intro w5 hR
                      have hGw : Grow w6 w5 := hR.of_drew
                      have HGW := Lib.hid hGw
                      have g5 := HC5.out w5 HGW.out
                      have g11 := HC11.out w5 HGW.out
                      clear hR hGw
                      simp only [depV]
                      try go_simp
                      all_goals first
                        | (with_reducible exact Grow.refl _)
                        | (with_reducible exact ⟨Grow.refl _, rfl⟩)
                    · intro w5 hR
                      have hGw : Grow w6 w5 := hR.of_drew
                      have HGW := Lib.hid hGw
                      have g5 := HC5.out w5 HGW.out
                      have g11 := HC11.out w5 HGW.out
                      clear hR hGw
                      simp only [depV]
                      rintro _ rfl
                      try go_simp
                      all_goals first
                        | (with_reducible exact Grow.refl _)
                        | (with_reducible exact ⟨Grow.refl _, rfl⟩)
                    · intro w5 hR
                      have hGw : Grow w6 w5 := hR.of_drew
                      have HGW := Lib.hid hGw
                      have g5 := HC5.out w5 HGW.out
                      have g11 := HC11.out w5 HGW.out
                      clear hR hGw
                      simp only [depV]
                      rintro _ rfl
                      try go_simp
                      all_goals first
                        | (with_reducible exact Grow.refl _)
                        | (with_reducible exact ⟨Grow.refl _, rfl⟩)
                    · intro w5 hR
                      have hGw : Grow w6 w5 := hR.of_drew
                      have HGW := Lib.hid hGw
                      have g5 := HC5.out w5 HGW.out
                      have g11 := HC11.out w5 HGW.out
                      clear hR hGw
                      simp only [depV]
                      rintro _ rfl
                      rintro _ rfl
                      try go_simp
                      all_goals first
                        | (with_reducible exact Grow.refl _)
                        | (with_reducible exact ⟨Grow.refl _, rfl⟩)
                    · intro w5 hR
                      have hGw : Grow w6 w5 := hR.of_drew
                      have HGW := Lib.hid hGw
                      have g5 := HC5.out w5 HGW.out
                      have g11 := HC11.out w5 HGW.out
                      clear hR hGw
                      simp only [depV]
                      rintro _ rfl
                      rintro _ rfl
                      try go_simp
                      all_goals first
                        | (with_reducible exact Grow.refl _)
                        | (with_reducible exact ⟨Grow.refl _, rfl⟩)
                    · intro w5 hR
                      have hGw : Grow w6 w5 := hR.of_drew
                      have HGW := Lib.hid hGw
                      have g5 := HC5.out w5 HGW.out
                      have g11 := HC11.out w5 HGW.out
                      clear hR hGw
                      simp only [depV]
                      rintro _ rfl
                      rintro _ rfl
                      try go_simp
                      all_goals first
                        | (with_reducible exact Grow.refl _)
                        | (with_reducible exact ⟨Grow.refl _, rfl⟩)
                    · intro w5 hR
                      have hGw : Grow w6 w5 := hR.of_drew
                      have HGW := Lib.hid hGw
                      have g5 := HC5.out w5 HGW.out
                      have g11 := HC11.out w5 HGW.out
                      clear hR hGw
                      simp only [depV]
                      rintro _ rfl
                      try go_simp
                      all_goals first
                        | (with_reducible exact Grow.refl _)
                        | (with_reducible exact ⟨Grow.refl _, rfl⟩)
                    · intro w5 hR
                      have hGw : Grow w6 w5 := hR.of_drew
                      have HGW := Lib.hid hGw
                      have g5 := HC5.out w5 HGW.out
                      have g11 := HC11.out w5 HGW.out
                      clear hR hGw
                      simp only [depV]
                      rintro _ rfl
                      rintro _ rfl
                      try go_simp
                      all_goals first
                        | (with_reducible exact Grow.refl _)
                        | (with_reducible exact ⟨Grow.refl _, rfl⟩)
                    · intro w5 hR
                      have hGw : Grow w6 w5 := hR.of_drew
                      have HGW := Lib.hid hGw
                      have g5 := HC5.out w5 HGW.out
                      have g11 := HC11.out w5 HGW.out
                      clear hR hGw
                      simp only [depV]
                      rintro _ rfl
                      rintro _ rfl
                      try go_simp
                      all_goals first
                        | (with_reducible exact Grow.refl _)
                        | (with_reducible exact ⟨Grow.refl _, rfl⟩)
                    · intro w5 hR
                      have hGw : Grow w6 w5 := hR.of_drew
                      have HGW := Lib.hid hGw
                      have g5 := HC5.out w5 HGW.out
                      have g11 := HC11.out w5 HGW.out
                      clear hR hGw
                      simp only [depV]
                      rintro _ rfl
                      rintro _ rfl
                      try go_simp
                      all_goals first
                        | (with_reducible exact Grow.refl _)
                        | (with_reducible exact ⟨Grow.refl _, rfl⟩)
                    · intro w5 hR
                      have hGw : Grow w6 w5 := hR.of_drew
                      have HGW := Lib.hid hGw
                      have g5 := HC5.out w5 HGW.out
                      have g11 := HC11.out w5 HGW.out
                      clear hR hGw
                      simp only [depV]
                      rintro _ rfl
                      try go_simp
                      all_goals first
                        | (with_reducible exact Grow.refl _)
                        | (with_reducible exact ⟨Grow.refl _, rfl⟩)
                    · intro w5 hR
                      have hGw : Grow w6 w5 := hR.of_drew
                      have HGW := Lib.hid hGw
                      have g5 := HC5.out w5 HGW.out
                      have g11 := HC11.out w5 HGW.out
                      clear hR hGw
                      simp only [depV]
                      rintro _ rfl
                      rintro _ rfl
                      try go_simp
                      all_goals first
                        | (with_reducible exact Grow.refl _)
                        | (with_reducible exact ⟨Grow.refl _, rfl⟩)
                    · intro w5 hR
                      have hGw : Grow w6 w5 := hR.of_drew
                      have HGW := Lib.hid hGw
                      have g5 := HC5.out w5 HGW.out
                      have g11 := HC11.out w5 HGW.out
                      clear hR hGw
                      simp only [depV]
                      rintro _ rfl
                      rintro _ rfl
                      try go_simp
                      all_goals first
                        | (with_reducible exact Grow.refl _)
                        | (with_reducible exact ⟨Grow.refl _, rfl⟩)
                    · intro w5 hR
                      have hGw : Grow w6 w5 := hR.of_drew
                      have HGW := Lib.hid hGw
                      have g5 := HC5.out w5 HGW.out
                      have g11 := HC11.out w5 HGW.out
                      clear hR hGw
                      simp only [depV]
                      rintro _ rfl
                      rintro _ rfl
                      try go_simp
                      all_goals first
                        | (with_reducible exact Grow.refl _)
                        | (with_reducible exact ⟨Grow.refl _, rfl⟩)
                    · intro w5 hR
                      have hGw : Grow w6 w5 := hR.of_drew
                      have HGW := Lib.hid hGw
                      have g5 := HC5.out w5 HGW.out
                      have g11 := HC11.out w5 HGW.out
                      clear hR hGw
                      simp only [depV]
                      rintro _ rfl
                      rintro _ rfl
                      rintro _ rfl
                      try go_simp
                      all_goals first
                        | (with_reducible exact Grow.refl _)
                        | (with_reducible exact ⟨Grow.refl _, rfl⟩)
                    · intro w5 hR
                      have hGw : Grow w6 w5 := hR.of_drew
                      have HGW := Lib.hid hGw
                      have g5 := HC5.out w5 HGW.out
                      have g11 := HC11.out w5 HGW.out
                      clear hR hGw
                      simp only [depV]
                      rintro _ rfl
                      rintro _ rfl
                      try go_simp
                      all_goals first
                        | (with_reducible exact Grow.refl _)
                        | (with_reducible exact ⟨Grow.refl _, rfl⟩)
                    · intro w5 hR
                      have hGw : Grow w6 w5 := hR.of_drew
                      have HGW := Lib.hid hGw
                      have g5 := HC5.out w5 HGW.out
                      have g11 := HC11.out w5 HGW.out
                      clear hR hGw
                      simp only [depV]
                      rintro _ rfl
                      rintro _ rfl
                      rintro _ rfl
                      try go_simp
                      all_goals first
                        | (with_reducible exact Grow.refl _)
                        | (with_reducible exact ⟨Grow.refl _, rfl⟩)
                    · intro w5 hR
                      have hGw : Grow w6 w5 := hR.of_drew
                      have HGW := Lib.hid hGw
                      have g5 := HC5.out w5 HGW.out
                      have g11 := HC11.out w5 HGW.out
                      clear hR hGw
                      simp only [depV]
                      rintro _ rfl
                      rintro _ rfl
                      try go_simp
                      all_goals first
                        | (with_reducible exact Grow.refl _)
                        | (with_reducible exact ⟨Grow.refl _, rfl⟩)
                    · intro w5 hR
                      have hGw : Grow w6 w5 := hR.of_drew
                      have HGW := Lib.hid hGw
                      have g5 := HC5.out w5 HGW.out
                      have g11 := HC11.out w5 HGW.out
                      clear hR hGw
                      simp only [depV]
                      rintro _ rfl
                      try go_simp
                      all_goals first
                        | (with_reducible exact Grow.refl _)
                        | (with_reducible exact ⟨Grow.refl _, rfl⟩)
                    · intro w5 hR
                      have hGw : Grow w6 w5 := hR.of_drew
                      have HGW := Lib.hid hGw
                      have g5 := HC5.out w5 HGW.out
                      have g11 := HC11.out w5 HGW.out
                      clear hR hGw
                      simp only [depV]
                      rintro _ rfl
                      rintro _ rfl
                      try go_simp
                      all_goals first
                        | (with_reducible exact Grow.refl _)
                        | (with_reducible exact ⟨Grow.refl _, rfl⟩)
                    · intro w5 hR
                      have hGw : Grow w6 w5 := hR.of_drew
                      have HGW := Lib.hid hGw
                      have g5 := HC5.out w5 HGW.out
                      have g11 := HC11.out w5 HGW.out
                      clear hR hGw
                      simp only [depV]
                      rintro _ rfl
                      rintro _ rfl
                      try go_simp
                      all_goals first
                        | (with_reducible exact Grow.refl _)
                        | (with_reducible exact ⟨Grow.refl _, rfl⟩)
                    · intro w5 hR
                      have hGw : Grow w6 w5 := hR.of_drew
                      have HGW := Lib.hid hGw
                      have g5 := HC5.out w5 HGW.out
                      have g11 := HC11.out w5 HGW.out
                      clear hR hGw
                      simp only [depV]
                      rintro _ rfl
                      rintro _ rfl
                      rintro _ rfl
                      try go_simp
                      all_goals first
                        | (with_reducible exact Grow.refl _)
                        | (with_reducible exact ⟨Grow.refl _, rfl⟩)
                    · intro w5 hR
                      have hGw : Grow w6 w5 := hR.of_drew
                      have HGW := Lib.hid hGw
                      have g5 := HC5.out w5 HGW.out
                      have g11 := HC11.out w5 HGW.out
                      clear hR hGw
                      simp only [depV]
                      rintro _ rfl
                      rintro _ rfl
                      try go_simp
                      all_goals first
                        | (with_reducible exact Grow.refl _)
                        | (with_reducible exact ⟨Grow.refl _, rfl⟩)
                    · intro w5 hR
                      have hGw : Grow w6 w5 := hR.of_drew
                      have HGW := Lib.hid hGw
                      have g5 := HC5.out w5 HGW.out
                      have g11 := HC11.out w5 HGW.out
                      clear hR hGw
                      simp only [depV]
                      rintro _ rfl
                      try go_simp
                      all_goals first
                        | (with_reducible exact Grow.refl _)
                        | (with_reducible exact ⟨Grow.refl _, rfl⟩)
                  · intro w5 hR
                    have HG5 : Hid (Grow w6 w5) := Lib.hid hR.of_drew
                    clear hR
                    simp only [finVC, List.take_succ_cons, List.take_zero, List.drop_succ_cons, List.drop_zero]
                    rintro _ rfl
                    rintro _ rfl
                    rintro _ rfl
                    rintro _ rfl
                    rintro _ rfl
                    rintro _ rfl
                    rintro _ rfl
                    rintro _ rfl
                    rintro _ rfl
                    rintro _ rfl
                    rintro _ rfl
                    rintro _ rfl
                    rintro _ rfl
                    rintro _ rfl
                    rintro _ rfl
                    rintro _ rfl
                    rintro _ rfl
                    rintro _ rfl
                    rintro _ rfl
                    rintro _ rfl
                    rintro _ rfl
                    rintro _ rfl
                    rintro _ rfl
                    rintro _ rfl
                    simp only [Act.put, List.setIfInBounds_toArray, List.set_cons_succ, List.set_cons_zero]
                    go_wp2_with fail
                    refine (works_any _).mono ?_
                    rintro e w9 ⟨rfl, hb9⟩
                    go_wp2
                    go_ret
                    exact ⟨rfl, HG8.out.trans (HG5.out.trans hb9)⟩
                · have z1 : decide ((bb : Int) = 0) = false := decide_eq_false (by omega)
                  have z2 : ((bb : Int) == 0) = false := by simpa using hz
                  have z3 : decide (bb = 0) = false := decide_eq_false hz
                  rw [HPS2.out hz] at HSZ
                  clear hz
                  refine wp_region_lit 24 [[], [(0, 142)], [(1, 143)], [(1, 143), (2, 144)], [(1, 143), (3, 145)], [(1, 143), (4, 146)], [(5, 147)], [(5, 147), (6, 148)], [(5, 147), (7, 149)], [(5, 147), (8, 150)], [(5, 147)], [(5, 147), (10, 152)], [(5, 147), (11, 153)], [(5, 147), (12, 154)], [(5, 147), (9, 151), (13, 155)], [(5, 147), (14, 156)], [(1, 143), (5, 147), (15, 157)], [(1, 143), (16, 158)], [(17, 159)], [(17, 159), (18, 160)], [(17, 159), (19, 161)], [(1, 143), (17, 159), (20, 162)], [(1, 143), (21, 163)], [(22, 164)]] Grow (fun qi v w' => match qi with
                      | 0 => v = .bool true
                      | 1 => v = .bool true
                      | 2 => v = .slice (some ⟨b, 0, none⟩) 2 c6
                      | 3 => v = .int .i64 2
                      | 4 => v = .bool false
                      | 5 => v = .bool false
                      | 6 => v = .slice (some ⟨b, 0, none⟩) 2 c6
                      | 7 => v = .pointer (some ⟨b, 0, none⟩)
                      | 8 => v = .pointer (some ⟨b, 5, none⟩)
                      | 9 => v = .int .i64 x.signs
                      | 10 => v = .slice (some ⟨b, 0, none⟩) 2 c6
                      | 11 => v = .pointer (some ⟨b, 6, none⟩)
                      | 12 => v = .pointer (some ⟨b, 11, none⟩)
                      | 13 => v = .int .i64 y.signs
                      | 14 => v = .int .i64 (bb : Nat)
                      | 15 => v = .bool false
                      | 16 => v = .bool false
                      | 17 => v = .bool false
                      | 18 => v = .int .i64 (s8 : Nat)
                      | 19 => v = .int .i64 1
                      | 20 => v = .bool true
                      | 21 => v = .bool true
                      | 22 => v = .bool true
                      | 23 => v = .bool true
                      | _ => False) (by kernel_rfl) (by kernel_rfl) (fun _ _ _ => Grow.trans) Grow.refl ?_ ?_ ?_
                  · intro i v y y' h k
                    match i, h with
                    | 0, h | 1, h | 2, h | 3, h | 4, h | 5, h | 6, h | 7, h | 8, h | 9, h | 10, h | 11, h | 12, h | 13, h | 14, h | 15, h | 16, h | 17, h | 18, h | 19, h | 20, h | 21, h | 22, h | 23, h => exact h
                  · simp only [StepsLit, List.take_succ_cons, List.take_zero]
                    refine ⟨?_, ?_, ?_, ?_, ?_, ?_, ?_, ?_, ?_, ?_, ?_, ?_, ?_, ?_, ?_, ?_, ?_, ?_, ?_, ?_, ?_, ?_, ?_, ?_, trivial⟩
                    · intro w5 hR
                      have hGw : Grow w6 w5 := hR.of_drew
                      have HGW := Lib.hid hGw
                      have g5 := HC5.out w5 HGW.out
                      have g11 := HC11.out w5 HGW.out
                      clear hR hGw
                      simp only [depV]
                      try go_simp
                      all_goals first
                        | (with_reducible exact Grow.refl _)
                        | (with_reducible exact ⟨Grow.refl _, rfl⟩)
                    · intro w5 hR
                      have hGw : Grow w6 w5 := hR.of_drew
                      have HGW := Lib.hid hGw
                      have g5 := HC5.out w5 HGW.out
                      have g11 := HC11.out w5 HGW.out
                      clear hR hGw
                      simp only [depV]
                      rintro _ rfl
                      try go_simp
                      all_goals first
                        | (with_reducible exact Grow.refl _)
                        | (with_reducible exact ⟨Grow.refl _, rfl⟩)
                    · intro w5 hR
                      have hGw : Grow w6 w5 := hR.of_drew
                      have HGW := Lib.hid hGw
                      have g5 := HC5.out w5 HGW.out
                      have g11 := HC11.out w5 HGW.out
                      clear hR hGw
                      simp only [depV]
                      rintro _ rfl
                      try go_simp
                      all_goals first
                        | (with_reducible exact Grow.refl _)
                        | (with_reducible exact ⟨Grow.refl _, rfl⟩)
                    · intro w5 hR
                      have hGw : Grow w6 w5 := hR.of_drew
                      have HGW := Lib.hid hGw
                      have g5 := HC5.out w5 HGW.out
                      have g11 := HC11.out w5 HGW.out
                      clear hR hGw
                      simp only [depV]
                      rintro _ rfl
                      rintro _ rfl
                      try go_simp
                      all_goals first
                        | (with_reducible exact Grow.refl _)
                        | (with_reducible exact ⟨Grow.refl _, rfl⟩)
                    · intro w5 hR
                      have hGw : Grow w6 w5 := hR.of_drew
                      have HGW := Lib.hid hGw
                      have g5 := HC5.out w5 HGW.out
                      have g11 := HC11.out w5 HGW.out
                      clear hR hGw
                      simp only [depV]
                      rintro _ rfl
                      rintro _ rfl
                      try go_simp
                      all_goals first
                        | (with_reducible exact Grow.refl _)
                        | (with_reducible exact ⟨Grow.refl _, rfl⟩)
                    · intro w5 hR
                      have hGw : Grow w6 w5 := hR.of_drew
                      have HGW := Lib.hid hGw
                      have g5 := HC5.out w5 HGW.out
                      have g11 := HC11.out w5 HGW.out
                      clear hR hGw
                      simp only [depV]
                      rintro _ rfl
                      rintro _ rfl
                      try go_simp
                      all_goals first
                        | (with_reducible exact Grow.refl _)
                        | (with_reducible exact ⟨Grow.refl _, rfl⟩)
                    · intro w5 hR
                      have hGw : Grow w6 w5 := hR.of_drew
                      have HGW := Lib.hid hGw
                      have g5 := HC5.out w5 HGW.out
                      have g11 := HC11.out w5 HGW.out
                      clear hR hGw
                      simp only [depV]
                      rintro _ rfl
                      try go_simp
                      all_goals first
                        | (with_reducible exact Grow.refl _)
                        | (with_reducible exact ⟨Grow.refl _, rfl⟩)
                    · intro w5 hR
                      have hGw : Grow w6 w5 := hR.of_drew
                      have HGW := Lib.hid hGw
                      have g5 := HC5.out w5 HGW.out
                      have g11 := HC11.out w5 HGW.out
                      clear hR hGw
                      simp only [depV]
                      rintro _ rfl
                      rintro _ rfl
                      try go_simp
                      all_goals first
                        | (with_reducible exact Grow.refl _)
                        | (with_reducible exact ⟨Grow.refl _, rfl⟩)
                    · intro w5 hR
                      have hGw : Grow w6 w5 := hR.of_drew
                      have HGW := Lib.hid hGw
                      have g5 := HC5.out w5 HGW.out
                      have g11 := HC11.out w5 HGW.out
                      clear hR hGw
                      simp only [depV]
                      rintro _ rfl
                      rintro _ rfl
                      try go_simp
                      all_goals first
                        | (with_reducible exact Grow.refl _)
                        | (with_reducible exact ⟨Grow.refl _, rfl⟩)
                    · intro w5 hR
                      have hGw : Grow w6 w5 := hR.of_drew
                      have HGW := Lib.hid hGw
                      have g5 := HC5.out w5 HGW.out
                      have g11 := HC11.out w5 HGW.out
                      clear hR hGw
                      simp only [depV]
                      rintro _ rfl
                      rintro _ rfl
                      try go_simp
                      all_goals first
                        | (with_reducible exact Grow.refl _)
                        | (with_reducible exact ⟨Grow.refl _, rfl⟩)
                    · intro w5 hR
                      have hGw : Grow w6 w5 := hR.of_drew
                      have HGW := Lib.hid hGw
                      have g5 := HC5.out w5 HGW.out
                      have g11 := HC11.out w5 HGW.out
                      clear hR hGw
                      simp only [depV]
                      rintro _ rfl
                      try go_simp
                      all_goals first
                        | (with_reducible exact Grow.refl _)
                        | (with_reducible exact ⟨Grow.refl _, rfl⟩)
                    · intro w5 hR
                      have hGw : Grow w6 w5 := hR.of_drew
                      have HGW := Lib.hid hGw
                      have g5 := HC5.out w5 HGW.out
                      have g11 := HC11.out w5 HGW.out
                      clear hR hGw
                      simp only [depV]
                      rintro _ rfl
                      rintro _ rfl
                      try go_simp
                      all_goals first
                        | (with_reducible exact Grow.refl _)
                        | (with_reducible exact ⟨Grow.refl _, rfl⟩)
                    · intro w5 hR
                      have hGw : Grow w6 w5 := hR.of_drew
                      have HGW := Lib.hid hGw
                      have g5 := HC5.out w5 HGW.out
                      have g11 := HC11.out w5 HGW.out
                      clear hR hGw
                      simp only [depV]
                      rintro _ rfl
                      rintro _ rfl
                      try go_simp
                      all_goals first
                        | (with_reducible exact Grow.refl _)
                        | (with_reducible exact ⟨Grow.refl _, rfl⟩)
                    · intro w5 hR
                      have hGw : Grow w6 w5 := hR.of_drew
                      have HGW := Lib.hid hGw
                      have g5 := HC5.out w5 HGW.out
                      have g11 := HC11.out w5 HGW.out
                      clear hR hGw
                      simp only [depV]
                      rintro _ rfl
                      rintro _ rfl
                      try go_simp
                      all_goals first
                        | (with_reducible exact Grow.refl _)
                        | (with_reducible exact ⟨Grow.refl _, rfl⟩)
                    · intro w5 hR
                      have hGw : Grow w6 w5 := hR.of_drew
                      have HGW := Lib.hid hGw
                      have g5 := HC5.out w5 HGW.out
                      have g11 := HC11.out w5 HGW.out
                      clear hR hGw
                      simp only [depV]
                      rintro _ rfl
                      rintro _ rfl
                      rintro _ rfl
                      try go_simp
                      all_goals first
                        | (with_reducible exact Grow.refl _)
                        | (with_reducible exact ⟨Grow.refl _, rfl⟩)
                    · intro w5 hR
                      have hGw : Grow w6 w5 := hR.of_drew
                      have HGW := Lib.hid hGw
                      have g5 := HC5.out w5 HGW.out
                      have g11 := HC11.out w5 HGW.out
                      clear hR hGw
                      simp only [depV]
                      rintro _ rfl
                      rintro _ rfl
                      try go_simp
                      all_goals first
                        | (with_reducible exact Grow.refl _)
                        | (with_reducible exact ⟨Grow.refl _, rfl⟩)
                    · intro w5 hR
                      have hGw : Grow w6 w5 := hR.of_drew
                      have HGW := Lib.hid hGw
                      have g5 := HC5.out w5 HGW.out
                      have g11 := HC11.out w5 HGW.out
                      clear hR hGw
                      simp only [depV]
                      rintro _ rfl
                      rintro _ rfl
                      rintro _ rfl
                      try go_simp
                      all_goals first
                        | (with_reducible exact Grow.refl _)
                        | (with_reducible exact ⟨Grow.refl _, rfl⟩)
                    · intro w5 hR
                      have hGw : Grow w6 w5 := hR.of_drew
                      have HGW := Lib.hid hGw
                      have g5 := HC5.out w5 HGW.out
                      have g11 := HC11.out w5 HGW.out
                      clear hR hGw
                      simp only [depV]
                      rintro _ rfl
                      rintro _ rfl
                      try go_simp
                      all_goals first
                        | (with_reducible exact Grow.refl _)
                        | (with_reducible exact ⟨Grow.refl _, rfl⟩)
                    · intro w5 hR
                      have hGw : Grow w6 w5 := hR.of_drew
                      have HGW := Lib.hid hGw
                      have g5 := HC5.out w5 HGW.out
                      have g11 := HC11.out w5 HGW.out
                      clear hR hGw
                      simp only [depV]
                      rintro _ rfl
                      try go_simp
                      all_goals first
                        | (with_reducible exact Grow.refl _)
                        | (with_reducible exact ⟨Grow.refl _, rfl⟩)
                    · intro w5 hR
                      have hGw : Grow w6 w5 := hR.of_drew
                      have HGW := Lib.hid hGw
                      have g5 := HC5.out w5 HGW.out
                      have g11 := HC11.out w5 HGW.out
                      clear hR hGw
                      simp only [depV]
                      rintro _ rfl
                      rintro _ rfl
                      try go_simp
                      refine (HSZ.out _).mono ?_
                      rintro e w6 ⟨rfl, rfl⟩
                      exact ⟨Grow.refl _, rfl⟩
                    · intro w5 hR
                      have hGw : Grow w6 w5 := hR.of_drew
                      have HGW := Lib.hid hGw
                      have g5 := HC5.out w5 HGW.out
                      have g11 := HC11.out w5 HGW.out
                      clear hR hGw
                      simp only [depV]
                      rintro _ rfl
                      rintro _ rfl
                      try go_simp
                      all_goals first
                        | (with_reducible exact Grow.refl _)
                        | (with_reducible exact ⟨Grow.refl _, rfl⟩)
                    · intro w5 hR
                      have hGw : Grow w6 w5 := hR.of_drew
                      have HGW := Lib.hid hGw
                      have g5 := HC5.out w5 HGW.out
                      have g11 := HC11.out w5 HGW.out
                      clear hR hGw
                      simp only [depV]
                      rintro _ rfl
                      rintro _ rfl
                      rintro _ rfl
                      try go_simp
                      all_goals first
                        | (with_reducible exact Grow.refl _)
                        | (with_reducible exact ⟨Grow.refl _, rfl⟩)
                    · intro w5 hR
                      have hGw : Grow w6 w5 := hR.of_drew
                      have HGW := Lib.hid hGw
                      have g5 := HC5.out w5 HGW.out
                      have g11 := HC11.out w5 HGW.out
                      clear hR hGw
                      simp only [depV]
                      rintro _ rfl
                      rintro _ rfl
                      try go_simp
                      all_goals first
                        | (with_reducible exact Grow.refl _)
                        | (with_reducible exact ⟨Grow.refl _, rfl⟩)
                    · intro w5 hR
                      have hGw : Grow w6 w5 := hR.of_drew
                      have HGW := Lib.hid hGw
                      have g5 := HC5.out w5 HGW.out
                      have g11 := HC11.out w5 HGW.out
                      clear hR hGw
                      simp only [depV]
                      rintro _ rfl
                      try go_simp
                      all_goals first
                        | (with_reducible exact Grow.refl _)
                        | (with_reducible exact ⟨Grow.refl _, rfl⟩)
                  · intro w5 hR
                    have HG5 : Hid (Grow w6 w5) := Lib.hid hR.of_drew
                    clear hR
                    simp only [finVC, List.take_succ_cons, List.take_zero, List.drop_succ_cons, List.drop_zero]
                    rintro _ rfl
                    rintro _ rfl
                    rintro _ rfl
                    rintro _ rfl
                    rintro _ rfl
                    rintro _ rfl
                    rintro _ rfl
                    rintro _ rfl
                    rintro _ rfl
                    rintro _ rfl
                    rintro _ rfl
                    rintro _ rfl
                    rintro _ rfl
                    rintro _ rfl
                    rintro _ rfl
                    rintro _ rfl
                    rintro _ rfl
                    rintro _ rfl
                    rintro _ rfl
                    rintro _ rfl
                    rintro _ rfl
                    rintro _ rfl
                    rintro _ rfl
                    rintro _ rfl
                    simp only [Act.put, List.setIfInBounds_toArray, List.set_cons_succ, List.set_cons_zero]
                    go_wp2_with fail
                    refine (works_any _).mono ?_
                    rintro e w9 ⟨rfl, hb9⟩
                    go_wp2
                    go_ret
                    exact ⟨rfl, HG8.out.trans (HG5.out.trans hb9)⟩
            · have z1 : ((at_.length : Int) != 2) = true := by simp; omega
              have z2 : decide ((at_.length : Int) = 2) = false := decide_eq_false (by omega)
              obtain ⟨m6, hm6⟩ : ∃ q, at_.length = q := ⟨_, rfl⟩
              rw [hm6] at z1 z2 ⊢
              clear hm6 hl2 HT7
              refine wp_region_lit 24 [[], [(0, 142)], [(1, 143)], [(1, 143), (2, 144)], [(1, 143), (3, 145)], [(1, 143), (4, 146)], [(5, 147)], [(5, 147), (6, 148)], [(5, 147), (7, 149)], [(5, 147), (8, 150)], [(5, 147)], [(5, 147), (10, 152)], [(5, 147), (11, 153)], [(5, 147), (12, 154)], [(5, 147), (9, 151), (13, 155)], [(5, 147), (14, 156)], [(1, 143), (5, 147), (15, 157)], [(1, 143), (16, 158)], [(17, 159)], [(17, 159), (18, 160)], [(17, 159), (19, 161)], [(1, 143), (17, 159), (20, 162)], [(1, 143), (21, 163)], [(22, 164)]] Grow (fun qi v w' => match qi with
                  | 0 => v = .bool true
                  | 1 => v = .bool true
                  | 2 => v = .slice A6 m6 c6
                  | 3 => v = .int .i64 (m6 : Nat)
                  | 4 => v = .bool true
                  | 5 => v = .bool true
                  | 6 => v = undef
                  | 7 => v = undef
                  | 8 => v = undef
                  | 9 => v = undef
                  | 10 => v = undef
                  | 11 => v = undef
                  | 12 => v = undef
                  | 13 => v = undef
                  | 14 => v = undef
                  | 15 => v = undef
                  | 16 => v = .bool true
                  | 17 => v = .bool true
                  | 18 => v = undef
                  | 19 => v = undef
                  | 20 => v = undef
                  | 21 => v = .bool true
                  | 22 => v = .bool true
                  | 23 => v = .bool true
                  | _ => False) (by kernel_rfl) (by kernel_rfl) (fun _ _ _ => Grow.trans) Grow.refl ?_ ?_ ?_
              · intro i v y y' h k
                match i, h with
                | 0, h | 1, h | 2, h | 3, h | 4, h | 5, h | 6, h | 7, h | 8, h | 9, h | 10, h | 11, h | 12, h | 13, h | 14, h | 15, h | 16, h | 17, h | 18, h | 19, h | 20, h | 21, h | 22, h | 23, h => exact h
              · simp only [StepsLit, List.take_succ_cons, List.take_zero]
                refine ⟨?_, ?_, ?_, ?_, ?_, ?_, ?_, ?_, ?_, ?_, ?_, ?_, ?_, ?_, ?_, ?_, ?_, ?_, ?_, ?_, ?_, ?_, ?_, ?_, trivial⟩
                · intro w5 hR
                  have hGw : Grow w6 w5 := hR.of_drew
                  have HGW := Lib.hid hGw
                  skip
                  clear hR hGw
                  simp only [depV]
                  try go_simp
                  all_goals first
                    | (with_reducible exact Grow.refl _)
                    | (with_reducible exact ⟨Grow.refl _, rfl⟩)
                · intro w5 hR
                  have hGw : Grow w6 w5 := hR.of_drew
                  have HGW := Lib.hid hGw
                  skip
                  clear hR hGw
                  simp only [depV]
                  rintro _ rfl
                  try go_simp
                  all_goals first
                    | (with_reducible exact Grow.refl _)
                    | (with_reducible exact ⟨Grow.refl _, rfl⟩)
                · intro w5 hR
                  have hGw : Grow w6 w5 := hR.of_drew
                  have HGW := Lib.hid hGw
                  skip
                  clear hR hGw
                  simp only [depV]
                  rintro _ rfl
                  try go_simp
                  all_goals first
                    | (with_reducible exact Grow.refl _)
                    | (with_reducible exact ⟨Grow.refl _, rfl⟩)
                · intro w5 hR
                  have hGw : Grow w6 w5 := hR.of_drew
                  have HGW := Lib.hid hGw
                  skip
                  clear hR hGw
                  simp only [depV]
                  rintro _ rfl
                  rintro _ rfl
                  try go_simp
                  all_goals first
                    | (with_reducible exact Grow.refl _)
                    | (with_reducible exact ⟨Grow.refl _, rfl⟩)
                · intro w5 hR
                  have hGw : Grow w6 w5 := hR.of_drew
                  have HGW := Lib.hid hGw
                  skip
                  clear hR hGw
                  simp only [depV]
                  rintro _ rfl
                  rintro _ rfl
                  try go_simp
                  all_goals first
                    | (with_reducible exact Grow.refl _)
                    | (with_reducible exact ⟨Grow.refl _, rfl⟩)
                · intro w5 hR
                  have hGw : Grow w6 w5 := hR.of_drew
                  have HGW := Lib.hid hGw
                  skip
                  clear hR hGw
                  simp only [depV]
                  rintro _ rfl
                  rintro _ rfl
                  try go_simp
                  all_goals first
                    | (with_reducible exact Grow.refl _)
                    | (with_reducible exact ⟨Grow.refl _, rfl⟩)
                · intro w5 hR
                  have hGw : Grow w6 w5 := hR.of_drew
                  have HGW := Lib.hid hGw
                  skip
                  clear hR hGw
                  simp only [depV]
                  rintro _ rfl
                  try go_simp
                  all_goals first
                    | (with_reducible exact Grow.refl _)
                    | (with_reducible exact ⟨Grow.refl _, rfl⟩)
                · intro w5 hR
                  have hGw : Grow w6 w5 := hR.of_drew
                  have HGW := Lib.hid hGw
                  skip
                  clear hR hGw
                  simp only [depV]
                  rintro _ rfl
                  rintro _ rfl
                  try go_simp
                  all_goals first
                    | (with_reducible exact Grow.refl _)
                    | (with_reducible exact ⟨Grow.refl _, rfl⟩)
                · intro w5 hR
                  have hGw : Grow w6 w5 := hR.of_drew
                  have HGW := Lib.hid hGw
                  skip
                  clear hR hGw
                  simp only [depV]
                  rintro _ rfl
                  rintro _ rfl
                  try go_simp
                  all_goals first
                    | (with_reducible exact Grow.refl _)
                    | (with_reducible exact ⟨Grow.refl _, rfl⟩)
                · intro w5 hR
                  have hGw : Grow w6 w5 := hR.of_drew
                  have HGW := Lib.hid hGw
                  skip
                  clear hR hGw
                  simp only [depV]
                  rintro _ rfl
                  rintro _ rfl
                  try go_simp
                  all_goals first
                    | (with_reducible exact Grow.refl _)
                    | (with_reducible exact ⟨Grow.refl _, rfl⟩)
                · intro w5 hR
                  have hGw : Grow w6 w5 := hR.of_drew
                  have HGW := Lib.hid hGw
                  skip
                  clear hR hGw
                  simp only [depV]
                  rintro _ rfl
                  try go_simp
                  all_goals first
                    | (with_reducible exact Grow.refl _)
                    | (with_reducible exact ⟨Grow.refl _, rfl⟩)
                · intro w5 hR
                  have hGw : Grow w6 w5 := hR.of_drew
                  have HGW := Lib.hid hGw
                  skip
                  clear hR hGw
                  simp only [depV]
                  rintro _ rfl
                  rintro _ rfl
                  try go_simp
                  all_goals first
                    | (with_reducible exact Grow.refl _)
                    | (with_reducible exact ⟨Grow.refl _, rfl⟩)
                · intro w5 hR
                  have hGw : Grow w6 w5 := hR.of_drew
                  have HGW := Lib.hid hGw
                  skip
                  clear hR hGw
                  simp only [depV]
                  rintro _ rfl
                  rintro _ rfl
                  try go_simp
                  all_goals first
                    | (with_reducible exact Grow.refl _)
                    | (with_reducible exact ⟨Grow.refl _, rfl⟩)
                · intro w5 hR
                  have hGw : Grow w6 w5 := hR.of_drew
                  have HGW := Lib.hid hGw
                  skip
                  clear hR hGw
                  simp only [depV]
                  rintro _ rfl
                  rintro _ rfl
                  try go_simp
                  all_goals first
                    | (with_reducible exact Grow.refl _)
                    | (with_reducible exact ⟨Grow.refl _, rfl⟩)
                · intro w5 hR
                  have hGw : Grow w6 w5 := hR.of_drew
                  have HGW := Lib.hid hGw
                  skip
                  clear hR hGw
                  simp only [depV]
                  rintro _ rfl
                  rintro _ rfl
                  rintro _ rfl
                  try go_simp
                  all_goals first
                    | (with_reducible exact Grow.refl _)
                    | (with_reducible exact ⟨Grow.refl _, rfl⟩)
                · intro w5 hR
                  have hGw : Grow w6 w5 := hR.of_drew
                  have HGW := Lib.hid hGw
                  skip
                  clear hR hGw
                  simp only [depV]
                  rintro _ rfl
                  rintro _ rfl
                  try go_simp
                  all_goals first
                    | (with_reducible exact Grow.refl _)
                    | (with_reducible exact ⟨Grow.refl _, rfl⟩)
                · intro w5 hR
                  have hGw : Grow w6 w5 := hR.of_drew
                  have HGW := Lib.hid hGw
                  skip
                  clear hR hGw
                  simp only [depV]
                  rintro _ rfl
                  rintro _ rfl
                  rintro _ rfl
                  try go_simp
                  all_goals first
                    | (with_reducible exact Grow.refl _)
                    | (with_reducible exact ⟨Grow.refl _, rfl⟩)
                · intro w5 hR
                  have hGw : Grow w6 w5 := hR.of_drew
                  have HGW := Lib.hid hGw
                  skip
                  clear hR hGw
                  simp only [depV]
                  rintro _ rfl
                  rintro _ rfl
                  try go_simp
                  all_goals first
                    | (with_reducible exact Grow.refl _)
                    | (with_reducible exact ⟨Grow.refl _, rfl⟩)
                · intro w5 hR
                  have hGw : Grow w6 w5 := hR.of_drew
                  have HGW := Lib.hid hGw
                  skip
                  clear hR hGw
                  simp only [depV]
                  rintro _ rfl
                  try go_simp
                  all_goals first
                    | (with_reducible exact Grow.refl _)
                    | (with_reducible exact ⟨Grow.refl _, rfl⟩)
                · intro w5 hR
                  have hGw : Grow w6 w5 := hR.of_drew
                  have HGW := Lib.hid hGw
                  skip
                  clear hR hGw
                  simp only [depV]
                  rintro _ rfl
                  rintro _ rfl
                  try go_simp
                  all_goals first
                    | (with_reducible exact Grow.refl _)
                    | (with_reducible exact ⟨Grow.refl _, rfl⟩)
                · intro w5 hR
                  have hGw : Grow w6 w5 := hR.of_drew
                  have HGW := Lib.hid hGw
                  skip
                  clear hR hGw
                  simp only [depV]
                  rintro _ rfl
                  rintro _ rfl
                  try go_simp
                  all_goals first
                    | (with_reducible exact Grow.refl _)
                    | (with_reducible exact ⟨Grow.refl _, rfl⟩)
                · intro w5 hR
                  have hGw : Grow w6 w5 := hR.of_drew
                  have HGW := Lib.hid hGw
                  skip
                  clear hR hGw
                  simp only [depV]
                  rintro _ rfl
                  rintro _ rfl
                  rintro _ rfl
                  try go_simp
                  all_goals first
                    | (with_reducible exact Grow.refl _)
                    | (with_reducible exact ⟨Grow.refl _, rfl⟩)
                · intro w5 hR
                  have hGw : Grow w6 w5 := hR.of_drew
                  have HGW := Lib.hid hGw
                  skip
                  clear hR hGw
                  simp only [depV]
                  rintro _ rfl
                  rintro _ rfl
                  try go_simp
                  all_goals first
                    | (with_reducible exact Grow.refl _)
                    | (with_reducible exact ⟨Grow.refl _, rfl⟩)
                · intro w5 hR
                  have hGw : Grow w6 w5 := hR.of_drew
                  have HGW := Lib.hid hGw
                  skip
                  clear hR hGw
                  simp only [depV]
                  rintro _ rfl
                  try go_simp
                  all_goals first
                    | (with_reducible exact Grow.refl _)
                    | (with_reducible exact ⟨Grow.refl _, rfl⟩)
              · intro w5 hR
                have HG5 : Hid (Grow w6 w5) := Lib.hid hR.of_drew
                clear hR
                simp only [finVC, List.take_succ_cons, List.take_zero, List.drop_succ_cons, List.drop_zero]
                rintro _ rfl
                rintro _ rfl
                rintro _ rfl
                rintro _ rfl
                rintro _ rfl
                rintro _ rfl
                rintro _ rfl
                rintro _ rfl
                rintro _ rfl
                rintro _ rfl
                rintro _ rfl
                rintro _ rfl
                rintro _ rfl
                rintro _ rfl
                rintro _ rfl
                rintro _ rfl
                rintro _ rfl
                rintro _ rfl
                rintro _ rfl
                rintro _ rfl
                rintro _ rfl
                rintro _ rfl
                rintro _ rfl
                rintro _ rfl
                simp only [Act.put, List.setIfInBounds_toArray, List.set_cons_succ, List.set_cons_zero]
                go_wp2_with fail
                refine (works_any _).mono ?_
                rintro e w9 ⟨rfl, hb9⟩
                go_wp2
                go_ret
                exact ⟨rfl, HG8.out.trans (HG5.out.trans hb9)⟩
          · have hne : decide (fe = 0) = false := decide_eq_false h0
            have hneb : (fe == 0) = false := by simpa using h0
            have hnec : (fe != 0) = true := by simpa using h0
            clear h0
            go_wp2_with fail
            refine (works_any _).mono ?_
            rintro e w5 ⟨rfl, hb5⟩
            go_wp2
            go_ret
            exact ⟨rfl, HG.out.trans (HG4.out.trans hb5)⟩

end Go.Proofs.Ytinlojealfbbfaa
