/- HeardLaw: the law GlossesHeard answers true. -/
import Derived.Test.YtinlojealfbbfaaHeardM
import Derived.Test.YtinlojealfbbfaaPairLaw
import Derived.Test.YtinlojealfbbfaaWorks
namespace Go.Proofs.Ytinlojealfbbfaa
open Go.RowKit

set_option maxRecDepth 100000 in
set_option maxHeartbeats 16000000 in
theorem glossesHeard_any (f : FilmsR) (l : List GlossD) (A : Option Addr) (cap : Nat) (x : SpotD) (w : World) (hf : Ints w w.heap.size f.A f.d.frames) (hA : GlossAt w w.heap.size A l) :
    Calls Try.prog 4 #[filmsV f, .slice A l.length cap, spotV x] w fun e w' => e = .returned (.bool true) ∧ Below w.heap.size w w' := by
  have HI := Lib.hid (fun (w0 : World) (hw : Grow w w0) => (hf.below hw).more hw.size)
  have HGL := Lib.hid (fun (w0 : World) (hw : Grow w w0) => (hA.below hw).more hw.size)
  have HV := Lib.hid (fun (w0 : World) (hw : Grow w w0) => valid_any f l A cap w0.heap.size w0 (HI.out w0 hw) (HGL.out w0 hw) (Nat.le_refl _))
  have HVF := Lib.hid (fun (h : validD f.d l = true) => valid_facts h)
  obtain ⟨vd, hvd⟩ : ∃ q, validD f.d l = q := ⟨_, rfl⟩
  rw [hvd] at HV HVF
  clear hvd hf hA
  go_enter Try.func4, Try.ntmps4
  go_upto_region 1 with fail
  obtain ⟨W, hW, hg, hf, hs, hsz⟩ := two_blocks w 24 42 (cellsF f) (cellsS x)
  rw [hW]
  clear hW
  have hcc := hf.cell
  have hsc := hs.cell
  have HF := Lib.hid hf
  have HS := Lib.hid hs
  have HG := Lib.hid hg
  clear hf hs hg
  go_wp2_with fail
  refine (HV.out W HG.out).mono ?_
  rintro e w1 ⟨rfl, hb1⟩
  have HG1 : Hid (Grow W w1) := hb1
  clear hb1 hcc hsc HV
  cases vd with
  | false =>
    go_wp2_with fail
    refine (works_any _).mono ?_
    rintro e w2 ⟨rfl, hb2⟩
    go_wp2
    go_ret
    exact ⟨rfl, HG.out.trans (HG1.out.trans hb2)⟩
  | true =>
    obtain ⟨hok, hgl, hl12, hncl, hre, hfl4⟩ := HVF.out rfl
    have HOK := Lib.hid hok
    have HRE := Lib.hid hre
    have HGO := Lib.hid hgl
    clear HVF hok hgl hncl hre
    have hl9 : l.length ≤ 1000 := by omega
    have hf9 : f.d.frames.length ≤ 1000000 := by omega
    have hsc := (HG1.out.block HS.out).cell
    have hcc := (HG1.out.block HF.out).cell
    have HFRM := Lib.hid (fun (w0 : World) (hw : Grow w w0) => rFrame_any f l A cap x.film x.frame w0.heap.size w0 (HI.out w0 hw) (HGL.out w0 hw) (Nat.le_refl _) hf9 hl9)
    obtain ⟨fe, hfe⟩ : ∃ q, frameErr f.d l x.film x.frame = q := ⟨_, rfl⟩
    rw [hfe] at HFRM
    have HFE := Lib.hid hfe
    clear hfe
    go_wp2_with fail
    refine (HFRM.out _ (HG.out.trans HG1.out)).mono ?_
    rintro e w4 ⟨rfl, hb4⟩
    have HG4 : Hid (Grow W w4) := Lib.hid (HG1.out.trans hb4)
    clear hb4 hsc hcc
    by_cases h0 : fe = 0
    · subst h0
      have hfz := frameErr_zero HFE.out
      have HFZ := Lib.hid hfz
      have hfo := frameOf_at HOK.out hfz.2.1.1 hfz.2.1.2
      have HFO := Lib.hid hfo
      have hsc := (HG4.out.block HS.out).cell
      have hcc := (HG4.out.block HF.out).cell
      clear hfz hfo
      have HSM := Lib.hid (fun (y : GlossD) (hy : y ∈ l) => okGloss_small HOK.out (HGO.out y hy))
      have HRA := Lib.hid (fun (w0 : World) (hw : Grow w w0) => readingsApi_any sortG_ok f l A cap x.film w0.heap.size w0 (HI.out w0 hw) (HGL.out w0 hw) (Nat.le_refl _) hf9 hl9)
      rw [film_zero HRE.out HFZ.out.2.1.1 HFZ.out.2.1.2] at HRA
      go_wp2_with fail
      refine (HRA.out _ (HG.out.trans HG4.out)).mono ?_
      rintro e w5 ⟨v6, rfl, hrv, hb6⟩
      obtain ⟨A7, c7, all3, rfl, hso3, hrt⟩ := hrv.2 rfl
      have HR3 := Lib.hid (read_at HRE.out hso3 HFZ.out.2.2.1 HFZ.out.2.2.2)
      have HRL := Lib.hid (rds_len (setAt f.d.signs.toNat (all3.filter (holdsD all3)) x.film) (f := f.d) (film := x.film) (by have := HFO.out; omega))
      have HRT := Lib.hid hrt
      have HG5 : Hid (Grow W w5) := Lib.hid (HG4.out.trans hb6)
      generalize rdsTo (setAt f.d.signs.toNat (all3.filter (holdsD all3)) x.film) (frameOf f.d x.film).toNat = rds at HR3 HRL HRT
      clear hrv hso3 hrt hb6 hsc hcc HRA
      have hsc := (HG5.out.block HS.out).cell
      have hcc := (HG5.out.block HF.out).cell
      have HSU := Lib.hid (fun (w0 : World) (hw : Grow w w0) => sureApi_any sortG_ok f l A cap x.film x.frame w0.heap.size w0 (HI.out w0 hw) (HGL.out w0 hw) (Nat.le_refl _) hf9 hl9)
      rw [HFE.out] at HSU
      go_wp2_with fail
      refine (HSU.out _ (HG.out.trans HG5.out)).mono ?_
      rintro e w6 ⟨m, n, rfl, hsv, hb6⟩
      obtain ⟨all4, hso4, hm, hn⟩ := hsv.2 rfl
      rw [sure_at HRE.out hso4] at hm hn
      subst hm hn
      have hsgn := (okFilms_parts HOK.out).2.1
      have HHF := Lib.hid (heard_math (n := f.d.signs.toNat) (l := rAtD l x.film x.frame) (by omega) (fun y hy => (at_facts HRE.out x.film x.frame y hy).2))
      have HAF := Lib.hid (fun (y : GlossD) (hy : y ∈ rAtD l x.film x.frame) => (at_facts HRE.out x.film x.frame y hy).1)
      have HAL := Lib.hid (Nat.le_trans (rAtD_len l x.film x.frame) hl9)
      have HRAT := Lib.hid (fun (w0 : World) (hw : Grow w w0) => rAt_any rsort_ok l A cap w0.heap.size x.film x.frame w0 (HGL.out w0 hw) (Nat.le_refl _) hl9 HSM.out)
      generalize rAtD l x.film x.frame = at_ at HHF HAF HR3 HAL HRAT ⊢
      obtain ⟨sn, hsn⟩ := Int.eq_ofNat_of_zero_le (show 0 ≤ f.d.signs by omega)
      have hst : f.d.signs.toNat = sn := by rw [hsn]; rfl
      rw [hst] at HHF HR3 ⊢
      generalize sureD (readD sn at_) = sure at HHF ⊢
      generalize mayD (readD sn at_) = may at HHF ⊢
      generalize firstD sn at_ = own at HHF HR3
      have HSN := Lib.hid hsn
      have hsn10 : sn ≤ 10 := by omega
      have HG6 : Hid (Grow W w6) := Lib.hid (HG5.out.trans hb6)
      have HRT6 := Lib.hid (HRT.out.grow hb6)
      clear hsv hso4 hb6 hsc hcc HSU hsgn hst hsn HRT
      obtain ⟨kf, hkf⟩ := Int.eq_ofNat_of_zero_le HFZ.out.2.1.1
      have hfo := HFO.out
      have hkl : x.film.toNat < f.d.frames.length := lt_of_at hfo.1
      obtain ⟨b, off, y, hAe, hb, hcell, HY⟩ := (HI.out w6 (HG.out.trans HG6.out)).at_ hkl
      have hyf : y = frameOf f.d x.film := by
        have h := HY.out
        rw [hfo.1] at h
        exact (Option.some.inj h).symm
      have hsc := (HG6.out.block HS.out).cell
      have hcc0 := (HG6.out.block HF.out).cell 0
      have hcc2 : w6.cell? ⟨w.heap.size, 0, none⟩ = some (.slice (some ⟨b, off, none⟩) f.d.frames.length f.ca) := by rw [hcc0, ← hAe]; rfl
      have hs0 : w6.cell? ⟨w.heap.size + 1, 0, none⟩ = some (.int .i64 (kf : Nat)) := by rw [hsc 0, ← hkf]; rfl
      have hs1 : w6.cell? ⟨w.heap.size + 1, 1, none⟩ = some (.int .i64 x.frame) := hsc 1
      have hrl : (rds.length : Int) ≤ y := by rw [hyf]; exact HRL.out
      have q4 : decide (y < (rds.length : Int)) = false := decide_eq_false (by omega)
      have hki : (kf : Int) < (f.d.frames.length : Int) := by omega
      have hk0 : (0 : Int) ≤ (kf : Int) := by omega
      rw [hkf, Int.toNat_natCast] at hcell
      clear hsc hcc0 hAe hfo hkl hb hyf hrl hkf
      have HLR := Lib.hid (fun (w0 : World) (hw : Grow w6 w0) => lread_any rds A7 c7 w0.heap.size x.frame w0 ((HRT6.out.grow hw).at_) (by have := HRL.out; have := HFO.out; omega))
      have HRS := Lib.hid (HR3.out.1)
      have HRN := Lib.hid (decide_eq_true HR3.out.2)
      rw [HRS.out, HRN.out] at HLR
      clear HRS HRN HR3
      go_wp2_with fail
      refine (HLR.out _ (Grow.refl _)).mono ?_
      rintro e w7 ⟨rfl, rfl⟩
      clear HLR hcc2 hs0 hs1 hcell q4 hki hk0
      have hsc := (HG6.out.block HS.out).cell
      go_wp2_with fail
      refine (HRAT.out _ (HG.out.trans HG6.out)).mono ?_
      rintro e w8 ⟨A8, c8, rfl, hT8, hb8⟩
      have HG8 : Hid (Grow W w8) := Lib.hid (HG6.out.trans hb8)
      have HT8 := Lib.hid hT8
      clear hT8 hb8 hsc HRAT
      have HAG := Lib.hid (fun (s : Nat) (hs : s < 1048576) (w0 : World) (hw : Grow w8 w0) => rAgrees_any s at_ A8 c8 w0.heap.size w0 ((HT8.out.grow hw).at_) HAL.out HAF.out hs)
      have hp9 : 2 ^ sn ≤ 1024 := Nat.le_trans (Nat.pow_le_pow_right (n := 2) (by omega) hsn10) (by decide)
      have HFF := HHF.out
      have hown := HFF.own9
      have hsure := HFF.sure9
      have hmay := HFF.may9
      have hlt := HFF.lt
      have ha1 := andNot_i64 (a := sure) (b := own) (by omega) (by omega) HFF.so
      have ha2 := andNot_i64 (a := own) (b := may) (by omega) (by omega) HFF.om
      have HAO := Lib.hid HFF.own_ok
      have HAM := Lib.hid HFF.may_ok
      have HALL := Lib.hid HFF.all
      have HWR : Hid (IntKind.i64.wrap ((2 : Int) ^ sn) = ((2 ^ sn : Nat) : Int)) := Lib.hid (by
        have h : ((2 : Int) ^ sn) = ((2 ^ sn : Nat) : Int) := (Int.natCast_pow 2 sn).symm
        rw [h]
        exact IntWalk.i64_in _ (by omega))
      obtain ⟨pw, hpw⟩ : ∃ q, 2 ^ sn = q := ⟨_, rfl⟩
      rw [hpw] at HWR hp9 HALL hlt
      have hwr := HWR.out
      have hcv : IntKind.u64.wrap (sn : Int) = (sn : Int) := IntWalk.u64_in _ (by omega)
      have hsn0 : (0 : Int) ≤ (sn : Int) := by omega
      have hf1 : w8.cell? ⟨w.heap.size, 1, none⟩ = some (.int .i64 (sn : Nat)) := by rw [(HG8.out.block HF.out).cell 1, ← HSN.out]; rfl
      have p1 : decide ((own : Int) < 0) = false := decide_eq_false (by omega)
      have p2 : decide ((pw : Int) ≤ (own : Int)) = false := decide_eq_false (by omega)
      have p2' : decide (pw ≤ own) = false := decide_eq_false (by omega)
      clear hpw HFF HHF
      go_wp2_with fail
      refine (HAG.out own (by omega) _ (Grow.refl _)).mono ?_
      rintro e w9 ⟨rfl, rfl⟩
      rw [HAO.out]
      go_wp2_with fail
      refine (HAG.out may (by omega) _ (Grow.refl _)).mono ?_
      rintro e w9 ⟨rfl, rfl⟩
      rw [HAM.out]
      by_cases s1 : x.set < 0
      · have d1 : decide (x.set < 0) = true := decide_eq_true s1
        go_wp2_with fail
        refine (works_any _).mono ?_
        rintro e w10 ⟨rfl, hb10⟩
        go_wp2
        go_ret
        exact ⟨rfl, HG.out.trans (HG8.out.trans hb10)⟩
      · have d1 : decide (x.set < 0) = false := decide_eq_false s1
        by_cases s2 : (pw : Int) ≤ x.set
        · have d2 : decide ((pw : Int) ≤ x.set) = true := decide_eq_true s2
          go_wp2_with fail
          refine (works_any _).mono ?_
          rintro e w10 ⟨rfl, hb10⟩
          go_wp2
          go_ret
          exact ⟨rfl, HG.out.trans (HG8.out.trans hb10)⟩
        · have d2 : decide ((pw : Int) ≤ x.set) = false := decide_eq_false s2
          obtain ⟨s, hs⟩ := Int.eq_ofNat_of_zero_le (show 0 ≤ x.set by omega)
          have hsp : s < pw := by omega
          rw [hs] at d1 d2 ⊢
          clear s1 s2 hs
          obtain ⟨ag, hag⟩ : ∃ q, agreesD s at_ = q := ⟨_, rfl⟩
          have HAS := Lib.hid hag
          clear hag
          go_wp2_with fail
          refine (HAG.out s (by omega) _ (Grow.refl _)).mono ?_
          rintro e w9 ⟨rfl, rfl⟩
          rw [HAS.out]
          cases ag with
          | false =>
            go_wp2_with fail
            refine (works_any _).mono ?_
            rintro e w10 ⟨rfl, hb10⟩
            go_wp2
            go_ret
            exact ⟨rfl, HG.out.trans (HG8.out.trans hb10)⟩
          | true =>
            have hall := HALL.out s hsp HAS.out
            go_wp2_with fail
            refine (rSize_any own _ hown).mono ?_
            rintro e w9 ⟨rfl, rfl⟩
            go_wp2_with fail
            refine (rSize_any s _ (by omega)).mono ?_
            rintro e w9 ⟨rfl, rfl⟩
            generalize popD own = po at hall ⊢
            generalize popD s = ps at hall ⊢
            rcases hall with g | ⟨g1, g2, g3, g4⟩
            · have z1 : decide ((po : Int) < (ps : Int)) = true := decide_eq_true (by omega)
              have z2 : decide (po < ps) = true := decide_eq_true g
              clear g
              go_wp2_with fail
              refine (works_any _).mono ?_
              rintro e w10 ⟨rfl, hb10⟩
              go_wp2
              go_ret
              exact ⟨rfl, HG.out.trans (HG8.out.trans hb10)⟩
            · subst g1
              have z1 : decide ((po : Int) < (po : Int)) = false := by simp
              have z2 : decide (po < po) = false := by simp
              have z3 : decide ((own : Int) ≤ (s : Int)) = true := decide_eq_true (by omega)
              have z4 : decide (own ≤ s) = true := decide_eq_true g2
              have ha3 := andNot_i64 (a := sure) (b := s) (by omega) (by omega) g3
              have ha4 := andNot_i64 (a := s) (b := may) (by omega) (by omega) g4
              clear g2 g3 g4
              go_wp2_with fail
              refine (works_any _).mono ?_
              rintro e w10 ⟨rfl, hb10⟩
              go_wp2
              go_ret
              exact ⟨rfl, HG.out.trans (HG8.out.trans hb10)⟩
    · have hne : decide (fe = 0) = false := decide_eq_false h0
      have hneb : (fe == 0) = false := by simpa using h0
      have hnec : (fe != 0) = true := by simpa using h0
      clear h0
      go_wp2_with fail
      refine (works_any _).mono ?_
      rintro e w5 ⟨rfl, hb5⟩
      go_wp2
      go_ret
      exact ⟨rfl, HG.out.trans (HG4.out.trans hb5)⟩

end Go.Proofs.Ytinlojealfbbfaa
