/- AgreeApi: glosses.Agree. -/
import Derived.Test.YtinlojealfbbfaaAgreeM
namespace Go.Proofs.Ytinlojealfbbfaa
open Go.RowKit

theorem results_three8 {fn : Func} (h : fn.results = #[.tmp 8, .tmp 9, .tmp 10]) (t : Array Value) (W : World) (u1 u2 u3 : Value) (h1 : t.getD 8 undef = u1) (h2 : t.getD 9 undef = u2) (h3 : t.getD 10 undef = u3) :
    (results fn t).run Try.prog W = .ok (.tuple #[u1, u2, u3]) W := by
  simp only [results, h]
  simp at h1 h2 h3
  simp [go_sem, h1, h2, h3]
def AgreeV (l : List GlossD) (a b m n er : Int) : Prop := (er ≠ 0 → m = 0 ∧ n = 0) ∧ (er = 0 → ∃ all, SortedG l all ∧ m = bothD a b (all.filter (holdsD all)) ∧ n = sameD a b (all.filter (holdsD all)))

set_option maxRecDepth 100000 in
set_option maxHeartbeats 16000000 in
theorem agreeApi_any (HSORT : SortGOK) (f : FilmsR) (l : List GlossD) (A : Option Addr) (c : Nat) (a b : Int) (n : Nat) (w : World) (hf : Ints w n f.A f.d.frames) (hA : GlossAt w n A l) (hn : n ≤ w.heap.size) (hfl : f.d.frames.length ≤ 1000000) (hl : l.length ≤ 1000) :
    Calls Try.prog 30 #[filmsV f, .slice A l.length c, .int .i64 a, .int .i64 b] w fun e w' => ∃ m n, e = .returned (.tuple #[.int .i64 m, .int .i64 n, .int .i64 (agreeErr f.d l a b)]) ∧ AgreeV l a b m n (agreeErr f.d l a b) ∧ Below w.heap.size w w' := by
  have HRD := Lib.hid (fun (g : Nat) (w0 : World) (hw : Grow w w0) (hb : BlockIs w0 g 25 #[.slice A l.length c]) => read1_any HSORT f l A c g w.heap.size w0 ((hf.more hn).below hw) ((hA.more hn).below hw) hw.size hb hfl hl)
  obtain ⟨er, her⟩ : ∃ q, readErr f.d [l] = q := ⟨_, rfl⟩
  rw [her] at HRD
  have HER := Lib.hid her
  clear her
  have HWA := Lib.hid (fun w0 => within_any a 0 7 w0)
  have HWB := Lib.hid (fun w0 => within_any b 0 7 w0)
  obtain ⟨fe, hfe⟩ : ∃ q, agreeErr f.d l a b = q := ⟨_, rfl⟩
  have HFE := Lib.hid hfe
  rw [hfe]
  have HAO : Hid (authorsOK a b = (inB a 0 7 && (inB b 0 7 && !decide (a = b)))) := rfl
  generalize inB a 0 7 = ia at HWA HAO
  generalize inB b 0 7 = ib at HWB HAO
  clear hfe hf hA hn
  go_enter Try.func30, Try.ntmps30
  go_upto_region 1 with fail
  obtain ⟨W, hW, hg, hf, hsz⟩ := one_block w 24 (cellsF f)
  rw [hW]
  clear hW
  have hcc := hf.cell
  have HG := Lib.hid hg
  clear hf hg
  have HRX := Lib.hid (HRD.out W.heap.size (W.alloc (.cells #[.slice A l.length c] 25)) (HG.out.trans (Grow.alloc _ _)) (BlockIs.new _ _ _))
  clear HRD
  go_wp2_with fail
  refine HRX.out.mono ?_
  rintro e w2 ⟨v, rfl, hrv, hb2⟩
  have HG2 : Hid (Grow W w2) := Lib.hid ((Grow.alloc _ _).trans hb2)
  have HWZ : Hid (w.heap.size ≤ (W.alloc (.cells #[.slice A l.length c] 25)).heap.size) := Lib.hid (HG.out.trans (Grow.alloc _ _)).size
  generalize (W.alloc (.cells #[.slice A l.length c] 25)).heap.size = lo at HWZ hrv
  clear hcc hb2 HRX
  by_cases h0 : er = 0
  · subst h0
    obtain ⟨Am, cm, Ah, ch, all, rfl, hso, _, hgh⟩ := hrv.2 rfl
    obtain ⟨hok, hokl, hl40, hncl⟩ := readErr_zero HER.out
    have hfacts := held_facts HER.out hso
    have HSMALL : Hid (∀ x ∈ all.filter (holdsD all), SmallG x) := Lib.hid (fun x hx => okGloss_small hok (hokl x ((hso.2 x).1 (List.mem_filter.1 hx).1)))
    have HSIGN : Hid (∀ x ∈ all.filter (holdsD all), SignsOK x) := Lib.hid (fun x hx => (hfacts x hx).1)
    have HSO := Lib.hid hso
    have hllen : (all.filter (holdsD all)).length ≤ 1000 := Nat.le_trans (List.length_filter_le _ _) (by
      have h1 : all.Nodup := hso.1.imp (fun {a b} h e => by subst e; rw [cmp_cmpG.self] at h; omega)
      have h2 := nodup_len h1 (fun x hx => (hso.2 x).1 hx)
      omega)
    obtain ⟨hl, hhl⟩ : ∃ q, all.filter (holdsD all) = q := ⟨_, rfl⟩
    have HHL := Lib.hid hhl
    rw [hhl] at hgh HSMALL HSIGN hllen
    have HGH := Lib.hid hgh
    obtain ⟨hn9, hhn9⟩ : ∃ q, hl.length = q := ⟨_, rfl⟩
    have HHN := Lib.hid hhn9
    rw [HHL.out, hhn9]
    rw [hhn9] at hllen
    obtain ⟨an9, han9⟩ : ∃ q, all.length = q := ⟨_, rfl⟩
    rw [han9]
    clear hrv hso hgh hok hokl hl40 hncl hhl hhn9 han9 hfacts
    go_upto_region 2 with fail
    obtain ⟨W3, hW3, hg3, hf3, hsz3⟩ := one_block w2 71 (cellsN f ⟨Am, an9, cm⟩ ⟨Ah, hn9, ch⟩)
    rw [hW3]
    clear hW3
    obtain ⟨b11, e11⟩ : ∃ q, w2.heap.size = q := ⟨_, rfl⟩
    rw [e11] at hf3 hsz3 ⊢
    have HG3 : Hid (Grow W W3) := Lib.hid (HG2.out.trans hg3)
    have HN3 := Lib.hid hf3
    have HH3 := Lib.hid (GlossT.at_ (HGH.out.grow hg3))
    clear hg3 hf3 e11 HGH
    have HBAD := Lib.hid (fun (h : authorsOK a b = false) => show fe = 1 by rw [← HFE.out]; unfold agreeErr; rw [if_pos HER.out, h]; rfl)
    cases ia with
    | false =>
      have HE : Hid (fe = 1) := Lib.hid (HBAD.out (by rw [HAO.out]; rfl))
      go_wp2_with fail
      refine (HWA.out _).mono ?_
      rintro e w4 ⟨rfl, rfl⟩
      go_wp2
      exact bodyPost_ret (results_three8 Try.results30 _ _ _ _ _ rfl rfl rfl) rfl ⟨0, 0, congrArg (fun q => Ending.returned (Value.tuple #[.int .i64 0, .int .i64 0, .int .i64 q])) HE.out.symm, ⟨fun _ => ⟨rfl, rfl⟩, fun h => absurd (HE.out.symm.trans h) (by decide)⟩, HG.out.trans HG3.out⟩
    | true =>
      cases ib with
      | false =>
        have HE : Hid (fe = 1) := Lib.hid (HBAD.out (by rw [HAO.out]; rfl))
        go_wp2_with fail
        refine (HWA.out _).mono ?_
        rintro e w4 ⟨rfl, rfl⟩
        go_wp2_with fail
        refine (HWB.out _).mono ?_
        rintro e w4 ⟨rfl, rfl⟩
        go_wp2
        exact bodyPost_ret (results_three8 Try.results30 _ _ _ _ _ rfl rfl rfl) rfl ⟨0, 0, congrArg (fun q => Ending.returned (Value.tuple #[.int .i64 0, .int .i64 0, .int .i64 q])) HE.out.symm, ⟨fun _ => ⟨rfl, rfl⟩, fun h => absurd (HE.out.symm.trans h) (by decide)⟩, HG.out.trans HG3.out⟩
      | true =>
        go_wp2_with fail
        refine (HWA.out _).mono ?_
        rintro e w4 ⟨rfl, rfl⟩
        by_cases hab : a = b
        · have HE : Hid (fe = 1) := Lib.hid (HBAD.out (by rw [HAO.out]; simp [hab]))
          subst hab
          have d1 : decide (a = a) = true := by simp
          have d2 : (a == a) = true := by simp
          go_wp2_with fail
          refine (HWB.out _).mono ?_
          rintro e w4 ⟨rfl, rfl⟩
          go_wp2
          exact bodyPost_ret (results_three8 Try.results30 _ _ _ _ _ rfl rfl rfl) rfl ⟨0, 0, congrArg (fun q => Ending.returned (Value.tuple #[.int .i64 0, .int .i64 0, .int .i64 q])) HE.out.symm, ⟨fun _ => ⟨rfl, rfl⟩, fun h => absurd (HE.out.symm.trans h) (by decide)⟩, HG.out.trans HG3.out⟩
        · have d1 : decide (a = b) = false := decide_eq_false hab
          have d2 : (a == b) = false := by simpa using hab
          have HE : Hid (fe = 0) := Lib.hid (by rw [← HFE.out]; unfold agreeErr; rw [if_pos HER.out, HAO.out, d1]; rfl)
          go_wp2_with fail
          refine (HWB.out _).mono ?_
          rintro e w4 ⟨rfl, rfl⟩
          have hnc := HN3.out.cell
          clear hab HBAD HAO
          go_upto_region 7 with fail
          clear hnc d1 d2
          go_wp2_with fail
          go_loopw [8, 9, 42] (fun mv nv iv wr => ∃ i : Nat, iv = .int .i64 i ∧ i ≤ hn9 ∧ mv = .int .i64 (sumL (rowB a b hl) (hl.take i)) ∧ nv = .int .i64 (sumL (rowS a b hl) (hl.take i)) ∧ Grow W3 wr) (fun _ _ v _ => hn9 - (intOf v).toNat)
          case atStart => exact ⟨0, rfl, Nat.zero_le _, rfl, rfl, Grow.refl _⟩
          case round =>
            obtain ⟨i, rfl, hi', rfl, rfl, hgr⟩ := hrel
            rename World => wr
            have HGR := Lib.hid hgr
            clear hgr
            by_cases hlt : i < hn9
            · have hld : decide ((i : Int) < (hn9 : Int)) = true := decide_eq_true (by omega)
              have hldn : decide (i < hn9) = true := decide_eq_true hlt
              have hii : (i : Int) < (hn9 : Int) := by omega
              have hi0 : (0 : Int) ≤ (i : Int) := by omega
              obtain ⟨bx, ox, x, hAe, hbx, hxc, HX⟩ := (HH3.out.below HGR.out).at_ (k := i) (by rw [HHN.out]; exact hlt)
              subst hAe
              have hxm := List.mem_of_getElem? HX.out
              have HXS := Lib.hid (HSMALL.out x hxm)
              have HXG := Lib.hid (HSIGN.out x hxm)
              have HTK := Lib.hid (take_snoc HX.out)
              have e0 := hxc 0 (by omega); have e1 := hxc 1 (by omega); have e2 := hxc 2 (by omega); have e3 := hxc 3 (by omega); have e4 := hxc 4 (by omega); have e5 := hxc 5 (by omega)
              rw [Nat.add_zero] at e0
              clear hxc hxm hbx
              go_upto_region 9 with fail
              obtain ⟨W5, hW5, hg5, hf5, hsz5⟩ := one_block wr 55 (cellsG x)
              rw [hW5]
              clear hW5
              obtain ⟨b13, e13⟩ : ∃ q, wr.heap.size = q := ⟨_, rfl⟩
              rw [e13] at hf5 hsz5 ⊢
              have HG5 : Hid (Grow W3 W5) := Lib.hid (HGR.out.trans hg5)
              have HF5 := Lib.hid hf5
              have hnc := (HG5.out.block HN3.out).cell
              clear hg5 hf5 e13 e0 e1 e2 e3 e4 e5
              go_upto_region 10 with fail
              clear hnc
              obtain ⟨SB, hSB⟩ : ∃ q, sumL (rowB a b hl) (hl.take i) = q := ⟨_, rfl⟩
              obtain ⟨SS, hSS⟩ : ∃ q, sumL (rowS a b hl) (hl.take i) = q := ⟨_, rfl⟩
              have HSB := Lib.hid hSB
              have HSS := Lib.hid hSS
              rw [hSB, hSS]
              have HBB := Lib.hid (fun (j : Nat) => upto_bound (F := rowB a b hl) (f := pairB a b x) (l := hl) (by rw [HHN.out]; exact hllen) (fun y hy => rowB_bound a b HSMALL.out (by rw [HHN.out]; exact hllen) (HSMALL.out y hy)) (fun y hy => pairB_bound a b HXS.out (HSMALL.out y hy)) i j)
              have HBS := Lib.hid (fun (j : Nat) => upto_bound (F := rowS a b hl) (f := pairS a b x) (l := hl) (by rw [HHN.out]; exact hllen) (fun y hy => rowS_bound a b HSMALL.out (by rw [HHN.out]; exact hllen) (HSMALL.out y hy)) (fun y hy => pairS_bound a b HXS.out (HSMALL.out y hy)) i j)
              rw [hSB] at HBB
              rw [hSS] at HBS
              clear hSB hSS
              go_wp2_with fail
              go_loopw [8, 9, 49] (fun mv nv jv wx => ∃ (j : Nat) (m n : Int), jv = .int .i64 j ∧ j ≤ hn9 ∧ mv = .int .i64 m ∧ nv = .int .i64 n ∧ Hid (m = SB + sumL (pairB a b x) (hl.take j)) ∧ Hid (n = SS + sumL (pairS a b x) (hl.take j)) ∧ Grow W5 wx) (fun _ _ v _ => hn9 - (intOf v).toNat)
              case atStart => exact ⟨0, SB, SS, rfl, Nat.zero_le _, rfl, rfl, Lib.hid (by simp [sumL]), Lib.hid (by simp [sumL]), Grow.refl _⟩
              case round =>
                obtain ⟨j, m, n, rfl, hj', rfl, rfl, HM, HNN, hgx⟩ := hrel
                rename World => wx
                have HGX := Lib.hid hgx
                clear hgx
                by_cases hjt : j < hn9
                · have hjd : decide ((j : Int) < (hn9 : Int)) = true := decide_eq_true (by omega)
                  have hjdn : decide (j < hn9) = true := decide_eq_true hjt
                  have hji : (j : Int) < (hn9 : Int) := by omega
                  have hj0 : (0 : Int) ≤ (j : Int) := by omega
                  obtain ⟨by_, oy, y, hAe, hby, hyc, HY⟩ := (HH3.out.below (HG5.out.trans HGX.out)).at_ (k := j) (by rw [HHN.out]; exact hjt)
                  injection hAe with hAe
                  injection hAe with g1 g2
                  subst g1 g2
                  have hym := List.mem_of_getElem? HY.out
                  have HYS := Lib.hid (HSMALL.out y hym)
                  have hbt := bits_both HXG.out (HSIGN.out y hym)
                  have HTJ := Lib.hid (take_snoc HY.out)
                  have HSB1 : Hid (SB + sumL (pairB a b x) (hl.take (j + 1)) = m + pairB a b x y) := Lib.hid (by rw [HTJ.out, sumL_snoc, HM.out]; omega)
                  have HSS1 : Hid (SS + sumL (pairS a b x) (hl.take (j + 1)) = n + pairS a b x y) := Lib.hid (by rw [HTJ.out, sumL_snoc, HNN.out]; omega)
                  have hmb := HBB.out j
                  rw [← HM.out] at hmb
                  have hnb := HBS.out j
                  rw [← HNN.out] at hnb
                  have hcb := common_bound HXS.out HYS.out
                  have HC := Lib.hid (fun w0 => common_any x y w0 HXS.out HYS.out)
                  have e0 := hyc 0 (by omega); have e1 := hyc 1 (by omega); have e2 := hyc 2 (by omega); have e3 := hyc 3 (by omega); have e4 := hyc 4 (by omega); have e5 := hyc 5 (by omega)
                  rw [Nat.add_zero] at e0
                  clear hyc hym hby
                  go_upto_region 12 with fail
                  obtain ⟨W7, hW7, hg7, hf7, hsz7⟩ := one_block wx 55 (cellsG y)
                  rw [hW7]
                  clear hW7
                  obtain ⟨b15, e15⟩ : ∃ q, wx.heap.size = q := ⟨_, rfl⟩
                  rw [e15] at hf7 hsz7 ⊢
                  have HG7 : Hid (Grow W5 W7) := Lib.hid (HGX.out.trans hg7)
                  have HF7 := Lib.hid hf7
                  have hxc := (HG7.out.block HF5.out).cell
                  have hyc := hf7.cell
                  clear hg7 hf7 e15 e0 e1 e2 e3 e4 e5
                  obtain ⟨mb, hmb2⟩ : ∃ q, x.signs.toNat &&& y.signs.toNat = q := ⟨_, rfl⟩
                  have HMB := Lib.hid hmb2
                  rw [hmb2] at hbt
                  obtain ⟨cm2, hcm2⟩ : ∃ q, commonD x y = q := ⟨_, rfl⟩
                  have HCM := Lib.hid hcm2
                  rw [hcm2] at HC hcb
                  clear hmb2 hcm2
                  by_cases h1 : x.author = a
                  · have p1 : (x.author != a) = false := by simp [h1]
                    have p1d : decide (x.author = a) = true := decide_eq_true h1
                    by_cases h2 : y.author = b
                    · have p2 : (y.author != b) = false := by simp [h2]
                      have p2d : decide (y.author = b) = true := decide_eq_true h2
                      by_cases h3 : x.film = y.film
                      · have p3 : (x.film != y.film) = false := by simp [h3]
                        have p3d : decide (x.film = y.film) = true := decide_eq_true h3
                        have HPB : Hid (pairB a b x y = cm2) := Lib.hid (by rw [pairB_yes ⟨h1, h2, h3⟩, HCM.out])
                        have HPS := Lib.hid (fun (h : x.signs.toNat &&& y.signs.toNat ≠ 0) => pairS_yes (a := a) (b := b) ⟨h1, h2, h3⟩ h)
                        clear h1 h2 h3
                        go_wp2_with fail
                        refine (HC.out _).mono ?_
                        rintro e w8 ⟨rfl, hb8⟩
                        have HG8 : Hid (Grow W5 w8) := HG7.out.trans hb8
                        have hxc := (HG8.out.block HF5.out).cell
                        have hyc := (Grow.block hb8 HF7.out).cell
                        clear hb8
                        by_cases h4 : mb = 0
                        · have HPZ : Hid (pairS a b x y = 0) := Lib.hid (pairS_not (by rw [HMB.out, h4]))
                          subst h4
                          go_wp2
                          go_roundw
                          case rel => exact ⟨j + 1, m + cm2, n, by go_num, hjt, rfl, rfl, Lib.hid (by rw [HSB1.out, HPB.out]), Lib.hid (by rw [HSS1.out, HPZ.out]; omega), HG8.out⟩
                          case measure => simp [intOf]; omega
                        · have q1 : ((mb : Int) != 0) = true := by simp; exact h4
                          have q2 : decide ((mb : Int) = 0) = false := decide_eq_false (by omega)
                          have q3 : decide (mb = 0) = false := decide_eq_false h4
                          have HPZ : Hid (pairS a b x y = cm2) := Lib.hid (by rw [HPS.out (by rw [HMB.out]; exact h4), HCM.out])
                          clear h4
                          go_wp2_with fail
                          refine (HC.out _).mono ?_
                          rintro e w9 ⟨rfl, hb9⟩
                          have HG9 : Hid (Grow W5 w9) := HG8.out.trans hb9
                          clear hb9 hxc hyc
                          go_wp2
                          go_roundw
                          case rel => exact ⟨j + 1, m + cm2, n + cm2, by go_num, hjt, rfl, rfl, Lib.hid (by rw [HSB1.out, HPB.out]), Lib.hid (by rw [HSS1.out, HPZ.out]), HG9.out⟩
                          case measure => simp [intOf]; omega
                      · have p3 : (x.film != y.film) = true := by simpa using h3
                        have p3d : decide (x.film = y.film) = false := decide_eq_false h3
                        have HNO := Lib.hid (pairB_no (a := a) (b := b) (x := x) (y := y) (fun h => h3 h.2.2))
                        clear h1 h2 h3
                        go_wp2
                        go_roundw
                        case rel => exact ⟨j + 1, m, n, by go_num, hjt, rfl, rfl, Lib.hid (by rw [HSB1.out, HNO.out.1]; omega), Lib.hid (by rw [HSS1.out, HNO.out.2]; omega), HG7.out⟩
                        case measure => simp [intOf]; omega
                    · have p2 : (y.author != b) = true := by simpa using h2
                      have p2d : decide (y.author = b) = false := decide_eq_false h2
                      have HNO := Lib.hid (pairB_no (a := a) (b := b) (x := x) (y := y) (fun h => h2 h.2.1))
                      clear h1 h2
                      go_wp2
                      go_roundw
                      case rel => exact ⟨j + 1, m, n, by go_num, hjt, rfl, rfl, Lib.hid (by rw [HSB1.out, HNO.out.1]; omega), Lib.hid (by rw [HSS1.out, HNO.out.2]; omega), HG7.out⟩
                      case measure => simp [intOf]; omega
                  · have p1 : (x.author != a) = true := by simpa using h1
                    have p1d : decide (x.author = a) = false := decide_eq_false h1
                    have HNO := Lib.hid (pairB_no (a := a) (b := b) (x := x) (y := y) (fun h => h1 h.1))
                    clear h1
                    go_wp2
                    go_roundw
                    case rel => exact ⟨j + 1, m, n, by go_num, hjt, rfl, rfl, Lib.hid (by rw [HSB1.out, HNO.out.1]; omega), Lib.hid (by rw [HSS1.out, HNO.out.2]; omega), HG7.out⟩
                    case measure => simp [intOf]; omega
                · obtain rfl : j = hn9 := by omega
                  have hjd : decide ((j : Int) < (j : Int)) = false := by simp
                  have hjdn : decide (j < j) = false := by simp
                  have htj : hl.take j = hl := by rw [← HHN.out]; exact List.take_length
                  have HM2 : Hid (m = sumL (rowB a b hl) (hl.take (i + 1))) := Lib.hid (by rw [HTK.out, sumL_snoc, HSB.out, HM.out, htj]; rfl)
                  have HN2 : Hid (n = sumL (rowS a b hl) (hl.take (i + 1))) := Lib.hid (by rw [HTK.out, sumL_snoc, HSS.out, HNN.out, htj]; rfl)
                  clear hjt htj
                  go_wp2
                  go_roundw
                  case rel => exact ⟨i + 1, by go_num, hlt, congrArg (Value.int .i64) HM2.out, congrArg (Value.int .i64) HN2.out, HG5.out.trans HGX.out⟩
                  case measure => simp [intOf]; omega
            · obtain rfl : i = hn9 := by omega
              have hld : decide ((i : Int) < (i : Int)) = false := by simp
              have hldn : decide (i < i) = false := by simp
              have hti : hl.take i = hl := by rw [← HHN.out]; exact List.take_length
              rw [hti]
              have HVV : Hid (AgreeV l a b (sumL (rowB a b hl) hl) (sumL (rowS a b hl) hl) fe) := Lib.hid ⟨fun h => absurd HE.out h, fun _ => ⟨all, HSO.out, by rw [HHL.out]; rfl, by rw [HHL.out]; rfl⟩⟩
              clear hlt hti
              go_wp2
              exact bodyPost_ret (results_three8 Try.results30 _ _ _ _ _ rfl rfl rfl) rfl ⟨_, _, congrArg (fun q => Ending.returned (Value.tuple #[.int .i64 (sumL (rowB a b hl) hl), .int .i64 (sumL (rowS a b hl) hl), .int .i64 q])) HE.out.symm, HVV.out, HG.out.trans (HG3.out.trans HGR.out)⟩
  · have hz := hrv.1 h0
    subst hz
    have hne : decide (er = 0) = false := decide_eq_false h0
    have hneb : (er != 0) = true := by simpa using h0
    have HE : Hid (fe = er) := Lib.hid (by rw [← HFE.out]; unfold agreeErr; rw [HER.out, if_neg h0])
    have HNZ := Lib.hid h0
    clear hrv h0
    go_upto_region 2 with fail
    obtain ⟨W3, hW3, hg3, hf3, hsz3⟩ := one_block w2 71 (zeroN)
    rw [hW3]
    clear hW3
    have HG3 : Hid (Grow W W3) := Lib.hid (HG2.out.trans hg3)
    clear hg3 hf3
    go_wp2
    exact bodyPost_ret (results_three8 Try.results30 _ _ _ _ _ rfl rfl rfl) rfl ⟨0, 0, congrArg (fun q => Ending.returned (Value.tuple #[.int .i64 0, .int .i64 0, .int .i64 q])) HE.out.symm, ⟨fun _ => ⟨rfl, rfl⟩, fun h => absurd (HE.out.symm.trans h) HNZ.out⟩, HG.out.trans HG3.out⟩

end Go.Proofs.Ytinlojealfbbfaa
