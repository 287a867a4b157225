/- TakenLaw: the law GlossesTaken answers true; written by wip/tools/taken02.py. -/
import Derived.Test.YtinlojealfbbfaaMoreLaw
namespace Go.Proofs.Ytinlojealfbbfaa
open Go.RowKit

/-- so far, none of the author has the greatest stamp -/
def Low (au : Int) (l : List GlossD) : Prop := ∀ z ∈ l, z.author = au → z.stamp ≠ 9999
theorem Low.snoc {au : Int} {l : List GlossD} {k : Nat} {y : GlossD} (hy : l[k]? = some y) (h : Low au (l.take k)) (hn : y.author = au → y.stamp ≠ 9999) : Low au (l.take (k + 1)) := fun z hz => by
  rw [take_snoc hy] at hz
  rcases List.mem_append.1 hz with hz | hz
  · exact h z hz
  · rw [List.mem_singleton.1 hz]; exact hn
/-- the readings of the frames are the same -/
theorem taken_reads {f : FilmsD} {l all all2 : List GlossD} {x : GlossD} (hre : readErr f [l] = 0) (hre2 : readErr f [l ++ [x]] = 0) (hx : x.signs = 0) (hst : x.stamp = 9999) (hlow : Low x.author l)
    (hs : SortedG (l ++ [x]) all) (hs2 : SortedG (l.filter fun y => decide (y.author ≠ x.author)) all2) (fr : Int) (h0 : x.frm ≤ fr) (h1 : fr < x.to) :
    readS (rdsTo (setAt f.signs.toNat (all.filter (holdsD all)) x.film) (frameOf f x.film).toNat) fr = readS (rdsTo (setAt f.signs.toNat (all2.filter (holdsD all2)) x.film) (frameOf f x.film).toNat) fr ∧
      (sgAt (rdsTo (setAt f.signs.toNat (all.filter (holdsD all)) x.film) (frameOf f x.film).toNat) fr).length ≤ 1 ∧ (sgAt (rdsTo (setAt f.signs.toNat (all2.filter (holdsD all2)) x.film) (frameOf f x.film).toNat) fr).length ≤ 1 := by
  obtain ⟨k1, k2, _, k4⟩ := readErr_zero hre
  obtain ⟨_, g2, _, g4⟩ := readErr_zero hre2
  have hxo := okGloss_parts (g2 x (by simp))
  have hre3 := without_err hre fun y => decide (y.author ≠ x.author)
  have r1 := read_at hre2 hs (film := x.film) (frame := fr) (by omega) (by omega)
  have r2 := read_at hre3 hs2 (film := x.film) (frame := fr) (by omega) (by omega)
  have hst2 : ∀ y ∈ l, y.author = x.author → y.stamp < x.stamp := fun y hy ha => by
    have := okGloss_parts (k2 y hy)
    have := hlow y hy ha
    omega
  refine ⟨?_, r1.2, r2.2⟩
  rw [r1.1, r2.1, taken_math f.signs.toNat k4 g4 (fun y hy => okGloss_span (g2 y hy)) hx hst2 h0 h1]

set_option maxRecDepth 100000 in
set_option maxHeartbeats 16000000 in
theorem glossesTaken_any (f : FilmsR) (l : List GlossD) (A : Option Addr) (cap : Nat) (x : GlossD) (w : World) (hf : Ints w w.heap.size f.A f.d.frames) (hA : GlossAt w w.heap.size A l) (hl48 : l.length * 48 ≤ 140737488351232) :
    Calls Try.prog 7 #[filmsV f, .slice A l.length cap, glossV x] w fun e w' => e = .returned (.bool true) ∧ Below w.heap.size w w' := by
  obtain ⟨j0, hj, hy0, hy1, hy2⟩ := info_parts Try.infoGloss
  have HI := Lib.hid (fun (w0 : World) (hw : Grow w w0) => (hf.below hw).more hw.size)
  have HGL := Lib.hid (fun (w0 : World) (hw : Grow w w0) => (hA.below hw).more hw.size)
  obtain ⟨au, st0, fi, frm, till, sg0⟩ := x
  clear hf hA
  go_enter Try.func7, Try.ntmps7
  go_upto_region 1 with fail
  obtain ⟨W, hW, hg, hf, hs, hsz⟩ := two_blocks w 24 55 (cellsF f) (cellsG ⟨au, st0, fi, frm, till, sg0⟩)
  rw [hW]
  clear hW
  have hbc := hs.cell
  have hbf := hs.frozen
  go_upto_region 2 with fail
  obtain ⟨W2, hW2⟩ : ∃ q, (W.setCell ⟨w.heap.size + 1, 5, none⟩ (.int .i64 0)).setCell ⟨w.heap.size + 1, 1, none⟩ (.int .i64 9999) = q := ⟨_, rfl⟩
  have HM2 : Hid (BlockIs W2 (w.heap.size + 1) 55 (cellsG ⟨au, 9999, fi, frm, till, 0⟩)) := Lib.hid (by rw [← hW2]; exact (hs.near 5 _).near 1 _)
  have HF2 : Hid (BlockIs W2 w.heap.size 24 (cellsF f)) := Lib.hid (by rw [← hW2]; exact (hf.far (p := ⟨w.heap.size + 1, 5, none⟩) (by show w.heap.size ≠ w.heap.size + 1; omega) _).far (p := ⟨w.heap.size + 1, 1, none⟩) (by show w.heap.size ≠ w.heap.size + 1; omega) _)
  have HG2 : Hid (Grow w W2) := Lib.hid (by rw [← hW2]; exact (hg.setC (p := ⟨w.heap.size + 1, 5, none⟩) (by show w.heap.size ≤ w.heap.size + 1; omega) _).setCell (p := ⟨w.heap.size + 1, 1, none⟩) (by show w.heap.size ≤ w.heap.size + 1; omega) _)
  rw [hW2]
  have hbm : w.heap.size ≤ w.heap.size + 1 := by omega
  obtain ⟨bm, ebm⟩ : ∃ q, w.heap.size + 1 = q := ⟨_, rfl⟩
  rw [ebm] at HM2 hbm ⊢
  clear hW2 hbc hbf hs hf hg ebm hsz
  refine wp_region_lit 4 [[], [(0, 21)], [], [(2, 23)]] Grow (fun qi v w' => match qi with
      | 0 => v = .slice A l.length cap
      | 1 => IsAtV W2.heap.size l v w'
      | 2 => v = glossV ⟨au, 9999, fi, frm, till, 0⟩
      | 3 => NewGloss W2.heap.size ⟨au, 9999, fi, frm, till, 0⟩ v w'
      | _ => False) (by kernel_rfl) (by kernel_rfl) (fun _ _ _ => Grow.trans) Grow.refl ?_ ?_ ?_
  · intro i v y y' h k
    match i, h with
    | 1, h => exact h.grow k
    | 3, h => exact h.grow k
    | 0, h | 2, h => exact h
  · simp only [StepsLit, List.take_succ_cons, List.take_zero]
    refine ⟨?_, ?_, ?_, ?_, trivial⟩
    · intro w5 hR
      have hGw : Grow W2 w5 := hR.of_drew
      have HGW := Lib.hid hGw
      have hmc := (HGW.out.block HM2.out).cell
      clear hR hGw
      simp only [depV]
      try go_simp
      all_goals first
        | (with_reducible exact Grow.refl _)
        | (with_reducible exact ⟨Grow.refl _, rfl⟩)
    · intro w5 hR
      have hGw : Grow W2 w5 := hR.of_drew
      have HGW := Lib.hid hGw
      have hmc := (HGW.out.block HM2.out).cell
      clear hR hGw
      simp only [depV]
      rintro _ rfl
      try go_simp
      refine (copied_any l A cap w5.heap.size w5 (HGL.out w5 (HG2.out.trans HGW.out)) (Nat.le_refl _) hl48).mono ?_
      rintro e w6 ⟨A6, c6, rfl, ht6, hb6⟩
      exact ⟨hb6, A6, c6, rfl, ht6.mono HGW.out.size⟩
    · intro w5 hR
      have hGw : Grow W2 w5 := hR.of_drew
      have HGW := Lib.hid hGw
      have hmc := (HGW.out.block HM2.out).cell
      clear hR hGw
      simp only [depV]
      try go_simp
      all_goals first
        | (with_reducible exact Grow.refl _)
        | (with_reducible exact ⟨Grow.refl _, rfl⟩)
    · intro w5 hR
      have hGw : Grow W2 w5 := hR.of_drew
      have HGW := Lib.hid hGw
      have hmc := (HGW.out.block HM2.out).cell
      clear hR hGw
      simp only [depV]
      rintro _ rfl
      try go_simp
      exact ⟨Grow.alloc _ _, _, rfl, HGW.out.size, BlockIs.new _ _ _⟩
  · intro w5 hR
    have HG5 : Hid (Grow W2 w5) := Lib.hid hR.of_drew
    clear hR
    simp only [finVC, List.take_succ_cons, List.take_zero, List.drop_succ_cons, List.drop_zero]
    rintro _ rfl
    intro v1 hv1
    rintro _ rfl
    intro v3 hv3
    simp only [Act.put, List.setIfInBounds_toArray, List.set_cons_succ, List.set_cons_zero]
    obtain ⟨A5, c5, rfl, ht5⟩ := hv1
    obtain ⟨b3, rfl, _, hB3⟩ := hv3
    have HT5 := Lib.hid ht5
    have HB3 := Lib.hid hB3
    have hle5 := HG5.out.size
    clear ht5 hB3
    go_wp2_with (at_builtin; go_loud (refine wpList_append_gloss rfl _ _ 25 rfl W2.heap.size 55 j0 (.agg #[.int .i64 0, .int .i64 0, .int .i64 0, .int .i64 0, .int .i64 0, .int .i64 0]) 48 Try.underlying25 hj hy0 hy1 hy2 rfl _ l.length (l.flatMap cellsGL) rfl HT5.out (some ⟨b3, 0, none⟩) 1 1 _ [(⟨au, 9999, fi, frm, till, 0⟩ : GlossD)] rfl rfl (news_gloss HB3.out) ?c2 ?c3 ?c4 ?_))
    case c2 => unfold maxLen; omega
    case c3 => omega
    case c4 => exact hle5
    intro v' W3 hown hgr
    obtain ⟨An, cn, rfl⟩ := own_form hown
    obtain ⟨al, hal⟩ : ∃ q, l ++ [(⟨au, 9999, fi, frm, till, 0⟩ : GlossD)] = q := ⟨_, rfl⟩
    have hall : al.length = l.length + 1 := by rw [← hal]; simp
    have HT3 : Hid (GlossT W3 W2.heap.size An cn al) := Lib.hid (by
      unfold GlossT
      rw [hall, ← hal, List.flatMap_append]
      exact hown)
    have HG3 : Hid (Grow W2 W3) := Lib.hid (below_grown HG5.out HT5.out hgr hle5)
    have HAL := Lib.hid hal
    have HLEN := Lib.hid hall
    have HSN : Hid (Value.slice An (l.length + 1) cn = Value.slice An al.length cn) := Lib.hid (by rw [hall])
    clear hown hgr HB3 HT5 hal hall hle5
    rw [HSN.out]
    have HGM : Hid (Grow w W3) := Lib.hid (HG2.out.trans HG3.out)
    have hmc := (HG3.out.block HM2.out).cell
    have hcc := (HG3.out.block HF2.out).cell
    have HV := Lib.hid (fun (w0 : World) (hw : Grow w w0) => valid_any f l A cap w0.heap.size w0 (HI.out w0 hw) (HGL.out w0 hw) (Nat.le_refl _))
    have HV2 := Lib.hid (fun (w0 : World) (hw : Grow W3 w0) => valid_any f al An cn w0.heap.size w0 (HI.out w0 (HGM.out.trans hw)) ((HT3.out.grow hw).at_) (Nat.le_refl _))
    have HVF := Lib.hid (fun (h : validD f.d l = true) => valid_facts h)
    have HVF2 := Lib.hid (fun (h : validD f.d al = true) => valid_facts h)
    obtain ⟨vd, hvd⟩ : ∃ q, validD f.d l = q := ⟨_, rfl⟩
    obtain ⟨vd2, hvd2⟩ : ∃ q, validD f.d al = q := ⟨_, rfl⟩
    rw [hvd] at HV HVF
    rw [hvd2] at HV2 HVF2
    clear hvd hvd2
    go_wp2_with fail
    refine (HV.out W3 HGM.out).mono ?_
    rintro e w1 ⟨rfl, hb1⟩
    have HG1 : Hid (Grow W3 w1) := hb1
    clear hb1 hcc hmc HV
    cases vd with
    | false =>
      go_wp2_with fail
      refine (works_any _).mono ?_
      rintro e w2 ⟨rfl, hb2⟩
      go_wp2
      go_ret
      exact ⟨rfl, HGM.out.trans (HG1.out.trans hb2)⟩
    | true =>
      have hcc := ((HG3.out.trans HG1.out).block HF2.out).cell
      go_wp2_with fail
      refine (HV2.out w1 HG1.out).mono ?_
      rintro e w2 ⟨rfl, hb2⟩
      have HG4 : Hid (Grow W3 w2) := Lib.hid (HG1.out.trans hb2)
      clear hb2 hcc HV2 HG1
      cases vd2 with
      | false =>
        go_wp2_with fail
        refine (works_any _).mono ?_
        rintro e w3 ⟨rfl, hb3⟩
        go_wp2
        go_ret
        exact ⟨rfl, HGM.out.trans (HG4.out.trans hb3)⟩
      | true =>
        obtain ⟨hok, hgl, hl12, hncl, hre, hfl4⟩ := HVF.out (by first | rfl | trivial)
        obtain ⟨_, hgl2, hl13, hncl2, hre2, _⟩ := HVF2.out (by first | rfl | trivial)
        have hxo := okGloss_parts (hgl2 ⟨au, 9999, fi, frm, till, 0⟩ (by rw [← HAL.out]; simp))
        dsimp only at hxo
        have HXO := Lib.hid hxo
        have HOK := Lib.hid hok
        have HRE := Lib.hid hre
        have HRE2 := Lib.hid hre2
        clear HVF HVF2 hok hgl hncl hre hgl2 hncl2 hre2 hxo
        have hl9 : l.length ≤ 1000 := by omega
        have hl92 : al.length ≤ 1000 := by omega
        have hf9 : f.d.frames.length ≤ 1000000 := by omega
        have HGA := Lib.hid (fun (w0 : World) (hw : Grow w2 w0) => HGL.out w0 ((HGM.out.trans HG4.out).trans hw))
        have HQX : Hid (∀ y : GlossD, (fun y : GlossD => decide (y.author ≠ au)) y = decide (y.author ≠ au)) := Lib.hid (fun _ => rfl)
        obtain ⟨q, hq⟩ : ∃ z, (fun y : GlossD => decide (y.author ≠ au)) = z := ⟨_, rfl⟩
        rw [hq] at HQX
        have HQE := Lib.hid hq
        clear hq
        have hb0 := HG4.out.size
        go_wp2_with fail
        go_loopw [8, 9] (fun v iv wr => ∃ (k n : Nat) (A' : Option Addr) (c' : Nat), k ≤ l.length ∧ iv = .int .i64 k ∧ v = .slice A' n c' ∧ Hid (n = ((l.take k).filter q).length) ∧ n ≤ k ∧ wr.ownsRow w2.heap.size 55 6 (.slice A' n c') n (((l.take k).filter q).flatMap cellsGL) ∧ Hid (Low au (l.take k)) ∧ Grow w2 wr) (fun _ v _ => l.length - (intOf v).toNat)
        case atStart => exact ⟨0, 0, none, 0, Nat.zero_le _, rfl, rfl, rfl, Nat.le_refl _, own_nilG _ _, Lib.hid (fun z hz => by simp at hz), Grow.refl _⟩
        case round =>
          obtain ⟨k, n, A', c', hk, rfl, rfl, HN, hnk, hown, HLO, hgr⟩ := hrel
          rename World => wr
          have HOW := Lib.hid hown
          have HGR := Lib.hid hgr
          clear hown hgr
          by_cases hlt : k < l.length
          · have hkd : decide ((k : Int) < (l.length : Int)) = true := decide_eq_true (by omega)
            have hkdn : decide (k < l.length) = true := decide_eq_true hlt
            obtain ⟨b, off, y, rfl, hb, hc, HX⟩ := (HGA.out wr HGR.out).at_ hlt
            have hki : (k : Int) < (l.length : Int) := by omega
            have hk0 : (0 : Int) ≤ (k : Int) := by omega
            have e0 := hc 0 (by omega); have e1 := hc 1 (by omega); have e2 := hc 2 (by omega); have e3 := hc 3 (by omega); have e4 := hc 4 (by omega); have e5 := hc 5 (by omega)
            rw [Nat.add_zero] at e0
            have hm0 : wr.cell? ⟨bm, 0, none⟩ = some (.int .i64 au) := (((HG3.out.trans HG4.out).trans HGR.out).block HM2.out).cell 0
            have HFS := Lib.hid (filter_take_succ (q := q) HX.out)
            have HQY := Lib.hid (HQX.out y)
            clear hc hb
            by_cases h1 : y.author = au
            · have d1 : decide (y.author = au) = true := decide_eq_true h1
              have b1 : (y.author != au) = false := by simp [h1]
              have HFN : Hid ((l.take (k + 1)).filter q = (l.take k).filter q) := Lib.hid (by rw [HFS.out, HQY.out]; simp [h1])
              by_cases h2 : y.stamp = 9999
              · have d2 : decide (y.stamp = 9999) = true := decide_eq_true h2
                have b2 : (y.stamp == 9999) = true := by simpa using h2
                clear h1 h2
                go_wp2
                go_quiet (fail)
                go_wp2_with fail
                refine (works_any _).mono ?_
                rintro e w6 ⟨rfl, hb6⟩
                go_wp2
                go_ret
                exact ⟨rfl, HGM.out.trans (HG4.out.trans (HGR.out.trans ((show Grow wr _ from Below.drewN_ (Grow.refl wr) _).trans hb6)))⟩
              · have d2 : decide (y.stamp = 9999) = false := decide_eq_false h2
                have b2 : (y.stamp == 9999) = false := by simpa using h2
                have HLO2 : Hid (Low au (l.take (k + 1))) := Lib.hid (Low.snoc HX.out HLO.out (fun _ => h2))
                clear h1 h2
                go_wp2
                go_quiet (fail)
                go_wp2
                go_roundw
                case rel => exact ⟨k + 1, n, A', c', hlt, by go_num, rfl, by rw [HFN.out]; exact HN.out, by omega, by rw [HFN.out]; exact own_grow HOW.out (Below.drewN_ (Grow.refl wr) _), HLO2, HGR.out.trans (Below.drewN_ (Grow.refl wr) _)⟩
                case measure => simp [intOf]; omega
            · have d1 : decide (y.author = au) = false := decide_eq_false h1
              have b1 : (y.author != au) = true := by simpa using h1
              have HFN : Hid ((l.take (k + 1)).filter q = (l.take k).filter q ++ [y]) := Lib.hid (by rw [HFS.out, HQY.out]; simp [h1])
              have HLO2 : Hid (Low au (l.take (k + 1))) := Lib.hid (Low.snoc HX.out HLO.out (fun e => absurd e h1))
              clear h1
              go_upto_region 9 with fail
              go_quiet (fail)
              go_upto_region 10 with fail
              generalize hwd : World.drewN wr _ = wd
              have HGD : Hid (Grow wr wd) := Lib.hid (by rw [← hwd]; exact Below.drewN_ (Grow.refl wr) _)
              have e0 := HGD.out.cell e0; have e1 := HGD.out.cell e1; have e2 := HGD.out.cell e2; have e3 := HGD.out.cell e3; have e4 := HGD.out.cell e4; have e5 := HGD.out.cell e5
              have HOA := Lib.hid (own_grow HOW.out (HGD.out.trans (Grow.alloc wd (.cells (cellsG y) 55))))
              clear hwd hm0
              go_wp2_with (at_builtin; go_loud (refine wpList_append_gloss rfl _ _ 25 rfl w2.heap.size 55 j0 (.agg #[.int .i64 0, .int .i64 0, .int .i64 0, .int .i64 0, .int .i64 0, .int .i64 0]) 48 Try.underlying25 hj hy0 hy1 hy2 rfl _ n (((l.take k).filter q).flatMap cellsGL) rfl HOA.out (some ⟨wd.heap.size, 0, none⟩) 1 1 _ [y] rfl rfl (news_gloss (BlockIs.new _ _ _)) ?c2 ?c3 ?c4 ?_))
              case c2 => unfold maxLen; omega
              case c3 => omega
              case c4 => have h1 := HGR.out.size; have h2 := HGD.out.size; simp; omega
              intro v' w5 hown hgr
              obtain ⟨An', cn', rfl⟩ := own_form hown
              have HOW3 : Hid (w5.ownsRow w2.heap.size 55 6 (.slice An' (n + 1) cn') (n + 1) (((l.take (k + 1)).filter q).flatMap cellsGL)) := Lib.hid (by
                rw [HFN.out, List.flatMap_append]
                exact hown)
              have HG5 : Hid (Grow w2 w5) := Lib.hid (below_grown (HGR.out.trans (HGD.out.trans (Grow.alloc _ _))) HOA.out hgr (by have h1 := HGR.out.size; have h2 := HGD.out.size; simp; omega))
              have HN3 : Hid (n + 1 = ((l.take (k + 1)).filter q).length) := Lib.hid (by rw [HFN.out, List.length_append, ← HN.out]; rfl)
              clear hown hgr HOA
              go_wp2
              go_roundw
              case rel => exact ⟨k + 1, n + 1, An', cn', hlt, by go_num, rfl, HN3.out, by omega, HOW3.out, HLO2, HG5.out⟩
              case measure => simp [intOf]; omega
          · obtain rfl : k = l.length := by omega
            have hkd : decide ((l.length : Int) < (l.length : Int)) = false := by simp
            have hkdn : decide (l.length < l.length) = false := by simp
            have htl : l.take l.length = l := List.take_length
            rw [htl] at HN HOW HLO
            obtain ⟨wl, hwl⟩ : ∃ z, l.filter q = z := ⟨_, rfl⟩
            rw [hwl] at HN HOW
            have HWL : Hid (l.filter (fun y : GlossD => decide (y.author ≠ au)) = wl) := Lib.hid (by rw [HQE.out, hwl])
            have hwl9 : wl.length ≤ 1000 := by rw [← hwl]; exact Nat.le_trans (List.length_filter_le _ _) hl9
            have HTW : Hid (GlossT wr w2.heap.size A' c' wl) := Lib.hid (by unfold GlossT; rw [← HN.out]; exact HOW.out)
            have HSN : Hid (Value.slice A' n c' = Value.slice A' wl.length c') := Lib.hid (by rw [HN.out])
            have HREW : Hid (readErr f.d [wl] = 0) := Lib.hid (by rw [← HWL.out]; exact without_err HRE.out _)
            rw [HSN.out]
            have HGW : Hid (Grow W3 wr) := Lib.hid (HG4.out.trans HGR.out)
            clear hwl htl hlt HOW HSN HN
            have hmc := ((HG3.out.trans HGW.out).block HM2.out).cell
            have hcc := ((HG3.out.trans HGW.out).block HF2.out).cell
            have HRA := Lib.hid (fun (w0 : World) (hw : Grow W3 w0) => readingsApi_any sortG_ok f al An cn fi w0.heap.size w0 (HI.out w0 (HGM.out.trans hw)) ((HT3.out.grow hw).at_) (Nat.le_refl _) hf9 hl92)
            have HRA2 := Lib.hid (fun (w0 : World) (hw : Grow wr w0) => readingsApi_any sortG_ok f wl A' c' fi w0.heap.size w0 (HI.out w0 (HGM.out.trans (HGW.out.trans hw))) ((HTW.out.grow hw).at_) (Nat.le_refl _) hf9 hwl9)
            rw [film_zero HRE2.out HXO.out.2.2.1.1 HXO.out.2.2.1.2] at HRA
            rw [film_zero HREW.out HXO.out.2.2.1.1 HXO.out.2.2.1.2] at HRA2
            have hfo := frameOf_at HOK.out HXO.out.2.2.1.1 HXO.out.2.2.1.2
            have HFO := Lib.hid hfo
            clear hfo
            go_wp2_with fail
            refine (HRA.out _ HGW.out).mono ?_
            rintro e w7 ⟨v7, rfl, hrv, hb7⟩
            obtain ⟨A7, c7, all7, rfl, hso7, hrt7⟩ := hrv.2 rfl
            have HL7 := Lib.hid (rds_len (setAt f.d.signs.toNat (all7.filter (holdsD all7)) fi) (f := f.d) (film := fi) (by have := HFO.out; omega))
            have HT7 := Lib.hid hrt7
            have HG7 : Hid (Grow wr w7) := Lib.hid hb7
            have HTR := Lib.hid (fun (all2 : List GlossD) (hs2 : SortedG wl all2) => taken_reads (f := f.d) (x := ⟨au, 9999, fi, frm, till, 0⟩) (all := all7) (all2 := all2) HRE.out (by rw [HAL.out]; exact HRE2.out) rfl rfl HLO.out (by rw [HAL.out]; exact hso7) (by show SortedG (l.filter fun y => decide (y.author ≠ au)) all2; rw [HWL.out]; exact hs2))
            dsimp only at HTR
            generalize rdsTo (setAt f.d.signs.toNat (all7.filter (holdsD all7)) fi) (frameOf f.d fi).toNat = rds7 at HL7 HT7 HTR
            clear hrv hso7 hrt7 hb7 hmc hcc HRA
            have hmc := ((HG3.out.trans (HGW.out.trans HG7.out)).block HM2.out).cell
            have hcc := ((HG3.out.trans (HGW.out.trans HG7.out)).block HF2.out).cell
            go_wp2_with fail
            refine (HRA2.out _ HG7.out).mono ?_
            rintro e w8 ⟨v8, rfl, hrv, hb8⟩
            obtain ⟨A8, c8, all8, rfl, hso8, hrt8⟩ := hrv.2 rfl
            have HL8 := Lib.hid (rds_len (setAt f.d.signs.toNat (all8.filter (holdsD all8)) fi) (f := f.d) (film := fi) (by have := HFO.out; omega))
            have HT8 := Lib.hid hrt8
            have HTR8 := Lib.hid (HTR.out all8 hso8)
            have HG9 : Hid (Grow W3 w8) := Lib.hid (HGW.out.trans (HG7.out.trans hb8))
            have HT7' := Lib.hid (HT7.out.grow hb8)
            generalize rdsTo (setAt f.d.signs.toNat (all8.filter (holdsD all8)) fi) (frameOf f.d fi).toNat = rds8 at HL8 HT8 HTR8
            clear hrv hso8 hrt8 hb8 hmc hcc HRA2 HT7 HG7 HTR
            obtain ⟨kf, hkf⟩ := Int.eq_ofNat_of_zero_le HXO.out.2.2.1.1
            have hfo := HFO.out
            have hkl : fi.toNat < f.d.frames.length := lt_of_at hfo.1
            obtain ⟨b, off, y, hAe, hb, hcell, HY⟩ := (HI.out w8 (HGM.out.trans HG9.out)).at_ hkl
            have hyf : y = frameOf f.d fi := by
              have h := HY.out
              rw [hfo.1] at h
              exact (Option.some.inj h).symm
            have hcc0 := ((HG3.out.trans HG9.out).block HF2.out).cell 0
            have hmb := ((HG3.out.trans HG9.out).block HM2.out).cell
            have hcc2 : w8.cell? ⟨w.heap.size, 0, none⟩ = some (.slice (some ⟨b, off, none⟩) f.d.frames.length f.ca) := by rw [hcc0, ← hAe]; rfl
            have hs2 : w8.cell? ⟨bm, 2, none⟩ = some (.int .i64 (kf : Nat)) := by rw [hmb 2, ← hkf]; rfl
            have hs3 : w8.cell? ⟨bm, 3, none⟩ = some (.int .i64 frm) := hmb 3
            have hs4 : w8.cell? ⟨bm, 4, none⟩ = some (.int .i64 till) := hmb 4
            have hrl7 : (rds7.length : Int) ≤ y := by rw [hyf]; exact HL7.out
            have hrl8 : (rds8.length : Int) ≤ y := by rw [hyf]; exact HL8.out
            have q4 : decide (y < (rds7.length : Int)) = false := decide_eq_false (by omega)
            have q5 : decide (y < (rds8.length : Int)) = false := decide_eq_false (by omega)
            have hki : (kf : Int) < (f.d.frames.length : Int) := by omega
            have hk0 : (0 : Int) ≤ (kf : Int) := by omega
            rw [hkf, Int.toNat_natCast] at hcell
            have hxb := HXO.out
            have hfrm0 : 0 ≤ frm := by omega
            have htl2 : till ≤ 200 := by omega
            have hft : frm < till := by omega
            clear hcc0 hAe hfo hkl hb hyf hrl7 hrl8 hkf hmb hxb
            have HLR7 := Lib.hid (fun fr => lread_any rds7 A7 c7 w8.heap.size fr w8 HT7'.out.at_ (by have := HL7.out; have := HFO.out; omega))
            have HLR8 := Lib.hid (fun fr => lread_any rds8 A8 c8 w8.heap.size fr w8 HT8.out.at_ (by have := HL8.out; have := HFO.out; omega))
            go_wp2_with fail
            go_loop [14] (fun i => ∃ fr : Int, frm ≤ fr ∧ fr ≤ till ∧ i = .int .i64 fr) (fun i => (till - intOf i).toNat)
            case atStart => exact ⟨frm, Int.le_refl _, by omega, rfl⟩
            case round =>
              obtain ⟨fr, hf0, hf1, rfl⟩ := hrel
              by_cases hlt2 : fr < till
              · have hkd : decide (fr < till) = true := decide_eq_true hlt2
                obtain ⟨r1, r2, r3⟩ := HTR8.out fr hf0 hlt2
                have HR7 := Lib.hid (HLR7.out fr)
                have HR8 := Lib.hid (HLR8.out fr)
                rw [decide_eq_true r2, r1] at HR7
                rw [decide_eq_true r3] at HR8
                generalize readS rds8 fr = sv at HR7 HR8
                have hnn : (sv != sv) = false := by simp
                clear r1 r2 r3 q4 q5 hcc2 hs2 hs3 hcell
                go_wp2_with fail
                refine HR7.out.mono ?_
                rintro e w9 ⟨rfl, rfl⟩
                go_wp2_with fail
                refine HR8.out.mono ?_
                rintro e w9 ⟨rfl, rfl⟩
                go_wp2
                go_round
                case rel => exact ⟨fr + 1, by omega, by omega, by go_num⟩
                case measure => simp [intOf]; omega
              · have hkd : decide (fr < till) = false := decide_eq_false hlt2
                clear q4 q5 hcc2 hs2 hs3 hcell
                go_wp2_with fail
                refine (works_any _).mono ?_
                rintro e w9 ⟨rfl, hb9⟩
                go_wp2
                go_ret
                exact ⟨rfl, HGM.out.trans (HG9.out.trans hb9)⟩

end Go.Proofs.Ytinlojealfbbfaa
