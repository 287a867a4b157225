/- RReads: the specification's Readings; written by wip/tools/rreads02.py. -/
import Derived.Test.YtinlojealfbbfaaRSure
namespace Go.Proofs.Ytinlojealfbbfaa
open Go.RowKit

theorem own_apart {w : World} {base e size n : Nat} {v : Value} {xs : List Value} (h : w.ownsRow base e size v n xs) {b : Nat} (hne : v.ownBlock ≠ some b) (j : Nat) (u : Value) : (w.setCell ⟨b, j, none⟩ u).ownsRow base e size v n xs := by
  obtain ⟨h1, h | ⟨g, c, cur, hv, hg, hh, r⟩⟩ := h
  · exact ⟨h1, .inl h⟩
  · refine ⟨h1, .inr ⟨g, c, cur, hv, hg, (Below.heap_setCell w ⟨b, j, none⟩ u g (fun e => hne ?_)).trans hh, r⟩⟩
    subst hv
    simp [Value.ownBlock]
    exact e
theorem own_set3 {w : World} {lo p cap g : Nat} {rs : List RdD} {r : RdD} (h : w.ownsRow lo 69 3 (.slice (some ⟨g, 0, none⟩) (p + 1) cap) (p + 1) ((rs ++ [r]).flatMap cellsRdL)) (hp : rs.length = p) (a b c : Int) :
    (((w.setCell ⟨g, p * 3, none⟩ (.int .i64 a)).setCell ⟨g, p * 3 + 1, none⟩ (.int .i64 b)).setCell ⟨g, p * 3 + 2, none⟩ (.int .i64 c)).ownsRow lo 69 3 (.slice (some ⟨g, 0, none⟩) (p + 1) cap) (p + 1) ((rs ++ [(⟨a, b, c⟩ : RdD)]).flatMap cellsRdL) := by
  have hl3 : (rs.flatMap cellsRdL).length = p * 3 := by rw [flat_length (enc := cellsRdL) (k := 3) (fun _ => rfl), hp]
  have hlen : ((rs ++ [r]).flatMap cellsRdL).length = p * 3 + 3 := by rw [List.flatMap_append, List.length_append, hl3]; rfl
  have h1 := own_set h (p := p * 3) (by omega) (.int .i64 a)
  have h2 := own_set h1 (p := p * 3 + 1) (by rw [List.length_set]; omega) (.int .i64 b)
  have h3 := own_set h2 (p := p * 3 + 2) (by rw [List.length_set, List.length_set]; omega) (.int .i64 c)
  have e : ((((rs ++ [r]).flatMap cellsRdL).set (p * 3) (.int .i64 a)).set (p * 3 + 1) (.int .i64 b)).set (p * 3 + 2) (.int .i64 c) = (rs ++ [(⟨a, b, c⟩ : RdD)]).flatMap cellsRdL := by
    rw [List.flatMap_append, List.flatMap_append, List.set_append_right _ _ (by omega), hl3, List.set_append_right _ _ (by omega), hl3, List.set_append_right _ _ (by omega), hl3, show p * 3 - p * 3 = 0 by omega, show p * 3 + 1 - p * 3 = 1 by omega, show p * 3 + 2 - p * 3 = 2 by omega]
    simp [cellsRdL]
  rw [← e]
  exact h3
theorem rdsTo_ne (set : Nat → Nat) : ∀ m, ∀ r ∈ rdsTo set m, r.signs ≠ 0
  | 0, r, h => by simp [rdsTo] at h
  | m + 1, r, h => by
    have ih := rdsTo_ne set m
    have h : r ∈ rdStep (rdsTo set m) m (set m) := h
    by_cases h0 : (set m : Int) = 0
    · rw [h0, rdStep_zero] at h; exact ih r h
    · rcases List.eq_nil_or_concat (rdsTo set m) with e | ⟨l', q, e⟩
      · rw [e, rdStep_nil h0] at h
        rw [List.mem_singleton.1 h]; exact h0
      · rw [List.concat_eq_append] at e
        rw [e] at h ih
        by_cases h1 : q.till = (m : Int) ∧ q.signs = (set m : Int)
        · rw [rdStep_join h0 h1.1 h1.2] at h
          rcases List.mem_append.1 h with h | h
          · exact ih r (by simp [h])
          · rw [List.mem_singleton.1 h]; exact h0
        · rw [rdStep_new h0 h1] at h
          rcases List.mem_append.1 h with h | h
          · exact ih r h
          · rw [List.mem_singleton.1 h]; exact h0
theorem rdsTo_alike {s t : Nat → Nat} : ∀ {m : Nat}, (∀ k, k < m → s k = t k) → rdsTo s m = rdsTo t m
  | 0, _ => rfl
  | m + 1, h => by
    show rdStep (rdsTo s m) m (s m) = rdStep (rdsTo t m) m (t m)
    rw [rdsTo_alike fun k hk => h k (by omega), h m (by omega)]
theorem frame_film (f : FilmsD) (l : List GlossD) (film : Int) : frameErr f l film 0 = filmErr f l film := by
  unfold frameErr filmErr
  by_cases h : readErr f [l] = 0
  · rw [if_pos h, if_pos h]
    by_cases h2 : inB film 0 (f.frames.length - 1) = true
    · have hok := (readErr_zero h).1
      have hi := inB_iff.1 h2
      have hfo := frameOf_at hok hi.1 hi.2
      have h3 : inB 0 0 (frameOf f film - 1) = true := inB_iff.2 ⟨by omega, by omega⟩
      rw [h2, h3]; rfl
    · have h2' : inB film 0 (f.frames.length - 1) = false := by simpa using h2
      rw [h2']; rfl
  · rw [if_neg h, if_neg h]

set_option maxRecDepth 100000 in
set_option maxHeartbeats 16000000 in
theorem rReadsApi_any (f : FilmsR) (l : List GlossD) (A : Option Addr) (c : Nat) (film : Int) (n : Nat) (w : World) (hf : Ints w n f.A f.d.frames) (hA : GlossAt w n A l) (hn : n ≤ w.heap.size) (hfl : f.d.frames.length ≤ 1000000) (hl : l.length ≤ 1000) :
    Calls Try.prog 37 #[filmsV f, .slice A l.length c, .int .i64 film] w fun e w' => ∃ v, e = .returned (.tuple #[v, .int .i64 (filmErr f.d l film)]) ∧ ReadingsV f.d l film w.heap.size v (filmErr f.d l film) w' ∧ Below w.heap.size w w' := by
  obtain ⟨j0, hj, hy0, hy1, hy2⟩ := info_parts Try.infoRd
  have HFC := Lib.hid (fun (w0 : World) (hw : Grow w w0) => rFrame_any f l A c film 0 w0.heap.size w0 (((hf.more hn).below hw).more hw.size) (((hA.more hn).below hw).more hw.size) (Nat.le_refl _) hfl hl)
  have HGL := Lib.hid (fun (w0 : World) (hw : Grow w w0) => ((hA.more hn).below hw).more hw.size)
  have HI := Lib.hid (fun (w0 : World) (hw : Grow w w0) => ((hf.more hn).below hw).more hw.size)
  rw [frame_film] at HFC
  obtain ⟨fe, hfe⟩ : ∃ q, filmErr f.d l film = q := ⟨_, rfl⟩
  have HFF : Hid (frameErr f.d l film 0 = fe) := Lib.hid (by rw [frame_film, hfe])
  rw [hfe] at HFC ⊢
  clear hfe hf hA hn
  go_enter Try.func37, Try.ntmps37
  go_upto_region 1 with fail
  obtain ⟨W, hW, hg, hf, hsz⟩ := one_block w 24 (cellsF f)
  rw [hW]
  clear hW
  have hcc := hf.cell
  have HF := Lib.hid hf
  have HG := Lib.hid hg
  clear hf hg
  go_wp2_with fail
  refine (HFC.out W HG.out).mono ?_
  rintro e w1 ⟨rfl, hb1⟩
  have HG1 : Hid (Grow w w1) := Lib.hid (HG.out.trans hb1)
  have HF1 : Hid (BlockIs w1 w.heap.size 24 (cellsF f)) := Lib.hid (Grow.block hb1 HF.out)
  clear hb1 hcc HFC HF
  by_cases h0 : fe = 0
  · subst h0
    have hfz := frameErr_zero HFF.out
    have hre := hfz.1
    obtain ⟨hok, hgl, hl40, hncl⟩ := readErr_zero hre
    have HSO := Lib.hid (sortU_sorted hncl)
    have hsg := (okFilms_parts hok).2.1
    obtain ⟨sn, hsn⟩ := Int.eq_ofNat_of_zero_le (show 0 ≤ f.d.signs by omega)
    have hst : f.d.signs.toNat = sn := by rw [hsn]; rfl
    have h10 : sn ≤ 10 := by omega
    have HSET : Hid (∀ t : Nat, firstD sn (rAtD l film t) = setAt f.d.signs.toNat ((sortU l).filter (holdsD (sortU l))) film t) := Lib.hid (fun t => by
      rw [← sure_at hre (sortU_sorted hncl) film t, hst]; rfl)
    have HAF := Lib.hid (fun (t : Int) (x : GlossD) (hx : x ∈ rAtD l film t) => at_facts hre film t x hx)
    rw [hst] at HAF
    have HAT := Lib.hid (fun (t : Int) (w0 : World) (hw : Grow w1 w0) => rAt_any rsort_ok l A c w0.heap.size film t w0 (HGL.out w0 (HG1.out.trans hw)) (Nat.le_refl _) hl (fun x hx => okGloss_small hok (hgl x hx)))
    have HNE := Lib.hid (fun (t : Int) => readD_ne (n := sn) (l := rAtD l film t) h10 (fun x hx => (HAF.out t x hx).2))
    have HRD := Lib.hid (fun (t : Int) (A' : Option Addr) (c' : Nat) (w0 : World) (ht : GlossAt w0 w0.heap.size A' (rAtD l film t)) => rsmall_any f (rAtD l film t) A' c' w0.heap.size w0 ht (Nat.le_refl _) (Nat.le_trans (rAtD_len l film t) hl) (fun x hx => (HAF.out t x hx).1) sn hsn h10)
    have hfo := frameOf_at hok hfz.2.1.1 hfz.2.1.2
    obtain ⟨fr, hfr⟩ := Int.eq_ofNat_of_zero_le (show 0 ≤ frameOf f.d film by omega)
    have hfr9 : fr ≤ 200 := by omega
    have HFN : Hid ((frameOf f.d film).toNat = fr) := Lib.hid (by rw [hfr]; rfl)
    obtain ⟨kf, hkf⟩ := Int.eq_ofNat_of_zero_le hfz.2.1.1
    have hkl : kf < f.d.frames.length := by have h := lt_of_at hfo.1; rw [hkf, Int.toNat_natCast] at h; exact h
    have HX0 : Hid (f.d.frames[kf]? = some (fr : Int)) := Lib.hid (by have h := hfo.1; rw [hkf, Int.toNat_natCast, ← hkf, hfr] at h; exact h)
    have HCF := Lib.hid (fun (w0 : World) (hw : Grow w1 w0) => show ∃ b9 off : Nat, w0.cell? ⟨w.heap.size, 0, none⟩ = some (.slice (some ⟨b9, off, none⟩) f.d.frames.length f.ca) ∧ w0.cell? ⟨b9, off + kf, none⟩ = some (.int .i64 (fr : Nat)) by
      obtain ⟨b9, off, y, hAe, hb, hc, HY⟩ := (HI.out w0 (HG1.out.trans hw)).at_ hkl
      have hy : y = (fr : Int) := by have h := HY.out; rw [HX0.out] at h; exact (Option.some.inj h).symm
      refine ⟨b9, off, ?_, by rw [← hy]; exact hc⟩
      rw [(hw.block HF1.out).cell 0, ← hAe]
      rfl)
    have hki : (kf : Int) < (f.d.frames.length : Int) := by omega
    have hk0 : (0 : Int) ≤ (kf : Int) := by omega
    clear hfz hre hok hgl hl40 hncl hsg hsn hst hfo hfr
    subst hkf
    go_wp2_with fail
    go_loopw [9, 10] (fun v iv wr => ∃ (i n : Nat) (A' : Option Addr) (c' : Nat), i ≤ fr ∧ iv = .int .i64 i ∧ v = .slice A' n c' ∧ Hid (n = (rdsTo (fun t => firstD sn (rAtD l (kf : Nat) t)) i).length) ∧ n ≤ i ∧ wr.ownsRow w1.heap.size 69 3 (.slice A' n c') n ((rdsTo (fun t => firstD sn (rAtD l (kf : Nat) t)) i).flatMap cellsRdL) ∧ Grow w1 wr) (fun _ v _ => fr - (intOf v).toNat)
    case atStart => exact ⟨0, 0, none, 0, Nat.zero_le _, rfl, rfl, rfl, Nat.le_refl _, ⟨rfl, .inl ⟨rfl, rfl⟩⟩, Grow.refl _⟩
    case round =>
      obtain ⟨i, n, A', c', hi', rfl, rfl, HN, hni, hown, hgr⟩ := hrel
      rename World => wr
      have HOW := Lib.hid hown
      have HGR : Hid (Grow w1 wr) := Lib.hid hgr
      clear hown hgr
      obtain ⟨b9, off, hcc, hcell⟩ := HCF.out wr HGR.out
      by_cases hlt : i < fr
      · have hld : decide ((i : Int) < (fr : Int)) = true := decide_eq_true (by omega)
        have hldn : decide (i < fr) = true := decide_eq_true hlt
        have HLT := Lib.hid hlt
        have HSS : Hid (rdsTo (fun t => firstD sn (rAtD l (kf : Nat) t)) (i + 1) = rdStep (rdsTo (fun t => firstD sn (rAtD l (kf : Nat) t)) i) i (firstD sn (rAtD l (kf : Nat) (i : Nat)) : Nat)) := rfl
        have HFS := Lib.hid (firstD_at (HNE.out i))
        have HNZ := Lib.hid (rdsTo_ne (fun t => firstD sn (rAtD l (kf : Nat) t)) i)
        have hsl : 0 < (readD sn (rAtD l (kf : Nat) i)).length := List.length_pos_iff.2 (HNE.out i)
        obtain ⟨ss, hss⟩ : ∃ q, firstD sn (rAtD l (kf : Nat) (i : Nat)) = q := ⟨_, rfl⟩
        rw [hss] at HSS HFS
        obtain ⟨rs, hrs⟩ : ∃ q, rdsTo (fun t => firstD sn (rAtD l (kf : Nat) t)) i = q := ⟨_, rfl⟩
        rw [hrs] at HSS HN HOW HNZ
        have HATi := Lib.hid (HAT.out (i : Int))
        have HRDi := Lib.hid (HRD.out (i : Int))
        obtain ⟨fl, hfl2⟩ : ∃ q, rAtD l (kf : Nat) (i : Nat) = q := ⟨_, rfl⟩
        rw [hfl2] at HATi HRDi HFS hsl
        obtain ⟨S, hS⟩ : ∃ q, readD sn fl = q := ⟨_, rfl⟩
        rw [hS] at HRDi HFS hsl
        clear hss hrs hfl2 hS hlt
        go_upto_region 8 with fail
        clear hcc hcell
        refine wp_region_lit 8 [[], [], [], [], [(1, 31), (2, 32), (3, 33)], [(0, 30), (4, 34)], [(5, 35)], [(6, 36)]] Grow (fun qi v w' => match qi with
            | 0 => v = filmsV f
            | 1 => v = .slice A l.length c
            | 2 => v = .int .i64 (kf : Nat)
            | 3 => v = .int .i64 (i : Nat)
            | 4 => IsAtV 0 fl v w'
            | 5 => IsSets S v w'
            | 6 => IsSpot ss v w'
            | 7 => v = .int .i64 (ss : Nat)
            | _ => False) (by kernel_rfl) (by kernel_rfl) (fun _ _ _ => Grow.trans) Grow.refl ?_ ?_ ?_
        · intro i v y y' h k
          match i, h with
          | 4, h => exact h.grow k
          | 5, h => exact h.grow k
          | 6, h => exact h.grow k
          | 0, h | 1, h | 2, h | 3, h | 7, h => exact h
        · simp only [StepsLit, List.take_succ_cons, List.take_zero]
          refine ⟨?_, ?_, ?_, ?_, ?_, ?_, ?_, ?_, trivial⟩
          · intro w5 hR
            have hGw : Grow wr w5 := hR.of_drew
            have HGW := Lib.hid hGw
            have hnc := ((HGR.out.trans HGW.out).block HF1.out).cell
            clear hR hGw
            simp only [depV]
            try go_simp
            all_goals first
              | (with_reducible exact Grow.refl _)
              | (with_reducible exact ⟨Grow.refl _, rfl⟩)
          · intro w5 hR
            have hGw : Grow wr w5 := hR.of_drew
            have HGW := Lib.hid hGw
            have hnc := ((HGR.out.trans HGW.out).block HF1.out).cell
            clear hR hGw
            simp only [depV]
            try go_simp
            all_goals first
              | (with_reducible exact Grow.refl _)
              | (with_reducible exact ⟨Grow.refl _, rfl⟩)
          · intro w5 hR
            have hGw : Grow wr w5 := hR.of_drew
            have HGW := Lib.hid hGw
            have hnc := ((HGR.out.trans HGW.out).block HF1.out).cell
            clear hR hGw
            simp only [depV]
            try go_simp
            all_goals first
              | (with_reducible exact Grow.refl _)
              | (with_reducible exact ⟨Grow.refl _, rfl⟩)
          · intro w5 hR
            have hGw : Grow wr w5 := hR.of_drew
            have HGW := Lib.hid hGw
            have hnc := ((HGR.out.trans HGW.out).block HF1.out).cell
            clear hR hGw
            simp only [depV]
            try go_simp
            all_goals first
              | (with_reducible exact Grow.refl _)
              | (with_reducible exact ⟨Grow.refl _, rfl⟩)
          · intro w5 hR
            have hGw : Grow wr w5 := hR.of_drew
            have HGW := Lib.hid hGw
            have hnc := ((HGR.out.trans HGW.out).block HF1.out).cell
            clear hR hGw
            simp only [depV]
            rintro _ rfl
            rintro _ rfl
            rintro _ rfl
            try go_simp
            refine (HATi.out w5 (HGR.out.trans HGW.out)).mono ?_
            rintro e w6 ⟨A6, c6, rfl, ht6, hb6⟩
            exact ⟨hb6, A6, c6, rfl, ht6.mono (Nat.zero_le _)⟩
          · intro w5 hR
            have hGw : Grow wr w5 := hR.of_drew
            have HGW := Lib.hid hGw
            have hnc := ((HGR.out.trans HGW.out).block HF1.out).cell
            clear hR hGw
            simp only [depV]
            rintro _ rfl
            intro v4 hv4
            obtain ⟨A4, c4, rfl, ht4⟩ := hv4
            clear hnc
            try go_simp
            refine (HRDi.out A4 c4 w5 ht4.at_).mono ?_
            rintro e w6 ⟨A6, c6, rfl, ho6, hb6⟩
            exact ⟨hb6, A6, c6, rfl, (own_ints ho6).1⟩
          · intro w5 hR
            have hGw : Grow wr w5 := hR.of_drew
            have HGW := Lib.hid hGw
            have hnc := ((HGR.out.trans HGW.out).block HF1.out).cell
            clear hR hGw
            simp only [depV]
            intro v5 hv5
            obtain ⟨A5, c5, rfl, hs5⟩ := hv5
            obtain ⟨b5, o5, y5, rfl, _, hy5, HY5⟩ := hs5.at_ (k := 0) (by rw [List.length_map]; exact hsl)
            have hys : y5 = (ss : Int) := by
              have h1 := HY5.out
              rw [List.getElem?_map, HFS.out] at h1
              exact (Option.some.inj h1).symm
            rw [hys] at hy5
            have hs0 : decide ((0 : Int) < (S.length : Int)) = true := decide_eq_true (by omega)
            have hs1 : (0 : Int) < (S.length : Int) := by omega
            clear hs5 HY5 hnc
            try go_simp
            exact ⟨Grow.refl _, b5, o5, rfl, by simpa using hy5⟩
          · intro w5 hR
            have hGw : Grow wr w5 := hR.of_drew
            have HGW := Lib.hid hGw
            have hnc := ((HGR.out.trans HGW.out).block HF1.out).cell
            clear hR hGw
            simp only [depV]
            intro v6 hv6
            obtain ⟨b6, o6, rfl, hc6⟩ := hv6
            clear hnc
            try go_simp
            all_goals first
              | (with_reducible exact Grow.refl _)
              | (with_reducible exact ⟨Grow.refl _, rfl⟩)
        · intro w5 hR
          have HG5 : Hid (Grow wr w5) := Lib.hid hR.of_drew
          clear hR
          simp only [finVC, List.take_succ_cons, List.take_zero, List.drop_succ_cons, List.drop_zero]
          rintro _ rfl
          rintro _ rfl
          rintro _ rfl
          rintro _ rfl
          intro v4 hv4
          intro v5 hv5
          intro v6 hv6
          rintro _ rfl
          simp only [Act.put, List.setIfInBounds_toArray, List.set_cons_succ, List.set_cons_zero]
          obtain ⟨b6, o6, rfl, _⟩ := hv6
          have HG5W : Hid (Grow w1 w5) := Lib.hid (HGR.out.trans HG5.out)
          have HO5 := Lib.hid (own_grow HOW.out HG5.out)
          clear hv4 hv5
          rcases List.eq_nil_or_concat rs with e | ⟨rs', r, e⟩
          · subst e
            obtain rfl : n = 0 := HN.out
            by_cases hs0 : ss = 0
            · subst hs0
              have HSK : Hid (rdsTo (fun t => firstD sn (rAtD l (kf : Nat) t)) (i + 1) = []) := Lib.hid (by rw [HSS.out]; exact rdStep_zero)
              go_wp2
              go_roundw
              case rel => exact ⟨i + 1, 0, A', c', HLT.out, by go_num, rfl, by rw [HSK.out]; exact HN.out, by omega, by rw [HSK.out]; exact HO5.out, HG5W.out⟩
              case measure => have := HLT.out; simp [intOf]; omega
            · have hsz0 : (ss : Int) ≠ 0 := by omega
              have d0n : decide (ss = 0) = false := decide_eq_false hs0
              have d0b : ((ss : Int) != 0) = true := by rw [bne_iff_ne]; exact hsz0
              have d0 : decide ((ss : Int) = 0) = false := decide_eq_false hsz0
              have HSK : Hid (rdsTo (fun t => firstD sn (rAtD l (kf : Nat) t)) (i + 1) = [⟨i, i + 1, ss⟩]) := Lib.hid (by rw [HSS.out]; exact rdStep_nil hsz0)
              clear hs0
              have HOA := Lib.hid (own_grow HO5.out (Grow.alloc w5 (.cells #[.int .i64 (i : Nat), .int .i64 ((i : Int) + 1), .int .i64 (ss : Nat)] 69)))
              go_wp2_with (at_builtin; go_loud (refine wpList_append_own _ rfl _ _ 35 rfl w1.heap.size 69 j0 (.agg #[.int .i64 0, .int .i64 0, .int .i64 0]) 3 24 Try.underlying35 hj hy0 hy1 hy2 rfl (by omega) _ 0 ([]) rfl ?d0 ⟨w5.heap.size, 0, none⟩ 1 1 (cellsRdL ⟨i, i + 1, ss⟩) rfl rfl ?d1 ?d2 ?d3 ?d4 ?d5 ?_))
              case d0 => exact HOA.out
              case d1 =>
                intro q u hu
                have h1 := (BlockIs.new w5 69 #[.int .i64 (i : Nat), .int .i64 ((i : Int) + 1), .int .i64 (ss : Nat)]).cell q
                rw [show (⟨w5.heap.size, 0, none⟩ : Addr).add q = ⟨w5.heap.size, q, none⟩ by (simp [Addr.add]; try omega), h1]
                exact Array.getElem?_toList.symm.trans hu
              case d2 => exact one_rd _
              case d3 => unfold maxLen; omega
              case d4 => omega
              case d5 => have h1 := HG5W.out.size; simp; omega
              intro v' wq hown hgr _
              obtain ⟨Aw, cw, rfl⟩ := own_form hown
              have HGQ : Hid (Grow w1 wq) := Lib.hid (below_grown (HG5W.out.trans (Grow.alloc _ _)) HOA.out hgr (by have h1 := HG5W.out.size; simp; omega))
              have HO6 : Hid (wq.ownsRow w1.heap.size 69 3 (.slice Aw 1 cw) 1 ((rdsTo (fun t => firstD sn (rAtD l (kf : Nat) t)) (i + 1)).flatMap cellsRdL)) := Lib.hid (by
                rw [HSK.out]
                simpa using hown)
              have HNN : Hid (1 = (rdsTo (fun t => firstD sn (rAtD l (kf : Nat) t)) (i + 1)).length) := Lib.hid (by rw [HSK.out]; rfl)
              clear hown hgr HOA
              go_wp2
              go_roundw
              case rel => exact ⟨i + 1, 0 + 1, Aw, cw, HLT.out, by go_num, rfl, HNN.out, by omega, HO6.out, HGQ.out⟩
              case measure => have := HLT.out; simp [intOf]; omega
          · rw [List.concat_eq_append] at e
            subst e
            obtain ⟨p, hp⟩ : ∃ q, rs'.length = q := ⟨_, rfl⟩
            have hnp : n = p + 1 := by have := HN.out; rw [List.length_append, hp] at this; exact this
            subst hnp
            have HPL := Lib.hid hp
            have hrp : (rs' ++ [r])[p]? = some r := by rw [← hp]; simp
            obtain ⟨g, cs, hAe2, hgl, hgb, hgc⟩ := own_rdAt HO5.out HN.out hrp
            subst hAe2
            have HQ := Lib.hid hgc
            have q0 := hgc 0 (by omega); have q1 := hgc 1 (by omega); have q2 := hgc 2 (by omega)
            rw [Nat.add_zero] at q0
            have hpi : (p : Int) < (((p + 1 : Nat) : Int)) := by omega
            have hp0 : (0 : Int) ≤ (p : Int) := by omega
            have hps : (((p + 1 : Nat) : Int)) - 1 = (p : Int) := by omega
            have hpq : decide ((0 : Int) < (((p + 1 : Nat) : Int))) = true := decide_eq_true (by omega)
            have hpr : decide ((0 : Int) < (p : Int) + 1) = true := decide_eq_true (by omega)
            have hrs : r.signs ≠ 0 := HNZ.out r (by simp)
            have HGB := Lib.hid hgb
            clear hgc hrp hp hgb
            by_cases h1 : r.till = (i : Int)
            · have e1 : decide (r.till = (i : Int)) = true := decide_eq_true h1
              have e1b : (r.till == (i : Int)) = true := by simpa using h1
              by_cases h2 : r.signs = (ss : Int)
              · have e2 : decide (r.signs = (ss : Int)) = true := decide_eq_true h2
                have e2b : (r.signs == (ss : Int)) = true := by simpa using h2
                have HSK : Hid (rdsTo (fun t => firstD sn (rAtD l (kf : Nat) t)) (i + 1) = rs' ++ [⟨r.frm, i + 1, ss⟩]) := Lib.hid (by rw [HSS.out]; exact rdStep_join (by rw [← h2]; exact hrs) h1 h2)
                have HH2 := Lib.hid h2
                clear h1 h2 hrs
                go_upto_region 12 with fail
                obtain ⟨W6, hW6, hg6, hb6, hsz6⟩ := one_block w5 69 (cellsRd r)
                rw [hW6]
                clear hW6
                obtain ⟨b7, e7⟩ : ∃ z, w5.heap.size = z := ⟨_, rfl⟩
                have hg7 : g < b7 := by rw [← e7]; exact HGB.out.lt
                have hw1b : w1.heap.size ≤ b7 := by rw [← e7]; exact HG5W.out.size
                rw [e7] at hb6 hsz6 ⊢
                have hrf := hb6.frozen
                have hrc := hb6.cell
                clear e7
                go_upto_region 13 with fail
                obtain ⟨W7, hW7⟩ : ∃ z, W6.setCell ⟨b7, 1, none⟩ (.int .i64 ((i : Int) + 1)) = z := ⟨_, rfl⟩
                have hb7 : BlockIs W7 b7 69 (cellsRd ⟨r.frm, i + 1, r.signs⟩) := by rw [← hW7]; exact hb6.near 1 _
                have hgb7 : BlockIs W7 g 69 cs := by rw [← hW7]; exact (hg6.block HGB.out).far (p := ⟨b7, 1, none⟩) (by show g ≠ b7; omega) _
                have HO7 : Hid (W7.ownsRow w1.heap.size 69 3 (.slice (some ⟨g, 0, none⟩) (p + 1) c') (p + 1) ((rs' ++ [r]).flatMap cellsRdL)) := Lib.hid (by rw [← hW7]; exact own_apart (own_grow HO5.out hg6) (b := b7) (by simp [Value.ownBlock]; omega) 1 _)
                have HG7 : Hid (Grow w1 W7) := Lib.hid (by rw [← hW7]; exact (HG5W.out.trans hg6).setC (p := ⟨b7, 1, none⟩) hw1b _)
                rw [hW7]
                have hrc := hb7.cell
                have hgf := hgb7.frozen
                have q0 : W7.cell? ⟨g, p * 3, none⟩ = some (.int .i64 r.frm) := by rw [hgb7.cell, ← HGB.out.cell]; exact q0
                have q1 : W7.cell? ⟨g, p * 3 + 1, none⟩ = some (.int .i64 r.till) := by rw [hgb7.cell, ← HGB.out.cell]; exact q1
                have q2 : W7.cell? ⟨g, p * 3 + 2, none⟩ = some (.int .i64 r.signs) := by rw [hgb7.cell, ← HGB.out.cell]; exact q2
                have HO8 : Hid ((((W7.setCell ⟨g, p * 3, none⟩ (.int .i64 r.frm)).setCell ⟨g, p * 3 + 1, none⟩ (.int .i64 ((i : Int) + 1))).setCell ⟨g, p * 3 + 2, none⟩ (.int .i64 r.signs)).ownsRow w1.heap.size 69 3 (.slice (some ⟨g, 0, none⟩) (p + 1) c') (p + 1) ((rdsTo (fun t => firstD sn (rAtD l (kf : Nat) t)) (i + 1)).flatMap cellsRdL)) := Lib.hid (by
                  rw [HSK.out, ← HH2.out]
                  exact own_set3 HO7.out HPL.out r.frm (i + 1) r.signs)
                have HG8 : Hid (Grow w1 (((W7.setCell ⟨g, p * 3, none⟩ (.int .i64 r.frm)).setCell ⟨g, p * 3 + 1, none⟩ (.int .i64 ((i : Int) + 1))).setCell ⟨g, p * 3 + 2, none⟩ (.int .i64 r.signs))) := Lib.hid (((HG7.out.setC (p := ⟨g, p * 3, none⟩) hgl _).setCell (p := ⟨g, p * 3 + 1, none⟩) hgl _).setCell (p := ⟨g, p * 3 + 2, none⟩) hgl _)
                have HNN : Hid (p + 1 = (rdsTo (fun t => firstD sn (rAtD l (kf : Nat) t)) (i + 1)).length) := Lib.hid (by rw [HSK.out, List.length_append, HPL.out]; rfl)
                clear hb6 hb7 hgb7 hg6 hW7 hrf
                go_wp2
                go_roundw
                case rel => exact ⟨i + 1, p + 1, some ⟨g, 0, none⟩, c', HLT.out, by go_num, rfl, HNN.out, by omega, HO8.out, HG8.out⟩
                case measure => have := HLT.out; simp [intOf]; omega
              · have e2 : decide (r.signs = (ss : Int)) = false := decide_eq_false h2
                have e2b : (r.signs == (ss : Int)) = false := by simpa using h2
                by_cases hs0 : ss = 0
                · subst hs0
                  have HSK : Hid (rdsTo (fun t => firstD sn (rAtD l (kf : Nat) t)) (i + 1) = rs' ++ [r]) := Lib.hid (by rw [HSS.out]; exact rdStep_zero)
                  go_wp2
                  go_roundw
                  case rel => exact ⟨i + 1, p + 1, some ⟨g, 0, none⟩, c', HLT.out, by go_num, rfl, by rw [HSK.out]; exact HN.out, by omega, by rw [HSK.out]; exact HO5.out, HG5W.out⟩
                  case measure => have := HLT.out; simp [intOf]; omega
                · have hsz0 : (ss : Int) ≠ 0 := by omega
                  have d0n : decide (ss = 0) = false := decide_eq_false hs0
                  have d0b : ((ss : Int) != 0) = true := by rw [bne_iff_ne]; exact hsz0
                  have d0 : decide ((ss : Int) = 0) = false := decide_eq_false hsz0
                  have HSK : Hid (rdsTo (fun t => firstD sn (rAtD l (kf : Nat) t)) (i + 1) = rs' ++ [r] ++ [⟨i, i + 1, ss⟩]) := Lib.hid (by rw [HSS.out]; exact rdStep_new hsz0 (fun h => h2 h.2))
                  clear hs0
                  have HOA := Lib.hid (own_grow HO5.out (Grow.alloc w5 (.cells #[.int .i64 (i : Nat), .int .i64 ((i : Int) + 1), .int .i64 (ss : Nat)] 69)))
                  go_wp2_with (at_builtin; go_loud (refine wpList_append_own _ rfl _ _ 35 rfl w1.heap.size 69 j0 (.agg #[.int .i64 0, .int .i64 0, .int .i64 0]) 3 24 Try.underlying35 hj hy0 hy1 hy2 rfl (by omega) _ (p + 1) ((rs' ++ [r]).flatMap cellsRdL) rfl ?d0 ⟨w5.heap.size, 0, none⟩ 1 1 (cellsRdL ⟨i, i + 1, ss⟩) rfl rfl ?d1 ?d2 ?d3 ?d4 ?d5 ?_))
                  case d0 => exact HOA.out
                  case d1 =>
                    intro q u hu
                    have h1 := (BlockIs.new w5 69 #[.int .i64 (i : Nat), .int .i64 ((i : Int) + 1), .int .i64 (ss : Nat)]).cell q
                    rw [show (⟨w5.heap.size, 0, none⟩ : Addr).add q = ⟨w5.heap.size, q, none⟩ by (simp [Addr.add]; try omega), h1]
                    exact Array.getElem?_toList.symm.trans hu
                  case d2 => exact one_rd _
                  case d3 => unfold maxLen; omega
                  case d4 => omega
                  case d5 => have h1 := HG5W.out.size; simp; omega
                  intro v' wq hown hgr _
                  obtain ⟨Aw, cw, rfl⟩ := own_form hown
                  have HGQ : Hid (Grow w1 wq) := Lib.hid (below_grown (HG5W.out.trans (Grow.alloc _ _)) HOA.out hgr (by have h1 := HG5W.out.size; simp; omega))
                  have HO6 : Hid (wq.ownsRow w1.heap.size 69 3 (.slice Aw ((p + 1) + 1) cw) ((p + 1) + 1) ((rdsTo (fun t => firstD sn (rAtD l (kf : Nat) t)) (i + 1)).flatMap cellsRdL)) := Lib.hid (by
                    rw [HSK.out, List.flatMap_append]
                    simpa using hown)
                  have HNN : Hid ((p + 1) + 1 = (rdsTo (fun t => firstD sn (rAtD l (kf : Nat) t)) (i + 1)).length) := Lib.hid (by rw [HSK.out, List.length_append, List.length_append, HPL.out]; rfl)
                  clear hown hgr HOA
                  go_wp2
                  go_roundw
                  case rel => exact ⟨i + 1, (p + 1) + 1, Aw, cw, HLT.out, by go_num, rfl, HNN.out, by omega, HO6.out, HGQ.out⟩
                  case measure => have := HLT.out; simp [intOf]; omega
            · have e1 : decide (r.till = (i : Int)) = false := decide_eq_false h1
              have e1b : (r.till == (i : Int)) = false := by simpa using h1
              by_cases hs0 : ss = 0
              · subst hs0
                have HSK : Hid (rdsTo (fun t => firstD sn (rAtD l (kf : Nat) t)) (i + 1) = rs' ++ [r]) := Lib.hid (by rw [HSS.out]; exact rdStep_zero)
                go_wp2
                go_roundw
                case rel => exact ⟨i + 1, p + 1, some ⟨g, 0, none⟩, c', HLT.out, by go_num, rfl, by rw [HSK.out]; exact HN.out, by omega, by rw [HSK.out]; exact HO5.out, HG5W.out⟩
                case measure => have := HLT.out; simp [intOf]; omega
              · have hsz0 : (ss : Int) ≠ 0 := by omega
                have d0n : decide (ss = 0) = false := decide_eq_false hs0
                have d0b : ((ss : Int) != 0) = true := by rw [bne_iff_ne]; exact hsz0
                have d0 : decide ((ss : Int) = 0) = false := decide_eq_false hsz0
                have HSK : Hid (rdsTo (fun t => firstD sn (rAtD l (kf : Nat) t)) (i + 1) = rs' ++ [r] ++ [⟨i, i + 1, ss⟩]) := Lib.hid (by rw [HSS.out]; exact rdStep_new hsz0 (fun h => h1 h.1))
                clear hs0
                have HOA := Lib.hid (own_grow HO5.out (Grow.alloc w5 (.cells #[.int .i64 (i : Nat), .int .i64 ((i : Int) + 1), .int .i64 (ss : Nat)] 69)))
                go_wp2_with (at_builtin; go_loud (refine wpList_append_own _ rfl _ _ 35 rfl w1.heap.size 69 j0 (.agg #[.int .i64 0, .int .i64 0, .int .i64 0]) 3 24 Try.underlying35 hj hy0 hy1 hy2 rfl (by omega) _ (p + 1) ((rs' ++ [r]).flatMap cellsRdL) rfl ?d0 ⟨w5.heap.size, 0, none⟩ 1 1 (cellsRdL ⟨i, i + 1, ss⟩) rfl rfl ?d1 ?d2 ?d3 ?d4 ?d5 ?_))
                case d0 => exact HOA.out
                case d1 =>
                  intro q u hu
                  have h1 := (BlockIs.new w5 69 #[.int .i64 (i : Nat), .int .i64 ((i : Int) + 1), .int .i64 (ss : Nat)]).cell q
                  rw [show (⟨w5.heap.size, 0, none⟩ : Addr).add q = ⟨w5.heap.size, q, none⟩ by (simp [Addr.add]; try omega), h1]
                  exact Array.getElem?_toList.symm.trans hu
                case d2 => exact one_rd _
                case d3 => unfold maxLen; omega
                case d4 => omega
                case d5 => have h1 := HG5W.out.size; simp; omega
                intro v' wq hown hgr _
                obtain ⟨Aw, cw, rfl⟩ := own_form hown
                have HGQ : Hid (Grow w1 wq) := Lib.hid (below_grown (HG5W.out.trans (Grow.alloc _ _)) HOA.out hgr (by have h1 := HG5W.out.size; simp; omega))
                have HO6 : Hid (wq.ownsRow w1.heap.size 69 3 (.slice Aw ((p + 1) + 1) cw) ((p + 1) + 1) ((rdsTo (fun t => firstD sn (rAtD l (kf : Nat) t)) (i + 1)).flatMap cellsRdL)) := Lib.hid (by
                  rw [HSK.out, List.flatMap_append]
                  simpa using hown)
                have HNN : Hid ((p + 1) + 1 = (rdsTo (fun t => firstD sn (rAtD l (kf : Nat) t)) (i + 1)).length) := Lib.hid (by rw [HSK.out, List.length_append, List.length_append, HPL.out]; rfl)
                clear hown hgr HOA
                go_wp2
                go_roundw
                case rel => exact ⟨i + 1, (p + 1) + 1, Aw, cw, HLT.out, by go_num, rfl, HNN.out, by omega, HO6.out, HGQ.out⟩
                case measure => have := HLT.out; simp [intOf]; omega
      · obtain rfl : i = fr := by omega
        have hld : decide ((i : Int) < (i : Int)) = false := by simp
        have hldn : decide (i < i) = false := by simp
        have HRT : Hid (RdT wr w.heap.size A' c' (rdsTo (fun t => firstD sn (rAtD l (kf : Nat) t)) i)) := Lib.hid (by
          unfold RdT
          rw [← HN.out]
          exact own_mono HOW.out HG1.out.size)
        have HEQ : Hid (rdsTo (setAt f.d.signs.toNat ((sortU l).filter (holdsD (sortU l))) (kf : Nat)) (frameOf f.d (kf : Nat)).toNat = rdsTo (fun t => firstD sn (rAtD l (kf : Nat) t)) i) := Lib.hid (by
          rw [HFN.out]
          exact rdsTo_alike fun k _ => (HSET.out k).symm)
        have HVV : Hid (ReadingsV f.d l (kf : Nat) w.heap.size (.slice A' n c') 0 wr) := Lib.hid ⟨fun h => absurd rfl h, fun _ => ⟨A', c', sortU l, by rw [HEQ.out, ← HN.out], HSO.out, by rw [HEQ.out]; exact HRT.out⟩⟩
        clear hlt
        go_wp2
        exact bodyPost_ret (results_pair67 Try.results37 _ _ _ _ rfl rfl) rfl ⟨.slice A' n c', rfl, HVV.out, HG1.out.trans HGR.out⟩
  · have hne : decide (fe = 0) = false := decide_eq_false h0
    have hnec : (fe != 0) = true := by simpa using h0
    have HNE := Lib.hid h0
    clear h0
    go_wp2
    exact bodyPost_ret (results_pair67 Try.results37 _ _ _ _ rfl rfl) rfl ⟨.slice none 0 0, rfl, ⟨fun _ => rfl, fun h => absurd h HNE.out⟩, HG1.out⟩

end Go.Proofs.Ytinlojealfbbfaa
