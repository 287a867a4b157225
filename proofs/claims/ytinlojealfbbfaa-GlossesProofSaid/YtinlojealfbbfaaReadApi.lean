/- ReadApi: glosses.Readings. -/
import Derived.Test.YtinlojealfbbfaaRds
namespace Go.Proofs.Ytinlojealfbbfaa
open Go.RowKit

def IsAtV (lo : Nat) (l : List GlossD) (v : Value) (w : World) : Prop := ∃ A c, v = .slice A l.length c ∧ GlossT w lo A c l
theorem IsAtV.grow {lo : Nat} {l : List GlossD} {v : Value} {w w' : World} (h : IsAtV lo l v w) (g : Grow w w') : IsAtV lo l v w' := by
  obtain ⟨A, c, e, h⟩ := h
  exact ⟨A, c, e, GlossT.grow h g⟩
def IsSets (S : List Nat) (v : Value) (w : World) : Prop := ∃ A c, v = .slice A S.length c ∧ Ints w w.heap.size A (natsL S)
theorem IsSets.grow {S : List Nat} {v : Value} {w w' : World} (h : IsSets S v w) (g : Grow w w') : IsSets S v w' := by
  obtain ⟨A, c, e, h⟩ := h
  exact ⟨A, c, e, (h.below g).more g.size⟩
def IsSpot (s : Int) (v : Value) (w : World) : Prop := ∃ b off, v = .pointer (some ⟨b, off, none⟩) ∧ w.cell? ⟨b, off, none⟩ = some (.int .i64 s)
theorem IsSpot.grow {s : Int} {v : Value} {w w' : World} (h : IsSpot s v w) (g : Grow w w') : IsSpot s v w' := by
  obtain ⟨b, off, e, h⟩ := h
  exact ⟨b, off, e, Grow.cell g h⟩
/-- what Readings answers -/
def ReadingsV (f : FilmsD) (l : List GlossD) (film : Int) (lo : Nat) (v : Value) (er : Int) (w : World) : Prop :=
  (er ≠ 0 → v = .slice none 0 0) ∧ (er = 0 → ∃ A c all, v = .slice A (rdsTo (setAt f.signs.toNat (all.filter (holdsD all)) film) (frameOf f film).toNat).length c ∧ SortedG l all ∧ RdT w lo A c (rdsTo (setAt f.signs.toNat (all.filter (holdsD all)) film) (frameOf f film).toNat))

set_option maxRecDepth 100000 in
set_option maxHeartbeats 16000000 in
theorem readingsApi_any (HSORT : SortGOK) (f : FilmsR) (l : List GlossD) (A : Option Addr) (c : Nat) (film : Int) (n : Nat) (w : World) (hf : Ints w n f.A f.d.frames) (hA : GlossAt w n A l) (hn : n ≤ w.heap.size) (hfl : f.d.frames.length ≤ 1000000) (hl : l.length ≤ 1000) :
    Calls Try.prog 17 #[filmsV f, .slice A l.length c, .int .i64 film] w fun e w' => ∃ v, e = .returned (.tuple #[v, .int .i64 (filmErr f.d l film)]) ∧ ReadingsV f.d l film w.heap.size v (filmErr f.d l film) w' ∧ Below w.heap.size w w' := by
  obtain ⟨j0, hj, hy0, hy1, hy2⟩ := info_parts Try.infoRd
  have HI := Lib.hid (hf.more hn)
  have HRD := Lib.hid (fun (g : Nat) (w0 : World) (hw : Grow w w0) (hb : BlockIs w0 g 25 #[.slice A l.length c]) => read1_any HSORT f l A c g w.heap.size w0 ((hf.more hn).below hw) ((hA.more hn).below hw) hw.size hb hfl hl)
  obtain ⟨er, her⟩ : ∃ q, readErr f.d [l] = q := ⟨_, rfl⟩
  rw [her] at HRD
  have HER := Lib.hid her
  clear her
  have HFF := Lib.hid (fun (m h : RowG) (w0 : World) => hasFilm_any f m h film w0 hfl)
  obtain ⟨fe, hfe⟩ : ∃ q, filmErr f.d l film = q := ⟨_, rfl⟩
  have HFE := Lib.hid hfe
  rw [hfe]
  clear hfe hf hA hn
  go_enter Try.func17, Try.ntmps17
  go_upto_region 1 with fail
  obtain ⟨W, hW, hg, hf, hsz⟩ := one_block w 24 (cellsF f)
  rw [hW]
  clear hW
  have hcc := hf.cell
  have HG := Lib.hid hg
  clear hf hg
  have HRX := Lib.hid (HRD.out W.heap.size (W.alloc (.cells #[.slice A l.length c] 25)) (HG.out.trans (Grow.alloc _ _)) (BlockIs.new _ _ _))
  clear HRD
  go_wp2_with fail
  refine HRX.out.mono ?_
  rintro e w2 ⟨v, rfl, hrv, hb2⟩
  have HG2 : Hid (Grow W w2) := Lib.hid ((Grow.alloc _ _).trans hb2)
  have HWZ : Hid (w.heap.size ≤ (W.alloc (.cells #[.slice A l.length c] 25)).heap.size) := Lib.hid (HG.out.trans (Grow.alloc _ _)).size
  generalize (W.alloc (.cells #[.slice A l.length c] 25)).heap.size = lo at HWZ hrv
  clear hcc hb2 HRX
  by_cases h0 : er = 0
  · subst h0
    obtain ⟨Am, cm, Ah, ch, all, rfl, hso, _, hgh⟩ := hrv.2 rfl
    obtain ⟨hok, hokl, hl40, hncl⟩ := readErr_zero HER.out
    have HHF := Lib.hid (held_facts HER.out hso)
    have HSO := Lib.hid hso
    have hllen : (all.filter (holdsD all)).length ≤ 1000 := Nat.le_trans (List.length_filter_le _ _) (by
      have h1 : all.Nodup := hso.1.imp (fun {a b} h e => by subst e; rw [cmp_cmpG.self] at h; omega)
      have h2 := nodup_len h1 (fun x hx => (hso.2 x).1 hx)
      omega)
    obtain ⟨hl, hhl⟩ : ∃ q, all.filter (holdsD all) = q := ⟨_, rfl⟩
    have HHL := Lib.hid hhl
    rw [hhl] at hgh HHF hllen
    have HGH := Lib.hid hgh
    have hsg := (okFilms_parts hok).2.1
    obtain ⟨sn, hsn⟩ := Int.eq_ofNat_of_zero_le (show 0 ≤ f.d.signs by omega)
    have HSN := Lib.hid hsn
    have HOK := Lib.hid hok
    have h10 : sn ≤ 10 := by omega
    have HST : Hid (f.d.signs.toNat = sn) := Lib.hid (by rw [hsn]; rfl)
    have HFM := Lib.hid (fun (h0 : 0 ≤ film) (h1 : film ≤ f.d.frames.length - 1) => frameOf_at hok h0 h1)
    obtain ⟨hn9, hhn9⟩ : ∃ q, hl.length = q := ⟨_, rfl⟩
    have HHN := Lib.hid hhn9
    rw [HHL.out, hhn9]
    rw [hhn9] at hllen
    obtain ⟨an9, han9⟩ : ∃ q, all.length = q := ⟨_, rfl⟩
    rw [han9]
    clear hrv hso hgh hok hokl hl40 hncl hhl hsg hsn hhn9 han9
    go_upto_region 2 with fail
    obtain ⟨W3, hW3, hg3, hf3, hsz3⟩ := one_block w2 71 (cellsN f ⟨Am, an9, cm⟩ ⟨Ah, hn9, ch⟩)
    rw [hW3]
    clear hW3
    obtain ⟨b8, e8⟩ : ∃ q, w2.heap.size = q := ⟨_, rfl⟩
    rw [e8] at hf3 hsz3 ⊢
    have HG3 : Hid (Grow W W3) := Lib.hid (HG2.out.trans hg3)
    have HN3 := Lib.hid hf3
    have HH3 := Lib.hid (HGH.out.grow hg3)
    have hnc := hf3.cell
    clear hg3 hf3 e8 HGH
    go_upto_region 4 with fail
    go_wp2_with fail
    refine (HFF.out ⟨Am, an9, cm⟩ ⟨Ah, hn9, ch⟩ _).mono ?_
    rintro e w4 ⟨rfl, hb4⟩
    have HG4 : Hid (Grow W3 w4) := hb4
    clear hnc hb4
    obtain ⟨ib, hib⟩ : ∃ q, inB film 0 (f.d.frames.length - 1) = q := ⟨_, rfl⟩
    have HIB := Lib.hid hib
    rw [hib]
    clear hib
    cases ib with
    | false =>
      have HE : Hid (fe = 1) := Lib.hid (by rw [← HFE.out]; unfold filmErr; rw [if_pos HER.out, HIB.out]; rfl)
      go_wp2
      exact bodyPost_ret (results_pair67 Try.results17 _ _ _ _ rfl rfl) rfl ⟨.slice none 0 0, congrArg (fun q => Ending.returned (Value.tuple #[.slice none 0 0, .int .i64 q])) HE.out.symm, ⟨fun _ => rfl, fun h => absurd (HE.out.symm.trans h) (by decide)⟩, HG.out.trans (HG3.out.trans HG4.out)⟩
    | true =>
      have HE : Hid (fe = 0) := Lib.hid (by rw [← HFE.out]; unfold filmErr; rw [if_pos HER.out, HIB.out]; rfl)
      have hfi := inB_iff.1 HIB.out
      obtain ⟨k, rfl⟩ := Int.eq_ofNat_of_zero_le hfi.1
      have hfx := HFM.out (by omega) hfi.2
      rw [Int.toNat_natCast] at hfx
      have hkl : k < f.d.frames.length := lt_of_at hfx.1
      obtain ⟨bf, off, x, hAe, hbf, hxc, HX⟩ := (HI.out.below (HG.out.trans (HG3.out.trans HG4.out))).at_ hkl
      have hxe : frameOf f.d k = x := by
        have h1 := HX.out
        rw [hfx.1] at h1
        exact Option.some.inj h1
      rw [hxe] at hfx
      obtain ⟨fr, rfl⟩ := Int.eq_ofNat_of_zero_le (show 0 ≤ x by omega)
      have hfr9 : fr ≤ 200 := by omega
      have HFO : Hid ((frameOf f.d k).toNat = fr) := Lib.hid (by rw [hxe]; rfl)
      have hki : (k : Int) < (f.d.frames.length : Int) := by omega
      have hk0 : (0 : Int) ≤ (k : Int) := by omega
      have HNE := Lib.hid (fun (frame : Int) => readD_ne (n := sn) (l := hl.filter (inD k frame)) h10 (fun y hy => by have h := (HHF.out y (List.mem_filter.1 hy).1).2; rw [HST.out] at h; exact h))
      have HSG := Lib.hid (fun (frame : Int) => fun (x : GlossD) (hx : x ∈ hl.filter (inD k frame)) => (HHF.out x (List.mem_filter.1 hx).1).1)
      have HAT := Lib.hid (fun (frame : Int) (w0 : World) (hw : Grow W3 w0) => at_any f ⟨Am, an9, cm⟩ ⟨Ah, hn9, ch⟩ hl k frame w0.heap.size w0 (GlossT.at_ (HH3.out.grow hw)) (Nat.le_refl _) HHN.out.symm (by rw [HHN.out]; exact hllen))
      have HRD := Lib.hid (fun (frame : Int) (A' : Option Addr) (c' lo' : Nat) (w0 : World) (ht : GlossT w0 lo' A' c' (hl.filter (inD k frame))) => readings_any f ⟨Am, an9, cm⟩ ⟨Ah, hn9, ch⟩ (hl.filter (inD k frame)) A' c' w0.heap.size w0 ht.at_ (Nat.le_refl _) (Nat.le_trans (List.length_filter_le _ _) (by rw [HHN.out]; exact hllen)) (HSG.out frame) sn HSN.out h10)
      have hnc : w4.cell? ⟨b8, 0, none⟩ = some (.slice (some ⟨bf, off, none⟩) f.d.frames.length f.ca) := by rw [← hAe]; exact (HG4.out.block HN3.out).cell 0
      clear hfx hbf hxe
      go_upto_region 8 with fail
      clear hnc hxc
      go_wp2_with fail
      go_loopw [10, 34] (fun v iv wr => ∃ (i n : Nat) (A' : Option Addr) (c' : Nat), i ≤ fr ∧ iv = .int .i64 i ∧ v = .slice A' n c' ∧ Hid (n = (rdsTo (setAt sn hl k) i).length) ∧ n ≤ i ∧ wr.ownsRow W3.heap.size 69 3 (.slice A' n c') n ((rdsTo (setAt sn hl k) i).flatMap cellsRdL) ∧ Below W3.heap.size W3 wr) (fun _ v _ => fr - (intOf v).toNat)
      case atStart => exact ⟨0, 0, none, 0, Nat.zero_le _, rfl, rfl, rfl, Nat.le_refl _, ⟨rfl, .inl ⟨rfl, rfl⟩⟩, HG4.out⟩
      case round =>
        obtain ⟨i, n, A', c', hi', rfl, rfl, HN, hni, hown, hgr⟩ := hrel
        rename World => wr
        have HOW := Lib.hid hown
        have HGR : Hid (Grow W3 wr) := Lib.hid hgr
        clear hown hgr
        by_cases hlt : i < fr
        · have hld : decide ((i : Int) < (fr : Int)) = true := decide_eq_true (by omega)
          have hldn : decide (i < fr) = true := decide_eq_true hlt
          have HLT := Lib.hid hlt
          have HSS : Hid (rdsTo (setAt sn hl k) (i + 1) = rdStep (rdsTo (setAt sn hl k) i) i (setAt sn hl k i)) := rfl
          have HFS := Lib.hid (firstD_at (HNE.out i))
          have hsl : 0 < (readD sn (hl.filter (inD k i))).length := List.length_pos_iff.2 (HNE.out i)
          obtain ⟨ss, hss⟩ : ∃ q, setAt sn hl k i = q := ⟨_, rfl⟩
          rw [show firstD sn (hl.filter (inD k i)) = ss from hss] at HFS
          rw [hss] at HSS
          obtain ⟨rs, hrs⟩ : ∃ q, rdsTo (setAt sn hl k) i = q := ⟨_, rfl⟩
          rw [hrs] at HSS HN HOW
          have HATi := Lib.hid (HAT.out (i : Int))
          have HRDi := Lib.hid (HRD.out (i : Int))
          obtain ⟨fl, hfl2⟩ : ∃ q, hl.filter (inD k i) = q := ⟨_, rfl⟩
          rw [hfl2] at HATi HRDi HFS hsl
          obtain ⟨S, hS⟩ : ∃ q, readD sn fl = q := ⟨_, rfl⟩
          rw [hS] at HRDi HFS hsl
          clear hss hrs hfl2 hS hlt
          go_upto_region 10 with fail
          refine wp_region_lit 8 [[], [], [], [], [(1, 38), (2, 39), (3, 40)], [(0, 37), (4, 41)], [(5, 42)], [(6, 43)]] Grow (fun qi v w' => match qi with
              | 0 => v = notesV f ⟨Am, an9, cm⟩ ⟨Ah, hn9, ch⟩
              | 1 => v = notesV f ⟨Am, an9, cm⟩ ⟨Ah, hn9, ch⟩
              | 2 => v = .int .i64 (k : Nat)
              | 3 => v = .int .i64 (i : Nat)
              | 4 => IsAtV W3.heap.size fl v w'
              | 5 => IsSets S v w'
              | 6 => IsSpot ss v w'
              | 7 => v = .int .i64 (ss : Nat)
              | _ => False) (by kernel_rfl) (by kernel_rfl) (fun _ _ _ => Grow.trans) Grow.refl ?_ ?_ ?_
          · intro i v y y' h k
            match i, h with
            | 4, h => exact h.grow k
            | 5, h => exact h.grow k
            | 6, h => exact h.grow k
            | 0, h | 1, h | 2, h | 3, h | 7, h => exact h
          · simp only [StepsLit, List.take_succ_cons, List.take_zero]
            refine ⟨?_, ?_, ?_, ?_, ?_, ?_, ?_, ?_, trivial⟩
            · intro w5 hR
              have hGw : Grow wr w5 := hR.of_drew
              have HGW := Lib.hid hGw
              have hnc := ((HGR.out.trans HGW.out).block HN3.out).cell
              clear hR hGw
              simp only [depV]
              try go_simp
              all_goals first
                | (with_reducible exact Grow.refl _)
                | (with_reducible exact ⟨Grow.refl _, rfl⟩)
            · intro w5 hR
              have hGw : Grow wr w5 := hR.of_drew
              have HGW := Lib.hid hGw
              have hnc := ((HGR.out.trans HGW.out).block HN3.out).cell
              clear hR hGw
              simp only [depV]
              try go_simp
              all_goals first
                | (with_reducible exact Grow.refl _)
                | (with_reducible exact ⟨Grow.refl _, rfl⟩)
            · intro w5 hR
              have hGw : Grow wr w5 := hR.of_drew
              have HGW := Lib.hid hGw
              have hnc := ((HGR.out.trans HGW.out).block HN3.out).cell
              clear hR hGw
              simp only [depV]
              try go_simp
              all_goals first
                | (with_reducible exact Grow.refl _)
                | (with_reducible exact ⟨Grow.refl _, rfl⟩)
            · intro w5 hR
              have hGw : Grow wr w5 := hR.of_drew
              have HGW := Lib.hid hGw
              have hnc := ((HGR.out.trans HGW.out).block HN3.out).cell
              clear hR hGw
              simp only [depV]
              try go_simp
              all_goals first
                | (with_reducible exact Grow.refl _)
                | (with_reducible exact ⟨Grow.refl _, rfl⟩)
            · intro w5 hR
              have hGw : Grow wr w5 := hR.of_drew
              have HGW := Lib.hid hGw
              have hnc := ((HGR.out.trans HGW.out).block HN3.out).cell
              clear hR hGw
              simp only [depV]
              rintro _ rfl
              rintro _ rfl
              rintro _ rfl
              try go_simp
              refine (HATi.out w5 (HGR.out.trans HGW.out)).mono ?_
              rintro e w6 ⟨A6, c6, rfl, ht6, hb6⟩
              exact ⟨hb6, A6, c6, rfl, ht6.mono (HGR.out.trans HGW.out).size⟩
            · intro w5 hR
              have hGw : Grow wr w5 := hR.of_drew
              have HGW := Lib.hid hGw
              have hnc := ((HGR.out.trans HGW.out).block HN3.out).cell
              clear hR hGw
              simp only [depV]
              rintro _ rfl
              intro v4 hv4
              obtain ⟨A4, c4, rfl, ht4⟩ := hv4
              clear hnc
              try go_simp
              refine (HRDi.out A4 c4 _ w5 ht4).mono ?_
              rintro e w6 ⟨A6, c6, rfl, ho6, hb6⟩
              exact ⟨hb6, A6, c6, rfl, (own_ints ho6).1⟩
            · intro w5 hR
              have hGw : Grow wr w5 := hR.of_drew
              have HGW := Lib.hid hGw
              have hnc := ((HGR.out.trans HGW.out).block HN3.out).cell
              clear hR hGw
              simp only [depV]
              intro v5 hv5
              obtain ⟨A5, c5, rfl, hs5⟩ := hv5
              obtain ⟨b5, o5, y5, rfl, _, hy5, HY5⟩ := hs5.at_ (k := 0) (by rw [List.length_map]; exact hsl)
              have hys : y5 = (ss : Int) := by
                have h1 := HY5.out
                rw [List.getElem?_map, HFS.out] at h1
                exact (Option.some.inj h1).symm
              rw [hys] at hy5
              have hs0 : decide ((0 : Int) < (S.length : Int)) = true := decide_eq_true (by omega)
              have hs1 : (0 : Int) < (S.length : Int) := by omega
              clear hs5 HY5 hnc
              try go_simp
              exact ⟨Grow.refl _, b5, o5, rfl, by simpa using hy5⟩
            · intro w5 hR
              have hGw : Grow wr w5 := hR.of_drew
              have HGW := Lib.hid hGw
              have hnc := ((HGR.out.trans HGW.out).block HN3.out).cell
              clear hR hGw
              simp only [depV]
              intro v6 hv6
              obtain ⟨b6, o6, rfl, hc6⟩ := hv6
              clear hnc
              try go_simp
              all_goals first
                | (with_reducible exact Grow.refl _)
                | (with_reducible exact ⟨Grow.refl _, rfl⟩)
          · intro w5 hR
            have HG5 : Hid (Grow wr w5) := Lib.hid hR.of_drew
            clear hR
            simp only [finVC, List.take_succ_cons, List.take_zero, List.drop_succ_cons, List.drop_zero]
            rintro _ rfl
            rintro _ rfl
            rintro _ rfl
            rintro _ rfl
            intro v4 hv4
            intro v5 hv5
            intro v6 hv6
            rintro _ rfl
            simp only [Act.put, List.setIfInBounds_toArray, List.set_cons_succ, List.set_cons_zero]
            have HG5W : Hid (Grow W3 w5) := Lib.hid (HGR.out.trans HG5.out)
            have HO5 := Lib.hid (own_grow HOW.out HG5.out)
            clear hv4 hv5 hv6
            by_cases hs0 : ss = 0
            · subst hs0
              have HSK : Hid (rdsTo (setAt sn hl k) (i + 1) = rs) := Lib.hid (by rw [HSS.out]; exact rdStep_zero)
              go_wp2
              go_roundw
              case rel => exact ⟨i + 1, n, A', c', HLT.out, by go_num, rfl, by rw [HSK.out]; exact HN.out, by omega, by rw [HSK.out]; exact HO5.out, HG5W.out⟩
              case measure => have := HLT.out; simp [intOf]; omega
            · have hsz0 : (ss : Int) ≠ 0 := by omega
              have d0 : decide ((ss : Int) = 0) = false := decide_eq_false hsz0
              have d0n : decide (ss = 0) = false := decide_eq_false hs0
              have d0b : ((ss : Int) == 0) = false := by simpa using hs0
              rcases List.eq_nil_or_concat rs with e | ⟨rs', r, e⟩
              · subst e
                obtain rfl : n = 0 := HN.out
                have HSK : Hid (rdsTo (setAt sn hl k) (i + 1) = [⟨i, i + 1, ss⟩]) := Lib.hid (by rw [HSS.out]; exact rdStep_nil hsz0)
                clear hs0
                have HOA := Lib.hid (own_grow HO5.out (Grow.alloc w5 (.cells #[.int .i64 (i : Nat), .int .i64 ((i : Int) + 1), .int .i64 (ss : Nat)] 69)))
                go_wp2_with (at_builtin; go_loud (refine wpList_append_own _ rfl _ _ 35 rfl W3.heap.size 69 j0 (.agg #[.int .i64 0, .int .i64 0, .int .i64 0]) 3 24 Try.underlying35 hj hy0 hy1 hy2 rfl (by omega) _ 0 ([]) rfl ?d0 ⟨w5.heap.size, 0, none⟩ 1 1 (cellsRdL ⟨i, i + 1, ss⟩) rfl rfl ?d1 ?d2 ?d3 ?d4 ?d5 ?_))
                case d0 => exact HOA.out
                case d1 =>
                  intro q u hu
                  have h1 := (BlockIs.new w5 69 #[.int .i64 (i : Nat), .int .i64 ((i : Int) + 1), .int .i64 (ss : Nat)]).cell q
                  rw [show (⟨w5.heap.size, 0, none⟩ : Addr).add q = ⟨w5.heap.size, q, none⟩ by (simp [Addr.add]; try omega), h1]
                  exact Array.getElem?_toList.symm.trans hu
                case d2 => exact one_rd _
                case d3 => unfold maxLen; omega
                case d4 => omega
                case d5 => have h1 := HG5W.out.size; simp; omega
                intro v' wq hown hgr _
                obtain ⟨Aw, cw, rfl⟩ := own_form hown
                have hgq : Below W3.heap.size W3 wq := below_grown (HG5W.out.trans (Grow.alloc _ _)) HOA.out hgr (by have h1 := HG5W.out.size; simp; omega)
                have HGQ := Lib.hid hgq

                have HO6 : Hid (wq.ownsRow W3.heap.size 69 3 (.slice Aw 1 cw) 1 ((rdsTo (setAt sn hl k) (i + 1)).flatMap cellsRdL)) := Lib.hid (by
                  rw [HSK.out]
                  simpa using hown)
                clear hown hgr HOA hgq
                go_wp2
                go_roundw
                case rel => exact ⟨i + 1, 1, Aw, cw, HLT.out, by go_num, rfl, by rw [HSK.out]; rfl, by omega, HO6.out, HGQ.out⟩
                case measure => have := HLT.out; simp [intOf]; omega
              · rw [List.concat_eq_append] at e
                subst e
                obtain ⟨p, hp⟩ : ∃ q, rs'.length = q := ⟨_, rfl⟩
                have hnp : n = p + 1 := by have := HN.out; rw [List.length_append, hp] at this; exact this
                subst hnp
                have HPL := Lib.hid hp
                have hrp : (rs' ++ [r])[p]? = some r := by rw [← hp]; simp
                obtain ⟨g, cs, hAe2, hgl, hgb, hgc⟩ := own_rdAt HO5.out HN.out hrp
                subst hAe2
                have q0 := hgc 0 (by omega); have q1 := hgc 1 (by omega); have q2 := hgc 2 (by omega)
                rw [Nat.add_zero] at q0
                have hpi : (p : Int) < (((p + 1 : Nat) : Int)) := by omega
                have hp0 : (0 : Int) ≤ (p : Int) := by omega
                have hpz : decide ((0 : Int) ≤ (p : Int)) = true := decide_eq_true hp0
                have hps : (((p + 1 : Nat) : Int)) - 1 = (p : Int) := by omega
                have hgf := hgb.frozen
                have HGB := Lib.hid hgb
                clear hgc hrp hp hgb hs0
                by_cases h1 : r.till = (i : Int)
                · have e1 : decide (r.till = (i : Int)) = true := decide_eq_true h1
                  have e1b : (r.till == (i : Int)) = true := by simpa using h1
                  by_cases h2 : r.signs = (ss : Int)
                  · have e2 : decide (r.signs = (ss : Int)) = true := decide_eq_true h2
                    have e2b : (r.signs == (ss : Int)) = true := by simpa using h2
                    have HSK : Hid (rdsTo (setAt sn hl k) (i + 1) = rs' ++ [⟨r.frm, i + 1, ss⟩]) := Lib.hid (by rw [HSS.out]; exact rdStep_join hsz0 h1 h2)
                    have hst := own_set HO5.out (p := p * 3 + 1) (by rw [flat_length (enc := cellsRdL) (k := 3) (fun _ => rfl), List.length_append, HPL.out]; simp; omega) (.int .i64 ((i : Int) + 1))
                    have HO6 : Hid ((w5.setCell ⟨g, p * 3 + 1, none⟩ (.int .i64 ((i : Int) + 1))).ownsRow W3.heap.size 69 3 (.slice (some ⟨g, 0, none⟩) (p + 1) c') (p + 1) ((rdsTo (setAt sn hl k) (i + 1)).flatMap cellsRdL)) := Lib.hid (by
                      rw [HSK.out]
                      have e : ((rs' ++ [r]).flatMap cellsRdL).set (p * 3 + 1) (.int .i64 ((i : Int) + 1)) = (rs' ++ [(⟨r.frm, i + 1, ss⟩ : RdD)]).flatMap cellsRdL := by
                        rw [List.flatMap_append, List.flatMap_append]
                        have hl3 : (rs'.flatMap cellsRdL).length = p * 3 := by rw [flat_length (enc := cellsRdL) (k := 3) (fun _ => rfl), HPL.out]
                        rw [List.set_append_right _ _ (by omega), hl3, show p * 3 + 1 - p * 3 = 1 by omega]
                        simp [cellsRdL, h2]
                      rw [← e]
                      exact hst)
                    have HGS : Hid (Below W3.heap.size W3 (w5.setCell ⟨g, p * 3 + 1, none⟩ (.int .i64 ((i : Int) + 1)))) := Lib.hid (Below.setCell (p := ⟨g, p * 3 + 1, none⟩) HG5W.out hgl _)
                    clear hst
                    replace q1 : w5.cell? ⟨g, p * 3 + 1, none⟩ = some (.int .i64 (i : Nat)) := by rw [← h1]; exact q1
                    replace q2 : w5.cell? ⟨g, p * 3 + 2, none⟩ = some (.int .i64 (ss : Nat)) := by rw [← h2]; exact q2
                    clear h1 h2 e1 e1b e2 e2b
                    go_wp2
                    go_roundw
                    case rel => exact ⟨i + 1, p + 1, some ⟨g, 0, none⟩, c', HLT.out, by go_num, rfl, by rw [HSK.out, List.length_append, HPL.out]; rfl, by omega, HO6.out, HGS.out⟩
                    case measure => have := HLT.out; simp [intOf]; omega
                  · have e2 : decide (r.signs = (ss : Int)) = false := decide_eq_false h2
                    have e2b : (r.signs == (ss : Int)) = false := by simpa using h2
                    have HSK : Hid (rdsTo (setAt sn hl k) (i + 1) = rs' ++ [r] ++ [⟨i, i + 1, ss⟩]) := Lib.hid (by rw [HSS.out]; exact rdStep_new hsz0 (fun h => h2 h.2))
                    clear h1 h2
                    have HOA := Lib.hid (own_grow HO5.out (Grow.alloc w5 (.cells #[.int .i64 (i : Nat), .int .i64 ((i : Int) + 1), .int .i64 (ss : Nat)] 69)))
                    go_wp2_with (at_builtin; go_loud (refine wpList_append_own _ rfl _ _ 35 rfl W3.heap.size 69 j0 (.agg #[.int .i64 0, .int .i64 0, .int .i64 0]) 3 24 Try.underlying35 hj hy0 hy1 hy2 rfl (by omega) _ (p + 1) ((rs' ++ [r]).flatMap cellsRdL) rfl ?d0 ⟨w5.heap.size, 0, none⟩ 1 1 (cellsRdL ⟨i, i + 1, ss⟩) rfl rfl ?d1 ?d2 ?d3 ?d4 ?d5 ?_))
                    case d0 => exact HOA.out
                    case d1 =>
                      intro q u hu
                      have h1 := (BlockIs.new w5 69 #[.int .i64 (i : Nat), .int .i64 ((i : Int) + 1), .int .i64 (ss : Nat)]).cell q
                      rw [show (⟨w5.heap.size, 0, none⟩ : Addr).add q = ⟨w5.heap.size, q, none⟩ by (simp [Addr.add]; try omega), h1]
                      exact Array.getElem?_toList.symm.trans hu
                    case d2 => exact one_rd _
                    case d3 => unfold maxLen; omega
                    case d4 => omega
                    case d5 => have h1 := HG5W.out.size; simp; omega
                    intro v' wq hown hgr _
                    obtain ⟨Aw, cw, rfl⟩ := own_form hown
                    have hgq : Below W3.heap.size W3 wq := below_grown (HG5W.out.trans (Grow.alloc _ _)) HOA.out hgr (by have h1 := HG5W.out.size; simp; omega)
                    have HGQ := Lib.hid hgq

                    have HO6 : Hid (wq.ownsRow W3.heap.size 69 3 (.slice Aw (p + 1 + 1) cw) (p + 1 + 1) ((rdsTo (setAt sn hl k) (i + 1)).flatMap cellsRdL)) := Lib.hid (by
                      rw [HSK.out, List.flatMap_append]
                      simpa using hown)
                    have HNN : Hid (p + 1 + 1 = (rdsTo (setAt sn hl k) (i + 1)).length) := Lib.hid (by rw [HSK.out, List.length_append, List.length_append, HPL.out]; rfl)
                    clear hown hgr HOA hgq
                    go_wp2
                    go_roundw
                    case rel => exact ⟨i + 1, p + 1 + 1, Aw, cw, HLT.out, by go_num, rfl, HNN.out, by omega, HO6.out, HGQ.out⟩
                    case measure => have := HLT.out; simp [intOf]; omega
                · have e1 : decide (r.till = (i : Int)) = false := decide_eq_false h1
                  have e1b : (r.till == (i : Int)) = false := by simpa using h1
                  have HSK : Hid (rdsTo (setAt sn hl k) (i + 1) = rs' ++ [r] ++ [⟨i, i + 1, ss⟩]) := Lib.hid (by rw [HSS.out]; exact rdStep_new hsz0 (fun h => h1 h.1))
                  clear h1
                  have HOA := Lib.hid (own_grow HO5.out (Grow.alloc w5 (.cells #[.int .i64 (i : Nat), .int .i64 ((i : Int) + 1), .int .i64 (ss : Nat)] 69)))
                  go_wp2_with (at_builtin; go_loud (refine wpList_append_own _ rfl _ _ 35 rfl W3.heap.size 69 j0 (.agg #[.int .i64 0, .int .i64 0, .int .i64 0]) 3 24 Try.underlying35 hj hy0 hy1 hy2 rfl (by omega) _ (p + 1) ((rs' ++ [r]).flatMap cellsRdL) rfl ?d0 ⟨w5.heap.size, 0, none⟩ 1 1 (cellsRdL ⟨i, i + 1, ss⟩) rfl rfl ?d1 ?d2 ?d3 ?d4 ?d5 ?_))
                  case d0 => exact HOA.out
                  case d1 =>
                    intro q u hu
                    have h1 := (BlockIs.new w5 69 #[.int .i64 (i : Nat), .int .i64 ((i : Int) + 1), .int .i64 (ss : Nat)]).cell q
                    rw [show (⟨w5.heap.size, 0, none⟩ : Addr).add q = ⟨w5.heap.size, q, none⟩ by (simp [Addr.add]; try omega), h1]
                    exact Array.getElem?_toList.symm.trans hu
                  case d2 => exact one_rd _
                  case d3 => unfold maxLen; omega
                  case d4 => omega
                  case d5 => have h1 := HG5W.out.size; simp; omega
                  intro v' wq hown hgr _
                  obtain ⟨Aw, cw, rfl⟩ := own_form hown
                  have hgq : Below W3.heap.size W3 wq := below_grown (HG5W.out.trans (Grow.alloc _ _)) HOA.out hgr (by have h1 := HG5W.out.size; simp; omega)
                  have HGQ := Lib.hid hgq

                  have HO6 : Hid (wq.ownsRow W3.heap.size 69 3 (.slice Aw (p + 1 + 1) cw) (p + 1 + 1) ((rdsTo (setAt sn hl k) (i + 1)).flatMap cellsRdL)) := Lib.hid (by
                    rw [HSK.out, List.flatMap_append]
                    simpa using hown)
                  have HNN : Hid (p + 1 + 1 = (rdsTo (setAt sn hl k) (i + 1)).length) := Lib.hid (by rw [HSK.out, List.length_append, List.length_append, HPL.out]; rfl)
                  clear hown hgr HOA hgq
                  go_wp2
                  go_roundw
                  case rel => exact ⟨i + 1, p + 1 + 1, Aw, cw, HLT.out, by go_num, rfl, HNN.out, by omega, HO6.out, HGQ.out⟩
                  case measure => have := HLT.out; simp [intOf]; omega
        · obtain rfl : i = fr := by omega
          have hld : decide ((i : Int) < (i : Int)) = false := by simp
          have hldn : decide (i < i) = false := by simp
          have HRT : Hid (RdT wr w.heap.size A' c' (rdsTo (setAt sn hl k) i)) := Lib.hid (by
            unfold RdT
            rw [← HN.out]
            exact own_mono HOW.out (HG.out.trans HG3.out).size)
          have HVV : Hid (ReadingsV f.d l k w.heap.size (.slice A' n c') 0 wr) := Lib.hid ⟨fun h => absurd rfl h, fun _ => ⟨A', c', all, by rw [HST.out, HHL.out, HFO.out, ← HN.out], HSO.out, by rw [HST.out, HHL.out, HFO.out]; exact HRT.out⟩⟩
          clear hlt
          go_wp2
          exact bodyPost_ret (results_pair67 Try.results17 _ _ _ _ rfl rfl) rfl ⟨.slice A' n c', congrArg (fun q => Ending.returned (Value.tuple #[.slice A' n c', .int .i64 q])) HE.out.symm, by rw [HE.out]; exact HVV.out, HG.out.trans (HG3.out.trans HGR.out)⟩
  · have hz := hrv.1 h0
    subst hz
    have hne : decide (er = 0) = false := decide_eq_false h0
    have hneb : (er != 0) = true := by simpa using h0
    have HE : Hid (fe = er) := Lib.hid (by rw [← HFE.out]; unfold filmErr; rw [HER.out, if_neg h0])
    have HNZ := Lib.hid h0
    clear hrv h0
    go_upto_region 2 with fail
    obtain ⟨W3, hW3, hg3, hf3, hsz3⟩ := one_block w2 71 (zeroN)
    rw [hW3]
    clear hW3
    have HG3 : Hid (Grow W W3) := Lib.hid (HG2.out.trans hg3)
    clear hg3 hf3
    go_wp2
    exact bodyPost_ret (results_pair67 Try.results17 _ _ _ _ rfl rfl) rfl ⟨.slice none 0 0, congrArg (fun q => Ending.returned (Value.tuple #[.slice none 0 0, .int .i64 q])) HE.out.symm, ⟨fun _ => rfl, fun h => absurd (HE.out.symm.trans h) HNZ.out⟩, HG.out.trans HG3.out⟩

end Go.Proofs.Ytinlojealfbbfaa
