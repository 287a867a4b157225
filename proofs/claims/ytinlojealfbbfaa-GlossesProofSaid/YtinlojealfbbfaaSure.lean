/- Sure: glosses.Sure; written by wip/tools/sure02.py. -/
import Derived.Test.YtinlojealfbbfaaReadApi
import Derived.Test.YtinlojealfbbfaaAgreeApi
import Derived.Test.YtinlojealfbbfaaFrame
namespace Go.Proofs.Ytinlojealfbbfaa
open Go.RowKit

theorem or_i64 (a b : Nat) (ha : a < 9223372036854775808) (hb : b < 9223372036854775808) : bits .or .i64 (a : Int) (b : Int) = ((a ||| b : Nat) : Int) := by
  have h1 : a ||| b < 2 ^ 63 := Nat.or_lt_two_pow (by omega) (by omega)
  have e1 : ∀ n : Nat, n < 9223372036854775808 → (BitVec.ofInt 64 (n : Int)).toNat = n := fun n hn => by
    rw [BitVec.ofInt_natCast, BitVec.toNat_ofNat]
    exact Nat.mod_eq_of_lt (by omega)
  show IntKind.i64.wrap ((BitVec.ofInt 64 (a : Int) ||| BitVec.ofInt 64 (b : Int)).toNat : Int) = _
  rw [BitVec.toNat_or, e1 a ha, e1 b hb]
  exact IntWalk.i64_in _ (by omega)
def sureTo (S : List Nat) (k : Nat) : Nat := (S.take k).foldl (fun a s => a &&& s) (S.headD 0)
def mayTo (S : List Nat) (k : Nat) : Nat := (S.take k).foldl (fun a s => a ||| s) 0
theorem sets_succ {S : List Nat} {k s : Nat} (h : S[k]? = some s) : sureTo S (k + 1) = sureTo S k &&& s ∧ mayTo S (k + 1) = mayTo S k ||| s := by
  unfold sureTo mayTo
  rw [take_snoc h, List.foldl_append, List.foldl_append]
  exact ⟨rfl, rfl⟩
def sureD (S : List Nat) : Nat := sureTo S S.length
def mayD (S : List Nat) : Nat := mayTo S S.length
/-- what Sure answers -/
def SureV (f : FilmsD) (l : List GlossD) (film frame : Int) (m n er : Int) : Prop :=
  (er ≠ 0 → m = 0 ∧ n = 0) ∧ (er = 0 → ∃ all, SortedG l all ∧ m = (sureD (readD f.signs.toNat ((all.filter (holdsD all)).filter (inD film frame))) : Nat) ∧ n = (mayD (readD f.signs.toNat ((all.filter (holdsD all)).filter (inD film frame))) : Nat))

set_option maxRecDepth 100000 in
set_option maxHeartbeats 16000000 in
theorem sureApi_any (HSORT : SortGOK) (f : FilmsR) (l : List GlossD) (A : Option Addr) (c : Nat) (film frame : Int) (n : Nat) (w : World) (hf : Ints w n f.A f.d.frames) (hA : GlossAt w n A l) (hn : n ≤ w.heap.size) (hfl : f.d.frames.length ≤ 1000000) (hl : l.length ≤ 1000) :
    Calls Try.prog 21 #[filmsV f, .slice A l.length c, .int .i64 film, .int .i64 frame] w fun e w' => ∃ m n, e = .returned (.tuple #[.int .i64 m, .int .i64 n, .int .i64 (frameErr f.d l film frame)]) ∧ SureV f.d l film frame m n (frameErr f.d l film frame) ∧ Below w.heap.size w w' := by
  have HI := Lib.hid (hf.more hn)
  have HRD := Lib.hid (fun (g : Nat) (w0 : World) (hw : Grow w w0) (hb : BlockIs w0 g 25 #[.slice A l.length c]) => read1_any HSORT f l A c g w.heap.size w0 ((hf.more hn).below hw) ((hA.more hn).below hw) hw.size hb hfl hl)
  obtain ⟨er, her⟩ : ∃ q, readErr f.d [l] = q := ⟨_, rfl⟩
  rw [her] at HRD
  have HER := Lib.hid her
  clear her
  have HFF := Lib.hid (fun (hok : okFilms f.d = true) (m h : RowG) (w0 : World) (hw : Grow w w0) => hasFrame_any f m h film frame w0.heap.size w0 (((hf.more hn).below hw).more hw.size) (Nat.le_refl _) hok)
  obtain ⟨fe, hfe⟩ : ∃ q, frameErr f.d l film frame = q := ⟨_, rfl⟩
  have HFE := Lib.hid hfe
  rw [hfe]
  clear hfe hf hA hn
  go_enter Try.func21, Try.ntmps21
  go_upto_region 1 with fail
  obtain ⟨W, hW, hg, hf, hsz⟩ := one_block w 24 (cellsF f)
  rw [hW]
  clear hW
  have hcc := hf.cell
  have HG := Lib.hid hg
  clear hf hg
  have HRX := Lib.hid (HRD.out W.heap.size (W.alloc (.cells #[.slice A l.length c] 25)) (HG.out.trans (Grow.alloc _ _)) (BlockIs.new _ _ _))
  clear HRD
  go_wp2_with fail
  refine HRX.out.mono ?_
  rintro e w2 ⟨v, rfl, hrv, hb2⟩
  have HG2 : Hid (Grow W w2) := Lib.hid ((Grow.alloc _ _).trans hb2)
  have HWZ : Hid (w.heap.size ≤ (W.alloc (.cells #[.slice A l.length c] 25)).heap.size) := Lib.hid (HG.out.trans (Grow.alloc _ _)).size
  generalize (W.alloc (.cells #[.slice A l.length c] 25)).heap.size = lo at HWZ hrv
  clear hcc hb2 HRX
  by_cases h0 : er = 0
  · subst h0
    obtain ⟨Am, cm, Ah, ch, all9, rfl, hso, _, hgh⟩ := hrv.2 rfl
    obtain ⟨hok, hokl, hl40, hncl⟩ := readErr_zero HER.out
    have HHF := Lib.hid (held_facts HER.out hso)
    have HSO := Lib.hid hso
    have hllen : (all9.filter (holdsD all9)).length ≤ 1000 := Nat.le_trans (List.length_filter_le _ _) (by
      have h1 : all9.Nodup := hso.1.imp (fun {a b} h e => by subst e; rw [cmp_cmpG.self] at h; omega)
      have h2 := nodup_len h1 (fun x hx => (hso.2 x).1 hx)
      omega)
    obtain ⟨hl, hhl⟩ : ∃ q, all9.filter (holdsD all9) = q := ⟨_, rfl⟩
    have HHL := Lib.hid hhl
    rw [hhl] at hgh HHF hllen
    have HGH := Lib.hid hgh
    have hsg := (okFilms_parts hok).2.1
    obtain ⟨sn, hsn⟩ := Int.eq_ofNat_of_zero_le (show 0 ≤ f.d.signs by omega)
    have HSN := Lib.hid hsn
    have HOK := Lib.hid hok
    have h10 : sn ≤ 10 := by omega
    have HST : Hid (f.d.signs.toNat = sn) := Lib.hid (by rw [hsn]; rfl)
    have HFM := Lib.hid (fun (h0 : 0 ≤ film) (h1 : film ≤ f.d.frames.length - 1) => frameOf_at hok h0 h1)
    obtain ⟨hn9, hhn9⟩ : ∃ q, hl.length = q := ⟨_, rfl⟩
    have HHN := Lib.hid hhn9
    rw [HHL.out, hhn9]
    rw [hhn9] at hllen
    obtain ⟨an9, han9⟩ : ∃ q, all9.length = q := ⟨_, rfl⟩
    rw [han9]
    clear hrv hso hgh hok hokl hl40 hncl hhl hsg hsn hhn9 han9
    go_upto_region 2 with fail
    obtain ⟨W3, hW3, hg3, hf3, hsz3⟩ := one_block w2 71 (cellsN f ⟨Am, an9, cm⟩ ⟨Ah, hn9, ch⟩)
    rw [hW3]
    clear hW3
    obtain ⟨b8, e8⟩ : ∃ q, w2.heap.size = q := ⟨_, rfl⟩
    rw [e8] at hf3 hsz3 ⊢
    have HG3 : Hid (Grow W W3) := Lib.hid (HG2.out.trans hg3)
    have HN3 := Lib.hid hf3
    have HH3 := Lib.hid (HGH.out.grow hg3)
    have hnc := hf3.cell
    clear hg3 hf3 e8 HGH
    go_upto_region 4 with fail
    go_wp2_with fail
    refine (HFF.out HOK.out ⟨Am, an9, cm⟩ ⟨Ah, hn9, ch⟩ _ (HG.out.trans HG3.out)).mono ?_
    rintro e w4 ⟨rfl, hb4⟩
    have HG4 : Hid (Grow W3 w4) := hb4
    clear hnc hb4
    obtain ⟨ib, hib⟩ : ∃ q, (inB film 0 (f.d.frames.length - 1) && inB frame 0 (frameOf f.d film - 1)) = q := ⟨_, rfl⟩
    have HIB := Lib.hid hib
    rw [hib]
    clear hib
    cases ib with
    | false =>
      have HE : Hid (fe = 1) := Lib.hid (by rw [← HFE.out]; unfold frameErr; rw [if_pos HER.out, HIB.out]; rfl)
      go_wp2
      exact bodyPost_ret (results_three8 Try.results21 _ _ _ _ _ rfl rfl rfl) rfl ⟨0, 0, congrArg (fun q => Ending.returned (Value.tuple #[.int .i64 0, .int .i64 0, .int .i64 q])) HE.out.symm, ⟨fun _ => ⟨rfl, rfl⟩, fun h => absurd (HE.out.symm.trans h) (by decide)⟩, HG.out.trans (HG3.out.trans HG4.out)⟩
    | true =>
      have HE : Hid (fe = 0) := Lib.hid (by rw [← HFE.out]; unfold frameErr; rw [if_pos HER.out, HIB.out]; rfl)
      have HNE := Lib.hid (readD_ne (n := sn) (l := hl.filter (inD film frame)) h10 (fun y hy => by have h := (HHF.out y (List.mem_filter.1 hy).1).2; rw [HST.out] at h; exact h))
      have HSG := Lib.hid (fun (x : GlossD) (hx : x ∈ hl.filter (inD film frame)) => (HHF.out x (List.mem_filter.1 hx).1).1)
      have HATi := Lib.hid (fun (w0 : World) (hw : Grow W3 w0) => at_any f ⟨Am, an9, cm⟩ ⟨Ah, hn9, ch⟩ hl film frame w0.heap.size w0 (GlossT.at_ (HH3.out.grow hw)) (Nat.le_refl _) HHN.out.symm (by rw [HHN.out]; exact hllen))
      have HRDi := Lib.hid (fun (A' : Option Addr) (c' lo' : Nat) (w0 : World) (ht : GlossT w0 lo' A' c' (hl.filter (inD film frame))) => readings_any f ⟨Am, an9, cm⟩ ⟨Ah, hn9, ch⟩ (hl.filter (inD film frame)) A' c' w0.heap.size w0 ht.at_ (Nat.le_refl _) (Nat.le_trans (List.length_filter_le _ _) (by rw [HHN.out]; exact hllen)) HSG.out sn HSN.out h10)
      have HSF : Hid (readD f.d.signs.toNat ((all9.filter (holdsD all9)).filter (inD film frame)) = readD sn (hl.filter (inD film frame))) := Lib.hid (by rw [HHL.out, HST.out])
      have hsl : 0 < (readD sn (hl.filter (inD film frame))).length := List.length_pos_iff.2 HNE.out
      have hS9 : (readD sn (hl.filter (inD film frame))).length ≤ 1024 := by
        rw [(readD_is sn _).all]
        refine Nat.le_trans (List.length_filter_le _ _) ?_
        rw [List.length_range]
        exact Nat.le_trans (Nat.pow_le_pow_right (n := 2) (by omega) h10) (by decide)
      have HSL : Hid (∀ s ∈ readD sn (hl.filter (inD film frame)), s < 1024) := Lib.hid (fun s hs => by
        rw [(readD_is sn _).all] at hs
        have h1 := List.mem_range.1 (List.mem_filter.1 hs).1
        exact Nat.lt_of_lt_of_le h1 (Nat.le_trans (Nat.pow_le_pow_right (n := 2) (by omega) h10) (by decide)))
      obtain ⟨fl, hfl2⟩ : ∃ q, hl.filter (inD film frame) = q := ⟨_, rfl⟩
      rw [hfl2] at HATi HRDi hsl HSL HSF hS9
      obtain ⟨S, hS⟩ : ∃ q, readD sn fl = q := ⟨_, rfl⟩
      rw [hS] at HRDi hsl HSL HSF hS9
      have HHD : Hid (S.headD 0 < 1024) := Lib.hid (by
        match S, hsl, HSL.out with
        | s :: S, _, h => exact h s (by simp))
      clear hfl2 hS HNE HSG
      go_upto_region 6 with fail
      refine wp_region_lit 6 [[], [], [], [], [(1, 31), (2, 32), (3, 33)], [(0, 30), (4, 34)]] Grow (fun qi v w' => match qi with
          | 0 => v = notesV f ⟨Am, an9, cm⟩ ⟨Ah, hn9, ch⟩
          | 1 => v = notesV f ⟨Am, an9, cm⟩ ⟨Ah, hn9, ch⟩
          | 2 => v = .int .i64 film
          | 3 => v = .int .i64 frame
          | 4 => IsAtV W3.heap.size fl v w'
          | 5 => IsSets S v w'
          | _ => False) (by kernel_rfl) (by kernel_rfl) (fun _ _ _ => Grow.trans) Grow.refl ?_ ?_ ?_
      · intro i v y y' h k
        match i, h with
        | 4, h => exact h.grow k
        | 5, h => exact h.grow k
        | 0, h | 1, h | 2, h | 3, h => exact h
      · simp only [StepsLit, List.take_succ_cons, List.take_zero]
        refine ⟨?_, ?_, ?_, ?_, ?_, ?_, trivial⟩
        · intro w5 hR
          have hGw : Grow w4 w5 := hR.of_drew
          have HGW := Lib.hid hGw
          have hnc := ((HG4.out.trans HGW.out).block HN3.out).cell
          clear hR hGw
          simp only [depV]
          try go_simp
          all_goals first
            | (with_reducible exact Grow.refl _)
            | (with_reducible exact ⟨Grow.refl _, rfl⟩)
        · intro w5 hR
          have hGw : Grow w4 w5 := hR.of_drew
          have HGW := Lib.hid hGw
          have hnc := ((HG4.out.trans HGW.out).block HN3.out).cell
          clear hR hGw
          simp only [depV]
          try go_simp
          all_goals first
            | (with_reducible exact Grow.refl _)
            | (with_reducible exact ⟨Grow.refl _, rfl⟩)
        · intro w5 hR
          have hGw : Grow w4 w5 := hR.of_drew
          have HGW := Lib.hid hGw
          have hnc := ((HG4.out.trans HGW.out).block HN3.out).cell
          clear hR hGw
          simp only [depV]
          try go_simp
          all_goals first
            | (with_reducible exact Grow.refl _)
            | (with_reducible exact ⟨Grow.refl _, rfl⟩)
        · intro w5 hR
          have hGw : Grow w4 w5 := hR.of_drew
          have HGW := Lib.hid hGw
          have hnc := ((HG4.out.trans HGW.out).block HN3.out).cell
          clear hR hGw
          simp only [depV]
          try go_simp
          all_goals first
            | (with_reducible exact Grow.refl _)
            | (with_reducible exact ⟨Grow.refl _, rfl⟩)
        · intro w5 hR
          have hGw : Grow w4 w5 := hR.of_drew
          have HGW := Lib.hid hGw
          have hnc := ((HG4.out.trans HGW.out).block HN3.out).cell
          clear hR hGw
          simp only [depV]
          rintro _ rfl
          rintro _ rfl
          rintro _ rfl
          try go_simp
          refine (HATi.out w5 (HG4.out.trans HGW.out)).mono ?_
          rintro e w6 ⟨A6, c6, rfl, ht6, hb6⟩
          exact ⟨hb6, A6, c6, rfl, ht6.mono (HG4.out.trans HGW.out).size⟩
        · intro w5 hR
          have hGw : Grow w4 w5 := hR.of_drew
          have HGW := Lib.hid hGw
          have hnc := ((HG4.out.trans HGW.out).block HN3.out).cell
          clear hR hGw
          simp only [depV]
          rintro _ rfl
          intro v4 hv4
          obtain ⟨A4, c4, rfl, ht4⟩ := hv4
          clear hnc
          try go_simp
          refine (HRDi.out A4 c4 _ w5 ht4).mono ?_
          rintro e w6 ⟨A6, c6, rfl, ho6, hb6⟩
          exact ⟨hb6, A6, c6, rfl, (own_ints ho6).1⟩
      · intro w5 hR
        have HG5 : Hid (Grow w4 w5) := Lib.hid hR.of_drew
        clear hR
        simp only [finVC, List.take_succ_cons, List.take_zero, List.drop_succ_cons, List.drop_zero]
        rintro _ rfl
        rintro _ rfl
        rintro _ rfl
        rintro _ rfl
        intro v4 hv4
        intro v5 hv5
        simp only [Act.put, List.setIfInBounds_toArray, List.set_cons_succ, List.set_cons_zero]
        obtain ⟨A7, c7, rfl, hs7⟩ := hv5
        have HG7 : Hid (Grow w w5) := Lib.hid (HG.out.trans (HG3.out.trans (HG4.out.trans HG5.out)))
        obtain ⟨b7, o7, y7, rfl, hb7, hy7, HY7⟩ := hs7.at_ (k := 0) (by rw [List.length_map]; exact hsl)
        have hys : y7 = (S.headD 0 : Nat) := by
          have h1 := HY7.out
          rw [List.getElem?_map] at h1
          match S, hsl, h1 with
          | s :: S, _, h1 => exact (Option.some.inj h1).symm
        rw [hys, Nat.add_zero] at hy7
        have HS7 := Lib.hid hs7
        have hh9 : S.headD 0 < 1024 := HHD.out
        obtain ⟨hd, hhd⟩ : ∃ q, S.headD 0 = q := ⟨_, rfl⟩
        rw [hhd] at hy7 hh9
        have HHE := Lib.hid hhd
        have hsi : (0 : Int) < (S.length : Int) := by omega
        clear hs7 hv4 hys hb7 hhd
        go_wp2_with fail
        go_loopw [8, 9, 41] (fun u v iv wr => ∃ (i a b : Nat), i ≤ S.length ∧ iv = .int .i64 i ∧ u = .int .i64 a ∧ v = .int .i64 b ∧ Hid (a = sureTo S i ∧ b = mayTo S i) ∧ a < 1024 ∧ b < 1024 ∧ wr = w5) (fun _ _ v _ => S.length - (intOf v).toNat)
        case atStart => exact ⟨0, hd, 0, Nat.zero_le _, rfl, rfl, rfl, Lib.hid ⟨HHE.out.symm, rfl⟩, hh9, by decide, rfl⟩
        case round =>
          obtain ⟨i, a, b, hi, rfl, rfl, rfl, HAB, ha9, hb9, hwr⟩ := hrel
          subst hwr
          by_cases hlt : i < S.length
          · have hld : decide ((i : Int) < (S.length : Int)) = true := decide_eq_true (by omega)
            have hldn : decide (i < S.length) = true := decide_eq_true hlt
            obtain ⟨b8, o8, y8, e8, hb8, hy8, HY8⟩ := HS7.out.at_ (k := i) (by rw [List.length_map]; exact hlt)
            obtain ⟨rfl, rfl⟩ : b7 = b8 ∧ o7 = o8 := by injection e8 with e8; injection e8 with e1 e2; exact ⟨e1, e2⟩
            have hsi : S[i]? = some S[i] := List.getElem?_eq_getElem hlt
            have hy8e : y8 = (S[i] : Nat) := by
              have h1 := HY8.out
              rw [List.getElem?_map, hsi] at h1
              exact (Option.some.inj h1).symm
            have hs9 : S[i] < 1024 := HSL.out _ (List.getElem_mem hlt)
            have HT : Hid (sureTo S (i + 1) = a &&& S[i] ∧ mayTo S (i + 1) = b ||| S[i]) := Lib.hid (by rw [HAB.out.1, HAB.out.2]; exact sets_succ hsi)
            obtain ⟨s, hs⟩ : ∃ q, S[i] = q := ⟨_, rfl⟩
            rw [hs] at hs9 HT hy8e
            rw [hy8e] at hy8
            have hba := and_i64 a s (by omega) (by omega)
            have hbo := or_i64 b s (by omega) (by omega)
            have ha8 : a &&& s < 1024 := Nat.lt_of_le_of_lt Nat.and_le_left ha9
            have hb8 : b ||| s < 1024 := Nat.or_lt_two_pow (n := 10) hb9 hs9
            have hil : (i : Int) < (S.length : Int) := by omega
            have hi0 : (0 : Int) ≤ (i : Int) := by omega
            clear e8 hsi hy8e hs hy7
            generalize a &&& s = a2 at hba HT ha8
            generalize b ||| s = b2 at hbo HT hb8
            go_wp2
            go_roundw
            case rel => exact ⟨i + 1, a2, b2, hlt, by go_num, rfl, rfl, Lib.hid ⟨HT.out.1.symm, HT.out.2.symm⟩, ha8, hb8, by first | rfl | trivial⟩
            case measure => simp [intOf]; omega
          · obtain rfl : i = S.length := by omega
            have hld : decide ((S.length : Int) < (S.length : Int)) = false := by simp
            have hldn : decide (S.length < S.length) = false := by simp
            clear hlt hy7
            go_wp2
            exact bodyPost_ret (results_three8 Try.results21 _ _ _ _ _ rfl rfl rfl) rfl ⟨(a : Int), (b : Int), congrArg (fun q => Ending.returned (Value.tuple #[.int .i64 (a : Int), .int .i64 (b : Int), .int .i64 q])) HE.out.symm, ⟨fun h => absurd HE.out h, fun _ => ⟨all9, HSO.out, by rw [HAB.out.1, HSF.out]; rfl, by rw [HAB.out.2, HSF.out]; rfl⟩⟩, HG7.out⟩
  · have hz := hrv.1 h0
    subst hz
    have hne : decide (er = 0) = false := decide_eq_false h0
    have hnec : (er != 0) = true := by simpa using h0
    have HE : Hid (er = fe) := Lib.hid (by rw [← HFE.out]; unfold frameErr; rw [if_neg (by rw [HER.out]; exact h0), HER.out])
    have HNE := Lib.hid h0
    clear hrv h0
    go_upto_region 2 with fail
    obtain ⟨W3, hW3, hg3, hf3, hsz3⟩ := one_block w2 71 (zeroN)
    rw [hW3]
    clear hW3
    have HG3 : Hid (Grow W W3) := Lib.hid (HG2.out.trans hg3)
    have hnc := hf3.cell
    clear hg3 hf3
    go_wp2
    exact bodyPost_ret (results_three8 Try.results21 _ _ _ _ _ rfl rfl rfl) rfl ⟨0, 0, congrArg (fun q => Ending.returned (Value.tuple #[.int .i64 0, .int .i64 0, .int .i64 q])) HE.out, ⟨fun _ => ⟨rfl, rfl⟩, fun h => absurd (HE.out.trans h) HNE.out⟩, HG.out.trans HG3.out⟩

end Go.Proofs.Ytinlojealfbbfaa
