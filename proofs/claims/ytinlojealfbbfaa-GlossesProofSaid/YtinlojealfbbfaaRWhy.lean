/- WhyApi: glosses.Why; written by wip/tools/why02.py. Earlier: of two choices of equally many the earlier one, as the specification tells it by their lowest bit. RWhy: the specification's Why; written by wip/tools/rwhy02.py. -/
import Derived.Test.YtinlojealfbbfaaHeardM
import Derived.Test.YtinlojealfbbfaaLeast
namespace Go.Proofs.Ytinlojealfbbfaa
open Go.RowKit

theorem results_pair89 {fn : Func} (h : fn.results = #[.tmp 8, .tmp 9]) (t : Array Value) (W : World) (u1 u2 : Value) (h1 : t.getD 8 undef = u1) (h2 : t.getD 9 undef = u2) :
    (results fn t).run Try.prog W = .ok (.tuple #[u1, u2]) W := by
  simp only [results, h]
  simp at h1 h2
  simp [go_sem, h1, h2]
/-- the glosses of the disagreement -/
def whyD (sn : Nat) (l : List GlossD) : List GlossD := bestP l (okD sn l) (2 ^ l.length)
/-- a row within its room -/
def IsRowC (l : List GlossD) (v : Value) (w : World) : Prop := ∃ A c, v = .slice A l.length c ∧ l.length ≤ c ∧ GlossAt w w.heap.size A l
theorem IsRowC.grow {l : List GlossD} {v : Value} {a b : World} (h : IsRowC l v a) (g : Grow a b) : IsRowC l v b := by
  obtain ⟨A, c, e, hc, h⟩ := h
  exact ⟨A, c, e, hc, (h.below g).more g.size⟩
theorem IsRowC.row {l : List GlossD} {v : Value} {w : World} (h : IsRowC l v w) : IsRowG l v w := by
  obtain ⟨A, c, e, _, h⟩ := h
  exact ⟨A, c, e, h⟩
/-- what Why answers -/
def WhyV (f : FilmsD) (l : List GlossD) (film frame : Int) (v : Value) (er : Int) (w : World) : Prop :=
  (er ≠ 0 → v = .slice none 0 0) ∧ (er = 0 → IsRowC (whyD f.signs.toNat (rAtD l film frame)) v w)

set_option maxRecDepth 100000 in
set_option maxHeartbeats 16000000 in
theorem whyApi_any (HSORT : SortGOK) (f : FilmsR) (l : List GlossD) (A : Option Addr) (c : Nat) (film frame : Int) (n : Nat) (w : World) (hf : Ints w n f.A f.d.frames) (hA : GlossAt w n A l) (hn : n ≤ w.heap.size) (hfl : f.d.frames.length ≤ 1000000) (hl : l.length ≤ 1000) (h12 : readErr f.d [l] = 0 → l.length ≤ 12) :
    Calls Try.prog 26 #[filmsV f, .slice A l.length c, .int .i64 film, .int .i64 frame] w fun e w' => ∃ v, e = .returned (.tuple #[v, .int .i64 (frameErr f.d l film frame)]) ∧ WhyV f.d l film frame v (frameErr f.d l film frame) w' ∧ Below w.heap.size w w' := by
  have H12 := Lib.hid h12
  clear h12
  have HI := Lib.hid (hf.more hn)
  have HRD := Lib.hid (fun (g : Nat) (w0 : World) (hw : Grow w w0) (hb : BlockIs w0 g 25 #[.slice A l.length c]) => read1_any HSORT f l A c g w.heap.size w0 ((hf.more hn).below hw) ((hA.more hn).below hw) hw.size hb hfl hl)
  obtain ⟨er, her⟩ : ∃ q, readErr f.d [l] = q := ⟨_, rfl⟩
  rw [her] at HRD
  have HER := Lib.hid her
  clear her
  have HFF := Lib.hid (fun (hok : okFilms f.d = true) (m h : RowG) (w0 : World) (hw : Grow w w0) => hasFrame_any f m h film frame w0.heap.size w0 (((hf.more hn).below hw).more hw.size) (Nat.le_refl _) hok)
  obtain ⟨fe, hfe⟩ : ∃ q, frameErr f.d l film frame = q := ⟨_, rfl⟩
  have HFE := Lib.hid hfe
  rw [hfe]
  clear hfe hf hA hn
  go_enter Try.func26, Try.ntmps26
  go_upto_region 1 with fail
  obtain ⟨W, hW, hg, hf, hsz⟩ := one_block w 24 (cellsF f)
  rw [hW]
  clear hW
  have hcc := hf.cell
  have HG := Lib.hid hg
  clear hf hg
  have HRX := Lib.hid (HRD.out W.heap.size (W.alloc (.cells #[.slice A l.length c] 25)) (HG.out.trans (Grow.alloc _ _)) (BlockIs.new _ _ _))
  clear HRD
  go_wp2_with fail
  refine HRX.out.mono ?_
  rintro e w2 ⟨v, rfl, hrv, hb2⟩
  have HG2 : Hid (Grow W w2) := Lib.hid ((Grow.alloc _ _).trans hb2)
  have HWZ : Hid (w.heap.size ≤ (W.alloc (.cells #[.slice A l.length c] 25)).heap.size) := Lib.hid (HG.out.trans (Grow.alloc _ _)).size
  generalize (W.alloc (.cells #[.slice A l.length c] 25)).heap.size = lo at HWZ hrv
  clear hcc hb2 HRX
  by_cases h0 : er = 0
  · subst h0
    obtain ⟨Am, cm, Ah, ch, all9, rfl, hso, _, hgh⟩ := hrv.2 rfl
    obtain ⟨hok, hokl, hl40, hncl⟩ := readErr_zero HER.out
    have HHF := Lib.hid (held_facts HER.out hso)
    have HSO := Lib.hid hso
    have hllen : (all9.filter (holdsD all9)).length ≤ 12 := Nat.le_trans (List.length_filter_le _ _) (by
      have h1 : all9.Nodup := hso.1.imp (fun {a b} h e => by subst e; rw [cmp_cmpG.self] at h; omega)
      have h3 := H12.out HER.out
      have h2 := nodup_len h1 (fun x hx => (hso.2 x).1 hx)
      omega)
    obtain ⟨hl, hhl⟩ : ∃ q, all9.filter (holdsD all9) = q := ⟨_, rfl⟩
    have HHL := Lib.hid hhl
    rw [hhl] at hgh HHF hllen
    have HGH := Lib.hid hgh
    have hsg := (okFilms_parts hok).2.1
    obtain ⟨sn, hsn⟩ := Int.eq_ofNat_of_zero_le (show 0 ≤ f.d.signs by omega)
    have HSN := Lib.hid hsn
    have HOK := Lib.hid hok
    have h10 : sn ≤ 10 := by omega
    have HST : Hid (f.d.signs.toNat = sn) := Lib.hid (by rw [hsn]; rfl)
    have HFM := Lib.hid (fun (h0 : 0 ≤ film) (h1 : film ≤ f.d.frames.length - 1) => frameOf_at hok h0 h1)
    obtain ⟨hn9, hhn9⟩ : ∃ q, hl.length = q := ⟨_, rfl⟩
    have HHN := Lib.hid hhn9
    rw [HHL.out, hhn9]
    rw [hhn9] at hllen
    obtain ⟨an9, han9⟩ : ∃ q, all9.length = q := ⟨_, rfl⟩
    rw [han9]
    clear hrv hso hgh hok hokl hl40 hncl hhl hsg hsn hhn9 han9
    go_upto_region 2 with fail
    obtain ⟨W3, hW3, hg3, hf3, hsz3⟩ := one_block w2 71 (cellsN f ⟨Am, an9, cm⟩ ⟨Ah, hn9, ch⟩)
    rw [hW3]
    clear hW3
    obtain ⟨b8, e8⟩ : ∃ q, w2.heap.size = q := ⟨_, rfl⟩
    rw [e8] at hf3 hsz3 ⊢
    have HG3 : Hid (Grow W W3) := Lib.hid (HG2.out.trans hg3)
    have HN3 := Lib.hid hf3
    have HH3 := Lib.hid (HGH.out.grow hg3)
    have hnc := hf3.cell
    clear hg3 hf3 e8 HGH
    go_upto_region 4 with fail
    go_wp2_with fail
    refine (HFF.out HOK.out ⟨Am, an9, cm⟩ ⟨Ah, hn9, ch⟩ _ (HG.out.trans HG3.out)).mono ?_
    rintro e w4 ⟨rfl, hb4⟩
    have HG4 : Hid (Grow W3 w4) := hb4
    clear hnc hb4
    obtain ⟨ib, hib⟩ : ∃ q, (inB film 0 (f.d.frames.length - 1) && inB frame 0 (frameOf f.d film - 1)) = q := ⟨_, rfl⟩
    have HIB := Lib.hid hib
    rw [hib]
    clear hib
    cases ib with
    | false =>
      have HE : Hid (fe = 1) := Lib.hid (by rw [← HFE.out]; unfold frameErr; rw [if_pos HER.out, HIB.out]; rfl)
      go_wp2
      exact bodyPost_ret (results_pair89 Try.results26 _ _ _ _ rfl rfl) rfl ⟨.slice none 0 0, congrArg (fun q => Ending.returned (Value.tuple #[.slice none 0 0, .int .i64 q])) HE.out.symm, ⟨fun _ => rfl, fun h => absurd (HE.out.symm.trans h) (by decide)⟩, HG.out.trans (HG3.out.trans HG4.out)⟩
    | true =>
      have HE : Hid (fe = 0) := Lib.hid (by rw [← HFE.out]; unfold frameErr; rw [if_pos HER.out, HIB.out]; rfl)
      have HQQ := Lib.hid (fun (y : GlossD) (hy : y ∈ hl.filter (inD film frame)) => by have h := (HHF.out y (List.mem_filter.1 hy).1).2; rw [HST.out] at h; exact h)
      have HSG := Lib.hid (fun (x : GlossD) (hx : x ∈ hl.filter (inD film frame)) => (HHF.out x (List.mem_filter.1 hx).1).1)
      have HATi := Lib.hid (fun (w0 : World) (hw : Grow W3 w0) => at_any f ⟨Am, an9, cm⟩ ⟨Ah, hn9, ch⟩ hl film frame w0.heap.size w0 (GlossT.at_ (HH3.out.grow hw)) (Nat.le_refl _) HHN.out.symm (by rw [HHN.out]; omega))
      have HPR := Lib.hid (fun (A' : Option Addr) (c' lo' : Nat) (w0 : World) (ht : GlossT w0 lo' A' c' (hl.filter (inD film frame))) => proof_any f ⟨Am, an9, cm⟩ ⟨Ah, hn9, ch⟩ (hl.filter (inD film frame)) A' c' w0.heap.size w0 ht.at_ (Nat.le_refl _) ht.room (Nat.le_trans (List.length_filter_le _ _) (by rw [HHN.out]; exact hllen)) HSG.out sn HSN.out h10 HQQ.out)
      have HWY : Hid (whyD f.d.signs.toNat (rAtD l film frame) = whyD sn (hl.filter (inD film frame))) := Lib.hid (by rw [← sure_at HER.out HSO.out film frame, HHL.out, HST.out])
      obtain ⟨fl, hfl2⟩ : ∃ q, hl.filter (inD film frame) = q := ⟨_, rfl⟩
      rw [hfl2] at HATi HPR HWY
      unfold whyD at HWY
      obtain ⟨yl, hyl⟩ : ∃ q, bestP fl (okD sn fl) (2 ^ fl.length) = q := ⟨_, rfl⟩
      rw [hyl] at HPR HWY
      clear hfl2 hyl HQQ HSG
      go_upto_region 6 with fail
      refine wp_region_lit 6 [[], [], [], [], [(1, 28), (2, 29), (3, 30)], [(0, 27), (4, 31)]] Grow (fun qi v w' => match qi with
          | 0 => v = notesV f ⟨Am, an9, cm⟩ ⟨Ah, hn9, ch⟩
          | 1 => v = notesV f ⟨Am, an9, cm⟩ ⟨Ah, hn9, ch⟩
          | 2 => v = .int .i64 film
          | 3 => v = .int .i64 frame
          | 4 => IsAtV W3.heap.size fl v w'
          | 5 => IsRowC yl v w'
          | _ => False) (by kernel_rfl) (by kernel_rfl) (fun _ _ _ => Grow.trans) Grow.refl ?_ ?_ ?_
      · intro i v y y' h k
        match i, h with
        | 4, h => exact h.grow k
        | 5, h => exact h.grow k
        | 0, h | 1, h | 2, h | 3, h => exact h
      · simp only [StepsLit, List.take_succ_cons, List.take_zero]
        refine ⟨?_, ?_, ?_, ?_, ?_, ?_, trivial⟩
        · intro w5 hR
          have hGw : Grow w4 w5 := hR.of_drew
          have HGW := Lib.hid hGw
          have hnc := ((HG4.out.trans HGW.out).block HN3.out).cell
          clear hR hGw
          simp only [depV]
          try go_simp
          all_goals first
            | (with_reducible exact Grow.refl _)
            | (with_reducible exact ⟨Grow.refl _, rfl⟩)
        · intro w5 hR
          have hGw : Grow w4 w5 := hR.of_drew
          have HGW := Lib.hid hGw
          have hnc := ((HG4.out.trans HGW.out).block HN3.out).cell
          clear hR hGw
          simp only [depV]
          try go_simp
          all_goals first
            | (with_reducible exact Grow.refl _)
            | (with_reducible exact ⟨Grow.refl _, rfl⟩)
        · intro w5 hR
          have hGw : Grow w4 w5 := hR.of_drew
          have HGW := Lib.hid hGw
          have hnc := ((HG4.out.trans HGW.out).block HN3.out).cell
          clear hR hGw
          simp only [depV]
          try go_simp
          all_goals first
            | (with_reducible exact Grow.refl _)
            | (with_reducible exact ⟨Grow.refl _, rfl⟩)
        · intro w5 hR
          have hGw : Grow w4 w5 := hR.of_drew
          have HGW := Lib.hid hGw
          have hnc := ((HG4.out.trans HGW.out).block HN3.out).cell
          clear hR hGw
          simp only [depV]
          try go_simp
          all_goals first
            | (with_reducible exact Grow.refl _)
            | (with_reducible exact ⟨Grow.refl _, rfl⟩)
        · intro w5 hR
          have hGw : Grow w4 w5 := hR.of_drew
          have HGW := Lib.hid hGw
          have hnc := ((HG4.out.trans HGW.out).block HN3.out).cell
          clear hR hGw
          simp only [depV]
          rintro _ rfl
          rintro _ rfl
          rintro _ rfl
          try go_simp
          refine (HATi.out w5 (HG4.out.trans HGW.out)).mono ?_
          rintro e w6 ⟨A6, c6, rfl, ht6, hb6⟩
          exact ⟨hb6, A6, c6, rfl, ht6.mono (HG4.out.trans HGW.out).size⟩
        · intro w5 hR
          have hGw : Grow w4 w5 := hR.of_drew
          have HGW := Lib.hid hGw
          have hnc := ((HG4.out.trans HGW.out).block HN3.out).cell
          clear hR hGw
          simp only [depV]
          rintro _ rfl
          intro v4 hv4
          obtain ⟨A4, c4, rfl, ht4⟩ := hv4
          clear hnc
          try go_simp
          refine (HPR.out A4 c4 _ w5 ht4).mono ?_
          rintro e w6 ⟨A6, c6, rfl, hr6, ho6, hb6⟩
          exact ⟨hb6, A6, c6, rfl, hr6, ho6⟩
      · intro w5 hR
        have HG5 : Hid (Grow w4 w5) := Lib.hid hR.of_drew
        clear hR
        simp only [finVC, List.take_succ_cons, List.take_zero, List.drop_succ_cons, List.drop_zero]
        rintro _ rfl
        rintro _ rfl
        rintro _ rfl
        rintro _ rfl
        intro v4 hv4
        intro v5 hv5
        simp only [Act.put, List.setIfInBounds_toArray, List.set_cons_succ, List.set_cons_zero]
        obtain ⟨A7, c7, rfl, hr7, hs7⟩ := hv5
        have HS7 := Lib.hid hs7
        have HR7 := Lib.hid hr7
        have HG7 : Hid (Grow w w5) := Lib.hid (HG.out.trans (HG3.out.trans (HG4.out.trans HG5.out)))
        clear hs7 hr7 hv4
        go_wp2
        exact bodyPost_ret (results_pair89 Try.results26 _ _ _ _ rfl rfl) rfl ⟨.slice A7 yl.length c7, congrArg (fun q => Ending.returned (Value.tuple #[.slice A7 yl.length c7, .int .i64 q])) HE.out.symm, ⟨fun h => absurd HE.out h, fun _ => by unfold whyD; rw [HWY.out]; exact ⟨A7, c7, rfl, HR7.out, HS7.out⟩⟩, HG7.out⟩
  · have hz := hrv.1 h0
    subst hz
    have hne : decide (er = 0) = false := decide_eq_false h0
    have hnec : (er != 0) = true := by simpa using h0
    have HE : Hid (er = fe) := Lib.hid (by rw [← HFE.out]; unfold frameErr; rw [if_neg (by rw [HER.out]; exact h0), HER.out])
    have HNE := Lib.hid h0
    clear hrv h0
    go_upto_region 2 with fail
    obtain ⟨W3, hW3, hg3, hf3, hsz3⟩ := one_block w2 71 (zeroN)
    rw [hW3]
    clear hW3
    have HG3 : Hid (Grow W W3) := Lib.hid (HG2.out.trans hg3)
    have hnc := hf3.cell
    clear hg3 hf3
    go_wp2
    exact bodyPost_ret (results_pair89 Try.results26 _ _ _ _ rfl rfl) rfl ⟨.slice none 0 0, congrArg (fun q => Ending.returned (Value.tuple #[.slice none 0 0, .int .i64 q])) HE.out, ⟨fun _ => rfl, fun h => absurd (HE.out.trans h) HNE.out⟩, HG.out.trans HG3.out⟩

end Go.Proofs.Ytinlojealfbbfaa

namespace Go.Proofs.Ytinlojealfbbfaa
open Go.RowKit

/-- the lowest one of x, of n places -/
def lowN : Nat → Nat → Nat
  | 0, _ => 0
  | n + 1, x => if x % 2 = 1 then 1 else 2 * lowN n (x / 2)
theorem earlyD_self : ∀ n a, earlyD n a a = false
  | 0, _ => rfl
  | n + 1, a => by
    show (if a % 2 = a % 2 then earlyD n (a / 2) (a / 2) else _) = _
    rw [if_pos rfl, earlyD_self n]
theorem and_two (a m : Nat) : a &&& (2 * m) = 2 * ((a / 2) &&& m) := by
  apply Nat.eq_of_testBit_eq
  intro i
  cases i with
  | zero => simp [Nat.testBit_zero]
  | succ i =>
    rw [Nat.testBit_and]
    simp only [Nat.testBit_succ, Nat.mul_div_cancel_left _ (show 0 < 2 by omega), Nat.testBit_and]
theorem xor_half (a b : Nat) : (a ^^^ b) / 2 = (a / 2) ^^^ (b / 2) := by
  apply Nat.eq_of_testBit_eq
  intro i
  rw [Nat.testBit_xor, ← Nat.testBit_succ, ← Nat.testBit_succ, ← Nat.testBit_succ, Nat.testBit_xor]
theorem xor_odd (a b : Nat) : (a ^^^ b) % 2 = 1 ↔ a % 2 ≠ b % 2 := by
  have h := Nat.testBit_xor a b 0
  rw [Nat.testBit_zero, Nat.testBit_zero, Nat.testBit_zero] at h
  have h1 : a % 2 < 2 := Nat.mod_lt _ (by omega)
  have h2 : b % 2 < 2 := Nat.mod_lt _ (by omega)
  rcases (show a % 2 = 0 ∨ a % 2 = 1 by omega) with e1 | e1 <;> rcases (show b % 2 = 0 ∨ b % 2 = 1 by omega) with e2 | e2 <;> simp [e1, e2] at h ⊢ <;> omega
theorem early_low : ∀ n a b, (a &&& lowN n (a ^^^ b) ≠ 0) ↔ earlyD n a b = true
  | 0, a, b => by simp [lowN, earlyD]
  | n + 1, a, b => by
    have ih := early_low n (a / 2) (b / 2)
    show (a &&& (if (a ^^^ b) % 2 = 1 then 1 else 2 * lowN n ((a ^^^ b) / 2)) ≠ 0) ↔ (if a % 2 = b % 2 then earlyD n (a / 2) (b / 2) else decide (a % 2 = 1)) = true
    by_cases h : a % 2 = b % 2
    · rw [if_neg (fun e => (xor_odd a b).1 e h), if_pos h, xor_half, and_two, ← ih]
      omega
    · rw [if_pos ((xor_odd a b).2 h), if_neg h, Nat.and_one_is_mod]
      simp
theorem low_i64 : ∀ x : Nat, x < 4096 → bits .and .i64 (x : Int) (-(x : Int)) = ((lowN 12 x : Nat) : Int) := by
  have h : ∀ i j : Fin 64, bits .and .i64 ((64 * i.1 + j.1 : Nat) : Int) (-((64 * i.1 + j.1 : Nat) : Int)) = ((lowN 12 (64 * i.1 + j.1) : Nat) : Int) := by decide +kernel
  intro x hx
  have h1 := h ⟨x / 64, by omega⟩ ⟨x % 64, Nat.mod_lt _ (by omega)⟩
  rw [show 64 * (x / 64) + x % 64 = x by omega] at h1
  exact h1
theorem xor_i64 (a b : Nat) (ha : a < 9223372036854775808) (hb : b < 9223372036854775808) : bits .xor .i64 (a : Int) (b : Int) = ((a ^^^ b : Nat) : Int) := by
  have h1 : a ^^^ b < 2 ^ 63 := Nat.xor_lt_two_pow (by omega) (by omega)
  have e1 : ∀ n : Nat, n < 9223372036854775808 → (BitVec.ofInt 64 (n : Int)).toNat = n := fun n hn => by
    rw [BitVec.ofInt_natCast, BitVec.toNat_ofNat]
    exact Nat.mod_eq_of_lt (by omega)
  show IntKind.i64.wrap ((BitVec.ofInt 64 (a : Int) ^^^ BitVec.ofInt 64 (b : Int)).toNat : Int) = _
  rw [BitVec.toNat_xor, e1 a ha, e1 b hb]
  exact IntWalk.i64_in _ (by omega)

set_option maxRecDepth 100000 in
set_option maxHeartbeats 4000000 in
theorem rEarlier_any (a b : Nat) (w : World) (ha : a < 4096) (hb : b < 4096) :
    Calls Try.prog 59 #[.int .i64 a, .int .i64 b] w fun e w' => e = .returned (.bool (earlyD 12 a b)) ∧ w = w' := by
  by_cases h0 : a = b
  · subst h0
    rw [earlyD_self]
    have d1 : decide ((a : Int) = (a : Int)) = true := decide_eq_true rfl
    go_enter Try.func59, Try.ntmps59
    go_wp2
    go_ret
    exact ⟨rfl, rfl⟩
  · have d1 : decide ((a : Int) = (b : Int)) = false := decide_eq_false (by omega)
    have d2 : decide (a = b) = false := decide_eq_false h0
    have d3 : ((a : Int) == (b : Int)) = false := by rw [beq_eq_false_iff_ne]; omega
    have hx := xor_i64 a b (by omega) (by omega)
    have hx9 : a ^^^ b < 4096 := Nat.xor_lt_two_pow (n := 12) ha hb
    have hlow := low_i64 _ hx9
    have HEL := Lib.hid (early_low 12 a b)
    obtain ⟨x, hxe⟩ : ∃ q, a ^^^ b = q := ⟨_, rfl⟩
    rw [hxe] at hx hx9 hlow HEL
    obtain ⟨lw, hlw⟩ : ∃ q, lowN 12 x = q := ⟨_, rfl⟩
    rw [hlw] at hlow HEL
    have hl9 : lw < 9223372036854775808 := by
      have h : ∀ n y, lowN n y ≤ 2 ^ n := by
        intro n
        induction n with
        | zero => intro y; exact Nat.zero_le _
        | succ n ih =>
          intro y
          have h1 := ih (y / 2)
          have h2 : 0 < 2 ^ n := Nat.pow_pos (by omega)
          unfold lowN
          rw [Nat.pow_succ]
          split <;> omega
      have := h 12 x
      omega
    have hal := and_i64 a lw (by omega) hl9
    obtain ⟨al, hae⟩ : ∃ q, a &&& lw = q := ⟨_, rfl⟩
    rw [hae] at hal HEL
    clear hxe hlw hl9 hae h0
    by_cases h1 : al = 0
    · subst h1
      have HE : Hid (earlyD 12 a b = false) := Lib.hid (by
        cases he : earlyD 12 a b with
        | false => rfl
        | true => exact absurd rfl (HEL.out.2 he))
      go_enter Try.func59, Try.ntmps59
      go_wp2
      go_ret
      exact ⟨ret_bool HE.out.symm, rfl⟩
    · have HE : Hid (earlyD 12 a b = true) := Lib.hid (HEL.out.1 h1)
      have d4 : decide ((al : Int) = 0) = false := decide_eq_false (by omega)
      have d5 : ((al : Int) != 0) = true := by rw [bne_iff_ne]; omega
      have d6 : ((al : Int) == 0) = false := by rw [beq_eq_false_iff_ne]; omega
      have d7 : decide (al = 0) = false := decide_eq_false h1
      clear h1
      go_enter Try.func59, Try.ntmps59
      go_wp2
      go_ret
      exact ⟨ret_bool HE.out.symm, rfl⟩

end Go.Proofs.Ytinlojealfbbfaa

namespace Go.Proofs.Ytinlojealfbbfaa
open Go.RowKit

theorem early_more : ∀ (n m a b : Nat), a < 2 ^ n → b < 2 ^ n → earlyD (n + m) a b = earlyD n a b
  | 0, m, a, b, ha, hb => by
    have h1 : a = 0 := by omega
    have h2 : b = 0 := by omega
    subst h1 h2
    rw [earlyD_self, earlyD_self]
  | n + 1, m, a, b, ha, hb => by
    rw [Nat.pow_succ] at ha hb
    have ih := early_more n m (a / 2) (b / 2) (by omega) (by omega)
    rw [show n + 1 + m = (n + m) + 1 by omega]
    show (if a % 2 = b % 2 then earlyD (n + m) (a / 2) (b / 2) else _) = (if a % 2 = b % 2 then earlyD n (a / 2) (b / 2) else _)
    rw [ih]
theorem early_twelve {n a b : Nat} (hn : n ≤ 12) (ha : a < 2 ^ n) (hb : b < 2 ^ n) : earlyD 12 a b = earlyD n a b := by
  have h := early_more n (12 - n) a b ha hb
  rwa [show n + (12 - n) = 12 by omega] at h
theorem rAt_sorted {l : List GlossD} (h : ¬ Clash l) (fm fr : Int) : (rAtD l fm fr).Pairwise (fun x y => cmpG x y < 0) := by
  unfold rAtD rheldD
  exact ((sortU_sorted h).1.filter _).filter _
/-- one more choice that is enough -/
def stepS (l : List GlossD) (la k n : Nat) : Option Nat → Option Nat
  | none => some k
  | some b => if (decide (n < (subD l b).length) || (decide (n = (subD l b).length) && earlyD la k b)) = true then some k else some b
theorem bestS_step (l : List GlossD) (ok : Nat → Bool) (k : Nat) : bestS l ok (k + 1) = if ok k = true then stepS l l.length k (subD l k).length (bestS l ok k) else bestS l ok k := by
  show (if ok k = true then _ else _) = _
  cases bestS l ok k <;> rfl
/-- what the specification's best is -/
def bestV (o : Option Nat) : Int := match o with
  | none => -1
  | some b => (b : Nat)

set_option maxRecDepth 100000 in
set_option maxHeartbeats 16000000 in
theorem rWhyApi_any (f : FilmsR) (l : List GlossD) (A : Option Addr) (c : Nat) (film frame : Int) (n : Nat) (w : World) (hf : Ints w n f.A f.d.frames) (hA : GlossAt w n A l) (hn : n ≤ w.heap.size) (hfl : f.d.frames.length ≤ 1000000) (hl : l.length ≤ 1000) (h12 : readErr f.d [l] = 0 → l.length ≤ 12) :
    Calls Try.prog 40 #[filmsV f, .slice A l.length c, .int .i64 film, .int .i64 frame] w fun e w' => ∃ v, e = .returned (.tuple #[v, .int .i64 (frameErr f.d l film frame)]) ∧ WhyV f.d l film frame v (frameErr f.d l film frame) w' ∧ Below w.heap.size w w' := by
  have HFC := Lib.hid (fun (w0 : World) (hw : Grow w w0) => rFrame_any f l A c film frame w0.heap.size w0 (((hf.more hn).below hw).more hw.size) (((hA.more hn).below hw).more hw.size) (Nat.le_refl _) hfl hl)
  have HGL := Lib.hid (fun (w0 : World) (hw : Grow w w0) => ((hA.more hn).below hw).more hw.size)
  have H12 := Lib.hid h12
  obtain ⟨fe, hfe⟩ : ∃ q, frameErr f.d l film frame = q := ⟨_, rfl⟩
  have HFF : Hid (frameErr f.d l film frame = fe) := Lib.hid hfe
  rw [hfe] at HFC ⊢
  clear hfe hf hA hn h12
  go_enter Try.func40, Try.ntmps40
  go_upto_region 1 with fail
  obtain ⟨W, hW, hg, hf, hsz⟩ := one_block w 24 (cellsF f)
  rw [hW]
  clear hW
  have hcc := hf.cell
  have HF := Lib.hid hf
  have HG := Lib.hid hg
  clear hf hg
  go_wp2_with fail
  refine (HFC.out W HG.out).mono ?_
  rintro e w1 ⟨rfl, hb1⟩
  have HG1 : Hid (Grow w w1) := Lib.hid (HG.out.trans hb1)
  have HF1 : Hid (BlockIs w1 w.heap.size 24 (cellsF f)) := Lib.hid (Grow.block hb1 HF.out)
  clear hb1 hcc HFC HF
  by_cases h0 : fe = 0
  · subst h0
    have hfz := frameErr_zero HFF.out
    have hre := hfz.1
    obtain ⟨hok, hgl, hl40, hncl⟩ := readErr_zero hre
    have hsg := (okFilms_parts hok).2.1
    obtain ⟨sn, hsn⟩ := Int.eq_ofNat_of_zero_le (show 0 ≤ f.d.signs by omega)
    have hst : f.d.signs.toNat = sn := by rw [hsn]; rfl
    have h10 : sn ≤ 10 := by omega
    have haf := at_facts hre film frame
    rw [hst] at haf
    have hal : (rAtD l film frame).length ≤ 12 := Nat.le_trans (rAtD_len l film frame) (H12.out hre)
    have HSO := Lib.hid (rAt_sorted hncl film frame)
    have HWY : Hid (whyD f.d.signs.toNat (rAtD l film frame) = whyD sn (rAtD l film frame)) := Lib.hid (by rw [hst])
    have HAT := Lib.hid (fun (w0 : World) (hw : Grow w1 w0) => rAt_any rsort_ok l A c w0.heap.size film frame w0 (HGL.out w0 (HG1.out.trans hw)) (Nat.le_refl _) hl (fun x hx => okGloss_small hok (hgl x hx)))
    obtain ⟨sl, hsl⟩ : ∃ q, rAtD l film frame = q := ⟨_, rfl⟩
    rw [hsl] at haf hal HSO HWY HAT
    have HHY : Hid (WhyV f.d l film frame = fun v er w' => (er ≠ 0 → v = .slice none 0 0) ∧ (er = 0 → IsRowC (whyD f.d.signs.toNat sl) v w')) := Lib.hid (by rw [← hsl]; rfl)
    have hsg1 : ∀ x ∈ sl, SignsOK x := fun x hx => (haf x hx).1
    have hsg2 : ∀ x ∈ sl, x.signs.toNat ≠ 0 ∧ x.signs.toNat < 2 ^ sn := fun x hx => (haf x hx).2
    have HLE := Lib.hid (fun (A' : Option Addr) (c' : Nat) (w0 : World) (ht : GlossAt w0 w0.heap.size A' sl) => rLeast_any f sl A' c' w0.heap.size w0 ht (Nat.le_refl _) (by omega) hsg1 sn hsn h10 hsg2)
    have HLS := Lib.hid (fun (k : Nat) (A' : Option Addr) (c' : Nat) (w0 : World) (ht : GlossAt w0 w0.heap.size A' (subD sl k)) => rLeast_any f (subD sl k) A' c' w0.heap.size w0 ht (Nat.le_refl _) (by have := subD_len sl k; omega) (fun x hx => hsg1 x ((subD_sub sl k).subset hx)) sn hsn h10 (fun x hx => hsg2 x ((subD_sub sl k).subset hx)))
    have HMO := Lib.hid (fun (k : Nat) => size_mono (l' := subD sl k) h10 hsg2 (fun x hx => (subD_sub sl k).subset hx))
    have HOK : Hid (∀ k, okD sn sl k = !decide (sizeD sn (subD sl k) < sizeD sn sl)) := Lib.hid (fun k => by
      have := HMO.out k
      unfold okD
      by_cases h : sizeD sn (subD sl k) = sizeD sn sl
      · rw [decide_eq_true h, decide_eq_false (by omega)]; rfl
      · rw [decide_eq_false h, decide_eq_true (by omega)]; rfl)
    have HALL := Lib.hid (best_all (ok := okD sn sl) HSO.out (by unfold okD; rw [subD_full]; exact decide_eq_true rfl))
    have HST := Lib.hid (bestS_step sl (okD sn sl))
    have HZ : Hid (bestS sl (okD sn sl) 0 = none) := rfl
    have HWD : Hid (whyD sn sl = bestP sl (okD sn sl) (2 ^ sl.length)) := rfl
    generalize okD sn sl = ok at HOK HALL HST HZ HWD
    have hp9 : 2 ^ sl.length ≤ 4096 := Nat.le_trans (Nat.pow_le_pow_right (n := 2) (by omega) hal) (by decide)
    have HEA := Lib.hid (fun (a b : Nat) (ha : a < 2 ^ sl.length) (hb : b < 2 ^ sl.length) (w0 : World) => show Calls Try.prog 59 #[.int .i64 a, .int .i64 b] w0 fun e w' => e = .returned (.bool (earlyD sl.length a b)) ∧ w0 = w' from by
      rw [← early_twelve hal ha hb]; exact rEarlier_any a b w0 (by omega) (by omega))
    have HSB := Lib.hid (fun (k : Nat) (hk : k < 4096) (A' : Option Addr) (c' : Nat) (w0 : World) (ht : GlossAt w0 w0.heap.size A' sl) => show Calls Try.prog 58 #[.slice A' sl.length c', .int .i64 k] w0 fun e w' => ∃ A5 c5, e = .returned (.slice A5 (subD sl k).length c5) ∧ GlossT w' w0.heap.size A5 c5 (subD sl k) ∧ Below w0.heap.size w0 w' from by
      have h1 := chosen_any (k : Int) sl _ A' c' w0.heap.size w0 ht (by omega) (Nat.le_refl _) (takes_sub sl k (by omega))
      simpa only [List.take_length] using h1)
    have HSM := Lib.hid (fun (A' : Option Addr) (c' : Nat) (w0 : World) (ht : GlossAt w0 w0.heap.size A' sl) => show Calls Try.prog 58 #[.slice A' sl.length c', .int .i64 (-1)] w0 fun e w' => ∃ A5 c5, e = .returned (.slice A5 sl.length c5) ∧ GlossT w' w0.heap.size A5 c5 sl ∧ Below w0.heap.size w0 w' from by
      have h1 := chosen_any (-1) sl _ A' c' w0.heap.size w0 ht (by omega) (Nat.le_refl _) (takes_all sl)
      simpa only [List.take_length] using h1)
    have HLL := Lib.hid (subD_len sl)
    obtain ⟨la, hla⟩ : ∃ q, sl.length = q := ⟨_, rfl⟩
    rw [hla] at hal hp9 HEA HSB HSM HST HALL HWD HAT HLE HLL
    obtain ⟨pw, hpw⟩ : ∃ q, 2 ^ la = q := ⟨_, rfl⟩
    have hcv : IntKind.u64.wrap (la : Int) = (la : Int) := IntWalk.u64_in _ (by omega)
    have hsn0 : (0 : Int) ≤ (la : Int) := by omega
    have hwr : IntKind.i64.wrap ((2 : Int) ^ la) = (pw : Int) := by
      have h : ((2 : Int) ^ la) = ((2 ^ la : Nat) : Int) := (Int.natCast_pow 2 la).symm
      rw [h, hpw]
      exact IntWalk.i64_in _ (by omega)
    rw [hpw] at hp9 HEA HALL HWD
    obtain ⟨sz, hsz9⟩ : ∃ q, sizeD sn sl = q := ⟨_, rfl⟩
    rw [hsz9] at HLE HOK
    clear hfz hre hok hgl hl40 hncl hsg hsn hst haf hsl hsg1 hsg2 hla hpw hsz9 HMO h10
    go_wp2_with fail
    refine (HAT.out w1 (Grow.refl _)).mono ?_
    rintro e w2 ⟨As, cs, rfl, ht2, hb2⟩
    have HG2 : Hid (Grow w1 w2) := hb2
    have HT2 := Lib.hid (fun (w0 : World) (hw : Grow w2 w0) => GlossT.at_ (ht2.grow hw))
    have hcc := (Grow.block hb2 HF1.out).cell
    have HF2 := Lib.hid (Grow.block hb2 HF1.out)
    clear hb2 ht2 HAT
    go_wp2_with fail
    refine (HLE.out As cs w2 (HT2.out w2 (Grow.refl _))).mono ?_
    rintro e w3 ⟨rfl, hb3⟩
    have HG3 : Hid (Grow w2 w3) := hb3
    clear hb3 hcc HLE
    have hm1 : (-1 : Int) < 0 := by omega
    go_wp2_with fail
    go_loopw [13, 14] (fun v iv wr => ∃ (k : Nat) (o : Option Nat), k ≤ pw ∧ iv = .int .i64 k ∧ v = .int .i64 (bestV o) ∧ Hid (bestS sl ok k = o ∧ ∀ b, o = some b → b < k) ∧ Grow w2 wr) (fun _ v _ => pw - (intOf v).toNat)
    case atStart => exact ⟨0, none, Nat.zero_le _, rfl, rfl, Lib.hid ⟨HZ.out, fun b h => by cases h⟩, HG3.out⟩
    case round =>
      obtain ⟨k, o, hk, rfl, rfl, HO, hgr⟩ := hrel
      rename World => wr
      have HGR : Hid (Grow w2 wr) := Lib.hid hgr
      clear hgr
      by_cases hlt : k < pw
      · have hld : decide ((k : Int) < (pw : Int)) = true := decide_eq_true (by omega)
        have hldn : decide (k < pw) = true := decide_eq_true hlt
        have HLT := Lib.hid hlt
        have HSBk := Lib.hid (HSB.out k (by omega))
        have HLSk := Lib.hid (HLS.out k)
        have HOKk := Lib.hid (HOK.out k)
        have HSTk := Lib.hid (HST.out k)
        have hkl := HLL.out k
        obtain ⟨sub, hsub⟩ : ∃ q, subD sl k = q := ⟨_, rfl⟩
        rw [hsub] at HSBk HLSk HOKk HSTk hkl
        obtain ⟨sk, hsk⟩ : ∃ q, sizeD sn sub = q := ⟨_, rfl⟩
        rw [hsk] at HLSk HOKk
        obtain ⟨bv, hbv⟩ : ∃ q, bestV o = q := ⟨_, rfl⟩
        have HBV := Lib.hid hbv
        rw [hbv]
        clear hsub hsk hlt hbv
        by_cases hz : sk < sz
        · have d1 : decide (sk < sz) = true := decide_eq_true hz
          have d2 : decide ((sk : Int) < (sz : Int)) = true := decide_eq_true (by omega)
          have HNX : Hid (bestS sl ok (k + 1) = o) := Lib.hid (by rw [HSTk.out, HOKk.out, d1]; exact HO.out.1)
          clear hz
          go_upto_region 10 with fail
          refine wp_region_lit 7 [[], [], [], [(1, 41), (2, 42)], [(0, 40), (3, 43)], [], [(4, 44), (5, 45)]] Grow (fun qi v w' => match qi with
              | 0 => v = filmsV f
              | 1 => v = .slice As la cs
              | 2 => v = .int .i64 (k : Nat)
              | 3 => IsRowG sub v w'
              | 4 => v = .int .i64 (sk : Nat)
              | 5 => v = .int .i64 (sz : Nat)
              | 6 => v = .bool true
              | _ => False) (by kernel_rfl) (by kernel_rfl) (fun _ _ _ => Grow.trans) Grow.refl ?_ ?_ ?_
          · intro i v y y' h k
            match i, h with
            | 3, h => exact h.grow k
            | 0, h | 1, h | 2, h | 4, h | 5, h | 6, h => exact h
          · simp only [StepsLit, List.take_succ_cons, List.take_zero]
            refine ⟨?_, ?_, ?_, ?_, ?_, ?_, ?_, trivial⟩
            · intro w5 hR
              have hGw : Grow wr w5 := hR.of_drew
              have HGW := Lib.hid hGw
              have hcc := ((HGR.out.trans HGW.out).block HF2.out).cell
              clear hR hGw
              simp only [depV]
              try go_simp
              all_goals first
                | (with_reducible exact Grow.refl _)
                | (with_reducible exact ⟨Grow.refl _, rfl⟩)
            · intro w5 hR
              have hGw : Grow wr w5 := hR.of_drew
              have HGW := Lib.hid hGw
              have hcc := ((HGR.out.trans HGW.out).block HF2.out).cell
              clear hR hGw
              simp only [depV]
              try go_simp
              all_goals first
                | (with_reducible exact Grow.refl _)
                | (with_reducible exact ⟨Grow.refl _, rfl⟩)
            · intro w5 hR
              have hGw : Grow wr w5 := hR.of_drew
              have HGW := Lib.hid hGw
              have hcc := ((HGR.out.trans HGW.out).block HF2.out).cell
              clear hR hGw
              simp only [depV]
              try go_simp
              all_goals first
                | (with_reducible exact Grow.refl _)
                | (with_reducible exact ⟨Grow.refl _, rfl⟩)
            · intro w5 hR
              have hGw : Grow wr w5 := hR.of_drew
              have HGW := Lib.hid hGw
              have hcc := ((HGR.out.trans HGW.out).block HF2.out).cell
              clear hR hGw
              simp only [depV]
              rintro _ rfl
              rintro _ rfl
              try go_simp
              refine (HSBk.out As cs w5 (HT2.out w5 (HGR.out.trans HGW.out))).mono ?_
              rintro e w6 ⟨A6, c6, rfl, ht6, hb6⟩
              exact ⟨hb6, A6, c6, rfl, ht6.at_⟩
            · intro w5 hR
              have hGw : Grow wr w5 := hR.of_drew
              have HGW := Lib.hid hGw
              have hcc := ((HGR.out.trans HGW.out).block HF2.out).cell
              clear hR hGw
              simp only [depV]
              rintro _ rfl
              intro v3 hv3
              obtain ⟨A4, c4, rfl, ht4⟩ := hv3
              clear hcc
              try go_simp
              refine (HLSk.out A4 c4 w5 ht4).mono ?_
              rintro e w6 ⟨rfl, hb6⟩
              exact ⟨hb6, rfl⟩
            · intro w5 hR
              have hGw : Grow wr w5 := hR.of_drew
              have HGW := Lib.hid hGw
              have hcc := ((HGR.out.trans HGW.out).block HF2.out).cell
              clear hR hGw
              simp only [depV]
              try go_simp
              all_goals first
                | (with_reducible exact Grow.refl _)
                | (with_reducible exact ⟨Grow.refl _, rfl⟩)
            · intro w5 hR
              have hGw : Grow wr w5 := hR.of_drew
              have HGW := Lib.hid hGw
              have hcc := ((HGR.out.trans HGW.out).block HF2.out).cell
              clear hR hGw
              simp only [depV]
              rintro _ rfl
              rintro _ rfl
              try go_simp
              all_goals first
                | (with_reducible exact Grow.refl _)
                | (with_reducible exact ⟨Grow.refl _, rfl⟩)
          · intro w5 hR
            have HG5 : Hid (Grow wr w5) := Lib.hid hR.of_drew
            clear hR
            simp only [finVC, List.take_succ_cons, List.take_zero, List.drop_succ_cons, List.drop_zero]
            rintro _ rfl
            rintro _ rfl
            rintro _ rfl
            intro v3 hv3
            rintro _ rfl
            rintro _ rfl
            rintro _ rfl
            simp only [Act.put, List.setIfInBounds_toArray, List.set_cons_succ, List.set_cons_zero]
            have HG6 : Hid (Grow w2 w5) := Lib.hid (HGR.out.trans HG5.out)
            rw [← HBV.out]
            go_wp2
            go_roundw
            case rel => exact ⟨k + 1, o, HLT.out, by go_num, rfl, Lib.hid ⟨HNX.out, fun b h => Nat.lt_succ_of_lt (HO.out.2 b h)⟩, HG6.out⟩
            case measure => have := HLT.out; simp [intOf]; omega
        · have d1 : decide (sk < sz) = false := decide_eq_false hz
          have d2 : decide ((sk : Int) < (sz : Int)) = false := decide_eq_false (by omega)
          have HNX : Hid (bestS sl ok (k + 1) = stepS sl la k sub.length o) := Lib.hid (by rw [HSTk.out, HOKk.out, d1, HO.out.1]; rfl)
          clear hz
          go_upto_region 10 with fail
          refine wp_region_lit 7 [[], [], [], [(1, 41), (2, 42)], [(0, 40), (3, 43)], [], [(4, 44), (5, 45)]] Grow (fun qi v w' => match qi with
              | 0 => v = filmsV f
              | 1 => v = .slice As la cs
              | 2 => v = .int .i64 (k : Nat)
              | 3 => IsRowG sub v w'
              | 4 => v = .int .i64 (sk : Nat)
              | 5 => v = .int .i64 (sz : Nat)
              | 6 => v = .bool false
              | _ => False) (by kernel_rfl) (by kernel_rfl) (fun _ _ _ => Grow.trans) Grow.refl ?_ ?_ ?_
          · intro i v y y' h k
            match i, h with
            | 3, h => exact h.grow k
            | 0, h | 1, h | 2, h | 4, h | 5, h | 6, h => exact h
          · simp only [StepsLit, List.take_succ_cons, List.take_zero]
            refine ⟨?_, ?_, ?_, ?_, ?_, ?_, ?_, trivial⟩
            · intro w5 hR
              have hGw : Grow wr w5 := hR.of_drew
              have HGW := Lib.hid hGw
              have hcc := ((HGR.out.trans HGW.out).block HF2.out).cell
              clear hR hGw
              simp only [depV]
              try go_simp
              all_goals first
                | (with_reducible exact Grow.refl _)
                | (with_reducible exact ⟨Grow.refl _, rfl⟩)
            · intro w5 hR
              have hGw : Grow wr w5 := hR.of_drew
              have HGW := Lib.hid hGw
              have hcc := ((HGR.out.trans HGW.out).block HF2.out).cell
              clear hR hGw
              simp only [depV]
              try go_simp
              all_goals first
                | (with_reducible exact Grow.refl _)
                | (with_reducible exact ⟨Grow.refl _, rfl⟩)
            · intro w5 hR
              have hGw : Grow wr w5 := hR.of_drew
              have HGW := Lib.hid hGw
              have hcc := ((HGR.out.trans HGW.out).block HF2.out).cell
              clear hR hGw
              simp only [depV]
              try go_simp
              all_goals first
                | (with_reducible exact Grow.refl _)
                | (with_reducible exact ⟨Grow.refl _, rfl⟩)
            · intro w5 hR
              have hGw : Grow wr w5 := hR.of_drew
              have HGW := Lib.hid hGw
              have hcc := ((HGR.out.trans HGW.out).block HF2.out).cell
              clear hR hGw
              simp only [depV]
              rintro _ rfl
              rintro _ rfl
              try go_simp
              refine (HSBk.out As cs w5 (HT2.out w5 (HGR.out.trans HGW.out))).mono ?_
              rintro e w6 ⟨A6, c6, rfl, ht6, hb6⟩
              exact ⟨hb6, A6, c6, rfl, ht6.at_⟩
            · intro w5 hR
              have hGw : Grow wr w5 := hR.of_drew
              have HGW := Lib.hid hGw
              have hcc := ((HGR.out.trans HGW.out).block HF2.out).cell
              clear hR hGw
              simp only [depV]
              rintro _ rfl
              intro v3 hv3
              obtain ⟨A4, c4, rfl, ht4⟩ := hv3
              clear hcc
              try go_simp
              refine (HLSk.out A4 c4 w5 ht4).mono ?_
              rintro e w6 ⟨rfl, hb6⟩
              exact ⟨hb6, rfl⟩
            · intro w5 hR
              have hGw : Grow wr w5 := hR.of_drew
              have HGW := Lib.hid hGw
              have hcc := ((HGR.out.trans HGW.out).block HF2.out).cell
              clear hR hGw
              simp only [depV]
              try go_simp
              all_goals first
                | (with_reducible exact Grow.refl _)
                | (with_reducible exact ⟨Grow.refl _, rfl⟩)
            · intro w5 hR
              have hGw : Grow wr w5 := hR.of_drew
              have HGW := Lib.hid hGw
              have hcc := ((HGR.out.trans HGW.out).block HF2.out).cell
              clear hR hGw
              simp only [depV]
              rintro _ rfl
              rintro _ rfl
              try go_simp
              all_goals first
                | (with_reducible exact Grow.refl _)
                | (with_reducible exact ⟨Grow.refl _, rfl⟩)
          · intro w5 hR
            have HG5 : Hid (Grow wr w5) := Lib.hid hR.of_drew
            clear hR
            simp only [finVC, List.take_succ_cons, List.take_zero, List.drop_succ_cons, List.drop_zero]
            rintro _ rfl
            rintro _ rfl
            rintro _ rfl
            intro v3 hv3
            rintro _ rfl
            rintro _ rfl
            rintro _ rfl
            simp only [Act.put, List.setIfInBounds_toArray, List.set_cons_succ, List.set_cons_zero]
            have HG6 : Hid (Grow w2 w5) := Lib.hid (HGR.out.trans HG5.out)
            clear hv3 HLSk d1 d2
            go_wp2_with fail
            refine (HSBk.out As cs w5 (HT2.out w5 HG6.out)).mono ?_
            rintro e w6 ⟨A6, c6, rfl, ht6, hb6⟩
            have HG7 : Hid (Grow w2 w6) := Lib.hid (HG6.out.trans hb6)
            clear ht6 hb6
            cases o with
            | none =>
              obtain rfl : -1 = bv := HBV.out
              go_wp2_with fail
              refine (HSM.out As cs w6 (HT2.out w6 HG7.out)).mono ?_
              rintro e w7 ⟨A7, c7, rfl, ht7, hb7⟩
              have HG8 : Hid (Grow w2 w7) := Lib.hid (HG7.out.trans hb7)
              clear ht7 hb7
              go_wp2
              go_roundw
              case rel => exact ⟨k + 1, some k, HLT.out, by go_num, rfl, Lib.hid ⟨(by rw [HNX.out]; rfl), fun b' h => by injection h with h; omega⟩, HG8.out⟩
              case measure => have := HLT.out; simp [intOf]; omega
            | some b =>
              obtain rfl : ((b : Nat) : Int) = bv := HBV.out
              have hbk := HO.out.2 b rfl
              have hb0 : decide ((b : Int) < 0) = false := decide_eq_false (by omega)
              have HSBb := Lib.hid (HSB.out b (by omega))
              have HEb := Lib.hid (HEA.out k b HLT.out (by have := HLT.out; omega))
              have hbl := HLL.out b
              have HNX : Hid (bestS sl ok (k + 1) = if (decide (sub.length < (subD sl b).length) || (decide (sub.length = (subD sl b).length) && earlyD la k b)) = true then some k else some b) := Lib.hid (by rw [HNX.out]; rfl)
              obtain ⟨sb, hsb⟩ : ∃ q, subD sl b = q := ⟨_, rfl⟩
              rw [hsb] at HSBb HNX hbl
              obtain ⟨ea, hea⟩ : ∃ q, earlyD la k b = q := ⟨_, rfl⟩
              rw [hea] at HEb HNX
              clear hsb hea
              go_wp2_with fail
              refine (HSBb.out As cs w6 (HT2.out w6 HG7.out)).mono ?_
              rintro e w7 ⟨A7, c7, rfl, ht7, hb7⟩
              have HG8 : Hid (Grow w2 w7) := Lib.hid (HG7.out.trans hb7)
              clear ht7 hb7 HSBb
              obtain ⟨p1, hp1⟩ : ∃ q, sub.length = q := ⟨_, rfl⟩
              obtain ⟨p2, hp2⟩ : ∃ q, sb.length = q := ⟨_, rfl⟩
              rw [hp1] at HNX ⊢
              rw [hp2] at HNX ⊢
              clear hp1 hp2
              by_cases h1 : p1 < p2
              · have g1 : decide (p1 < p2) = true := decide_eq_true h1
                have g2 : decide ((p1 : Int) < (p2 : Int)) = true := decide_eq_true (by omega)
                clear h1
                go_wp2
                go_roundw
                case rel => exact ⟨k + 1, some k, HLT.out, by go_num, rfl, Lib.hid ⟨(by rw [HNX.out, g1]; rfl), fun b' h => by injection h with h; omega⟩, HG8.out⟩
                case measure => have := HLT.out; simp [intOf]; omega
              · have g1 : decide (p1 < p2) = false := decide_eq_false h1
                have g2 : decide ((p1 : Int) < (p2 : Int)) = false := decide_eq_false (by omega)
                by_cases h2 : p1 = p2
                · have g3 : decide (p1 = p2) = true := decide_eq_true h2
                  have g4 : ((p1 : Int) == (p2 : Int)) = true := by rw [h2]; simp
                  clear h1 h2
                  go_wp2_with fail
                  refine (HEb.out _).mono ?_
                  rintro e w8 ⟨rfl, rfl⟩
                  cases ea with
                  | true =>
                    go_wp2
                    go_roundw
                    case rel => exact ⟨k + 1, some k, HLT.out, by go_num, rfl, Lib.hid ⟨(by rw [HNX.out, g1, g3]; rfl), fun b' h => by injection h with h; omega⟩, HG8.out⟩
                    case measure => have := HLT.out; simp [intOf]; omega
                  | false =>
                    go_wp2
                    go_roundw
                    case rel => exact ⟨k + 1, some b, HLT.out, by go_num, rfl, Lib.hid ⟨(by rw [HNX.out, g1, g3]; rfl), fun b' h => Nat.lt_succ_of_lt (HO.out.2 b' h)⟩, HG8.out⟩
                    case measure => have := HLT.out; simp [intOf]; omega
                · have g3 : decide (p1 = p2) = false := decide_eq_false h2
                  have g4 : ((p1 : Int) == (p2 : Int)) = false := by rw [beq_eq_false_iff_ne]; omega
                  clear h1 h2
                  go_wp2
                  go_roundw
                  case rel => exact ⟨k + 1, some b, HLT.out, by go_num, rfl, Lib.hid ⟨(by rw [HNX.out, g1, g3]; rfl), fun b' h => Nat.lt_succ_of_lt (HO.out.2 b' h)⟩, HG8.out⟩
                  case measure => have := HLT.out; simp [intOf]; omega
      · obtain rfl : k = pw := by omega
        have hld : decide ((k : Int) < (k : Int)) = false := by simp
        have hldn : decide (k < k) = false := by simp
        obtain ⟨b, hb, he, hpb⟩ := HALL.out
        have hob : o = some b := by rw [← HO.out.1]; exact he
        subst hob
        have HYL : Hid (subD sl b = whyD sn sl) := Lib.hid (by rw [HWD.out, hpb])
        have HSBb := Lib.hid (HSB.out b (by omega) As cs wr (HT2.out wr HGR.out))
        have hbe : bestV (some b) = (b : Nat) := rfl
        rw [hbe]
        clear hlt he hpb hbe HALL
        go_wp2_with fail
        refine HSBb.out.mono ?_
        rintro e w6 ⟨A6, c6, rfl, ht6, hb6⟩
        have HT6 := Lib.hid ht6.at_
        have HR6 := Lib.hid ht6.room
        have HG6 : Hid (Grow w w6) := Lib.hid (HG1.out.trans (HG2.out.trans (HGR.out.trans hb6)))
        clear ht6 hb6
        go_wp2
        exact bodyPost_ret (results_pair89 Try.results40 _ _ _ _ rfl rfl) rfl ⟨.slice A6 (subD sl b).length c6, rfl, by rw [HHY.out]; exact ⟨fun h => absurd rfl h, fun _ => by rw [HWY.out, ← HYL.out]; exact ⟨A6, c6, rfl, HR6.out, HT6.out⟩⟩, HG6.out⟩
  · have hne : decide (fe = 0) = false := decide_eq_false h0
    have hnec : (fe != 0) = true := by simpa using h0
    have HNE := Lib.hid h0
    clear h0
    go_wp2
    exact bodyPost_ret (results_pair89 Try.results40 _ _ _ _ rfl rfl) rfl ⟨.slice none 0 0, rfl, ⟨fun _ => rfl, fun h => absurd h HNE.out⟩, HG1.out⟩

end Go.Proofs.Ytinlojealfbbfaa

