/- RAgree: the specification's Agree. -/
import Derived.Test.YtinlojealfbbfaaHeardM
namespace Go.Proofs.Ytinlojealfbbfaa
open Go.RowKit

def fbD (m n : Int) : Int := if m ≠ 0 ∧ n ≠ 0 then 1 else 0
def fsD (m n : Int) : Int := if m.toNat &&& n.toNat ≠ 0 then 1 else 0
theorem byD_once {l : List GlossD} (ho : OnceG l) (hs : ∀ x ∈ l, SignsOK x ∧ x.signs.toNat ≠ 0) (fm fr a : Int) :
    (((l.filter (inD fm fr)).filter fun x => decide (x.author = a)) = [] ∧ byD (l.filter (inD fm fr)) a = 0) ∨ ∃ x, ((l.filter (inD fm fr)).filter fun x => decide (x.author = a)) = [x] ∧ byD (l.filter (inD fm fr)) a = x.signs ∧ x.signs ≠ 0 ∧ SignsOK x := by
  rcases once_frame ho fm fr a with h | ⟨x, h1, h2, h3, _⟩
  · refine .inl ⟨h, ?_⟩
    unfold byD
    rw [← List.head?_filter, h]
    rfl
  · refine .inr ⟨x, h1, ?_, fun e => (hs x h3).2 (by rw [e]; rfl), (hs x h3).1⟩
    unfold byD
    rw [h2]
    rfl
theorem frame_vals {l : List GlossD} (ho : OnceG l) (hs : ∀ x ∈ l, SignsOK x ∧ x.signs.toNat ≠ 0) (a b : Int) (k t : Nat) :
    frameH oneH a b l k t = fbD (byD (l.filter (inD k t)) a) (byD (l.filter (inD k t)) b) ∧ frameH bitsH a b l k t = fsD (byD (l.filter (inD k t)) a) (byD (l.filter (inD k t)) b) := by
  unfold frameH
  rcases byD_once ho hs k t a with ⟨e1, e2⟩ | ⟨x, e1, e2, e3, _⟩ <;> rcases byD_once ho hs k t b with ⟨f1, f2⟩ | ⟨y, f1, f2, f3, _⟩ <;> rw [e1, e2, f1, f2]
  · exact ⟨rfl, rfl⟩
  · exact ⟨rfl, by simp [sumL_nil, fsD]⟩
  · exact ⟨by simp [sumL_cons, sumL_nil, fbD], by simp [sumL_cons, sumL_nil, fsD]⟩
  · refine ⟨?_, ?_⟩
    · simp only [sumL_cons, sumL_nil, oneH, fbD]
      rw [if_pos ⟨e3, f3⟩]; rfl
    · simp only [sumL_cons, sumL_nil, bitsH, fsD]
      omega
theorem byD_small {l : List GlossD} (hs : ∀ x ∈ l, SignsOK x) (a : Int) : 0 ≤ byD l a ∧ byD l a < 1048576 := by
  unfold byD
  cases h : l.find? fun x => decide (x.author = a) with
  | none => simp
  | some x => exact hs x (List.mem_of_find?_eq_some h)
theorem bits_ints {m n : Int} (hm : 0 ≤ m ∧ m < 1048576) (hn : 0 ≤ n ∧ n < 1048576) : bits .and .i64 m n = ((m.toNat &&& n.toNat : Nat) : Int) := by
  obtain ⟨a, rfl⟩ := Int.eq_ofNat_of_zero_le hm.1
  obtain ⟨b, rfl⟩ := Int.eq_ofNat_of_zero_le hn.1
  rw [and_i64 a b (by omega) (by omega)]
  rfl
theorem rAgree_zero {f : FilmsD} {l : List GlossD} {a b : Int} (h : readErr f [l] = 0) : SortedG l (sortU l) ∧
    bothD a b ((sortU l).filter (holdsD (sortU l))) = sumR (fun k => sumR (fun t => fbD (byD (rAtD l k t) a) (byD (rAtD l k t) b)) (frameOf f k).toNat) f.frames.length ∧
    sameD a b ((sortU l).filter (holdsD (sortU l))) = sumR (fun k => sumR (fun t => fsD (byD (rAtD l k t) a) (byD (rAtD l k t) b)) (frameOf f k).toNat) f.frames.length := by
  obtain ⟨h1, h2, _, h4⟩ := readErr_zero h
  have hs := sortU_sorted h4
  have ho := held_once hs h4
  have hf := held_facts h hs
  have hin : ∀ x ∈ (sortU l).filter (holdsD (sortU l)), InFilm f x := fun x hx => okGloss_in (h2 x ((hs.2 x).1 (List.mem_filter.1 hx).1))
  have hsg : ∀ x ∈ (sortU l).filter (holdsD (sortU l)), SignsOK x ∧ x.signs.toNat ≠ 0 := fun x hx => ⟨(hf x hx).1, (hf x hx).2.1⟩
  have hat := fun (fm fr : Int) => rAt_eq h4 hs (fun y hy => okGloss_span (h2 y hy)) fm fr
  refine ⟨hs, ?_, ?_⟩
  · rw [both_frames hin]
    exact sumR_congr fun k _ => sumR_congr fun t _ => by rw [hat]; exact (frame_vals ho hsg a b k t).1
  · rw [same_frames hin]
    exact sumR_congr fun k _ => sumR_congr fun t _ => by rw [hat]; exact (frame_vals ho hsg a b k t).2

set_option maxRecDepth 100000 in
set_option maxHeartbeats 16000000 in
theorem rAgreeApi_any (f : FilmsR) (l : List GlossD) (A : Option Addr) (c : Nat) (a b : Int) (n : Nat) (w : World) (hf : Ints w n f.A f.d.frames) (hA : GlossAt w n A l) (hn : n ≤ w.heap.size) (hfl : f.d.frames.length ≤ 1000000) (hl : l.length ≤ 1000) :
    Calls Try.prog 39 #[filmsV f, .slice A l.length c, .int .i64 a, .int .i64 b] w fun e w' => ∃ m n, e = .returned (.tuple #[.int .i64 m, .int .i64 n, .int .i64 (agreeErr f.d l a b)]) ∧ AgreeV l a b m n (agreeErr f.d l a b) ∧ Below w.heap.size w w' := by
  have HC := Lib.hid (fun (w0 : World) (hw : Grow w w0) => rCheck_any f l A c w0.heap.size w0 (((hf.more hn).below hw).more hw.size) (((hA.more hn).below hw).more hw.size) (Nat.le_refl _) hfl hl)
  have HI := Lib.hid (fun (w0 : World) (hw : Grow w w0) => ((hf.more hn).below hw).more hw.size)
  have HGL := Lib.hid (fun (w0 : World) (hw : Grow w w0) => ((hA.more hn).below hw).more hw.size)
  obtain ⟨er, her⟩ : ∃ q, readErr f.d [l] = q := ⟨_, rfl⟩
  obtain ⟨fe, hfe⟩ : ∃ q, agreeErr f.d l a b = q := ⟨_, rfl⟩
  rw [hfe]
  have HFE : Hid (fe = if er = 0 then (if authorsOK a b = true then 0 else 1) else er) := Lib.hid (by rw [← hfe, ← her]; rfl)
  have HER := Lib.hid her
  rw [her] at HC
  clear her hfe hf hA hn
  go_enter Try.func39, Try.ntmps39
  go_upto_region 1 with fail
  obtain ⟨W, hW, hg, hf, hsz⟩ := one_block w 24 (cellsF f)
  rw [hW]
  clear hW
  have hcc := hf.cell
  have HF := Lib.hid hf
  have HG := Lib.hid hg
  clear hf hg
  go_wp2_with fail
  refine (HC.out W HG.out).mono ?_
  rintro e w1 ⟨rfl, hb1⟩
  have HG1 : Hid (Grow w w1) := Lib.hid (HG.out.trans hb1)
  have HF1 : Hid (BlockIs w1 w.heap.size 24 (cellsF f)) := Lib.hid (Grow.block hb1 HF.out)
  clear hb1 hcc HC HF
  by_cases h0 : er = 0
  · subst h0
    obtain ⟨ad, had⟩ : ∃ q, rAuthD a b = q := ⟨_, rfl⟩
    have HAD := Lib.hid had
    have HAO : Hid (authorsOK a b = ad) := Lib.hid (by
      rw [← had, Bool.eq_iff_iff]
      simp only [rAuthD, authorsOK, Bool.and_eq_true, decide_eq_true_eq, Bool.not_eq_true', decide_eq_false_iff_not]
      exact ⟨fun h => ⟨⟨h.1, h.2.1⟩, h.2.2⟩, fun h => ⟨h.1.1, h.1.2, h.2⟩⟩)
    clear had
    go_wp2_with fail
    refine (rAre_any _ _ _).mono ?_
    rintro e w2 ⟨rfl, rfl⟩
    rw [HAD.out]
    cases ad with
    | false =>
      have HE : Hid (fe = 1) := Lib.hid (by rw [HFE.out, HAO.out]; rfl)
      go_wp2
      exact bodyPost_ret (results_three8 Try.results39 _ _ _ _ _ rfl rfl rfl) rfl ⟨0, 0, congrArg (fun q => Ending.returned (Value.tuple #[.int .i64 0, .int .i64 0, .int .i64 q])) HE.out.symm, ⟨fun _ => ⟨rfl, rfl⟩, fun h => absurd (HE.out.symm.trans h) (by decide)⟩, HG1.out⟩
    | true =>
      have HE : Hid (fe = 0) := Lib.hid (by rw [HFE.out, HAO.out]; rfl)
      obtain ⟨hok, hgl, hl40, hncl⟩ := readErr_zero HER.out
      have HZ := Lib.hid (rAgree_zero (a := a) (b := b) HER.out)
      have HSM := Lib.hid (fun (y : GlossD) (hy : y ∈ l) => okGloss_small hok (hgl y hy))
      have HAF := Lib.hid (fun (fm fr : Int) (x : GlossD) (hx : x ∈ rAtD l fm fr) => (at_facts HER.out fm fr x hx).1)
      have HFO := Lib.hid (fun (k : Int) (h0 : 0 ≤ k) (h1 : k ≤ f.d.frames.length - 1) => frameOf_at hok h0 h1)
      have hfl4 := (okFilms_parts hok).1.2
      clear hok hgl hl40 hncl HFE HAO
      go_wp2_with fail
      go_loopw [8, 9, 12] (fun mv nv iv wr => ∃ (k : Nat) (m n : Int), k ≤ f.d.frames.length ∧ iv = .int .i64 k ∧ mv = .int .i64 m ∧ nv = .int .i64 n ∧ Hid (m = sumR (fun i => sumR (fun t => fbD (byD (rAtD l i t) a) (byD (rAtD l i t) b)) (frameOf f.d i).toNat) k ∧ n = sumR (fun i => sumR (fun t => fsD (byD (rAtD l i t) a) (byD (rAtD l i t) b)) (frameOf f.d i).toNat) k) ∧ 0 ≤ m ∧ m ≤ 200 * k ∧ 0 ≤ n ∧ n ≤ 200 * k ∧ Grow w1 wr) (fun _ _ v _ => f.d.frames.length - (intOf v).toNat)
      case atStart => exact ⟨0, 0, 0, Nat.zero_le _, rfl, rfl, rfl, Lib.hid ⟨rfl, rfl⟩, by omega, by omega, by omega, by omega, Grow.refl _⟩
      case round =>
        obtain ⟨k, m0, n0, hk, rfl, rfl, rfl, HMN, hm0, hm1, hn0, hn1, hgr⟩ := hrel
        rename World => wr
        have HGR := Lib.hid hgr
        clear hgr
        by_cases hlt : k < f.d.frames.length
        · have hkd : decide ((k : Int) < (f.d.frames.length : Int)) = true := decide_eq_true (by omega)
          have hkdn : decide (k < f.d.frames.length) = true := decide_eq_true hlt
          have hfo := HFO.out (k : Int) (by omega) (by omega)
          obtain ⟨fr, hfr⟩ := Int.eq_ofNat_of_zero_le (show 0 ≤ frameOf f.d k by omega)
          have hfr9 : fr ≤ 200 := by omega
          have HX0 : Hid (f.d.frames[k]? = some (fr : Int)) := Lib.hid (by have h := hfo.1; rw [Int.toNat_natCast, hfr] at h; exact h)
          have HFN : Hid ((frameOf f.d k).toNat = fr) := Lib.hid (by rw [hfr]; rfl)
          have HCF := Lib.hid (fun (w0 : World) (hw : Grow w1 w0) => show ∃ b9 off : Nat, w0.cell? ⟨w.heap.size, 0, none⟩ = some (.slice (some ⟨b9, off, none⟩) f.d.frames.length f.ca) ∧ w0.cell? ⟨b9, off + k, none⟩ = some (.int .i64 (fr : Nat)) by
            obtain ⟨b9, off, y, hAe, hb, hc, HY⟩ := (HI.out w0 (HG1.out.trans hw)).at_ hlt
            have hy : y = (fr : Int) := by have h := HY.out; rw [HX0.out] at h; exact (Option.some.inj h).symm
            refine ⟨b9, off, ?_, by rw [← hy]; exact hc⟩
            rw [(hw.block HF1.out).cell 0, ← hAe]
            rfl)
          have hki : (k : Int) < (f.d.frames.length : Int) := by omega
          have hk0 : (0 : Int) ≤ (k : Int) := by omega
          obtain ⟨b9, off, hcc, hcell⟩ := HCF.out wr HGR.out
          clear hfo hfr
          go_wp2_with fail
          clear hcc hcell
          go_loopw [8, 9, 13] (fun mv nv iv wx => ∃ (t : Nat) (m n : Int), t ≤ fr ∧ iv = .int .i64 t ∧ mv = .int .i64 m ∧ nv = .int .i64 n ∧ Hid (m = m0 + sumR (fun t => fbD (byD (rAtD l k t) a) (byD (rAtD l k t) b)) t ∧ n = n0 + sumR (fun t => fsD (byD (rAtD l k t) a) (byD (rAtD l k t) b)) t) ∧ 0 ≤ m ∧ m ≤ 200 * k + t ∧ 0 ≤ n ∧ n ≤ 200 * k + t ∧ Grow w1 wx) (fun _ _ v _ => fr - (intOf v).toNat)
          case atStart => exact ⟨0, m0, n0, Nat.zero_le _, rfl, rfl, rfl, Lib.hid ⟨(Int.add_zero _).symm, (Int.add_zero _).symm⟩, by omega, by omega, by omega, by omega, HGR.out⟩
          case round =>
            obtain ⟨t, m, n, ht, rfl, rfl, rfl, HTN, hm2, hm3, hn2, hn3, hgr⟩ := hrel
            rename World => wx
            have HGX := Lib.hid hgr
            clear hgr
            obtain ⟨b9, off, hcc, hcell⟩ := HCF.out wx HGX.out
            by_cases hlt2 : t < fr
            · have htd : decide ((t : Int) < (fr : Int)) = true := decide_eq_true (by omega)
              have htdn : decide (t < fr) = true := decide_eq_true hlt2
              go_wp2_with fail
              refine (rAt_any rsort_ok l A c wx.heap.size k t wx (HGL.out wx (HG1.out.trans HGX.out)) (Nat.le_refl _) hl HSM.out).mono ?_
              rintro e w6 ⟨A6, c6, rfl, hT6, hb6⟩
              have HG6 : Hid (Grow w1 w6) := Lib.hid (HGX.out.trans hb6)
              have HAT := Lib.hid hT6.at_
              have hal : (rAtD l k t).length ≤ 1000 := Nat.le_trans (rAtD_len l k t) hl
              have hbm := byD_small (HAF.out k t) a
              have hbn := byD_small (HAF.out k t) b
              have HSS : Hid (sumR (fun t => fbD (byD (rAtD l k t) a) (byD (rAtD l k t) b)) (t + 1) = sumR (fun t => fbD (byD (rAtD l k t) a) (byD (rAtD l k t) b)) t + fbD (byD (rAtD l k t) a) (byD (rAtD l k t) b) ∧ sumR (fun t => fsD (byD (rAtD l k t) a) (byD (rAtD l k t) b)) (t + 1) = sumR (fun t => fsD (byD (rAtD l k t) a) (byD (rAtD l k t) b)) t + fsD (byD (rAtD l k t) a) (byD (rAtD l k t) b)) := Lib.hid ⟨rfl, rfl⟩
              have HBA := Lib.hid (rBy_any a (rAtD l k t) A6 c6 w6.heap.size w6 HAT.out hal)
              have HBB := Lib.hid (rBy_any b (rAtD l k t) A6 c6 w6.heap.size w6 HAT.out hal)
              clear hT6 hb6 hcc hcell
              obtain ⟨bm, hbme⟩ : ∃ q, byD (rAtD l k t) a = q := ⟨_, rfl⟩
              obtain ⟨bn, hbne⟩ : ∃ q, byD (rAtD l k t) b = q := ⟨_, rfl⟩
              rw [hbme] at hbm HBA
              rw [hbne] at hbn HBB
              rw [hbme, hbne] at HSS
              obtain ⟨nat_, hnat⟩ : ∃ q, (rAtD l k t).length = q := ⟨_, rfl⟩
              rw [hnat] at HBA HBB ⊢
              clear hbme hbne hnat hal HAT
              go_wp2_with fail
              refine HBA.out.mono ?_
              rintro e w7 ⟨rfl, rfl⟩
              go_wp2_with fail
              refine HBB.out.mono ?_
              rintro e w7 ⟨rfl, rfl⟩
              have hbits := bits_ints hbm hbn
              have HFB : Hid (fbD bm bn = if bm ≠ 0 ∧ bn ≠ 0 then 1 else 0) := rfl
              have HFS : Hid (fsD bm bn = if bm.toNat &&& bn.toNat ≠ 0 then 1 else 0) := rfl
              have HZ1 : Hid (bm = 0 → bm.toNat &&& bn.toNat = 0) := Lib.hid (fun e => by rw [e]; simp)
              have HZ2 : Hid (bn = 0 → bm.toNat &&& bn.toNat = 0) := Lib.hid (fun e => by rw [e]; simp)
              generalize bm.toNat &&& bn.toNat = bb at hbits HFS HZ1 HZ2
              by_cases c1 : bm = 0
              · have hbb := HZ1.out c1
                have d1 : (bm != 0) = false := by simp [c1]
                have d1n : decide (bm = 0) = true := decide_eq_true c1
                have HNX : Hid (m = m0 + sumR (fun t => fbD (byD (rAtD l k t) a) (byD (rAtD l k t) b)) (t + 1) ∧ n = n0 + sumR (fun t => fsD (byD (rAtD l k t) a) (byD (rAtD l k t) b)) (t + 1)) := Lib.hid (by
                  rw [HSS.out.1, HSS.out.2, HFB.out, HFS.out, if_neg (fun h => h.1 c1), if_neg (fun h => h hbb), HTN.out.1, HTN.out.2]; omega)
                subst hbb
                clear c1
                go_wp2
                go_roundw
                case rel => exact ⟨t + 1, m, n, hlt2, by go_num, rfl, rfl, HNX, hm2, by omega, hn2, by omega, HG6.out⟩
                case measure => show fr - ((t : Int) + 1).toNat < fr - (t : Int).toNat; omega
              · have d1 : (bm != 0) = true := by simpa using c1
                have d1n : decide (bm = 0) = false := decide_eq_false c1
                by_cases c2 : bn = 0
                · have hbb := HZ2.out c2
                  have d2 : (bn != 0) = false := by simp [c2]
                  have d2n : decide (bn = 0) = true := decide_eq_true c2
                  have HNX : Hid (m = m0 + sumR (fun t => fbD (byD (rAtD l k t) a) (byD (rAtD l k t) b)) (t + 1) ∧ n = n0 + sumR (fun t => fsD (byD (rAtD l k t) a) (byD (rAtD l k t) b)) (t + 1)) := Lib.hid (by
                    rw [HSS.out.1, HSS.out.2, HFB.out, HFS.out, if_neg (fun h => h.2 c2), if_neg (fun h => h hbb), HTN.out.1, HTN.out.2]; omega)
                  subst hbb
                  clear c1 c2
                  go_wp2
                  go_roundw
                  case rel => exact ⟨t + 1, m, n, hlt2, by go_num, rfl, rfl, HNX, hm2, by omega, hn2, by omega, HG6.out⟩
                  case measure => show fr - ((t : Int) + 1).toNat < fr - (t : Int).toNat; omega
                · have d2 : (bn != 0) = true := by simpa using c2
                  have d2n : decide (bn = 0) = false := decide_eq_false c2
                  by_cases c3 : bb = 0
                  · have HNX : Hid (m + 1 = m0 + sumR (fun t => fbD (byD (rAtD l k t) a) (byD (rAtD l k t) b)) (t + 1) ∧ n = n0 + sumR (fun t => fsD (byD (rAtD l k t) a) (byD (rAtD l k t) b)) (t + 1)) := Lib.hid (by
                      rw [HSS.out.1, HSS.out.2, HFB.out, HFS.out, if_pos ⟨c1, c2⟩, if_neg (fun h => h c3), HTN.out.1, HTN.out.2]; omega)
                    subst c3
                    clear c1 c2
                    go_wp2
                    go_roundw
                    case rel => exact ⟨t + 1, m + 1, n, hlt2, by go_num, by go_num, rfl, HNX, by omega, by omega, hn2, by omega, HG6.out⟩
                    case measure => show fr - ((t : Int) + 1).toNat < fr - (t : Int).toNat; omega
                  · have d3 : ((bb : Int) != 0) = true := by rw [bne_iff_ne]; omega
                    have d3n : decide ((bb : Int) = 0) = false := decide_eq_false (by omega)
                    have d3m : decide (bb = 0) = false := decide_eq_false c3
                    have HNX : Hid (m + 1 = m0 + sumR (fun t => fbD (byD (rAtD l k t) a) (byD (rAtD l k t) b)) (t + 1) ∧ n + 1 = n0 + sumR (fun t => fsD (byD (rAtD l k t) a) (byD (rAtD l k t) b)) (t + 1)) := Lib.hid (by
                      rw [HSS.out.1, HSS.out.2, HFB.out, HFS.out, if_pos ⟨c1, c2⟩, if_pos c3, HTN.out.1, HTN.out.2]; omega)
                    clear c1 c2 c3
                    go_wp2
                    go_roundw
                    case rel => exact ⟨t + 1, m + 1, n + 1, hlt2, by go_num, by go_num, by go_num, HNX, by omega, by omega, by omega, by omega, HG6.out⟩
                    case measure => show fr - ((t : Int) + 1).toNat < fr - (t : Int).toNat; omega
            · obtain rfl : t = fr := by omega
              have htd : decide ((t : Int) < (t : Int)) = false := by simp
              have htdn : decide (t < t) = false := by simp
              have HNX : Hid (m = sumR (fun i => sumR (fun t => fbD (byD (rAtD l i t) a) (byD (rAtD l i t) b)) (frameOf f.d i).toNat) (k + 1) ∧ n = sumR (fun i => sumR (fun t => fsD (byD (rAtD l i t) a) (byD (rAtD l i t) b)) (frameOf f.d i).toNat) (k + 1)) := Lib.hid (by
                have e1 := HTN.out.1
                have e2 := HTN.out.2
                rw [HMN.out.1, ← HFN.out] at e1
                rw [HMN.out.2, ← HFN.out] at e2
                exact ⟨e1, e2⟩)
              go_wp2
              go_roundw
              case rel => exact ⟨k + 1, m, n, hlt, by go_num, rfl, rfl, HNX, hm2, by omega, hn2, by omega, HGX.out⟩
              case measure => show f.d.frames.length - ((k : Int) + 1).toNat < f.d.frames.length - (k : Int).toNat; omega
        · obtain rfl : k = f.d.frames.length := by omega
          have hkd : decide ((f.d.frames.length : Int) < (f.d.frames.length : Int)) = false := by simp
          have hkdn : decide (f.d.frames.length < f.d.frames.length) = false := by simp
          have hcc := (HGR.out.block HF1.out).cell
          clear hlt
          go_wp2
          exact bodyPost_ret (results_three8 Try.results39 _ _ _ _ _ rfl rfl rfl) rfl ⟨m0, n0, congrArg (fun q => Ending.returned (Value.tuple #[.int .i64 m0, .int .i64 n0, .int .i64 q])) HE.out.symm, ⟨fun h => absurd HE.out h, fun _ => ⟨sortU l, HZ.out.1, by rw [HZ.out.2.1, HMN.out.1], by rw [HZ.out.2.2, HMN.out.2]⟩⟩, HG1.out.trans HGR.out⟩
  · have hne : decide (er = 0) = false := decide_eq_false h0
    have hnec : (er != 0) = true := by simpa using h0
    have HE : Hid (fe = er) := Lib.hid (by rw [HFE.out, if_neg h0])
    have HNE := Lib.hid h0
    clear h0
    go_wp2
    exact bodyPost_ret (results_three8 Try.results39 _ _ _ _ _ rfl rfl rfl) rfl ⟨0, 0, congrArg (fun q => Ending.returned (Value.tuple #[.int .i64 0, .int .i64 0, .int .i64 q])) HE.out.symm, ⟨fun _ => ⟨rfl, rfl⟩, fun h => absurd (HE.out.symm.trans h) HNE.out⟩, HG1.out⟩

end Go.Proofs.Ytinlojealfbbfaa
