/- ReadsLaw: the law GlossesReads answers true. -/
import Derived.Test.YtinlojealfbbfaaRReads
import Derived.Test.YtinlojealfbbfaaRAgree
import Derived.Test.YtinlojealfbbfaaCopies
import Derived.Test.YtinlojealfbbfaaFar
namespace Go.Proofs.Ytinlojealfbbfaa
open Go.RowKit

structure PlaceD where
  film : Int
  frame : Int
  a : Int
  b : Int
  set : Int
abbrev cellsPl (x : PlaceD) : Array Value := #[.int .i64 x.film, .int .i64 x.frame, .int .i64 x.a, .int .i64 x.b, .int .i64 x.set]
abbrev placeV (x : PlaceD) : Value := .agg (cellsPl x)
theorem SortedG.unclash {l all : List GlossD} (h : SortedG l all) : ¬ Clash l := fun ⟨x, hx, y, hy, h1, h2, h3⟩ => by
  have hx' := (h.2 x).2 hx
  have hy' := (h.2 y).2 hy
  obtain ⟨i, hi⟩ := List.getElem?_of_mem hx'
  obtain ⟨j, hj⟩ := List.getElem?_of_mem hy'
  obtain ⟨li, rfl⟩ := List.getElem?_eq_some_iff.1 hi
  obtain ⟨lj, rfl⟩ := List.getElem?_eq_some_iff.1 hj
  have hp := List.pairwise_iff_getElem.1 h.1
  have h0 : cmpG all[i] all[j] = 0 := by simp [cmpG, orL, h1, h2, cmpI_self]
  have h0' : cmpG all[j] all[i] = 0 := by simp [cmpG, orL, h1, h2, cmpI_self]
  rcases Nat.lt_trichotomy i j with g | g | g
  · have := hp i j li lj g; omega
  · subst g; exact h3 rfl
  · have := hp j i lj li g; omega
def readsL (f : FilmsD) (l : List GlossD) (film er : Int) : List RdD := if er = 0 then rdsTo (setAt f.signs.toNat ((sortU l).filter (holdsD (sortU l))) film) (frameOf f film).toNat else []
theorem readsL_len (f : FilmsD) (l : List GlossD) (film : Int) : (readsL f l film (filmErr f l film)).length ≤ 1000000 := by
  unfold readsL
  split
  · rename_i h0
    have hfz := frameErr_zero ((frame_film f l film).trans h0)
    have hfo := frameOf_at (readErr_zero hfz.1).1 hfz.2.1.1 hfz.2.1.2
    have := rdsTo_len (setAt f.signs.toNat ((sortU l).filter (holdsD (sortU l))) film) (frameOf f film).toNat
    omega
  · simp
theorem ReadingsV.row {f : FilmsD} {l : List GlossD} {film : Int} {lo : Nat} {v : Value} {er : Int} {w : World} (h : ReadingsV f l film lo v er w) : ∃ A c, v = .slice A (readsL f l film er).length c ∧ RdAt w w.heap.size A (readsL f l film er) := by
  unfold readsL
  by_cases h0 : er = 0
  · obtain ⟨A, c, all, rfl, hs, ht⟩ := h.2 h0
    obtain rfl := hs.unique (sortU_sorted hs.unclash)
    rw [if_pos h0]
    exact ⟨A, c, rfl, ht.at_⟩
  · rw [if_neg h0, h.1 h0]
    exact ⟨none, 0, rfl, .inl rfl⟩
theorem RdAt.more {w : World} {n m : Nat} {A : Option Addr} {l : List RdD} (h : RdAt w n A l) (hm : n ≤ m) : RdAt w m A l := by
  rcases h with h | ⟨b, off, e, hb, hc⟩
  · exact .inl h
  · exact .inr ⟨b, off, e, by omega, hc⟩
theorem SureV.same {f : FilmsD} {l : List GlossD} {film frame m n m' n' er : Int} (h : SureV f l film frame m n er) (h' : SureV f l film frame m' n' er) : m' = m ∧ n' = n := by
  by_cases h0 : er = 0
  · obtain ⟨all, hs, h1, h2⟩ := h.2 h0
    obtain ⟨all', hs', h3, h4⟩ := h'.2 h0
    obtain rfl := hs.unique hs'
    exact ⟨h3.trans h1.symm, h4.trans h2.symm⟩
  · obtain ⟨h1, h2⟩ := h.1 h0
    obtain ⟨h3, h4⟩ := h'.1 h0
    exact ⟨h3.trans h1.symm, h4.trans h2.symm⟩
theorem AgreeV.same {l : List GlossD} {a b m n m' n' er : Int} (h : AgreeV l a b m n er) (h' : AgreeV l a b m' n' er) : m' = m ∧ n' = n := by
  by_cases h0 : er = 0
  · obtain ⟨all, hs, h1, h2⟩ := h.2 h0
    obtain ⟨all', hs', h3, h4⟩ := h'.2 h0
    obtain rfl := hs.unique hs'
    exact ⟨h3.trans h1.symm, h4.trans h2.symm⟩
  · obtain ⟨h1, h2⟩ := h.1 h0
    obtain ⟨h3, h4⟩ := h'.1 h0
    exact ⟨h3.trans h1.symm, h4.trans h2.symm⟩
theorem far_bounds {f : FilmsD} {l : List GlossD} (h : farD f l = false) : f.frames.length ≤ 20 ∧ l.length ≤ 60 ∧ (l.length ≤ 12 ∨ 40 < l.length) := by
  unfold farD at h
  simp only [Bool.or_eq_false_iff, Bool.and_eq_false_iff, decide_eq_false_iff_not] at h
  obtain ⟨⟨h1, h2⟩, h3, _⟩ := h
  refine ⟨by omega, by omega, ?_⟩
  rcases h3 with h3 | h3 <;> omega

set_option maxRecDepth 100000 in
set_option maxHeartbeats 16000000 in
theorem glossesReads_any (f : FilmsR) (l : List GlossD) (A : Option Addr) (c : Nat) (x : PlaceD) (w : World) (hf : Ints w w.heap.size f.A f.d.frames) (hA : GlossAt w w.heap.size A l) :
    Calls Try.prog 10 #[filmsV f, .slice A l.length c, placeV x] w fun e w' => e = .returned (.bool true) ∧ Below w.heap.size w w' := by
  have HI := Lib.hid (fun (w0 : World) (hw : Grow w w0) => (hf.below hw).more hw.size)
  have HGA := Lib.hid (fun (w0 : World) (hw : Grow w w0) => (hA.below hw).more hw.size)
  have HFA := Lib.hid (fun (w0 : World) (hw : Grow w w0) => far_any f l A c w0.heap.size w0 (HI.out w0 hw) (Nat.le_refl _))
  have HPA := Lib.hid (fun (h : farD f.d l = false) => far_bounds h)
  obtain ⟨fa, hfa⟩ : ∃ q, farD f.d l = q := ⟨_, rfl⟩
  rw [hfa] at HFA HPA
  clear hfa hf hA
  go_enter Try.func10, Try.ntmps10
  go_upto_region 1 with fail
  obtain ⟨W, hW, hg, hf, hs, hsz⟩ := two_blocks w 24 42 (cellsF f) (cellsPl x)
  rw [hW]
  clear hW
  have hcc := hf.cell
  have HF := Lib.hid hf
  have HS := Lib.hid hs
  have HG := Lib.hid hg
  clear hf hs hg
  go_wp2_with fail
  refine (HFA.out W HG.out).mono ?_
  rintro e w1 ⟨rfl, hb1⟩
  have HG1 : Hid (Grow W w1) := hb1
  clear hb1 hcc HFA
  cases fa with
  | true =>
    go_wp2_with fail
    refine (works_any _).mono ?_
    rintro e w2 ⟨rfl, hb2⟩
    go_wp2
    go_ret
    exact ⟨rfl, HG.out.trans (HG1.out.trans hb2)⟩
  | false =>
    obtain ⟨hf20, ha60, ha12⟩ := HPA.out (by first | rfl | trivial)
    have ha9 : l.length ≤ 1000 := by omega
    have hf9 : f.d.frames.length ≤ 1000000 := by omega
    have hcc := (HG1.out.block HF.out).cell
    clear HPA
    go_wp2_with fail
    refine (rCopyF_any f w1.heap.size w1 (HI.out w1 (HG.out.trans HG1.out)) (Nat.le_refl _) (by omega)).mono ?_
    rintro e w3 ⟨Ag, cg, rfl, hig, hb3⟩
    have HIG := Lib.hid (fun (w0 : World) (hw : Grow w3 w0) => (hig.below hw).more hw.size)
    have HG3 : Hid (Grow W w3) := Lib.hid (HG1.out.trans hb3)
    clear hig hb3 hcc
    go_wp2_with fail
    refine (copied_any l A c w3.heap.size w3 (HGA.out w3 (HG.out.trans HG3.out)) (Nat.le_refl _) (by omega)).mono ?_
    rintro e w5 ⟨A1, c1, rfl, ht1, hb5⟩
    have HG5 : Hid (Grow w3 w5) := hb5
    have HT1 := Lib.hid ht1
    clear ht1 hb5
    go_upto_region 4 with fail
    obtain ⟨W4, hW4, hg4, hgb, hsz4⟩ := one_block w5 24 (cellsF ⟨f.d, Ag, cg⟩)
    rw [hW4]
    clear hW4
    have HGB4 := Lib.hid hgb
    have HG45 := Lib.hid hg4
    have HGW4 : Hid (Grow w W4) := Lib.hid (HG.out.trans (HG3.out.trans (HG5.out.trans hg4)))
    have HFB4 := Lib.hid ((HG3.out.trans (HG5.out.trans hg4)).block HF.out)
    have HSB4 := Lib.hid ((HG3.out.trans (HG5.out.trans hg4)).block HS.out)
    have HI1 := Lib.hid (fun (w0 : World) (hw : Grow W4 w0) => HIG.out w0 ((HG5.out.trans HG45.out).trans hw))
    have HR1 := Lib.hid (fun (w0 : World) (hw : Grow W4 w0) => GlossT.at_ (HT1.out.grow (HG45.out.trans hw)))
    have HRP := Lib.hid (fun (w0 : World) (hw : Grow W4 w0) => readingsApi_any sortG_ok ⟨f.d, Ag, cg⟩ l A1 c1 x.film w0.heap.size w0 (HI1.out w0 hw) (HR1.out w0 hw) (Nat.le_refl _) hf9 ha9)
    have HRR := Lib.hid (fun (w0 : World) (hw : Grow W4 w0) => rReadsApi_any f l A c x.film w0.heap.size w0 (HI.out w0 (HGW4.out.trans hw)) (HGA.out w0 (HGW4.out.trans hw)) (Nat.le_refl _) hf9 ha9)
    have HSP := Lib.hid (fun (w0 : World) (hw : Grow W4 w0) => sureApi_any sortG_ok ⟨f.d, Ag, cg⟩ l A1 c1 x.film x.frame w0.heap.size w0 (HI1.out w0 hw) (HR1.out w0 hw) (Nat.le_refl _) hf9 ha9)
    have HSR := Lib.hid (fun (w0 : World) (hw : Grow W4 w0) => rSureApi_any f l A c x.film x.frame w0.heap.size w0 (HI.out w0 (HGW4.out.trans hw)) (HGA.out w0 (HGW4.out.trans hw)) (Nat.le_refl _) hf9 ha9)
    have HAP := Lib.hid (fun (w0 : World) (hw : Grow W4 w0) => agreeApi_any sortG_ok ⟨f.d, Ag, cg⟩ l A1 c1 x.a x.b w0.heap.size w0 (HI1.out w0 hw) (HR1.out w0 hw) (Nat.le_refl _) hf9 ha9)
    have HAR := Lib.hid (fun (w0 : World) (hw : Grow W4 w0) => rAgreeApi_any f l A c x.a x.b w0.heap.size w0 (HI.out w0 (HGW4.out.trans hw)) (HGA.out w0 (HGW4.out.trans hw)) (Nat.le_refl _) hf9 ha9)
    dsimp only at HRP HSP HAP
    have hl9 := readsL_len f.d l x.film
    obtain ⟨ef, hef⟩ : ∃ q, filmErr f.d l x.film = q := ⟨_, rfl⟩
    obtain ⟨es, hes⟩ : ∃ q, frameErr f.d l x.film x.frame = q := ⟨_, rfl⟩
    obtain ⟨ea, hea⟩ : ∃ q, agreeErr f.d l x.a x.b = q := ⟨_, rfl⟩
    rw [hef] at HRP HRR hl9
    rw [hes] at HSP HSR
    rw [hea] at HAP HAR
    obtain ⟨b4, e4⟩ : ∃ q, w5.heap.size = q := ⟨_, rfl⟩
    rw [e4] at HGB4 hsz4 ⊢
    clear hgb hg4 hef hes hea e4 HIG HG5 HG45 HT1 HG3 HF HS HI1 HR1 HG1
    have hgc := HGB4.out.cell
    have hsc := HSB4.out.cell
    go_wp2_with fail
    refine (HRP.out W4 (Grow.refl _)).mono ?_
    rintro e w6 ⟨v6, rfl, hv6, hb6⟩
    obtain ⟨A6, c6, rfl, h6⟩ := hv6.row
    have HG7 : Hid (Grow W4 w6) := hb6
    have H6 := Lib.hid (fun (w0 : World) (hw : Grow w6 w0) => RdAt.more (RdAt.below h6 hw) hw.size)
    clear hv6 hb6 h6 hgc hsc
    have hcc := (HG7.out.block HFB4.out).cell
    have hsc := (HG7.out.block HSB4.out).cell
    go_wp2_with fail
    refine (HRR.out w6 HG7.out).mono ?_
    rintro e w7 ⟨v7, rfl, hv7, hb7⟩
    obtain ⟨A7, c7, rfl, h7⟩ := hv7.row
    have HG8 : Hid (Grow W4 w7) := Lib.hid (HG7.out.trans hb7)
    have HS1 := Lib.hid (lsameR_any _ _ A6 A7 c6 c7 w7.heap.size w7.heap.size w7 (H6.out w7 hb7) h7 hl9)
    rw [decide_eq_true rfl] at HS1
    generalize (readsL f.d l x.film ef).length = ml at HS1 ⊢
    clear hv7 hb7 h7 hcc hsc H6 HRP HRR hl9
    have hnn1 : (ef != ef) = false := by simp
    go_wp2_with fail
    refine HS1.out.mono ?_
    rintro e w8 ⟨rfl, nq, rfl⟩
    have HG9 : Hid (Grow W4 (w7.drewN nq)) := Lib.hid (Below.drewN_ HG8.out nq)
    generalize w7.drewN nq = w8 at HG9 ⊢
    have hgc := (HG9.out.block HGB4.out).cell
    have hsc := (HG9.out.block HSB4.out).cell
    clear HS1 HG8
    go_wp2_with fail
    refine (HSP.out w8 HG9.out).mono ?_
    rintro e w9 ⟨m1, n1, rfl, hv9, hb9⟩
    have HV9 := Lib.hid hv9
    have HG10 : Hid (Grow W4 w9) := Lib.hid (HG9.out.trans hb9)
    clear hv9 hb9 hgc hsc hnn1
    have hcc := (HG10.out.block HFB4.out).cell
    have hsc := (HG10.out.block HSB4.out).cell
    go_wp2_with fail
    refine (HSR.out w9 HG10.out).mono ?_
    rintro e w10 ⟨m2, n2, rfl, hv10, hb10⟩
    obtain ⟨rfl, rfl⟩ := HV9.out.same hv10
    have HG11 : Hid (Grow W4 w10) := Lib.hid (HG10.out.trans hb10)
    clear hv10 hb10 hcc hsc HSP HSR HV9
    have hnm1 : (m2 != m2) = false := by simp
    have hnm2 : (n2 != n2) = false := by simp
    have hnm3 : (es != es) = false := by simp
    have hgc := (HG11.out.block HGB4.out).cell
    have hsc := (HG11.out.block HSB4.out).cell
    go_wp2_with fail
    refine (HAP.out w10 HG11.out).mono ?_
    rintro e w11 ⟨m3, n3, rfl, hv11, hb11⟩
    have HV11 := Lib.hid hv11
    have HG12 : Hid (Grow W4 w11) := Lib.hid (HG11.out.trans hb11)
    clear hv11 hb11 hgc hsc
    have hcc := (HG12.out.block HFB4.out).cell
    have hsc := (HG12.out.block HSB4.out).cell
    go_wp2_with fail
    refine (HAR.out w11 HG12.out).mono ?_
    rintro e w12 ⟨m4, n4, rfl, hv12, hb12⟩
    obtain ⟨rfl, rfl⟩ := HV11.out.same hv12
    have HG13 : Hid (Grow W4 w12) := Lib.hid (HG12.out.trans hb12)
    clear hv12 hb12 hcc hsc HAP HAR HV11 hnm1 hnm2 hnm3
    have hnm4 : (m4 == m4) = true := by simp
    have hnm5 : (n4 == n4) = true := by simp
    have hnm6 : (ea == ea) = true := by simp
    go_wp2_with fail
    refine (works_any _).mono ?_
    rintro e w13 ⟨rfl, hb13⟩
    go_wp2
    go_ret
    exact ⟨rfl, HGW4.out.trans (HG13.out.trans hb13)⟩

end Go.Proofs.Ytinlojealfbbfaa
