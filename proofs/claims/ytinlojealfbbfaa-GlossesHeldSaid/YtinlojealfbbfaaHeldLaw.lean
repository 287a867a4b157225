/- HeldLaw: the law GlossesHeld answers true; written by wip/tools/held02.py. -/
import Derived.Test.YtinlojealfbbfaaRApi
import Derived.Deep.DeepCutAuto
namespace Go.Proofs.Ytinlojealfbbfaa
open Go.RowKit

theorem SortedG.no_clash {l all : List GlossD} (h : SortedG l all) : ¬ Clash l := fun ⟨x, hx, y, hy, h1, h2, h3⟩ => by
  have hx' := (h.2 x).2 hx
  have hy' := (h.2 y).2 hy
  obtain ⟨i, hi⟩ := List.getElem?_of_mem hx'
  obtain ⟨j, hj⟩ := List.getElem?_of_mem hy'
  obtain ⟨li, rfl⟩ := List.getElem?_eq_some_iff.1 hi
  obtain ⟨lj, rfl⟩ := List.getElem?_eq_some_iff.1 hj
  have hp := List.pairwise_iff_getElem.1 h.1
  have h0 : cmpG all[i] all[j] = 0 := by simp [cmpG, orL, h1, h2, cmpI_self]
  have h0' : cmpG all[j] all[i] = 0 := by simp [cmpG, orL, h1, h2, cmpI_self]
  rcases Nat.lt_trichotomy i j with g | g | g
  · have := hp i j li lj g; omega
  · subst g; exact h3 rfl
  · have := hp j i lj li g; omega
def mergeL (l : List GlossD) (er : Int) : List GlossD := if er = 0 then sortU l else []
def heldL (l : List GlossD) (er : Int) : List GlossD := if er = 0 then (sortU l).filter (holdsD (sortU l)) else []
theorem mergeL_len (l : List GlossD) (er : Int) : (mergeL l er).length ≤ l.length := by
  unfold mergeL
  split
  · exact sortU_len l
  · simp
theorem heldL_len (l : List GlossD) (er : Int) : (heldL l er).length ≤ l.length := by
  unfold heldL
  split
  · exact Nat.le_trans (List.length_filter_le _ _) (sortU_len l)
  · simp
theorem MergeV.row {l : List GlossD} {lo : Nat} {v : Value} {er : Int} {w : World} (h : MergeV l lo v er w) : IsRowG (mergeL l er) v w := by
  unfold mergeL
  by_cases h0 : er = 0
  · obtain ⟨A, c, all, rfl, hs, ht⟩ := h.2 h0
    obtain rfl := hs.unique (sortU_sorted hs.no_clash)
    rw [if_pos h0]
    exact ⟨A, c, rfl, ht.at_⟩
  · rw [if_neg h0, h.1 h0]
    exact ⟨none, 0, rfl, .inl rfl⟩
theorem HeldV.row {l : List GlossD} {lo : Nat} {v : Value} {er : Int} {w : World} (h : HeldV l lo v er w) : IsRowG (heldL l er) v w := by
  unfold heldL
  by_cases h0 : er = 0
  · obtain ⟨A, c, all, rfl, hs, ht⟩ := h.2 h0
    obtain rfl := hs.unique (sortU_sorted hs.no_clash)
    rw [if_pos h0]
    exact ⟨A, c, rfl, ht.at_⟩
  · rw [if_neg h0, h.1 h0]
    exact ⟨none, 0, rfl, .inl rfl⟩
theorem far_parts {f : FilmsD} {l : List GlossD} (h : farD f l = false) : f.frames.length ≤ 20 ∧ l.length ≤ 60 ∧ (l.length ≤ 12 ∨ 40 < l.length) := by
  unfold farD at h
  simp only [Bool.or_eq_false_iff, Bool.and_eq_false_iff, decide_eq_false_iff_not] at h
  obtain ⟨⟨h1, h2⟩, h3, _⟩ := h
  refine ⟨by omega, by omega, ?_⟩
  rcases h3 with h3 | h3 <;> omega

set_option maxRecDepth 100000 in
set_option maxHeartbeats 16000000 in
theorem glossesHeld_any (f : FilmsR) (a b : List GlossD) (A B : Option Addr) (c d : Nat) (w : World) (hf : Ints w w.heap.size f.A f.d.frames) (hA : GlossAt w w.heap.size A a) (hB : GlossAt w w.heap.size B b) :
    Calls Try.prog 9 #[filmsV f, .slice A a.length c, .slice B b.length d] w fun e w' => e = .returned (.bool true) ∧ Below w.heap.size w w' := by
  have HI := Lib.hid (fun (w0 : World) (hw : Grow w w0) => (hf.below hw).more hw.size)
  have HGA := Lib.hid (fun (w0 : World) (hw : Grow w w0) => (hA.below hw).more hw.size)
  have HGB := Lib.hid (fun (w0 : World) (hw : Grow w w0) => (hB.below hw).more hw.size)
  have HFA := Lib.hid (fun (w0 : World) (hw : Grow w w0) => far_any f a A c w0.heap.size w0 (HI.out w0 hw) (Nat.le_refl _))
  have HFB := Lib.hid (fun (w0 : World) (hw : Grow w w0) => far_any f b B d w0.heap.size w0 (HI.out w0 hw) (Nat.le_refl _))
  have HPA := Lib.hid (fun (h : farD f.d a = false) => far_parts h)
  have HPB := Lib.hid (fun (h : farD f.d b = false) => far_parts h)
  obtain ⟨fa, hfa⟩ : ∃ q, farD f.d a = q := ⟨_, rfl⟩
  obtain ⟨fb, hfb⟩ : ∃ q, farD f.d b = q := ⟨_, rfl⟩
  rw [hfa] at HFA HPA
  rw [hfb] at HFB HPB
  clear hfa hfb hf hA hB
  go_enter Try.func9, Try.ntmps9
  go_upto_region 1 with fail
  obtain ⟨W, hW, hg, hf, hsz⟩ := one_block w 24 (cellsF f)
  rw [hW]
  clear hW
  have hcc := hf.cell
  have HF := Lib.hid hf
  have HG := Lib.hid hg
  clear hf hg
  go_wp2_with fail
  refine (HFA.out W HG.out).mono ?_
  rintro e w1 ⟨rfl, hb1⟩
  have HG1 : Hid (Grow W w1) := hb1
  clear hb1 hcc HFA
  cases fa with
  | true =>
    go_wp2_with fail
    refine (works_any _).mono ?_
    rintro e w2 ⟨rfl, hb2⟩
    go_wp2
    go_ret
    exact ⟨rfl, HG.out.trans (HG1.out.trans hb2)⟩
  | false =>
    have hcc := (HG1.out.block HF.out).cell
    go_wp2_with fail
    refine (HFB.out w1 (HG.out.trans HG1.out)).mono ?_
    rintro e w2 ⟨rfl, hb2⟩
    have HG2 : Hid (Grow W w2) := Lib.hid (HG1.out.trans hb2)
    clear hb2 hcc HFB HG1
    cases fb with
    | true =>
      go_wp2_with fail
      refine (works_any _).mono ?_
      rintro e w3 ⟨rfl, hb3⟩
      go_wp2
      go_ret
      exact ⟨rfl, HG.out.trans (HG2.out.trans hb3)⟩
    | false =>
      obtain ⟨hf20, ha60, ha12⟩ := HPA.out (by first | rfl | trivial)
      obtain ⟨_, hb60, hb12⟩ := HPB.out (by first | rfl | trivial)
      have ha9 : a.length ≤ 1000 := by omega
      have hb9 : b.length ≤ 1000 := by omega
      have hf9 : f.d.frames.length ≤ 1000000 := by omega
      have H40 : Hid (okMsgs f.d a = true → okMsgs f.d b = true → a.length + b.length ≤ 40) := Lib.hid (fun h1 h2 => by
        simp only [okMsgs, Bool.and_eq_true, decide_eq_true_eq] at h1 h2
        omega)
      have hcc := (HG2.out.block HF.out).cell
      clear HPA HPB
      go_wp2_with fail
      refine (rCopyF_any f w2.heap.size w2 (HI.out w2 (HG.out.trans HG2.out)) (Nat.le_refl _) (by omega)).mono ?_
      rintro e w3 ⟨Ag, cg, rfl, hig, hb3⟩
      have HIG := Lib.hid (fun (w0 : World) (hw : Grow w3 w0) => (hig.below hw).more hw.size)
      have HG3 : Hid (Grow W w3) := Lib.hid (HG2.out.trans hb3)
      clear hig hb3 hcc
      go_wp2_with fail
      refine (copied_any a A c w3.heap.size w3 (HGA.out w3 (HG.out.trans HG3.out)) (Nat.le_refl _) (by omega)).mono ?_
      rintro e w4 ⟨A1, c1, rfl, ht1, hb4⟩
      have HT1 := Lib.hid ht1
      have HG4 : Hid (Grow w3 w4) := hb4
      clear ht1 hb4
      go_wp2_with fail
      refine (copied_any b B d w4.heap.size w4 (HGB.out w4 (HG.out.trans (HG3.out.trans HG4.out))) (Nat.le_refl _) (by omega)).mono ?_
      rintro e w5 ⟨B1, d1, rfl, ht2, hb5⟩
      have HG5 : Hid (Grow w3 w5) := Lib.hid (HG4.out.trans hb5)
      have HT1' := Lib.hid (HT1.out.grow hb5)
      have HT2 := Lib.hid ht2
      clear ht2 hb5 HT1 HG4
      go_upto_region 4 with fail
      obtain ⟨W4, hW4, hg4, hgb, hsz4⟩ := one_block w5 24 (cellsF ⟨f.d, Ag, cg⟩)
      rw [hW4]
      clear hW4
      have HGB4 := Lib.hid hgb
      have HG45 := Lib.hid hg4
      have HGW4 : Hid (Grow w W4) := Lib.hid (HG.out.trans (HG3.out.trans (HG5.out.trans hg4)))
      have HFB4 := Lib.hid ((HG3.out.trans (HG5.out.trans hg4)).block HF.out)
      have HI1 := Lib.hid (fun (w0 : World) (hw : Grow W4 w0) => HIG.out w0 ((HG5.out.trans HG45.out).trans hw))
      have HR1 := Lib.hid (fun (w0 : World) (hw : Grow W4 w0) => GlossT.at_ (HT1'.out.grow (HG45.out.trans hw)))
      have HR2 := Lib.hid (fun (w0 : World) (hw : Grow W4 w0) => GlossT.at_ (HT2.out.grow (HG45.out.trans hw)))
      have HCK := Lib.hid (fun (w0 : World) (hw : Grow W4 w0) => check_any sortG_ok ⟨f.d, Ag, cg⟩ a A1 c1 w0.heap.size w0 (HI1.out w0 hw) (HR1.out w0 hw) (Nat.le_refl _) hf9 ha9)
      have HRC := Lib.hid (fun (w0 : World) (hw : Grow W4 w0) => rCheck_any f a A c w0.heap.size w0 (HI.out w0 (HGW4.out.trans hw)) (HGA.out w0 (HGW4.out.trans hw)) (Nat.le_refl _) hf9 ha9)
      have HMP := Lib.hid (fun (w0 : World) (hw : Grow W4 w0) => merge_any sortG_ok ⟨f.d, Ag, cg⟩ a b A1 B1 c1 d1 w0.heap.size w0 (HI1.out w0 hw) (HR1.out w0 hw) (HR2.out w0 hw) (Nat.le_refl _) hf9 ha9 hb9 H40.out)
      have HMR := Lib.hid (fun (w0 : World) (hw : Grow W4 w0) => rMergeApi_any f a b A B c d w0.heap.size w0 (HI.out w0 (HGW4.out.trans hw)) (HGA.out w0 (HGW4.out.trans hw)) (HGB.out w0 (HGW4.out.trans hw)) (Nat.le_refl _) hf9 ha9 hb9 H40.out)
      have HHP := Lib.hid (fun (w0 : World) (hw : Grow W4 w0) => held_any sortG_ok ⟨f.d, Ag, cg⟩ a A1 c1 w0.heap.size w0 (HI1.out w0 hw) (HR1.out w0 hw) (Nat.le_refl _) hf9 ha9)
      have HHR := Lib.hid (fun (w0 : World) (hw : Grow W4 w0) => rHeldApi_any f a A c w0.heap.size w0 (HI.out w0 (HGW4.out.trans hw)) (HGA.out w0 (HGW4.out.trans hw)) (Nat.le_refl _) hf9 ha9)
      have HSA := Lib.hid (fun (w0 : World) (hw : Grow W4 w0) => lsame_any a a A1 A c1 c w0.heap.size w0.heap.size w0 (HR1.out w0 hw) (HGA.out w0 (HGW4.out.trans hw)) (by omega))
      have HSB := Lib.hid (fun (w0 : World) (hw : Grow W4 w0) => lsame_any b b B1 B d1 d w0.heap.size w0.heap.size w0 (HR2.out w0 hw) (HGB.out w0 (HGW4.out.trans hw)) (by omega))
      rw [decide_eq_true rfl] at HSA HSB
      dsimp only at HCK HMP HHP
      obtain ⟨ea, hea⟩ : ∃ q, readErr f.d [a] = q := ⟨_, rfl⟩
      obtain ⟨eab, heab⟩ : ∃ q, readErr f.d [a, b] = q := ⟨_, rfl⟩
      rw [hea] at HCK HRC HHP HHR
      rw [heab] at HMP HMR
      have hm9 : (mergeL (a ++ b) eab).length ≤ 1000000 := Nat.le_trans (mergeL_len _ _) (by rw [List.length_append]; omega)
      have hh9 : (heldL a ea).length ≤ 1000000 := Nat.le_trans (heldL_len _ _) (by omega)
      obtain ⟨b4, e4⟩ : ∃ q, w5.heap.size = q := ⟨_, rfl⟩
      rw [e4] at HGB4 hsz4 ⊢
      clear hgb hg4 hea heab e4 HIG HG5 HG45 HT1' HT2 HG3 HG2 HF HI1 HR1 HR2 H40
      refine wp_region_lit 6 [[], [], [(0, 33), (1, 34)], [], [], [(3, 36), (4, 37)]] Grow (fun qi v w' => match qi with
          | 0 => v = filmsV ⟨f.d, Ag, cg⟩
          | 1 => v = .slice A1 a.length c1
          | 2 => v = .int .i64 ea
          | 3 => v = filmsV f
          | 4 => v = .slice A a.length c
          | 5 => v = .int .i64 ea
          | _ => False) (by kernel_rfl) (by kernel_rfl) (fun _ _ _ => Grow.trans) Grow.refl ?_ ?_ ?_
      · intro i v y y' h k
        match i, h with
        | 0, h | 1, h | 2, h | 3, h | 4, h | 5, h => exact h
      · simp only [StepsLit, List.take_succ_cons, List.take_zero]
        refine ⟨?_, ?_, ?_, ?_, ?_, ?_, trivial⟩
        · intro w5 hR
          have hGw : Grow W4 w5 := hR.of_drew
          have HGW := Lib.hid hGw
          have hgc := (HGW.out.block HGB4.out).cell
          have hcc := (HGW.out.block HFB4.out).cell
          clear hR hGw
          simp only [depV]
          try go_simp
          all_goals first
            | (with_reducible exact Grow.refl _)
            | (with_reducible exact ⟨Grow.refl _, rfl⟩)
        · intro w5 hR
          have hGw : Grow W4 w5 := hR.of_drew
          have HGW := Lib.hid hGw
          have hgc := (HGW.out.block HGB4.out).cell
          have hcc := (HGW.out.block HFB4.out).cell
          clear hR hGw
          simp only [depV]
          try go_simp
          all_goals first
            | (with_reducible exact Grow.refl _)
            | (with_reducible exact ⟨Grow.refl _, rfl⟩)
        · intro w5 hR
          have hGw : Grow W4 w5 := hR.of_drew
          have HGW := Lib.hid hGw
          have hgc := (HGW.out.block HGB4.out).cell
          have hcc := (HGW.out.block HFB4.out).cell
          clear hR hGw
          simp only [depV]
          rintro _ rfl
          rintro _ rfl
          clear hgc hcc
          try go_simp
          refine (HCK.out w5 HGW.out).mono ?_
          rintro e w6 ⟨rfl, hb6⟩
          exact ⟨hb6, rfl⟩
        · intro w5 hR
          have hGw : Grow W4 w5 := hR.of_drew
          have HGW := Lib.hid hGw
          have hgc := (HGW.out.block HGB4.out).cell
          have hcc := (HGW.out.block HFB4.out).cell
          clear hR hGw
          simp only [depV]
          try go_simp
          all_goals first
            | (with_reducible exact Grow.refl _)
            | (with_reducible exact ⟨Grow.refl _, rfl⟩)
        · intro w5 hR
          have hGw : Grow W4 w5 := hR.of_drew
          have HGW := Lib.hid hGw
          have hgc := (HGW.out.block HGB4.out).cell
          have hcc := (HGW.out.block HFB4.out).cell
          clear hR hGw
          simp only [depV]
          try go_simp
          all_goals first
            | (with_reducible exact Grow.refl _)
            | (with_reducible exact ⟨Grow.refl _, rfl⟩)
        · intro w5 hR
          have hGw : Grow W4 w5 := hR.of_drew
          have HGW := Lib.hid hGw
          have hgc := (HGW.out.block HGB4.out).cell
          have hcc := (HGW.out.block HFB4.out).cell
          clear hR hGw
          simp only [depV]
          rintro _ rfl
          rintro _ rfl
          clear hgc hcc
          try go_simp
          refine (HRC.out w5 HGW.out).mono ?_
          rintro e w6 ⟨rfl, hb6⟩
          exact ⟨hb6, rfl⟩
      · intro w5 hR
        have HG5 : Hid (Grow W4 w5) := Lib.hid hR.of_drew
        clear hR
        simp only [finVC, List.take_succ_cons, List.take_zero, List.drop_succ_cons, List.drop_zero]
        rintro _ rfl
        rintro _ rfl
        rintro _ rfl
        rintro _ rfl
        rintro _ rfl
        rintro _ rfl
        simp only [Act.put, List.setIfInBounds_toArray, List.set_cons_succ, List.set_cons_zero]
        have HG6 : Hid (Grow W4 w5) := HG5
        have hgc := (HG6.out.block HGB4.out).cell
        have hcc := (HG6.out.block HFB4.out).cell
        have hnn : (ea != ea) = false := by simp
        clear HG5
        go_wp2_with fail
        refine (HMP.out w5 HG6.out).mono ?_
        rintro e w6 ⟨v6, rfl, hv6, hb6⟩
        obtain ⟨A6, c6, rfl, h6⟩ := hv6.row
        have HG7 : Hid (Grow W4 w6) := Lib.hid (HG6.out.trans hb6)
        have H6 := Lib.hid (fun (w0 : World) (hw : Grow w6 w0) => (h6.below hw).more hw.size)
        clear hv6 hb6 h6 hgc hcc hnn
        have hcc := (HG7.out.block HFB4.out).cell
        go_wp2_with fail
        refine (HMR.out w6 HG7.out).mono ?_
        rintro e w7 ⟨v7, rfl, hv7, hb7⟩
        obtain ⟨A7, c7, rfl, h7⟩ := hv7.row
        have HG8 : Hid (Grow W4 w7) := Lib.hid (HG7.out.trans hb7)
        have HS1 := Lib.hid (lsame_any _ _ A6 A7 c6 c7 w7.heap.size w7.heap.size w7 (H6.out w7 hb7) h7 hm9)
        rw [decide_eq_true rfl] at HS1
        generalize (mergeL (a ++ b) eab).length = ml at HS1 ⊢
        clear hv7 hb7 h7 hcc H6 HMP HMR
        have hnn2 : (eab != eab) = false := by simp
        go_wp2_with fail
        refine HS1.out.mono ?_
        rintro e w8 ⟨rfl, nq, rfl⟩
        have HG9 : Hid (Grow W4 (w7.drewN nq)) := Lib.hid (Below.drewN_ HG8.out nq)
        generalize w7.drewN nq = w8 at HG9 ⊢
        have hgc := (HG9.out.block HGB4.out).cell
        clear HS1 HG8
        go_wp2_with fail
        refine (HHP.out w8 HG9.out).mono ?_
        rintro e w9 ⟨v9, rfl, hv9, hb9⟩
        obtain ⟨A9, c9, rfl, h9⟩ := hv9.row
        have HG10 : Hid (Grow W4 w9) := Lib.hid (HG9.out.trans hb9)
        have H9 := Lib.hid (fun (w0 : World) (hw : Grow w9 w0) => (h9.below hw).more hw.size)
        clear hv9 hb9 h9 hgc hnn2
        have hcc := (HG10.out.block HFB4.out).cell
        go_wp2_with fail
        refine (HHR.out w9 HG10.out).mono ?_
        rintro e w10 ⟨v10, rfl, hv10, hb10⟩
        obtain ⟨A10, c10, rfl, h10⟩ := hv10.row
        have HG11 : Hid (Grow W4 w10) := Lib.hid (HG10.out.trans hb10)
        have HS2 := Lib.hid (lsame_any _ _ A9 A10 c9 c10 w10.heap.size w10.heap.size w10 (H9.out w10 hb10) h10 hh9)
        rw [decide_eq_true rfl] at HS2
        generalize (heldL a ea).length = hl2 at HS2 ⊢
        clear hv10 hb10 h10 hcc H9 HHP HHR
        have hnn3 : (ea == ea) = true := by simp
        go_wp2_with fail
        refine HS2.out.mono ?_
        rintro e w11 ⟨rfl, nq2, rfl⟩
        have HG12 : Hid (Grow W4 (w10.drewN nq2)) := Lib.hid (Below.drewN_ HG11.out nq2)
        generalize w10.drewN nq2 = w11 at HG12 ⊢
        go_wp2_with fail
        refine (HSA.out w11 HG12.out).mono ?_
        rintro e w12 ⟨rfl, nq3, rfl⟩
        have HG13 : Hid (Grow W4 (w11.drewN nq3)) := Lib.hid (Below.drewN_ HG12.out nq3)
        generalize w11.drewN nq3 = w12 at HG13 ⊢
        go_wp2_with fail
        refine (HSB.out w12 HG13.out).mono ?_
        rintro e w13 ⟨rfl, nq4, rfl⟩
        have HG14 : Hid (Grow W4 (w12.drewN nq4)) := Lib.hid (Below.drewN_ HG13.out nq4)
        generalize w12.drewN nq4 = w13 at HG14 ⊢
        go_wp2_with fail
        refine (works_any _).mono ?_
        rintro e w14 ⟨rfl, hb14⟩
        go_wp2
        go_ret
        exact ⟨rfl, HGW4.out.trans (HG14.out.trans hb14)⟩

end Go.Proofs.Ytinlojealfbbfaa
