/- PlansLaw: the statement on Slot and Plan; written by wip/tools/planslaw10.py. -/
import Derived.Test.YtcgnibfcjadnjaaPlansBad
import Derived.Test.YtcgnibfcjadnjaaRPlan
import Derived.Test.YtcgnibfcjadnjaaRCopy
import Derived.Test.YtcgnibfcjadnjaaWorksP
namespace Go.Proofs.Ytcgnibfcjadnjaa
open Go.RowKit

theorem grow_drewN (w : World) (n : Nat) : Grow w (w.drewN n) := Below.drewN_ (Grow.refl w) n
set_option maxRecDepth 100000 in
set_option maxHeartbeats 16000000 in
theorem coverPlans_far (h : PoolH) (d : PoolI) (sl : Int) (w : World) (hA : PoolAt w w.heap.size h d) (hv : farI d = true) :
    Calls Try.prog 10 #[poolV h d, .int .i64 sl] w fun e w' => e = .returned (.bool true) ∧ Below w.heap.size w w' := by
  have HFA := Lib.hid (fun (w0 : World) (hw : Grow w w0) => far_any h d w0 (hA.grow hw))
  rw [hv] at HFA
  clear hA hv
  obtain ⟨fa, fc, na, nc⟩ := h
  go_enter Try.func10, Try.ntmps10
  go_upto_region 1 with fail
  obtain ⟨W, hW, hg, hf, hsz⟩ := one_block w 25 (cellsP ⟨fa, fc, na, nc⟩ d)
  rw [hW]
  clear hW
  have hcc := hf.cell
  have HG := Lib.hid hg
  have HF := Lib.hid hf
  clear hf hg
  go_wp2_with fail
  refine (HFA.out W HG.out).mono ?_
  rintro e w1 ⟨rfl, hb1⟩
  have HG1 : Hid (Grow w w1) := Lib.hid (HG.out.trans hb1)
  have HF1 := Lib.hid ((show Grow W w1 from hb1).block HF.out)
  have hcc := HF1.out.cell
  clear hb1
  go_wp2_with fail
  refine (works_any _).mono ?_
  rintro e w9 ⟨rfl, hb9⟩
  have HG9 : Hid (Grow w w9) := Lib.hid (HG1.out.trans hb9)
  clear hb9
  go_wp2
  go_ret
  exact ⟨by simp, HG9.out⟩

set_option maxRecDepth 100000 in
set_option maxHeartbeats 16000000 in
theorem coverPlans_walk (h : PoolH) (d : PoolI) (sl : Int) (w : World) (hA : PoolAt w w.heap.size h d) (hv : farI d = false) (a m e1 c e2 : Int) (L : List Int) (hLL : L.length ≤ 1000) (hs1 : ∀ (h' : PoolH) (w0 : World), PoolAt w0 w0.heap.size h' d → Calls Try.prog 27 #[poolV h' d, .int .i64 sl] w0 fun e w' => e = .returned (.tuple #[.int .i64 a, .int .i64 m, .int .i64 e1]) ∧ Below w0.heap.size w0 w') (hs2 : ∀ (h' : PoolH) (w0 : World), PoolAt w0 w0.heap.size h' d → Calls Try.prog 41 #[poolV h' d, .int .i64 sl] w0 fun e w' => e = .returned (.tuple #[.int .i64 a, .int .i64 m, .int .i64 e1]) ∧ Below w0.heap.size w0 w') (hp1 : ∀ (h' : PoolH) (w0 : World), PoolAt w0 w0.heap.size h' d → Calls Try.prog 25 #[poolV h' d] w0 fun e w' => (∃ LA lc, e = .returned (.tuple #[.slice LA L.length lc, .int .i64 c, .int .i64 e2]) ∧ Ints w' w'.heap.size LA L) ∧ Below w0.heap.size w0 w') (hp2 : ∀ (h' : PoolH) (w0 : World), PoolAt w0 w0.heap.size h' d → Calls Try.prog 42 #[poolV h' d] w0 fun e w' => (∃ LA lc, e = .returned (.tuple #[.slice LA L.length lc, .int .i64 c, .int .i64 e2]) ∧ Ints w' w'.heap.size LA L) ∧ Below w0.heap.size w0 w') :
    Calls Try.prog 10 #[poolV h d, .int .i64 sl] w fun e w' => e = .returned (.bool true) ∧ Below w.heap.size w w' := by
  obtain ⟨fp1, fp2, fp3, _⟩ := far_parts hv
  have HFA := Lib.hid (fun (w0 : World) (hw : Grow w w0) => far_any h d w0 (hA.grow hw))
  rw [hv] at HFA
  have HPP := Lib.hid (fun (w0 : World) (hw : Grow w w0) => hA.grow hw)
  have HCP := Lib.hid (fun (w0 : World) (hw : Grow w w0) => rCopy_any h d w0.heap.size w0 (hA.grow hw) (Nat.le_refl _) fp1 fp2 fp3)
  have HS1 := Lib.hid hs1
  have HS2 := Lib.hid hs2
  have HP1 := Lib.hid hp1
  have HP2 := Lib.hid hp2
  clear hA hv hs1 hs2 hp1 hp2 fp1 fp2 fp3
  obtain ⟨fa, fc, na, nc⟩ := h
  go_enter Try.func10, Try.ntmps10
  go_upto_region 1 with fail
  obtain ⟨W, hW, hg, hf, hsz⟩ := one_block w 25 (cellsP ⟨fa, fc, na, nc⟩ d)
  rw [hW]
  clear hW
  have hcc := hf.cell
  have HG := Lib.hid hg
  have HF := Lib.hid hf
  clear hf hg
  go_wp2_with fail
  refine (HFA.out W HG.out).mono ?_
  rintro e w1 ⟨rfl, hb1⟩
  have HG1 : Hid (Grow w w1) := Lib.hid (HG.out.trans hb1)
  have HF1 := Lib.hid ((show Grow W w1 from hb1).block HF.out)
  have hcc := HF1.out.cell
  clear hb1
  go_wp2_with fail
  refine (HCP.out w1 HG1.out).mono ?_
  rintro e w2 ⟨h', rfl, hnp, hb2⟩
  obtain ⟨fa', fc', na', nc'⟩ := h'
  have HQ2 := Lib.hid hnp.at_
  have HG2 : Hid (Grow w w2) := Lib.hid (HG1.out.trans hb2)
  have HF2 := Lib.hid ((show Grow w1 w2 from hb2).block HF1.out)
  clear hnp hb2 hcc
  go_upto_region 4 with fail
  obtain ⟨w4, hw4, hg4, ho4, hsz4⟩ := one_block w2 25 (cellsP ⟨fa', fc', na', nc'⟩ d)
  rw [hw4]
  clear hw4
  obtain ⟨ob, hob⟩ : ∃ z, w2.heap.size = z := ⟨_, rfl⟩
  have HG4 : Hid (Grow w w4) := Lib.hid (HG2.out.trans hg4)
  have HF4 := Lib.hid (hg4.block HF2.out)
  have HO4 : Hid (BlockIs w4 ob 25 (cellsP ⟨fa', fc', na', nc'⟩ d)) := Lib.hid (by rw [← hob]; exact ho4)
  have HPO := Lib.hid (fun (w0 : World) (hw : Grow w4 w0) => HQ2.out.grow (hg4.trans hw))
  rw [hob]
  have HG4' : Hid (Grow w4 w4) := Lib.hid (Grow.refl _)
  have hcc := HF4.out.cell
  have hoc := HO4.out.cell
  clear hg4 ho4 hob hsz4 HQ2 HF2 HG2 HF1 HG1 HF
  go_wp2_with fail
  refine (HS1.out ⟨fa', fc', na', nc'⟩ w4 (HPO.out w4 HG4'.out)).mono ?_
  rintro e w5 ⟨rfl, hb5⟩
  have HG5 : Hid (Grow w4 w5) := Lib.hid (HG4'.out.trans hb5)
  have hcc := (HG5.out.block HF4.out).cell
  have hoc := (HG5.out.block HO4.out).cell
  clear hb5
  go_wp2_with fail
  refine (HS2.out ⟨fa, fc, na, nc⟩ w5 (HPP.out w5 (HG4.out.trans HG5.out))).mono ?_
  rintro e w6 ⟨rfl, hb6⟩
  have HG6 : Hid (Grow w4 w6) := Lib.hid (HG5.out.trans hb6)
  have hcc := (HG6.out.block HF4.out).cell
  have hoc := (HG6.out.block HO4.out).cell
  clear hb6
  go_wp2_with fail
  refine (HP1.out ⟨fa', fc', na', nc'⟩ w6 (HPO.out w6 HG6.out)).mono ?_
  rintro e w7 ⟨⟨LA, lc, rfl, hla⟩, hb7⟩
  have HG7 : Hid (Grow w4 w7) := Lib.hid (HG6.out.trans hb7)
  have hcc := (HG7.out.block HF4.out).cell
  have hoc := (HG7.out.block HO4.out).cell
  have HLA := Lib.hid hla
  clear hla
  clear hb7
  go_wp2_with fail
  refine (HP2.out ⟨fa, fc, na, nc⟩ w7 (HPP.out w7 (HG4.out.trans HG7.out))).mono ?_
  rintro e w8 ⟨⟨MA, mc, rfl, hma⟩, hb8⟩
  have HG8 : Hid (Grow w4 w8) := Lib.hid (HG7.out.trans hb8)
  have hcc := (HG8.out.block HF4.out).cell
  have hoc := (HG8.out.block HO4.out).cell
  have HLB : Hid (Ints w8 w8.heap.size LA L) := Lib.hid ((HLA.out.below hb8).more hb8.size)
  have HSL := Lib.hid (sameInts_any LA MA lc mc w8.heap.size w8.heap.size L L w8 HLB.out hma (by omega) (by omega))
  rw [show decide (L = L) = true from decide_eq_true rfl] at HSL
  clear hma
  clear hb8
  go_wp2_with fail
  refine HSL.out.mono ?_
  rintro e w9 ⟨rfl, n9, rfl⟩
  have HG10 : Hid (Grow w4 (w8.drewN n9)) := Lib.hid (HG8.out.trans (grow_drewN w8 n9))
  go_wp2_with fail
  refine (works_any _).mono ?_
  rintro e w9 ⟨rfl, hb9⟩
  have HG9 : Hid (Grow w w9) := Lib.hid ((HG4.out.trans HG10.out).trans hb9)
  clear hb9
  go_wp2
  go_ret
  exact ⟨by simp, HG9.out⟩

theorem planTrip_len {p : Pool} (G : Good p) : (natsL (tripL (planD p))).length ≤ 1000 := by
  rw [natsL_length]
  have hn := G.n3
  cases hb : (planD p).isSome with
  | true => rw [trip_len G hb]; omega
  | false =>
    cases hq : planD p with
    | none => simp [tripL]
    | some x => rw [hq] at hb; cases hb
theorem coverPlans_any (h : PoolH) (d : PoolI) (sl : Int) (w : World) (hA : PoolAt w w.heap.size h d) :
    Calls Try.prog 10 #[poolV h d, .int .i64 sl] w fun e w' => e = .returned (.bool true) ∧ Below w.heap.size w w' := by
  cases hv : farI d with
  | true => exact coverPlans_far h d sl w hA hv
  | false =>
    have hsh := far_short hv
    cases hok : okPool d with
    | false =>
      have he : slotErr d sl = 100 := by unfold slotErr; rw [hok]; rfl
      exact coverPlans_walk h d sl w hA hv 0 0 100 0 100 [] (by simp)
        (fun h' w0 hP => slotApi_100 h' d sl w0 hP hsh (fun hq => by rw [hok] at hq; cases hq) he)
        (fun h' w0 hP => rSlot_bad h' d sl w0 hP hsh hok)
        (fun h' w0 hP => (planApi_bad h' d w0 hP hsh hok).mono fun e w' k => ⟨⟨none, 0, k.1, .inl rfl⟩, k.2⟩)
        (fun h' w0 hP => (rPlan_bad h' d w0 hP hsh hok).mono fun e w' k => ⟨⟨none, 0, k.1, .inl rfl⟩, k.2⟩)
    | true =>
      obtain ⟨p, rfl, G⟩ := good_of hok ((far_parts hv).2.2.2 hok)
      have hp1 : ∀ (h' : PoolH) (w0 : World), PoolAt w0 w0.heap.size h' p.i → Calls Try.prog 25 #[poolN h' p] w0 fun e w' => (∃ LA lc, e = .returned (.tuple #[.slice LA (natsL (tripL (planD p))).length lc, .int .i64 (tripC (planD p) : Nat), .int .i64 (planErr (planD p))]) ∧ Ints w' w'.heap.size LA (natsL (tripL (planD p)))) ∧ Below w0.heap.size w0 w' := fun h' w0 hP => (planApi_any h' p G hok hsh w0 hP).mono fun e w' k => by
        obtain ⟨A, cap, h1, h2, h3⟩ := k
        exact ⟨⟨A, cap, by rw [natsL_length]; exact h1, h2⟩, h3⟩
      have hp2 : ∀ (h' : PoolH) (w0 : World), PoolAt w0 w0.heap.size h' p.i → Calls Try.prog 42 #[poolN h' p] w0 fun e w' => (∃ LA lc, e = .returned (.tuple #[.slice LA (natsL (tripL (planD p))).length lc, .int .i64 (tripC (planD p) : Nat), .int .i64 (planErr (planD p))]) ∧ Ints w' w'.heap.size LA (natsL (tripL (planD p)))) ∧ Below w0.heap.size w0 w' := fun h' w0 hP => (rPlan_good h' p G hok hsh w0 hP).mono fun e w' k => by
        obtain ⟨A, cap, h1, h2, h3⟩ := k
        exact ⟨⟨A, cap, by rw [natsL_length]; exact h1, h2⟩, h3⟩
      have hs : ∃ a m e1 : Int, (∀ (h' : PoolH) (w0 : World), PoolAt w0 w0.heap.size h' p.i → Calls Try.prog 27 #[poolN h' p, .int .i64 sl] w0 fun e w' => e = .returned (.tuple #[.int .i64 a, .int .i64 m, .int .i64 e1]) ∧ Below w0.heap.size w0 w') ∧ (∀ (h' : PoolH) (w0 : World), PoolAt w0 w0.heap.size h' p.i → Calls Try.prog 41 #[poolN h' p, .int .i64 sl] w0 fun e w' => e = .returned (.tuple #[.int .i64 a, .int .i64 m, .int .i64 e1]) ∧ Below w0.heap.size w0 w') := by
        cases hin : inB sl 0 ((p.needs.length : Int) - 1) with
        | false =>
          have he : slotErr p.i sl = 1 := by
            unfold slotErr
            rw [hok, if_pos rfl, if_neg]
            show ¬inB sl 0 (((List.map natsL p.needs).length : Int) - 1) = true
            rw [List.length_map, hin]
            decide
          exact ⟨0, 0, 1, fun h' w0 hP => by rw [← pool_i]; exact slotApi_1 h' p.i sl w0 hP hsh (fun _ => smallI_of G) he, fun h' w0 hP => rSlot_slot h' p G hok hsh sl w0 hP hin⟩
        | true =>
          rw [inB_iff] at hin
          obtain ⟨s, rfl⟩ : ∃ s : Nat, sl = (s : Int) := ⟨sl.toNat, by omega⟩
          exact ⟨_, _, _, fun h' w0 hP => slotApi_any h' p G hok hsh s w0 hP (by omega), fun h' w0 hP => rSlot_good h' p G hok hsh s w0 hP (by omega)⟩
      obtain ⟨a, m, e1, hs1, hs2⟩ := hs
      simp only [← pool_i] at hs1 hs2 hp1 hp2
      exact coverPlans_walk h p.i sl w hA hv a m e1 _ _ _ (planTrip_len G) hs1 hs2 hp1 hp2

end Go.Proofs.Ytcgnibfcjadnjaa
