/- SignsQuestion: the law's walk. -/
import Derived.Test.YtfpmkolaiomabaaGreatClash
import Derived.Test.YtfpmkolaiomabaaGreatRSeen
import Derived.Test.YtfpmkolaiomabaaGreatWorks
import Derived.Test.YtfpmkolaiomabaaGreatAnswers
namespace Go.Proofs.YtfpmkolaiomabaaGreat
open Go.RowKit

set_option maxRecDepth 100000 in
set_option maxHeartbeats 16000000 in
theorem signsQuestion_ready (A A' : Option Addr) (cap cap' : Nat) (l : List EntryR) (s : SeenD) (w : World) (hA : EntsO w w.heap.size A l) (hl : l.length ≤ 9223372036854775807) (hA' : Ints w w.heap.size A' s.moves) (hc' : s.moves.length ≤ cap')
    (hr : readyD (l.map (·.d)) = true) (hs : okSeen s = true) :
    Calls Tryz.prog 12 #[.slice A l.length cap, seenV s A' cap'] w fun e w' => e = .returned (.bool true) ∧ Below w.heap.size w w' := by
  have HWK := Lib.hid works_any
  obtain ⟨hl12, hent, hag, hbe, hlong⟩ := ready_ok hr
  have hE : Ents w w.heap.size A l := (hA.short hlong).1
  have hml : s.moves.length ≤ 6 := (SeenIn.of_ok hs).len
  rw [List.length_map] at hl12
  have HRD := Lib.hid (fun (w0 : World) (h : Grow w w0) => by have k := ready_any A cap w.heap.size l w0 (hA.below h) hl h.size; rw [hr] at k; exact k)
  have HSN := Lib.hid (fun (w0 : World) (h : Grow w w0) => by have k := rIsSeen_any s A' cap' w.heap.size w0 (hA'.below h) (by omega) h.size; rw [hs] at k; exact k)
  have HFI := Lib.hid (fun (t : SeenD) (ht : t.moves = s.moves) (w0 : World) (h : Grow w w0) => Find_any A A' cap cap' w.heap.size l t w0 (hE.below h) (by omega) (by rw [ht]; exact hA'.below h) (by rw [ht]; omega) h.size)
  have HASK := Lib.hid (fun (w0 : World) (h : Grow w w0) => Ask_any A A' cap cap' w.heap.size l s w0 (hE.below h) (by omega) (hA'.below h) (by omega) h.size)
  have HANS := Lib.hid (fun (p : Int) (hp : 0 ≤ p ∧ p ≤ 4) (w0 : World) => rAnswers_any s A' cap' p w0 (SeenIn.of_ok hs) hp)
  have HFE := Lib.hid (fun (t : SeenD) (ht : okSeen t = true) => show findErr (l.map (·.d)) t = 0 by unfold findErr; rw [if_pos hbe, if_pos ht])
  have HSAME := Lib.hid (fun (p : Int) (hp : 0 ≤ p ∧ p ≤ 4) => answers_same (s := s) hent hp)
  have HOKS := Lib.hid hs
  have HNOK := Lib.hid (fun (p : Int) (v : SeenD) (hv : v ∈ rAnswersTo s p 36) => show okSeen v = true ∧ v.moves = s.moves by
    obtain ⟨n, h0, h1, h2, rfl⟩ := rAnswers_mem hv
    exact ⟨rNarrow_ok hs ⟨h0, by omega⟩ h2, rNarrowD_moves s p n⟩)
  have HASKE : Hid (foundL s (l.map (·.d)) = [] → askR (l.map (·.d)) s = (0, 0, 3)) := fun h => by
    unfold askR findErr
    rw [if_pos hbe, if_pos hs, if_pos rfl, if_pos h]
  have HASKN : Hid (foundL s (l.map (·.d)) ≠ [] → askR (l.map (·.d)) s = (((bestOf (askG (l.map (·.d)) s) 5).1 : Int), ((bestOf (askG (l.map (·.d)) s) 5).2 : Int), 0)) := fun h => by
    unfold askR findErr
    rw [if_pos hbe, if_pos hs, if_pos rfl, if_neg h]
  have d1 : decide (20 < (s.moves.length : Int)) = false := by simp; omega
  clear hA hA' hE hent hag hbe hlong hr hs hc'
  go_enter Tryz.func12, Tryz.ntmps12
  go_upto_region 1 with fail
  obtain ⟨W, hW, hg, hf, hsz⟩ := one_block w 50 (cellsS s A' cap')
  rw [hW]
  clear hW
  have HG := Lib.hid hg
  have HF := Lib.hid hf
  clear hf hg
  go_wp2_with fail
  refine (HRD.out _ HG.out).mono ?_
  rintro e w2 ⟨rfl, hb2⟩
  have HG2 : Hid (Grow w w2) := HG.out.trans hb2
  have HF2 := Lib.hid (Grow.block hb2 HF.out)
  have hfc := HF2.out.cell
  clear hb2
  go_wp2_with fail
  refine (HSN.out _ HG2.out).mono ?_
  rintro e w3 ⟨rfl, hb3⟩
  have HG3 : Hid (Grow w w3) := HG2.out.trans hb3
  have HF3 := Lib.hid (Grow.block hb3 HF2.out)
  clear hfc
  have hfc := HF3.out.cell
  clear hb3
  go_wp2_with fail
  refine (HFI.out s rfl _ HG3.out).mono ?_
  rintro e w4 ⟨hb4, A2, cap2, r, rfl, hi4, -, ho4⟩
  rw [HFE.out s HOKS.out]
  have hfound := (ho4 (HFE.out s HOKS.out)).unique (foundL_of s (l.map (·.d)))
  have hrl : r.length ≤ l.length := found_few (ho4 (HFE.out s HOKS.out))
  rw [← hfound] at HASKE HASKN
  have HG4 : Hid (Grow w w4) := HG3.out.trans hb4
  have HF4 := Lib.hid (Grow.block hb4 HF3.out)
  clear hfc hb4 hi4 ho4 hfound
  have hfc := HF4.out.cell
  go_wp2_with fail
  refine (HASK.out _ HG4.out).mono ?_
  rintro e w5 ⟨hb5, rfl⟩
  have HG5 : Hid (Grow w w5) := HG4.out.trans hb5
  have HF5 := Lib.hid (Grow.block hb5 HF4.out)
  clear hfc hb5
  by_cases hr0 : r = []
  · subst hr0
    rw [HASKE.out rfl]
    clear HASKE HASKN
    have d2 : decide ((0 : Int) < ([] : List Int).length) = false := rfl
    go_wp2_with fail
    refine (HWK.out _).mono ?_
    rintro e w13 ⟨rfl, hb13⟩
    have HG13 : Hid (Grow w w13) := HG5.out.trans hb13
    clear hb13
    go_wp2
    go_ret
    exact ⟨rfl, HG13.out⟩
  · rw [HASKN.out hr0]
    obtain ⟨b1, b2, b3, b4⟩ := bestOf_spec (askG (l.map (·.d)) s) 5 (by omega)
    clear HASKE HASKN
    have hr1 : 0 < r.length := List.length_pos_iff.2 hr0
    have d2 : decide ((0 : Int) < r.length) = true := by simp; omega
    generalize hpn : (bestOf (askG (l.map (·.d)) s) 5).1 = pn at b1 b2 b3 b4 ⊢
    generalize hln : (bestOf (askG (l.map (·.d)) s) 5).2 = ln at b2 b3 b4 ⊢
    have HB2 := Lib.hid b2
    have HB3 := Lib.hid b3
    have HB4 := Lib.hid b4
    have d3 : decide ((pn : Int) < 0) = false := decide_eq_false (by omega)
    have d4 : decide ((4 : Int) < pn) = false := decide_eq_false (by omega)
    clear hpn hln b2 b3 b4 hr0
    go_wp2_with fail
    go_loopw [10] (fun i wr => ∃ k : Nat, k ≤ 5 ∧ i = .int .i64 k ∧ Grow w5 wr) (fun i _ => 5 - (intOf i).toNat)
    case atStart => exact ⟨0, Nat.zero_le _, rfl, Grow.refl _⟩
    case round =>
      obtain ⟨k, hk, rfl, hgr⟩ := hrel
      rename World => wr
      have HGR := Lib.hid hgr
      clear hgr
      by_cases hlt : k < 5
      · have HGW : Hid (Grow w wr) := HG5.out.trans HGR.out
        have hfc := (Grow.block HGR.out HF5.out).cell
        have hk5 : (k : Int) < 5 := by omega
        go_wp2_with fail
        refine (HANS.out k ⟨by omega, by omega⟩ wr).mono ?_
        rintro e w6 ⟨v, rfl, ⟨A3, cap3, rfl, hown⟩, hb6⟩
        have HG6 : Hid (Grow w w6) := HGW.out.trans hb6
        have HSM : Hid (maxD (l.map (·.d)) (rAnswersTo s k 36) = askG (l.map (·.d)) s k) := HSAME.out k ⟨by omega, by omega⟩
        have HNV := Lib.hid (HNOK.out k)
        have hvl := rAnswersTo_length s k 36
        generalize rAnswersTo s k 36 = vs at hown HSM HNV hvl
        have HOWN := Lib.hid hown
        have HGV : Hid (Grow w5 w6) := HGR.out.trans hb6
        clear hown hb6 hfc
        go_wp2_with fail
        go_loopw [11, 13] (fun mo i wr2 => ∃ m : Nat, m ≤ vs.length ∧ i = .int .i64 m ∧ mo = .int .i64 (maxD (l.map (·.d)) (vs.take m) : Nat) ∧ Grow w6 wr2) (fun _ i _ => vs.length - (intOf i).toNat)
        case atStart => exact ⟨0, Nat.zero_le _, rfl, rfl, Grow.refl _⟩
        case round =>
          obtain ⟨m, hm, rfl, rfl, hgr2⟩ := hrel
          rename World => wr2
          have HGR2 := Lib.hid hgr2
          clear hgr2
          by_cases hlt2 : m < vs.length
          · obtain ⟨b, t, rfl, hb, HT, hc⟩ := own_seen (own_grow HOWN.out HGR2.out) hlt2
            obtain ⟨hto, htm⟩ := HNV.out t (List.mem_of_getElem? HT.out)
            have hm2 : (m : Int) < vs.length := by omega
            have e0 := hc 0 (by omega); have e1 := hc 1 (by omega); have e2 := hc 2 (by omega); have e3 := hc 3 (by omega); have e4 := hc 4 (by omega); have e5 := hc 5 (by omega)
            have e6 := hc 6 (by omega); have e7 := hc 7 (by omega); have e8 := hc 8 (by omega); have e9 := hc 9 (by omega); have e10 := hc 10 (by omega); have e11 := hc 11 (by omega)
            rw [Nat.add_zero] at e0
            have HTF := Lib.hid (HFI.out t htm wr2 (HG6.out.trans HGR2.out))
            have HFT := Lib.hid (HFE.out t hto)
            have HSUC : Hid (maxD (l.map (·.d)) (vs.take (m + 1)) = max (maxD (l.map (·.d)) (vs.take m)) (foundL t (l.map (·.d))).length) := by
              rw [Hid, take_snoc HT.out, maxD_snoc]
            clear hc hto htm
            generalize maxD (l.map (·.d)) (vs.take m) = mx at HSUC
            go_wp2_with fail
            refine HTF.out.mono ?_
            rintro e w7 ⟨hb7, A7, cap7, r7, rfl, -, -, ho7⟩
            rw [HFT.out]
            have hf7 := (ho7 HFT.out).unique (foundL_of t (l.map (·.d)))
            rw [← hf7] at HSUC
            have HG7 : Hid (Grow w6 w7) := HGR2.out.trans hb7
            clear e0 e1 e2 e3 e4 e5 e6 e7 e8 e9 e10 e11 hb7 ho7 hf7
            go_wp2_with fail
            go_roundw
            case rel => exact ⟨m + 1, by omega, by go_num, by rw [HSUC.out]; congr 1; omega, HG7.out⟩
            case measure => simp [intOf]; omega
          · obtain rfl : m = vs.length := by omega
            rw [List.take_length, HSM.out]
            have HG8 : Hid (Grow w5 wr2) := HGV.out.trans HGR2.out
            have g1 := HB3.out k hlt
            have g2 : k < pn → ln < askG (l.map (·.d)) s k := HB4.out k
            have g3 : k = pn → askG (l.map (·.d)) s k = ln := fun h => by rw [h]; exact HB2.out.symm
            generalize askG (l.map (·.d)) s k = gk at g1 g2 g3
            have c3 : decide ((gk : Int) < ln) = false := by simp; omega
            rcases (show k < pn ∨ k = pn ∨ pn < k by omega) with h | h | h
            · have g2 := g2 h
              have c1 : decide ((k : Int) = pn) = false := decide_eq_false (by omega)
              have c4 : decide ((k : Int) < pn) = true := decide_eq_true (by omega)
              have c5 : decide ((gk : Int) ≤ ln) = false := decide_eq_false (by omega)
              have c1' : ¬ k = pn := by omega
              clear g3
              go_wp2_with fail
              go_roundw
              case rel => exact ⟨k + 1, by omega, by go_num, HG8.out⟩
              case measure => simp [intOf]; omega
            · have g3' := g3 h
              clear g2 g3
              have c4 : decide ((k : Int) < pn) = false := decide_eq_false (by omega)
              subst h
              subst g3'
              go_wp2_with fail
              go_roundw
              case rel => exact ⟨k + 1, by omega, by go_num, HG8.out⟩
              case measure => simp [intOf]; omega
            · have c1 : decide ((k : Int) = pn) = false := decide_eq_false (by omega)
              have c4 : decide ((k : Int) < pn) = false := decide_eq_false (by omega)
              have c1' : ¬ k = pn := by omega
              clear g2 g3
              go_wp2_with fail
              go_roundw
              case rel => exact ⟨k + 1, by omega, by go_num, HG8.out⟩
              case measure => simp [intOf]; omega
      · obtain rfl : k = 5 := by omega
        have HG8 : Hid (Grow w wr) := HG5.out.trans HGR.out
        go_wp2_with fail
        refine (HWK.out _).mono ?_
        rintro e w13 ⟨rfl, hb13⟩
        have HG13 : Hid (Grow w w13) := HG8.out.trans hb13
        clear hb13
        go_wp2
        go_ret
        exact ⟨rfl, HG13.out⟩

set_option maxRecDepth 100000 in
set_option maxHeartbeats 8000000 in
theorem signsQuestion_any (A A' : Option Addr) (cap cap' : Nat) (l : List EntryR) (s : SeenD) (w : World) (hA : EntsO w w.heap.size A l) (hl : l.length ≤ 9223372036854775807) (hA' : Ints w w.heap.size A' s.moves) (hc' : s.moves.length ≤ cap') :
    Calls Tryz.prog 12 #[.slice A l.length cap, seenV s A' cap'] w fun e w' => e = .returned (.bool true) ∧ Below w.heap.size w w' := by
  by_cases hr : readyD (l.map (·.d)) = true ∧ s.moves.length ≤ 20 ∧ okSeen s = true
  · exact signsQuestion_ready A A' cap cap' l s w hA hl hA' hc' hr.1 hr.2.2
  · have HWK := Lib.hid works_any
    have HRD := Lib.hid (fun (w0 : World) (h : Grow w w0) => ready_any A cap w.heap.size l w0 (hA.below h) hl h.size)
    have HSN := Lib.hid (fun (w0 : World) (h : Grow w w0) (hm : s.moves.length ≤ 20) => rIsSeen_any s A' cap' w.heap.size w0 (hA'.below h) (by omega) h.size)
    have HR := Lib.hid hr
    clear hA hA' hr hc'
    go_enter Tryz.func12, Tryz.ntmps12
    go_upto_region 1 with fail
    obtain ⟨W, hW, hg, hf, hsz⟩ := one_block w 50 (cellsS s A' cap')
    rw [hW]
    clear hW
    have HG := Lib.hid hg
    have HF := Lib.hid hf
    clear hf hg
    go_wp2_with fail
    refine (HRD.out _ HG.out).mono ?_
    rintro e w2 ⟨rfl, hb2⟩
    have HG2 : Hid (Grow w w2) := HG.out.trans hb2
    have HF2 := Lib.hid (Grow.block hb2 HF.out)
    have hfc := HF2.out.cell
    clear hb2
    generalize readyD (l.map (·.d)) = rd at HR ⊢
    cases rd with
    | false =>
      go_wp2_with fail
      refine (HWK.out _).mono ?_
      rintro e w13 ⟨rfl, hb13⟩
      have HG13 : Hid (Grow w w13) := HG2.out.trans hb13
      clear hb13
      go_wp2
      go_ret
      exact ⟨rfl, HG13.out⟩
    | true =>
      by_cases hm : s.moves.length ≤ 20
      · have d1 : decide (20 < (s.moves.length : Int)) = false := by simp; omega
        have hos : okSeen s = false := by
          cases h : okSeen s with
          | false => rfl
          | true => exact absurd ⟨rfl, hm, h⟩ HR.out
        have HSN2 := Lib.hid (fun (w0 : World) (h : Grow w w0) => HSN.out w0 h hm)
        rw [hos] at HSN2
        clear hos HSN HR
        go_wp2_with fail
        refine (HSN2.out _ HG2.out).mono ?_
        rintro e w3 ⟨rfl, hb3⟩
        have HG3 : Hid (Grow w w3) := HG2.out.trans hb3
        clear hb3
        go_wp2_with fail
        refine (HWK.out _).mono ?_
        rintro e w13 ⟨rfl, hb13⟩
        have HG13 : Hid (Grow w w13) := HG3.out.trans hb13
        clear hb13
        go_wp2
        go_ret
        exact ⟨rfl, HG13.out⟩
      · have d1 : decide (20 < (s.moves.length : Int)) = true := by simp; omega
        clear HR
        go_wp2_with fail
        refine (HWK.out _).mono ?_
        rintro e w13 ⟨rfl, hb13⟩
        have HG13 : Hid (Grow w w13) := HG2.out.trans hb13
        clear hb13
        go_wp2
        go_ret
        exact ⟨rfl, HG13.out⟩

end Go.Proofs.YtfpmkolaiomabaaGreat
