/- RAsk: the specification's Ask. -/
import Derived.Test.YtfpmkolaiomabaaGreatRFind
namespace Go.Proofs.YtfpmkolaiomabaaGreat
open Go.RowKit

/-- the best part after k of them, -1 before the first -/
def bestI (g : Nat → Nat) (k : Nat) : Int := if k = 0 then -1 else ((bestOf g k).1 : Int)

set_option maxRecDepth 100000 in
set_option maxHeartbeats 8000000 in
theorem rAsk_any (A A' : Option Addr) (cap cap' : Nat) (l : List EntryR) (s : SeenD) (w : World) (hE : Ents w w.heap.size A l) (hl : l.length ≤ 1000000) (hA' : Ints w w.heap.size A' s.moves) (hl' : s.moves.length ≤ 1000000) (hc' : s.moves.length ≤ cap') (hcaps : ∀ x ∈ l, x.d.form.moves.length ≤ x.cap) :
    Calls Tryz.prog 39 #[.slice A l.length cap, seenV s A' cap'] w fun e w' => e = .returned (.tuple #[.int .i64 (askR (l.map (·.d)) s).1, .int .i64 (askR (l.map (·.d)) s).2.1, .int .i64 (askR (l.map (·.d)) s).2.2]) ∧ Below w.heap.size w w' := by
  have HCK := Lib.hid (fun (w0 : World) (h : Grow w w0) => rcheckSeen_any A A' cap cap' l s w0 ((hE.below h).more h.size) hl ((hA'.below h).more h.size) hl')
  by_cases hfe : findErr (l.map (·.d)) s = 0
  · obtain ⟨hs, hbe⟩ := findErr_ok hfe
    have hent := (bookErr_ok hbe).2.1
    have HFD := Lib.hid (fun (t : SeenD) (ht : okSeen t = true) (htm : t.moves = s.moves) (w0 : World) (h : Grow w w0) => rfind_any A A' cap cap' l t w0 ((hE.below h).more h.size) hl (by rw [htm]; exact (hA'.below h).more h.size) (by rw [htm]; exact hc') ht (fun x hx => hent x.d (List.mem_map.2 ⟨x, hx, rfl⟩)) hcaps)
    have HANS := Lib.hid (fun (p : Int) (hp : 0 ≤ p ∧ p ≤ 4) (w0 : World) => rAnswers_any s A' cap' p w0 (SeenIn.of_ok hs) hp)
    have HSAME := Lib.hid (fun (p : Int) (hp : 0 ≤ p ∧ p ≤ 4) => answers_same (s := s) hent hp)
    have HNOK := Lib.hid (fun (p : Int) (v : SeenD) (hv : v ∈ rAnswersTo s p 36) => show okSeen v = true ∧ v.moves = s.moves by
      obtain ⟨n, h0, h1, h2, rfl⟩ := rAnswers_mem hv
      exact ⟨rNarrow_ok hs ⟨h0, by omega⟩ h2, rNarrowD_moves s p n⟩)
    have HOKS := Lib.hid hs
    have HASKE : Hid (foundL s (l.map (·.d)) = [] → askR (l.map (·.d)) s = (0, 0, 3)) := fun h => by
      unfold askR
      rw [if_pos hfe, if_pos h]
    have HASKN : Hid (foundL s (l.map (·.d)) ≠ [] → askR (l.map (·.d)) s = (((bestOf (askG (l.map (·.d)) s) 5).1 : Int), ((bestOf (askG (l.map (·.d)) s) 5).2 : Int), 0)) := fun h => by
      unfold askR
      rw [if_pos hfe, if_neg h]
    rw [hfe] at HCK
    clear hE hA' hc' hcaps hent hbe hfe hs
    go_enter Tryz.func39, Tryz.ntmps39
    go_upto_region 1 with fail
    obtain ⟨W, hW, hg, hf, hsz⟩ := one_block w 50 (cellsS s A' cap')
    rw [hW]
    clear hW
    have HG := Lib.hid hg
    have HF := Lib.hid hf
    have hfc := hf.cell
    clear hf hg
    go_wp2_with fail
    refine (HCK.out _ HG.out).mono ?_
    rintro e w2 ⟨rfl, hb2⟩
    have HG2 : Hid (Grow w w2) := HG.out.trans hb2
    have HF2 := Lib.hid (Grow.block hb2 HF.out)
    clear hfc
    have hfc := HF2.out.cell
    clear hb2
    go_wp2_with fail
    refine (HFD.out s HOKS.out rfl _ HG2.out).mono ?_
    rintro e w3 ⟨A2, cap2, r, rfl, hr, -, hb3, hl3⟩
    have hr2 := hr.is
    rw [← hr2] at HASKE HASKN
    have HG3 : Hid (Grow w w3) := HG2.out.trans hb3
    have HF3 := Lib.hid (Grow.block hb3 HF2.out)
    clear hfc hr hr2 hb3
    by_cases hr0 : r = []
    · subst hr0
      have HV := Lib.hid (HASKE.out rfl)
      clear HASKE HASKN
      go_wp2_with fail
      go_ret3
      exact ⟨by rw [HV.out]; rfl, HG3.out⟩
    · have HV := Lib.hid (HASKN.out hr0)
      have hr1 : 0 < r.length := List.length_pos_iff.2 hr0
      have d2 : decide ((r.length : Int) = 0) = false := decide_eq_false (by omega)
      have d2' : decide (r.length = 0) = false := decide_eq_false (by omega)
      have d3 : ((r.length : Int) == 0) = false := by rw [beq_eq_false_iff_ne]; omega
      clear HASKE HASKN hr0
      go_wp2_with fail
      go_loopw [5, 8, 9] (fun left best i wr => ∃ k : Nat, k ≤ 5 ∧ i = .int .i64 k ∧ left = .int .i64 ((bestOf (askG (l.map (·.d)) s) k).2 : Nat) ∧ best = .int .i64 (bestI (askG (l.map (·.d)) s) k) ∧ Grow w3 wr) (fun _ _ i _ => 5 - (intOf i).toNat)
      case atStart => exact ⟨0, Nat.zero_le _, rfl, rfl, rfl, Grow.refl _⟩
      case round =>
        obtain ⟨k, hk, rfl, rfl, rfl, hgr⟩ := hrel
        rename World => wr
        have HGR := Lib.hid hgr
        clear hgr
        by_cases hlt : k < 5
        · have HGW : Hid (Grow w wr) := HG3.out.trans HGR.out
          have hfc := (Grow.block HGR.out HF3.out).cell
          have hk5 : (k : Int) < 5 := by omega
          have HST := Lib.hid (bestOf_succ (askG (l.map (·.d)) s) k)
          have HBI : Hid (bestI (askG (l.map (·.d)) s) k = if k = 0 then -1 else ((bestOf (askG (l.map (·.d)) s) k).1 : Int)) := rfl
          have HBS : Hid (bestI (askG (l.map (·.d)) s) (k + 1) = ((bestOf (askG (l.map (·.d)) s) (k + 1)).1 : Int)) := by unfold bestI; rw [Hid, if_neg (by omega)]
          obtain ⟨lv, hlv⟩ : ∃ lv, (bestOf (askG (l.map (·.d)) s) k).2 = lv := ⟨_, rfl⟩
          obtain ⟨bv, hbv⟩ : ∃ bv, (bestOf (askG (l.map (·.d)) s) k).1 = bv := ⟨_, rfl⟩
          obtain ⟨bi, hbi⟩ : ∃ bi, bestI (askG (l.map (·.d)) s) k = bi := ⟨_, rfl⟩
          have hpair : bestOf (askG (l.map (·.d)) s) k = (bv, lv) := by rw [← hlv, ← hbv]
          rw [hbi, hbv] at HBI
          rw [hpair] at HST
          rw [hlv, hbi]
          clear hlv hbv hbi hpair
          go_wp2_with fail
          refine (HANS.out k ⟨by omega, by omega⟩ wr).mono ?_
          rintro e w6 ⟨v, rfl, ⟨A3, cap3, rfl, hown⟩, hb6⟩
          have HG6 : Hid (Grow w w6) := HGW.out.trans hb6
          have HSM : Hid (maxD (l.map (·.d)) (rAnswersTo s k 36) = askG (l.map (·.d)) s k) := HSAME.out k ⟨by omega, by omega⟩
          have HNV := Lib.hid (HNOK.out k)
          have hvl := rAnswersTo_length s k 36
          generalize rAnswersTo s k 36 = vs at hown HSM HNV hvl
          have HOWN := Lib.hid hown
          have HGV : Hid (Grow w3 w6) := HGR.out.trans hb6
          clear hown hb6 hfc
          go_wp2_with fail
          go_loopw [10, 12] (fun mo i wr2 => ∃ m : Nat, m ≤ vs.length ∧ i = .int .i64 m ∧ mo = .int .i64 (maxD (l.map (·.d)) (vs.take m) : Nat) ∧ Grow w6 wr2) (fun _ i _ => vs.length - (intOf i).toNat)
          case atStart => exact ⟨0, Nat.zero_le _, rfl, rfl, Grow.refl _⟩
          case round =>
            obtain ⟨m, hm, rfl, rfl, hgr2⟩ := hrel
            rename World => wr2
            have HGR2 := Lib.hid hgr2
            clear hgr2
            by_cases hlt2 : m < vs.length
            · obtain ⟨b, t, rfl, hb, HT, hc⟩ := own_seen (own_grow HOWN.out HGR2.out) hlt2
              obtain ⟨hto, htm⟩ := HNV.out t (List.mem_of_getElem? HT.out)
              have hm2 : (m : Int) < vs.length := by omega
              have e0 := hc 0 (by omega); have e1 := hc 1 (by omega); have e2 := hc 2 (by omega); have e3 := hc 3 (by omega); have e4 := hc 4 (by omega); have e5 := hc 5 (by omega)
              have e6 := hc 6 (by omega); have e7 := hc 7 (by omega); have e8 := hc 8 (by omega); have e9 := hc 9 (by omega); have e10 := hc 10 (by omega); have e11 := hc 11 (by omega)
              rw [Nat.add_zero] at e0
              have HTF := Lib.hid (HFD.out t hto htm wr2 (HG6.out.trans HGR2.out))
              have HSUC : Hid (maxD (l.map (·.d)) (vs.take (m + 1)) = max (maxD (l.map (·.d)) (vs.take m)) (foundL t (l.map (·.d))).length) := by
                rw [Hid, take_snoc HT.out, maxD_snoc]
              clear hc hto htm
              generalize maxD (l.map (·.d)) (vs.take m) = mx at HSUC
              go_wp2_with fail
              refine HTF.out.mono ?_
              rintro e w7 ⟨A7, cap7, r7, rfl, hr7, -, hb7, hl7⟩
              have hf7 := hr7.is
              rw [← hf7] at HSUC
              have HG7 : Hid (Grow w6 w7) := HGR2.out.trans hb7
              clear e0 e1 e2 e3 e4 e5 e6 e7 e8 e9 e10 e11 hb7 hf7 hr7
              go_wp2_with fail
              go_roundw
              case rel => exact ⟨m + 1, by omega, by go_num, by rw [HSUC.out]; congr 1; omega, HG7.out⟩
              case measure => simp [intOf]; omega
            · obtain rfl : m = vs.length := by omega
              rw [List.take_length, HSM.out]
              have HG8 : Hid (Grow w3 wr2) := HGV.out.trans HGR2.out
              generalize askG (l.map (·.d)) s k = gk at HST ⊢
              clear HSM
              by_cases hk0 : k = 0
              · have hbi : bi = -1 := by rw [HBI.out, if_pos hk0]
                have hst := HST.out
                rw [if_pos (.inl hk0)] at hst
                have HST2 := Lib.hid hst
                subst hbi
                clear hst HBI HST hk0
                go_wp2_with fail
                go_roundw
                case rel => exact ⟨k + 1, by omega, by go_num, by rw [HST2.out], by rw [HBS.out, HST2.out], HG8.out⟩
                case measure => simp [intOf]; omega
              · have hbi : bi = (bv : Int) := by rw [HBI.out, if_neg hk0]
                subst hbi
                have c1 : decide ((bv : Int) < 0) = false := decide_eq_false (by omega)
                by_cases hg : gk < lv
                · have hst := HST.out
                  rw [if_pos (.inr hg)] at hst
                  have HST2 := Lib.hid hst
                  have c2 : decide ((gk : Int) < lv) = true := decide_eq_true (by omega)
                  clear hst HBI HST
                  go_wp2_with fail
                  go_roundw
                  case rel => exact ⟨k + 1, by omega, by go_num, by rw [HST2.out], by rw [HBS.out, HST2.out], HG8.out⟩
                  case measure => simp [intOf]; omega
                · have hst := HST.out
                  rw [if_neg (by omega)] at hst
                  have HST2 := Lib.hid hst
                  have c2 : decide ((gk : Int) < lv) = false := decide_eq_false (by omega)
                  clear hst HBI HST
                  go_wp2_with fail
                  go_roundw
                  case rel => exact ⟨k + 1, by omega, by go_num, by rw [HST2.out], by rw [HBS.out, HST2.out], HG8.out⟩
                  case measure => simp [intOf]; omega
        · obtain rfl : k = 5 := by omega
          have HG8 : Hid (Grow w wr) := HG3.out.trans HGR.out
          have HB5 : Hid (bestI (askG (l.map (·.d)) s) 5 = ((bestOf (askG (l.map (·.d)) s) 5).1 : Int)) := by unfold bestI; rw [Hid, if_neg (by omega)]
          rw [HB5.out]
          generalize hlv : (bestOf (askG (l.map (·.d)) s) 5).2 = lv at HV ⊢
          generalize hbv : (bestOf (askG (l.map (·.d)) s) 5).1 = bv at HV ⊢
          clear HB5 hlv hbv
          go_wp2_with fail
          go_ret3
          exact ⟨by rw [HV.out]; rfl, HG8.out⟩
  · have HV : Hid (askR (l.map (·.d)) s = (0, 0, findErr (l.map (·.d)) s)) := by
      unfold askR
      rw [Hid, if_neg hfe]
    generalize findErr (l.map (·.d)) s = fe at hfe HCK HV
    clear hE hA' hc' hcaps
    go_enter Tryz.func39, Tryz.ntmps39
    go_upto_region 1 with fail
    obtain ⟨W, hW, hg, hf, hsz⟩ := one_block w 50 (cellsS s A' cap')
    rw [hW]
    clear hW
    have HG := Lib.hid hg
    have hfc := hf.cell
    clear hf hg
    go_wp2_with fail
    refine (HCK.out _ HG.out).mono ?_
    rintro e w2 ⟨rfl, hb2⟩
    have HG2 : Hid (Grow w w2) := HG.out.trans hb2
    clear hb2 hfc
    go_wp2_with fail
    go_ret3
    exact ⟨by rw [HV.out]; rfl, HG2.out⟩

end Go.Proofs.YtfpmkolaiomabaaGreat
