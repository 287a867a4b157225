/- Far: which pools are larger than a statement looks at, and which are valid, in the law's words. -/
import Derived.Test.YtcgnibfcjadnjaaRCheck
namespace Go.Proofs.Ytcgnibfcjadnjaa
open Go.RowKit

def longB (l : List Int) : Bool := decide (20 < l.length)
def farI (d : PoolI) : Bool := (decide (20 < d.folk.length) || decide (20 < d.needs.length)) || (d.needs.any longB || (okPool d && (decide (5 < d.folk.length) || decide (3 < d.needs.length) || decide (3 < tnI d))))
theorem far_parts {d : PoolI} (h : farI d = false) : d.folk.length ≤ 20 ∧ d.needs.length ≤ 20 ∧ (∀ r, r ∈ d.needs → r.length ≤ 20) ∧ (okPool d = true → smallI d) := by
  unfold farI at h
  simp only [Bool.or_eq_false_iff, decide_eq_false_iff_not, List.any_eq_false] at h
  obtain ⟨⟨h1, h2⟩, h3, h4⟩ := h
  refine ⟨by omega, by omega, fun r hr => ?_, fun hok => ?_⟩
  · have := h3 r hr
    unfold longB at this
    simp only [decide_eq_true_eq] at this
    omega
  · rw [hok, Bool.true_and] at h4
    simp only [Bool.or_eq_false_iff, decide_eq_false_iff_not] at h4
    exact ⟨by omega, by omega, by omega⟩
theorem far_short {d : PoolI} (h : farI d = false) : Short d := by
  obtain ⟨a, b, c, _⟩ := far_parts h
  exact ⟨by omega, by omega, fun r hr => by have := c r hr; omega⟩
theorem any_take_true {α : Type} {l : List α} {k : Nat} {f : α → Bool} (h : (l.take k).any f = true) : l.any f = true := any_of_take f h

set_option maxRecDepth 100000 in
set_option maxHeartbeats 16000000 in
theorem far_any (h : PoolH) (d : PoolI) (w : World) (hA : PoolAt w w.heap.size h d) :
    Calls Try.prog 34 #[poolV h d] w fun e w' => e = .returned (.bool (farI d)) ∧ Below w.heap.size w w' := by
  have HAT := Lib.hid (fun (w0 : World) (hw : Grow w w0) => hA.grow hw)
  have HFA : Hid (farI d = ((decide (20 < d.folk.length) || decide (20 < d.needs.length)) || (d.needs.any longB || (okPool d && (decide (5 < d.folk.length) || decide (3 < d.needs.length) || decide (3 < tnI d)))))) := rfl
  obtain ⟨fr, hfr⟩ : ∃ z, farI d = z := ⟨_, rfl⟩
  rw [hfr] at HFA ⊢
  clear hfr hA
  obtain ⟨fa, fc, na, nc⟩ := h
  go_enter Try.func34, Try.ntmps34
  go_upto_region 1 with fail
  obtain ⟨W, hW, hgr, hf, hsz⟩ := one_block w 25 (cellsP ⟨fa, fc, na, nc⟩ d)
  rw [hW]
  clear hW
  have hcc := hf.cell
  have HFR := Lib.hid hf
  have HG := Lib.hid hgr
  clear hf hgr
  by_cases h1 : 20 < d.folk.length
  · have hd1 : decide ((20 : Int) < (d.folk.length : Int)) = true := decide_eq_true (by omega)
    have hd1' : decide (20 < d.folk.length) = true := decide_eq_true h1
    have HX : Hid (fr = true) := Lib.hid (by rw [HFA.out, hd1']; rfl)
    go_wp2
    go_ret
    exact ⟨ret_bool HX.out.symm, HG.out⟩
  have hd1 : decide ((20 : Int) < (d.folk.length : Int)) = false := decide_eq_false (by omega)
  have hd1' : decide (20 < d.folk.length) = false := decide_eq_false h1
  by_cases h2 : 20 < d.needs.length
  · have hd2 : decide ((20 : Int) < (d.needs.length : Int)) = true := decide_eq_true (by omega)
    have hd2' : decide (20 < d.needs.length) = true := decide_eq_true h2
    have HX : Hid (fr = true) := Lib.hid (by rw [HFA.out, hd1', hd2']; rfl)
    go_wp2
    go_ret
    exact ⟨ret_bool HX.out.symm, HG.out⟩
  have hd2 : decide ((20 : Int) < (d.needs.length : Int)) = false := decide_eq_false (by omega)
  have hd2' : decide (20 < d.needs.length) = false := decide_eq_false h2
  have HFB : Hid (fr = (d.needs.any longB || (okPool d && (decide (5 < d.folk.length) || decide (3 < d.needs.length) || decide (3 < tnI d))))) := Lib.hid (by rw [HFA.out, hd1', hd2']; rfl)
  clear HFA
  go_wp2_with fail
  go_loopw [3] (fun iv wr => ∃ s : Nat, s ≤ d.needs.length ∧ iv = .int .i64 (s : Nat) ∧ Hid ((d.needs.take s).any longB = false) ∧ wr = W) (fun iv _ => d.needs.length - (intOf iv).toNat)
  case atStart => exact ⟨0, Nat.zero_le _, rfl, rfl, rfl⟩
  case round =>
    obtain ⟨s, hs, rfl, HA, rfl⟩ := hrel
    rename World => W
    by_cases hlt : s < d.needs.length
    · have hd : decide ((s : Int) < (d.needs.length : Int)) = true := decide_eq_true (by omega)
      have hs0 : (0 : Int) ≤ (s : Int) := by omega
      have hs1 : (s : Int) < (d.needs.length : Int) := by omega
      obtain ⟨nb, noff, xs, ra, rc, rfl, hnb, hrc, hri, HX⟩ := (HAT.out W HG.out).2.at_ hlt
      have HT := Lib.hid (any_take_succ longB HX.out HA.out)
      clear hri
      by_cases h3 : 20 < xs.length
      · have hd3 : decide ((20 : Int) < (xs.length : Int)) = true := decide_eq_true (by omega)
        have hd3' : decide (20 < xs.length) = true := decide_eq_true h3
        have HY : Hid (fr = true) := Lib.hid (by
          rw [HFB.out, any_take_true (k := s + 1) (by rw [HT.out]; exact hd3')]
          rfl)
        go_wp2
        go_ret
        exact ⟨ret_bool HY.out.symm, HG.out⟩
      · have hd3 : decide ((20 : Int) < (xs.length : Int)) = false := decide_eq_false (by omega)
        have hd3' : decide (20 < xs.length) = false := decide_eq_false h3
        have HY : Hid ((d.needs.take (s + 1)).any longB = false) := Lib.hid (by rw [HT.out]; exact hd3')
        go_wp2
        go_roundw
        case rel => exact ⟨s + 1, by omega, by go_num, HY, by first | rfl | trivial⟩
        case measure => simp [intOf]; omega
    · obtain rfl : s = d.needs.length := by omega
      have hd : decide ((d.needs.length : Int) < (d.needs.length : Int)) = false := decide_eq_false (by omega)
      have HLN : Hid (d.needs.any longB = false) := Lib.hid (by have h := HA.out; rw [List.take_length] at h; exact h)
      have HFC : Hid (fr = (okPool d && (decide (5 < d.folk.length) || decide (3 < d.needs.length) || decide (3 < tnI d)))) := Lib.hid (by rw [HFB.out, HLN.out]; rfl)
      have HSH : Hid (Short d) := Lib.hid ⟨by omega, by omega, fun r hr => by
        have := List.any_eq_false.1 HLN.out r hr
        unfold longB at this
        simp only [decide_eq_true_eq] at this
        omega⟩
      have HCK := Lib.hid (fun (w0 : World) (hw : Grow w w0) => rCheck_any ⟨fa, fc, na, nc⟩ d w0 (HAT.out w0 hw) HSH.out)
      have HTG := Lib.hid (fun (hn : 0 < d.needs.length) (w0 : World) (hw : Grow w w0) => rTonguesI_any ⟨fa, fc, na, nc⟩ d hn w0 (HAT.out w0 hw).2)
      have HPE : Hid (poolErr d = if okPool d then 0 else 100) := rfl
      have HNP : Hid (okPool d = true → 0 < d.needs.length) := Lib.hid (fun h => by
        rw [okPool_parts, Bool.and_eq_true] at h
        have := h.1
        unfold headB at this
        simp only [Bool.and_eq_true, inB_iff] at this
        omega)
      obtain ⟨er, her⟩ : ∃ z, poolErr d = z := ⟨_, rfl⟩
      rw [her] at HCK HPE
      obtain ⟨ok, hok⟩ : ∃ z, okPool d = z := ⟨_, rfl⟩
      rw [hok] at HPE HFC HNP
      clear her hok HFB HA HLN HSH hd1 hd2
      go_wp2_with fail
      refine (HCK.out W HG.out).mono ?_
      rintro e w1 ⟨rfl, hb1⟩
      have HG1 : Hid (Grow w w1) := Lib.hid (HG.out.trans hb1)
      have hcc1 := ((show Grow W w1 from hb1).block HFR.out).cell
      clear hb1 hcc
      cases ok with
      | false =>
        obtain rfl : er = 100 := by rw [HPE.out]; rfl
        have HX : Hid (fr = false) := Lib.hid (by rw [HFC.out]; rfl)
        go_wp2
        go_ret
        exact ⟨ret_bool HX.out.symm, HG1.out⟩
      | true =>
        obtain rfl : er = 0 := by rw [HPE.out]; rfl
        have HTG := Lib.hid (HTG.out (HNP.out rfl))
        by_cases h5 : 5 < d.folk.length
        · have hd5 : decide ((5 : Int) < (d.folk.length : Int)) = true := decide_eq_true (by omega)
          have HX : Hid (fr = true) := Lib.hid (by rw [HFC.out, decide_eq_true h5]; rfl)
          go_wp2
          go_ret
          exact ⟨ret_bool HX.out.symm, HG1.out⟩
        · have hd5 : decide ((5 : Int) < (d.folk.length : Int)) = false := decide_eq_false (by omega)
          by_cases h6 : 3 < d.needs.length
          · have hd6 : decide ((3 : Int) < (d.needs.length : Int)) = true := decide_eq_true (by omega)
            have HX : Hid (fr = true) := Lib.hid (by rw [HFC.out, decide_eq_true h6]; simp)
            go_wp2
            go_ret
            exact ⟨ret_bool HX.out.symm, HG1.out⟩
          · have hd6 : decide ((3 : Int) < (d.needs.length : Int)) = false := decide_eq_false (by omega)
            have HX : Hid (fr = decide (3 < tnI d)) := Lib.hid (by rw [HFC.out, decide_eq_false h5, decide_eq_false h6]; simp)
            obtain ⟨tn, htn⟩ : ∃ z, tnI d = z := ⟨_, rfl⟩
            rw [htn] at HTG HX
            clear htn
            go_wp2_with fail
            refine (HTG.out _ HG1.out).mono ?_
            rintro e w2 ⟨rfl, hb2⟩
            have HG2 : Hid (Grow w w2) := Lib.hid (HG1.out.trans hb2)
            clear hb2 hcc1
            by_cases h7 : 3 < tn
            · have hd7 : decide ((3 : Int) < (tn : Int)) = true := decide_eq_true (by omega)
              have HX : Hid (fr = true) := Lib.hid (by rw [HX.out, decide_eq_true h7])
              go_wp2
              go_ret
              exact ⟨ret_bool HX.out.symm, HG2.out⟩
            · have hd7 : decide ((3 : Int) < (tn : Int)) = false := decide_eq_false (by omega)
              have HX : Hid (fr = false) := Lib.hid (by rw [HX.out, decide_eq_false h7])
              go_wp2
              go_ret
              exact ⟨ret_bool HX.out.symm, HG2.out⟩

def validI (d : PoolI) : Bool := !farI d && okPool d
theorem valid_is {d : PoolI} (h : validI d = true) : ∃ p : Pool, d = p.i ∧ Good p := by
  unfold validI at h
  rw [Bool.and_eq_true, Bool.not_eq_true'] at h
  exact good_of h.2 ((far_parts h.1).2.2.2 h.2)
set_option maxRecDepth 100000 in
set_option maxHeartbeats 4000000 in
theorem valid_any (h : PoolH) (d : PoolI) (w : World) (hA : PoolAt w w.heap.size h d) :
    Calls Try.prog 11 #[poolV h d] w fun e w' => e = .returned (.bool (validI d)) ∧ Below w.heap.size w w' := by
  have HAT := Lib.hid (fun (w0 : World) (hw : Grow w w0) => hA.grow hw)
  have HFA := Lib.hid (fun (w0 : World) (hw : Grow w w0) => far_any h d w0 (HAT.out w0 hw))
  have HCK := Lib.hid (fun (hf : farI d = false) (w0 : World) (hw : Grow w w0) => rCheck_any h d w0 (HAT.out w0 hw) (far_short hf))
  have HV : Hid (validI d = (!farI d && okPool d)) := rfl
  have HPE : Hid (poolErr d = if okPool d then 0 else 100) := rfl
  obtain ⟨vd, hvd⟩ : ∃ z, validI d = z := ⟨_, rfl⟩
  rw [hvd] at HV ⊢
  obtain ⟨fr, hfr⟩ : ∃ z, farI d = z := ⟨_, rfl⟩
  rw [hfr] at HFA HCK HV
  obtain ⟨er, her⟩ : ∃ z, poolErr d = z := ⟨_, rfl⟩
  rw [her] at HCK HPE
  obtain ⟨ok, hok⟩ : ∃ z, okPool d = z := ⟨_, rfl⟩
  rw [hok] at HPE HV
  clear hvd hfr her hok hA HAT
  obtain ⟨fa, fc, na, nc⟩ := h
  go_enter Try.func11, Try.ntmps11
  go_upto_region 1 with fail
  obtain ⟨W, hW, hgr, hf, hsz⟩ := one_block w 25 (cellsP ⟨fa, fc, na, nc⟩ d)
  rw [hW]
  clear hW
  have hcc := hf.cell
  have HFR := Lib.hid hf
  have HG := Lib.hid hgr
  clear hf hgr
  go_wp2_with fail
  refine (HFA.out W HG.out).mono ?_
  rintro e w1 ⟨rfl, hb1⟩
  have HG1 : Hid (Grow w w1) := Lib.hid (HG.out.trans hb1)
  have hcc1 := ((show Grow W w1 from hb1).block HFR.out).cell
  clear hb1 hcc
  cases fr with
  | true =>
    go_wp2
    go_ret
    exact ⟨ret_bool (by rw [HV.out]; rfl), HG1.out⟩
  | false =>
    go_wp2_with fail
    refine (HCK.out (by first | rfl | trivial) _ HG1.out).mono ?_
    rintro e w2 ⟨rfl, hb2⟩
    have HG2 : Hid (Grow w w2) := Lib.hid (HG1.out.trans hb2)
    clear hb2 hcc1
    cases ok with
    | false =>
      obtain rfl : er = 100 := by rw [HPE.out]; rfl
      go_wp2
      go_ret
      exact ⟨ret_bool (by rw [HV.out]; rfl), HG2.out⟩
    | true =>
      obtain rfl : er = 0 := by rw [HPE.out]; rfl
      go_wp2
      go_ret
      exact ⟨ret_bool (by rw [HV.out]; rfl), HG2.out⟩

end Go.Proofs.Ytcgnibfcjadnjaa
