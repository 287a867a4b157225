/- RCheck: the specification's Check; written by wip/tools/rcheck10.py. -/
import Derived.Test.YtcgnibfcjadnjaaRStands
namespace Go.Proofs.Ytcgnibfcjadnjaa
open Go.RowKit

set_option maxRecDepth 100000 in
set_option maxHeartbeats 1000000 in
theorem rTonguesI_any (h : PoolH) (d : PoolI) (hn : 0 < d.needs.length) (w : World) (hA : Rows w w.heap.size h.na d.needs) :
    Calls Try.prog 19 #[poolV h d] w fun e w' => e = .returned (.int .i64 (tnI d : Nat)) ∧ Below w.heap.size w w' := by
  obtain ⟨b, off, a, c, hna, hb, hc0⟩ := row_first hA hn
  obtain ⟨fa, fc, na, nc⟩ := h
  obtain rfl : na = _ := hna
  have hn0 : (0 : Int) < (d.needs.length : Int) := by omega
  generalize tnI d = tn at hc0 ⊢
  clear hA
  go_enter Try.func19, Try.ntmps19
  go_upto_region 1 with fail
  obtain ⟨W, hW, hg, hf, hsz⟩ := one_block w 25 (cellsP ⟨fa, fc, some ⟨b, off, none⟩, nc⟩ d)
  rw [hW]
  clear hW
  have hcc := hf.cell
  have hc0 := hg.cell hc0
  have HG := Lib.hid hg
  clear hf hg
  go_wp2
  go_ret
  exact ⟨rfl, HG.out⟩
def poolErr (d : PoolI) : Int := if okPool d then 0 else 100
/-- what Check looks at first -/
def headB (d : PoolI) : Bool := inB d.folk.length 1 8 && (inB d.needs.length 1 6 && (inB (tnI d) 1 5 && (inB d.ill 0 3 && inB d.most 0 6)))
def rowB (tn : Nat) (l : List Int) : Bool := decide (l.length = tn) && l.all fun x => inB x 0 8
theorem okPool_parts (d : PoolI) : okPool d = (headB d && (d.needs.all (rowB (tnI d)) && d.folk.all (okFolk (tnI d) d.needs.length))) := by
  have hrow : ∀ l, okRow (tnI d) l = (inB (tnI d) 1 5 && rowB (tnI d) l) ∨ l.length ≠ tnI d := fun l => by
    by_cases h : l.length = tnI d
    · left
      unfold okRow rowB
      rw [h, decide_eq_true rfl]
      simp
    · exact .inr h
  have hall : 0 < d.needs.length → d.needs.all (okRow (tnI d)) = (inB (tnI d) 1 5 && d.needs.all (rowB (tnI d))) := fun hn => by
    by_cases hl : ∀ l, l ∈ d.needs → l.length = tnI d
    · cases hb : inB (tnI d) 1 5 with
      | true =>
        rw [Bool.true_and]
        rw [Bool.eq_iff_iff, List.all_eq_true, List.all_eq_true]
        refine forall_congr' fun l => forall_congr' fun hm => ?_
        rcases hrow l with h | h
        · rw [h, hb, Bool.true_and]
        · exact absurd (hl l hm) h
      | false =>
        rw [Bool.false_and, Bool.eq_false_iff]
        intro h
        have hm : d.needs[0] ∈ d.needs := List.getElem_mem hn
        have := List.all_eq_true.1 h _ hm
        rcases hrow d.needs[0] with h' | h'
        · rw [h', hb] at this; cases this
        · exact absurd (hl _ hm) h'
    · have hl : ∃ l, l ∈ d.needs ∧ l.length ≠ tnI d := Classical.byContradiction fun h => hl fun l hm => Classical.byContradiction fun hne => h ⟨l, hm, hne⟩
      obtain ⟨l, hm, hne⟩ := hl
      have e1 : d.needs.all (okRow (tnI d)) = false := by
        rw [Bool.eq_false_iff]
        intro h
        have := List.all_eq_true.1 h l hm
        unfold okRow at this
        rw [decide_eq_false hne] at this
        cases this
      have e2 : d.needs.all (rowB (tnI d)) = false := by
        rw [Bool.eq_false_iff]
        intro h
        have := List.all_eq_true.1 h l hm
        unfold rowB at this
        rw [decide_eq_false hne] at this
        cases this
      rw [e1, e2, Bool.and_false]
  unfold okPool headB
  cases hb : inB d.needs.length 1 6 with
  | false => simp
  | true =>
    rw [hall (by have := inB_iff.1 hb; omega)]
    cases inB d.folk.length 1 8 <;> cases inB (tnI d) 1 5 <;> cases inB d.ill 0 3 <;> cases inB d.most 0 6 <;> cases d.needs.all (rowB (tnI d)) <;> cases d.folk.all (okFolk (tnI d) d.needs.length) <;> rfl
theorem take_all_succ {α : Type} {l : List α} {k : Nat} {x : α} (f : α → Bool) (hx : l[k]? = some x) : (l.take (k + 1)).all f = ((l.take k).all f && f x) := by
  rw [take_snoc hx, List.all_append]
  simp
theorem take_all_false {α : Type} {l : List α} {k : Nat} {f : α → Bool} (h : (l.take k).all f = false) : l.all f = false := by
  rw [Bool.eq_false_iff] at h ⊢
  intro ha
  refine h (List.all_eq_true.2 fun x hx => List.all_eq_true.1 ha x (List.mem_of_mem_take hx))

set_option maxRecDepth 100000 in
set_option maxHeartbeats 16000000 in
theorem rCheck_any (h : PoolH) (d : PoolI) (w : World) (hA : PoolAt w w.heap.size h d) (hs : Short d) :
    Calls Try.prog 32 #[poolV h d] w fun e w' => e = .returned (.int .i64 (poolErr d)) ∧ Below w.heap.size w w' := by
  obtain ⟨s1, s2, s3⟩ := hs
  have HAT := Lib.hid (fun (w0 : World) (hw : Grow w w0) => hA.grow hw)
  have H1 := Lib.hid (fun w0 => rwithin_any d.folk.length 1 8 w0)
  have H2 := Lib.hid (fun w0 => rwithin_any d.needs.length 1 6 w0)
  have H3 := Lib.hid (fun w0 => rwithin_any (tnI d) 1 5 w0)
  have H4 := Lib.hid (fun w0 => rwithin_any d.ill 0 3 w0)
  have H5 := Lib.hid (fun w0 => rwithin_any d.most 0 6 w0)
  have HPT : Hid (okPool d = (headB d && (d.needs.all (rowB (tnI d)) && d.folk.all (okFolk (tnI d) d.needs.length)))) := okPool_parts d
  have HHD : Hid (headB d = (inB d.folk.length 1 8 && (inB d.needs.length 1 6 && (inB (tnI d) 1 5 && (inB d.ill 0 3 && inB d.most 0 6))))) := rfl
  have HER : Hid (poolErr d = if okPool d then 0 else 100) := rfl
  have HN1 : Hid (inB d.needs.length 1 6 = true → 0 < d.needs.length ∧ d.needs.length ≤ 6) := Lib.hid (fun h => by have := inB_iff.1 h; omega)
  have HT3 : Hid (inB (tnI d) 1 5 = true → tnI d ≤ 5) := Lib.hid (fun h => by have := inB_iff.1 h; omega)
  obtain ⟨er, her⟩ : ∃ z, poolErr d = z := ⟨_, rfl⟩
  rw [her] at HER ⊢
  generalize inB d.folk.length 1 8 = b1 at H1 HHD
  generalize inB d.needs.length 1 6 = b2 at H2 HHD HN1
  generalize inB (tnI d) 1 5 = b3 at H3 HHD HT3
  generalize inB d.ill 0 3 = b4 at H4 HHD
  generalize inB d.most 0 6 = b5 at H5 HHD
  have HBAD : Hid (headB d = false → er = 100) := Lib.hid (fun h => by rw [HER.out, HPT.out, h]; rfl)
  have HT := Lib.hid (fun (hn : 0 < d.needs.length) (w0 : World) (hw : Grow w w0) => rTonguesI_any h d hn w0 (HAT.out w0 hw).2)
  have HRW := Lib.hid (fun (s : Nat) (hs : s < d.needs.length) (w0 : World) (hw : Grow w w0) => (HAT.out w0 hw).2.at_ hs)
  have HFK := Lib.hid (fun (k : Nat) (hk : k < d.folk.length) (w0 : World) (hw : Grow w w0) => (HAT.out w0 hw).1.at_ hk)
  have HS3 := Lib.hid s3
  clear her hA HAT s3
  obtain ⟨fa, fc, na, nc⟩ := h
  go_enter Try.func32, Try.ntmps32
  go_upto_region 1 with fail
  obtain ⟨W, hW, hgr, hf, hsz⟩ := one_block w 25 (cellsP ⟨fa, fc, na, nc⟩ d)
  rw [hW]
  clear hW
  have hcc := hf.cell
  have HFR := Lib.hid hf
  have HG := Lib.hid hgr
  clear hf hgr
  go_wp2_with fail
  refine (H1.out _).mono ?_
  rintro e w1 ⟨rfl, rfl⟩
  cases b1 with
  | false =>
    go_wp2
    go_ret
    exact ⟨ret_int (HBAD.out (by rw [HHD.out]; rfl)).symm, HG.out⟩
  | true =>
  go_wp2_with fail
  refine (H2.out _).mono ?_
  rintro e w1 ⟨rfl, rfl⟩
  cases b2 with
  | false =>
    go_wp2
    go_ret
    exact ⟨ret_int (HBAD.out (by rw [HHD.out]; rfl)).symm, HG.out⟩
  | true =>
  obtain ⟨hn0, hn6⟩ := HN1.out rfl
  have HT := Lib.hid (HT.out hn0)
  obtain ⟨tn, htn⟩ : ∃ z, tnI d = z := ⟨_, rfl⟩
  rw [htn] at HT H3 HT3 HPT
  clear htn
  go_wp2_with fail
  refine (HT.out _ HG.out).mono ?_
  rintro e w1 ⟨rfl, hb1⟩
  have HG1 : Hid (Grow w w1) := Lib.hid (HG.out.trans hb1)
  have HFR1 := Lib.hid ((show Grow W w1 from hb1).block HFR.out)
  clear hb1 hcc HFR HG
  have hcc := HFR1.out.cell
  go_wp2_with fail
  refine (H3.out _).mono ?_
  rintro e w2 ⟨rfl, rfl⟩
  cases b3 with
  | false =>
    go_wp2
    go_ret
    exact ⟨ret_int (HBAD.out (by rw [HHD.out]; rfl)).symm, HG1.out⟩
  | true =>
  go_wp2_with fail
  refine (H4.out _).mono ?_
  rintro e w2 ⟨rfl, rfl⟩
  cases b4 with
  | false =>
    go_wp2
    go_ret
    exact ⟨ret_int (HBAD.out (by rw [HHD.out]; rfl)).symm, HG1.out⟩
  | true =>
  go_wp2_with fail
  refine (H5.out _).mono ?_
  rintro e w2 ⟨rfl, rfl⟩
  cases b5 with
  | false =>
    go_wp2
    go_ret
    exact ⟨ret_int (HBAD.out (by rw [HHD.out]; rfl)).symm, HG1.out⟩
  | true =>
  have HOK : Hid (er = if (d.needs.all (rowB tn) && d.folk.all (okFolk tn d.needs.length)) then 0 else 100) := Lib.hid (by rw [HER.out, HPT.out, HHD.out]; rfl)
  have htn5 := HT3.out (by first | rfl | trivial)
  clear HER HPT HHD HBAD H1 H2 H3 H4 H5 HN1 HT3
  go_wp2_with fail
  clear hcc
  go_loopw [3] (fun iv wr => ∃ s : Nat, s ≤ d.needs.length ∧ iv = .int .i64 (s : Nat) ∧ Hid ((d.needs.take s).all (rowB tn) = true) ∧ Grow w1 wr) (fun iv _ => d.needs.length - (intOf iv).toNat)
  case atStart => exact ⟨0, Nat.zero_le _, rfl, rfl, Grow.refl _⟩
  case round =>
    obtain ⟨s, hs, rfl, HA, hgr⟩ := hrel
    rename World => wr
    have HGR := Lib.hid hgr
    have HFR := Lib.hid (Grow.block hgr HFR1.out)
    clear hgr
    by_cases hlt : s < d.needs.length
    · have hd : decide ((s : Int) < (d.needs.length : Int)) = true := decide_eq_true (by omega)
      have hs0 : (0 : Int) ≤ (s : Int) := by omega
      have hs1 : (s : Int) < (d.needs.length : Int) := by omega
      obtain ⟨nb, noff, xs, ra, rc, rfl, hnb, hrc, hri, HX⟩ := HRW.out s hlt wr (HG1.out.trans HGR.out)
      have HRC := Lib.hid hrc
      have HRI := Lib.hid (fun (w0 : World) (hw : Grow wr w0) => (hri.below hw).more hw.size)
      have hxl := HS3.out xs (List.mem_of_getElem? HX.out)
      have HTK := Lib.hid (take_all_succ (rowB tn) HX.out)
      have HYES : Hid (rowB tn xs = true → (d.needs.take (s + 1)).all (rowB tn) = true) := Lib.hid (fun h => by rw [HTK.out, HA.out, h]; rfl)
      have HNO : Hid (rowB tn xs = false → er = 100) := Lib.hid (fun h => by rw [HOK.out, take_all_false (k := s + 1) (by rw [HTK.out, h, Bool.and_false])]; rfl)
      have HRB : Hid (rowB tn xs = (decide (xs.length = tn) && xs.all fun x => inB x 0 8)) := rfl
      obtain ⟨ne, hne⟩ : ∃ z, ((xs.length : Int) != (tn : Int)) = z := ⟨_, rfl⟩
      have HNE := Lib.hid hne
      have HEQ : Hid (ne = !decide (xs.length = tn)) := Lib.hid (by
        rw [← hne]
        by_cases h : xs.length = tn
        · rw [h, decide_eq_true rfl]; simp
        · rw [decide_eq_false h]; simp; omega)
      clear hrc hri hne HTK
      have hcc := HFR.out.cell
      go_upto_region 6 with fail
      clear hcc
      refine wp_region_lit 9 [[], [(0, 44)], [], [(1, 45), (2, 46)], [(3, 47)], [(4, 48)], [], [(6, 50)], [(5, 49), (7, 51)]] Grow (fun qi v w' => match qi with
          | 0 => v = .pointer (some ⟨w.heap.size, 1, none⟩)
          | 1 => v = .slice (some ⟨nb, noff, none⟩) d.needs.length nc
          | 2 => v = .int .i64 (s : Nat)
          | 3 => v = .pointer (some ⟨nb, noff + s, none⟩)
          | 4 => v = .slice ra xs.length rc
          | 5 => v = .int .i64 (xs.length : Nat)
          | 6 => v = poolV ⟨fa, fc, some ⟨nb, noff, none⟩, nc⟩ d
          | 7 => v = .int .i64 (tn : Nat)
          | 8 => v = .bool ne
          | _ => False) (by kernel_rfl) (by kernel_rfl) (fun _ _ _ => Grow.trans) Grow.refl ?_ ?_ ?_
      · intro i v y y' h k
        match i, h with
        | 0, h | 1, h | 2, h | 3, h | 4, h | 5, h | 6, h | 7, h | 8, h => exact h
      · simp only [StepsLit, List.take_succ_cons, List.take_zero]
        refine ⟨?_, ?_, ?_, ?_, ?_, ?_, ?_, ?_, ?_, trivial⟩
        · intro w5 hR
          have hGw : Grow wr w5 := hR.of_drew
          have HGW := Lib.hid hGw
          have hcc := (HGW.out.block HFR.out).cell
          have hrc := HGW.out.cell HRC.out
          clear hR hGw
          simp only [depV]
          try go_simp
          all_goals first
            | (with_reducible exact Grow.refl _)
            | (with_reducible exact ⟨Grow.refl _, rfl⟩)
        · intro w5 hR
          have hGw : Grow wr w5 := hR.of_drew
          have HGW := Lib.hid hGw
          have hcc := (HGW.out.block HFR.out).cell
          have hrc := HGW.out.cell HRC.out
          clear hR hGw
          simp only [depV]
          rintro _ rfl
          try go_simp
          all_goals first
            | (with_reducible exact Grow.refl _)
            | (with_reducible exact ⟨Grow.refl _, rfl⟩)
        · intro w5 hR
          have hGw : Grow wr w5 := hR.of_drew
          have HGW := Lib.hid hGw
          have hcc := (HGW.out.block HFR.out).cell
          have hrc := HGW.out.cell HRC.out
          clear hR hGw
          simp only [depV]
          try go_simp
          all_goals first
            | (with_reducible exact Grow.refl _)
            | (with_reducible exact ⟨Grow.refl _, rfl⟩)
        · intro w5 hR
          have hGw : Grow wr w5 := hR.of_drew
          have HGW := Lib.hid hGw
          have hcc := (HGW.out.block HFR.out).cell
          have hrc := HGW.out.cell HRC.out
          clear hR hGw
          simp only [depV]
          rintro _ rfl
          rintro _ rfl
          try go_simp
          all_goals first
            | (with_reducible exact Grow.refl _)
            | (with_reducible exact ⟨Grow.refl _, rfl⟩)
        · intro w5 hR
          have hGw : Grow wr w5 := hR.of_drew
          have HGW := Lib.hid hGw
          have hcc := (HGW.out.block HFR.out).cell
          have hrc := HGW.out.cell HRC.out
          clear hR hGw
          simp only [depV]
          rintro _ rfl
          try go_simp
          all_goals first
            | (with_reducible exact Grow.refl _)
            | (with_reducible exact ⟨Grow.refl _, rfl⟩)
        · intro w5 hR
          have hGw : Grow wr w5 := hR.of_drew
          have HGW := Lib.hid hGw
          have hcc := (HGW.out.block HFR.out).cell
          have hrc := HGW.out.cell HRC.out
          clear hR hGw
          simp only [depV]
          rintro _ rfl
          try go_simp
          all_goals first
            | (with_reducible exact Grow.refl _)
            | (with_reducible exact ⟨Grow.refl _, rfl⟩)
        · intro w5 hR
          have hGw : Grow wr w5 := hR.of_drew
          have HGW := Lib.hid hGw
          have hcc := (HGW.out.block HFR.out).cell
          have hrc := HGW.out.cell HRC.out
          clear hR hGw
          simp only [depV]
          try go_simp
          all_goals first
            | (with_reducible exact Grow.refl _)
            | (with_reducible exact ⟨Grow.refl _, rfl⟩)
        · intro w5 hR
          have hGw : Grow wr w5 := hR.of_drew
          have HGW := Lib.hid hGw
          have hcc := (HGW.out.block HFR.out).cell
          have hrc := HGW.out.cell HRC.out
          clear hR hGw
          simp only [depV]
          rintro _ rfl
          try go_simp
          refine (HT.out _ (HG1.out.trans (HGR.out.trans HGW.out))).mono ?_
          rintro e w6 ⟨rfl, hb6⟩
          exact ⟨hb6, rfl⟩
        · intro w5 hR
          have hGw : Grow wr w5 := hR.of_drew
          have HGW := Lib.hid hGw
          have hcc := (HGW.out.block HFR.out).cell
          have hrc := HGW.out.cell HRC.out
          clear hR hGw
          simp only [depV]
          rintro _ rfl
          rintro _ rfl
          try go_simp
          exact ⟨Grow.refl _, HNE.out⟩
      · intro w5 hR
        have HG5 : Hid (Grow wr w5) := Lib.hid hR.of_drew
        clear hR
        simp only [finVC, List.take_succ_cons, List.take_zero, List.drop_succ_cons, List.drop_zero]
        rintro _ rfl
        rintro _ rfl
        rintro _ rfl
        rintro _ rfl
        rintro _ rfl
        rintro _ rfl
        rintro _ rfl
        rintro _ rfl
        rintro _ rfl
        simp only [Act.put, List.setIfInBounds_toArray, List.set_cons_succ, List.set_cons_zero]
        cases ne with
      | true =>
        go_wp2
        go_ret
        exact ⟨ret_int (HNO.out (by rw [HRB.out]; have h := HEQ.out; cases hq : decide (xs.length = tn) with
          | true => rw [hq] at h; cases h
          | false => rfl)).symm, HG1.out.trans (HGR.out.trans HG5.out)⟩
      | false =>
        have HLT : Hid (xs.length = tn) := Lib.hid (by
          have h := HEQ.out
          cases hq : decide (xs.length = tn) with
          | true => exact of_decide_eq_true hq
          | false => rw [hq] at h; cases h)
        have HRB2 : Hid (rowB tn xs = xs.all fun x => inB x 0 8) := Lib.hid (by rw [HRB.out, decide_eq_true HLT.out]; rfl)
        have HFR5 := Lib.hid (HG5.out.block HFR.out)
        have hcc := HFR5.out.cell
        have hrc := HG5.out.cell HRC.out
        have HXI := Lib.hid (HRI.out w5 HG5.out)
        go_wp2_with fail
        go_loopw [4] (fun iv wx => ∃ t : Nat, t ≤ xs.length ∧ iv = .int .i64 (t : Nat) ∧ Hid ((xs.take t).all (fun x => inB x 0 8) = true) ∧ wx = w5) (fun iv _ => xs.length - (intOf iv).toNat)
        case atStart => exact ⟨0, Nat.zero_le _, rfl, rfl, rfl⟩
        case round =>
          obtain ⟨t, ht, rfl, HB, rfl⟩ := hrel
          rename World => w5
          by_cases htl : t < xs.length
          · have hd2 : decide ((t : Int) < (xs.length : Int)) = true := decide_eq_true (by omega)
            have ht0 : (0 : Int) ≤ (t : Int) := by omega
            have ht1 : (t : Int) < (xs.length : Int) := by omega
            obtain ⟨xb, xo, y, rfl, hxb, hy, HY⟩ := HXI.out.at_ htl
            have HW := Lib.hid (fun w0 => rwithin_any y 0 8 w0)
            have HTK := Lib.hid (take_all_succ (fun x => inB x 0 8) HY.out)
            generalize inB y 0 8 = q at HW HTK
            cases q with
            | false =>
              have HNX : Hid (er = 100) := Lib.hid (HNO.out (by rw [HRB2.out]; exact take_all_false (k := t + 1) (by rw [HTK.out, Bool.and_false])))
              go_wp2_with fail
              refine (HW.out _).mono ?_
              rintro e w6 ⟨rfl, rfl⟩
              go_wp2
              go_ret
              exact ⟨ret_int HNX.out.symm, HG1.out.trans (HGR.out.trans HG5.out)⟩
            | true =>
              have HNX : Hid ((xs.take (t + 1)).all (fun x => inB x 0 8) = true) := Lib.hid (by rw [HTK.out, HB.out]; rfl)
              go_wp2_with fail
              refine (HW.out _).mono ?_
              rintro e w6 ⟨rfl, rfl⟩
              go_wp2
              go_roundw
              case rel => exact ⟨t + 1, by omega, by go_num, HNX, by first | rfl | trivial⟩
              case measure => simp [intOf]; omega
          · obtain rfl : t = xs.length := by omega
            have hd2 : decide ((xs.length : Int) < (xs.length : Int)) = false := decide_eq_false (by omega)
            have HNX : Hid ((d.needs.take (s + 1)).all (rowB tn) = true) := Lib.hid (HYES.out (by rw [HRB2.out, ← HB.out, List.take_length]))
            go_wp2
            go_roundw
            case rel => exact ⟨s + 1, by omega, by go_num, HNX, HGR.out.trans HG5.out⟩
            case measure => simp [intOf]; omega
    · obtain rfl : s = d.needs.length := by omega
      have hd : decide ((d.needs.length : Int) < (d.needs.length : Int)) = false := decide_eq_false (by omega)
      have HOK : Hid (er = if d.folk.all (okFolk tn d.needs.length) then 0 else 100) := Lib.hid (by
        have h := HA.out
        rw [List.take_length] at h
        rw [HOK.out, h]
        rfl)
      obtain ⟨nb, noff, xs0, ra, rc, rfl, _, _, _, _⟩ := HRW.out 0 hn0 wr (HG1.out.trans HGR.out)
      clear HRW HA
      have HGR0 := Lib.hid HGR.out
      have hcc := HFR.out.cell
      have hpI : ((2 : Int) ^ tn) = ((2 ^ tn : Nat) : Int) := (Int.natCast_pow 2 _).symm
      have hpI2 : ((2 : Int) ^ d.needs.length) = ((2 ^ d.needs.length : Nat) : Int) := (Int.natCast_pow 2 _).symm
      have hp : 2 ^ tn ≤ 32 := by have := Nat.pow_le_pow_right (n := 2) (by omega) htn5; simpa using this
      have hp2 : 2 ^ d.needs.length ≤ 64 := by have := Nat.pow_le_pow_right (n := 2) (by omega) hn6; simpa using this
      have hp1 : 1 ≤ 2 ^ tn := Nat.one_le_two_pow
      have hp21 : 1 ≤ 2 ^ d.needs.length := Nat.one_le_two_pow
      have HFO : Hid (∀ x : FolkI, okFolk tn d.needs.length x = (inB x.t 0 (2 ^ tn - 1) && inB x.s 0 (2 ^ d.needs.length - 1) && inB x.y 0 1000)) := Lib.hid (fun x => by
        unfold okFolk
        rw [Int.toNat_natCast, Int.toNat_natCast])
      rw [hpI, hpI2] at HFO
      obtain ⟨m, hm⟩ : ∃ z, 2 ^ tn = z := ⟨_, rfl⟩
      obtain ⟨m2, hm2⟩ : ∃ z, 2 ^ d.needs.length = z := ⟨_, rfl⟩
      rw [hm] at hp hp1 hpI HFO
      rw [hm2] at hp2 hp21 hpI2 HFO
      have hwr : IntKind.i64.wrap ((2 : Int) ^ tn) = (m : Int) := by rw [hpI]; exact IntWalk.i64_in _ (by omega)
      have hwr2 : IntKind.i64.wrap ((2 : Int) ^ d.needs.length) = (m2 : Int) := by rw [hpI2]; exact IntWalk.i64_in _ (by omega)
      have hcv : IntKind.u64.wrap (tn : Int) = (tn : Int) := IntWalk.u64_in _ (by omega)
      have hcv2 : IntKind.u64.wrap (d.needs.length : Int) = (d.needs.length : Int) := IntWalk.u64_in _ (by omega)
      have hl0 : (0 : Int) ≤ (tn : Int) := by omega
      have hl64 : tn ≤ 64 := by omega
      have hn00 : (0 : Int) ≤ (d.needs.length : Int) := by omega
      have hn64 : d.needs.length ≤ 64 := by omega
      clear hpI hpI2 hm hm2
      go_wp2_with fail
      clear hcc
      go_loopw [5] (fun iv wx => ∃ k : Nat, k ≤ d.folk.length ∧ iv = .int .i64 (k : Nat) ∧ Hid ((d.folk.take k).all (okFolk tn d.needs.length) = true) ∧ Grow wr wx) (fun iv _ => d.folk.length - (intOf iv).toNat)
      case atStart => exact ⟨0, Nat.zero_le _, rfl, rfl, Grow.refl _⟩
      case round =>
        obtain ⟨k, hk, rfl, HA, hgr⟩ := hrel
        rename World => wx
        have HGX := Lib.hid hgr
        have HFX := Lib.hid (Grow.block hgr HFR.out)
        clear hgr
        have hcc := HFX.out.cell
        by_cases hlk : k < d.folk.length
        · have hd2 : decide ((k : Int) < (d.folk.length : Int)) = true := decide_eq_true (by omega)
          have hk0 : (0 : Int) ≤ (k : Int) := by omega
          have hk1 : (k : Int) < (d.folk.length : Int) := by omega
          obtain ⟨fb, foff, x, rfl, hfb, hxc, HX⟩ := HFK.out k hlk wx (HG1.out.trans (HGR0.out.trans HGX.out))
          have e0 := hxc 0 (by omega)
          have e1 := hxc 1 (by omega)
          have e2 := hxc 2 (by omega)
          rw [Nat.add_zero] at e0
          obtain ⟨xt, xs, xy⟩ := x
          have W1 := Lib.hid (fun w0 => rwithin_any xt 0 ((m : Int) - 1) w0)
          have W2 := Lib.hid (fun w0 => rwithin_any xs 0 ((m2 : Int) - 1) w0)
          have W3 := Lib.hid (fun w0 => rwithin_any xy 0 1000 w0)
          have HTK := Lib.hid (take_all_succ (okFolk tn d.needs.length) HX.out)
          have HOKX := Lib.hid (HFO.out ⟨xt, xs, xy⟩)
          have HYES : Hid (okFolk tn d.needs.length ⟨xt, xs, xy⟩ = true → (d.folk.take (k + 1)).all (okFolk tn d.needs.length) = true) := Lib.hid (fun h => by rw [HTK.out, HA.out, h]; rfl)
          have HNO : Hid (okFolk tn d.needs.length ⟨xt, xs, xy⟩ = false → er = 100) := Lib.hid (fun h => by rw [HOK.out, take_all_false (k := k + 1) (by rw [HTK.out, h, Bool.and_false])]; rfl)
          generalize inB xt 0 ((m : Int) - 1) = q1 at W1 HOKX
          generalize inB xs 0 ((m2 : Int) - 1) = q2 at W2 HOKX
          generalize inB xy 0 1000 = q3 at W3 HOKX
          clear hxc HTK
          go_upto_region 17 with fail
          obtain ⟨W2w, hW2, hg2, hf2, hsz2⟩ := one_block wx 62 (cellsF ⟨xt, xs, xy⟩)
          rw [hW2]
          clear hW2
          obtain ⟨xb, hxb⟩ : ∃ z, wx.heap.size = z := ⟨_, rfl⟩
          rw [hxb] at hf2 ⊢
          have HXB := Lib.hid hf2
          have HFR2 := Lib.hid (hg2.block HFX.out)
          have HGW0 : Hid (Grow wr W2w) := Lib.hid (HGX.out.trans hg2)
          have HGR : Hid (Grow w1 W2w) := Lib.hid (HGR0.out.trans HGW0.out)
          clear hf2 hg2 hsz2 hxb hcc e0 e1 e2
          cases q1 with
          | false =>
            refine wp_region_lit 27 [[], [(0, 85)], [], [(2, 87)], [(3, 88)], [(4, 89)], [(5, 90)], [(1, 86), (6, 91)], [(7, 92)], [(8, 93)], [(9, 94)], [(9, 94), (10, 95)], [(9, 94)], [(9, 94), (12, 97)], [(9, 94), (13, 98)], [(9, 94), (14, 99)], [(9, 94), (15, 100)], [(9, 94), (16, 101)], [(9, 94), (11, 96), (17, 102)], [(9, 94), (18, 103)], [(9, 94), (19, 104)], [(20, 105)], [(21, 106)], [(21, 106), (22, 107)], [(21, 106), (23, 108)], [(21, 106), (24, 109)], [(21, 106), (25, 110)]] Grow (fun qi v w' => match qi with
                | 0 => v = .pointer (some ⟨xb, 0, none⟩)
                | 1 => v = .int .i64 xt
                | 2 => v = poolV ⟨some ⟨fb, foff, none⟩, fc, some ⟨nb, noff, none⟩, nc⟩ d
                | 3 => v = .int .i64 (tn : Nat)
                | 4 => v = .int .u64 (tn : Nat)
                | 5 => v = .int .i64 (m : Nat)
                | 6 => v = .int .i64 ((m : Int) - 1)
                | 7 => v = .bool false
                | 8 => v = .bool true
                | 9 => v = .bool true
                | 10 => v = undef
                | 11 => v = undef
                | 12 => v = undef
                | 13 => v = undef
                | 14 => v = undef
                | 15 => v = undef
                | 16 => v = undef
                | 17 => v = undef
                | 18 => v = undef
                | 19 => v = undef
                | 20 => v = .bool true
                | 21 => v = .bool true
                | 22 => v = undef
                | 23 => v = undef
                | 24 => v = undef
                | 25 => v = undef
                | 26 => v = .bool true
                | _ => False) (by kernel_rfl) (by kernel_rfl) (fun _ _ _ => Grow.trans) Grow.refl ?_ ?_ ?_
            · intro i v y y' h k
              match i, h with
              | 0, h | 1, h | 2, h | 3, h | 4, h | 5, h | 6, h | 7, h | 8, h | 9, h | 10, h | 11, h | 12, h | 13, h | 14, h | 15, h | 16, h | 17, h | 18, h | 19, h | 20, h | 21, h | 22, h | 23, h | 24, h | 25, h | 26, h => exact h
            · simp only [StepsLit, List.take_succ_cons, List.take_zero]
              refine ⟨?_, ?_, ?_, ?_, ?_, ?_, ?_, ?_, ?_, ?_, ?_, ?_, ?_, ?_, ?_, ?_, ?_, ?_, ?_, ?_, ?_, ?_, ?_, ?_, ?_, ?_, ?_, trivial⟩
              · intro w5 hR
                have hGw : Grow W2w w5 := hR.of_drew
                have HGW := Lib.hid hGw
                have hcc := (HGW.out.block HFR2.out).cell
                have hxc := (HGW.out.block HXB.out).cell
                clear hR hGw
                simp only [depV]
                try go_simp
                all_goals first
                  | (with_reducible exact Grow.refl _)
                  | (with_reducible exact ⟨Grow.refl _, rfl⟩)
              · intro w5 hR
                have hGw : Grow W2w w5 := hR.of_drew
                have HGW := Lib.hid hGw
                have hcc := (HGW.out.block HFR2.out).cell
                have hxc := (HGW.out.block HXB.out).cell
                clear hR hGw
                simp only [depV]
                rintro _ rfl
                try go_simp
                all_goals first
                  | (with_reducible exact Grow.refl _)
                  | (with_reducible exact ⟨Grow.refl _, rfl⟩)
              · intro w5 hR
                have hGw : Grow W2w w5 := hR.of_drew
                have HGW := Lib.hid hGw
                have hcc := (HGW.out.block HFR2.out).cell
                have hxc := (HGW.out.block HXB.out).cell
                clear hR hGw
                simp only [depV]
                try go_simp
                all_goals first
                  | (with_reducible exact Grow.refl _)
                  | (with_reducible exact ⟨Grow.refl _, rfl⟩)
              · intro w5 hR
                have hGw : Grow W2w w5 := hR.of_drew
                have HGW := Lib.hid hGw
                have hcc := (HGW.out.block HFR2.out).cell
                have hxc := (HGW.out.block HXB.out).cell
                clear hR hGw
                simp only [depV]
                rintro _ rfl
                try go_simp
                refine (HT.out _ (HG1.out.trans (HGR.out.trans HGW.out))).mono ?_
                rintro e w6 ⟨rfl, hb6⟩
                exact ⟨hb6, rfl⟩
              · intro w5 hR
                have hGw : Grow W2w w5 := hR.of_drew
                have HGW := Lib.hid hGw
                have hcc := (HGW.out.block HFR2.out).cell
                have hxc := (HGW.out.block HXB.out).cell
                clear hR hGw
                simp only [depV]
                rintro _ rfl
                try go_simp
                all_goals first
                  | (with_reducible exact Grow.refl _)
                  | (with_reducible exact ⟨Grow.refl _, rfl⟩)
              · intro w5 hR
                have hGw : Grow W2w w5 := hR.of_drew
                have HGW := Lib.hid hGw
                have hcc := (HGW.out.block HFR2.out).cell
                have hxc := (HGW.out.block HXB.out).cell
                clear hR hGw
                simp only [depV]
                rintro _ rfl
                try go_simp
                all_goals first
                  | (with_reducible exact Grow.refl _)
                  | (with_reducible exact ⟨Grow.refl _, rfl⟩)
              · intro w5 hR
                have hGw : Grow W2w w5 := hR.of_drew
                have HGW := Lib.hid hGw
                have hcc := (HGW.out.block HFR2.out).cell
                have hxc := (HGW.out.block HXB.out).cell
                clear hR hGw
                simp only [depV]
                rintro _ rfl
                try go_simp
                exact ⟨Grow.refl _, IntWalk.i64_in _ (by omega)⟩
              · intro w5 hR
                have hGw : Grow W2w w5 := hR.of_drew
                have HGW := Lib.hid hGw
                have hcc := (HGW.out.block HFR2.out).cell
                have hxc := (HGW.out.block HXB.out).cell
                clear hR hGw
                simp only [depV]
                rintro _ rfl
                rintro _ rfl
                try go_simp
                refine (W1.out _).mono ?_
                rintro e w6 ⟨rfl, rfl⟩
                exact ⟨Grow.refl _, rfl⟩
              · intro w5 hR
                have hGw : Grow W2w w5 := hR.of_drew
                have HGW := Lib.hid hGw
                have hcc := (HGW.out.block HFR2.out).cell
                have hxc := (HGW.out.block HXB.out).cell
                clear hR hGw
                simp only [depV]
                rintro _ rfl
                try go_simp
                all_goals first
                  | (with_reducible exact Grow.refl _)
                  | (with_reducible exact ⟨Grow.refl _, rfl⟩)
              · intro w5 hR
                have hGw : Grow W2w w5 := hR.of_drew
                have HGW := Lib.hid hGw
                have hcc := (HGW.out.block HFR2.out).cell
                have hxc := (HGW.out.block HXB.out).cell
                clear hR hGw
                simp only [depV]
                rintro _ rfl
                try go_simp
                all_goals first
                  | (with_reducible exact Grow.refl _)
                  | (with_reducible exact ⟨Grow.refl _, rfl⟩)
              · intro w5 hR
                have hGw : Grow W2w w5 := hR.of_drew
                have HGW := Lib.hid hGw
                have hcc := (HGW.out.block HFR2.out).cell
                have hxc := (HGW.out.block HXB.out).cell
                clear hR hGw
                simp only [depV]
                rintro _ rfl
                try go_simp
                all_goals first
                  | (with_reducible exact Grow.refl _)
                  | (with_reducible exact ⟨Grow.refl _, rfl⟩)
              · intro w5 hR
                have hGw : Grow W2w w5 := hR.of_drew
                have HGW := Lib.hid hGw
                have hcc := (HGW.out.block HFR2.out).cell
                have hxc := (HGW.out.block HXB.out).cell
                clear hR hGw
                simp only [depV]
                rintro _ rfl
                rintro _ rfl
                try go_simp
                all_goals first
                  | (with_reducible exact Grow.refl _)
                  | (with_reducible exact ⟨Grow.refl _, rfl⟩)
              · intro w5 hR
                have hGw : Grow W2w w5 := hR.of_drew
                have HGW := Lib.hid hGw
                have hcc := (HGW.out.block HFR2.out).cell
                have hxc := (HGW.out.block HXB.out).cell
                clear hR hGw
                simp only [depV]
                rintro _ rfl
                try go_simp
                all_goals first
                  | (with_reducible exact Grow.refl _)
                  | (with_reducible exact ⟨Grow.refl _, rfl⟩)
              · intro w5 hR
                have hGw : Grow W2w w5 := hR.of_drew
                have HGW := Lib.hid hGw
                have hcc := (HGW.out.block HFR2.out).cell
                have hxc := (HGW.out.block HXB.out).cell
                clear hR hGw
                simp only [depV]
                rintro _ rfl
                rintro _ rfl
                try go_simp
                all_goals first
                  | (with_reducible exact Grow.refl _)
                  | (with_reducible exact ⟨Grow.refl _, rfl⟩)
              · intro w5 hR
                have hGw : Grow W2w w5 := hR.of_drew
                have HGW := Lib.hid hGw
                have hcc := (HGW.out.block HFR2.out).cell
                have hxc := (HGW.out.block HXB.out).cell
                clear hR hGw
                simp only [depV]
                rintro _ rfl
                rintro _ rfl
                try go_simp
                all_goals first
                  | (with_reducible exact Grow.refl _)
                  | (with_reducible exact ⟨Grow.refl _, rfl⟩)
              · intro w5 hR
                have hGw : Grow W2w w5 := hR.of_drew
                have HGW := Lib.hid hGw
                have hcc := (HGW.out.block HFR2.out).cell
                have hxc := (HGW.out.block HXB.out).cell
                clear hR hGw
                simp only [depV]
                rintro _ rfl
                rintro _ rfl
                try go_simp
                all_goals first
                  | (with_reducible exact Grow.refl _)
                  | (with_reducible exact ⟨Grow.refl _, rfl⟩)
              · intro w5 hR
                have hGw : Grow W2w w5 := hR.of_drew
                have HGW := Lib.hid hGw
                have hcc := (HGW.out.block HFR2.out).cell
                have hxc := (HGW.out.block HXB.out).cell
                clear hR hGw
                simp only [depV]
                rintro _ rfl
                rintro _ rfl
                try go_simp
                all_goals first
                  | (with_reducible exact Grow.refl _)
                  | (with_reducible exact ⟨Grow.refl _, rfl⟩)
              · intro w5 hR
                have hGw : Grow W2w w5 := hR.of_drew
                have HGW := Lib.hid hGw
                have hcc := (HGW.out.block HFR2.out).cell
                have hxc := (HGW.out.block HXB.out).cell
                clear hR hGw
                simp only [depV]
                rintro _ rfl
                rintro _ rfl
                try go_simp
                all_goals first
                  | (with_reducible exact Grow.refl _)
                  | (with_reducible exact ⟨Grow.refl _, rfl⟩)
              · intro w5 hR
                have hGw : Grow W2w w5 := hR.of_drew
                have HGW := Lib.hid hGw
                have hcc := (HGW.out.block HFR2.out).cell
                have hxc := (HGW.out.block HXB.out).cell
                clear hR hGw
                simp only [depV]
                rintro _ rfl
                rintro _ rfl
                rintro _ rfl
                try go_simp
                all_goals first
                  | (with_reducible exact Grow.refl _)
                  | (with_reducible exact ⟨Grow.refl _, rfl⟩)
              · intro w5 hR
                have hGw : Grow W2w w5 := hR.of_drew
                have HGW := Lib.hid hGw
                have hcc := (HGW.out.block HFR2.out).cell
                have hxc := (HGW.out.block HXB.out).cell
                clear hR hGw
                simp only [depV]
                rintro _ rfl
                rintro _ rfl
                try go_simp
                all_goals first
                  | (with_reducible exact Grow.refl _)
                  | (with_reducible exact ⟨Grow.refl _, rfl⟩)
              · intro w5 hR
                have hGw : Grow W2w w5 := hR.of_drew
                have HGW := Lib.hid hGw
                have hcc := (HGW.out.block HFR2.out).cell
                have hxc := (HGW.out.block HXB.out).cell
                clear hR hGw
                simp only [depV]
                rintro _ rfl
                rintro _ rfl
                try go_simp
                all_goals first
                  | (with_reducible exact Grow.refl _)
                  | (with_reducible exact ⟨Grow.refl _, rfl⟩)
              · intro w5 hR
                have hGw : Grow W2w w5 := hR.of_drew
                have HGW := Lib.hid hGw
                have hcc := (HGW.out.block HFR2.out).cell
                have hxc := (HGW.out.block HXB.out).cell
                clear hR hGw
                simp only [depV]
                rintro _ rfl
                try go_simp
                all_goals first
                  | (with_reducible exact Grow.refl _)
                  | (with_reducible exact ⟨Grow.refl _, rfl⟩)
              · intro w5 hR
                have hGw : Grow W2w w5 := hR.of_drew
                have HGW := Lib.hid hGw
                have hcc := (HGW.out.block HFR2.out).cell
                have hxc := (HGW.out.block HXB.out).cell
                clear hR hGw
                simp only [depV]
                rintro _ rfl
                try go_simp
                all_goals first
                  | (with_reducible exact Grow.refl _)
                  | (with_reducible exact ⟨Grow.refl _, rfl⟩)
              · intro w5 hR
                have hGw : Grow W2w w5 := hR.of_drew
                have HGW := Lib.hid hGw
                have hcc := (HGW.out.block HFR2.out).cell
                have hxc := (HGW.out.block HXB.out).cell
                clear hR hGw
                simp only [depV]
                rintro _ rfl
                rintro _ rfl
                try go_simp
                all_goals first
                  | (with_reducible exact Grow.refl _)
                  | (with_reducible exact ⟨Grow.refl _, rfl⟩)
              · intro w5 hR
                have hGw : Grow W2w w5 := hR.of_drew
                have HGW := Lib.hid hGw
                have hcc := (HGW.out.block HFR2.out).cell
                have hxc := (HGW.out.block HXB.out).cell
                clear hR hGw
                simp only [depV]
                rintro _ rfl
                rintro _ rfl
                try go_simp
                all_goals first
                  | (with_reducible exact Grow.refl _)
                  | (with_reducible exact ⟨Grow.refl _, rfl⟩)
              · intro w5 hR
                have hGw : Grow W2w w5 := hR.of_drew
                have HGW := Lib.hid hGw
                have hcc := (HGW.out.block HFR2.out).cell
                have hxc := (HGW.out.block HXB.out).cell
                clear hR hGw
                simp only [depV]
                rintro _ rfl
                rintro _ rfl
                try go_simp
                all_goals first
                  | (with_reducible exact Grow.refl _)
                  | (with_reducible exact ⟨Grow.refl _, rfl⟩)
              · intro w5 hR
                have hGw : Grow W2w w5 := hR.of_drew
                have HGW := Lib.hid hGw
                have hcc := (HGW.out.block HFR2.out).cell
                have hxc := (HGW.out.block HXB.out).cell
                clear hR hGw
                simp only [depV]
                rintro _ rfl
                rintro _ rfl
                try go_simp
                all_goals first
                  | (with_reducible exact Grow.refl _)
                  | (with_reducible exact ⟨Grow.refl _, rfl⟩)
            · intro w5 hR
              have HG5 : Hid (Grow W2w w5) := Lib.hid hR.of_drew
              clear hR
              simp only [finVC, List.take_succ_cons, List.take_zero, List.drop_succ_cons, List.drop_zero]
              rintro _ rfl
              rintro _ rfl
              rintro _ rfl
              rintro _ rfl
              rintro _ rfl
              rintro _ rfl
              rintro _ rfl
              rintro _ rfl
              rintro _ rfl
              rintro _ rfl
              rintro _ rfl
              rintro _ rfl
              rintro _ rfl
              rintro _ rfl
              rintro _ rfl
              rintro _ rfl
              rintro _ rfl
              rintro _ rfl
              rintro _ rfl
              rintro _ rfl
              rintro _ rfl
              rintro _ rfl
              rintro _ rfl
              rintro _ rfl
              rintro _ rfl
              rintro _ rfl
              rintro _ rfl
              simp only [Act.put, List.setIfInBounds_toArray, List.set_cons_succ, List.set_cons_zero]
              go_wp2
              go_ret
              exact ⟨ret_int (HNO.out (by rw [HOKX.out]; rfl)).symm, HG1.out.trans (HGR.out.trans HG5.out)⟩
          | true =>
            cases q2 with
            | false =>
              refine wp_region_lit 27 [[], [(0, 85)], [], [(2, 87)], [(3, 88)], [(4, 89)], [(5, 90)], [(1, 86), (6, 91)], [(7, 92)], [(8, 93)], [(9, 94)], [(9, 94), (10, 95)], [(9, 94)], [(9, 94), (12, 97)], [(9, 94), (13, 98)], [(9, 94), (14, 99)], [(9, 94), (15, 100)], [(9, 94), (16, 101)], [(9, 94), (11, 96), (17, 102)], [(9, 94), (18, 103)], [(9, 94), (19, 104)], [(20, 105)], [(21, 106)], [(21, 106), (22, 107)], [(21, 106), (23, 108)], [(21, 106), (24, 109)], [(21, 106), (25, 110)]] Grow (fun qi v w' => match qi with
                  | 0 => v = .pointer (some ⟨xb, 0, none⟩)
                  | 1 => v = .int .i64 xt
                  | 2 => v = poolV ⟨some ⟨fb, foff, none⟩, fc, some ⟨nb, noff, none⟩, nc⟩ d
                  | 3 => v = .int .i64 (tn : Nat)
                  | 4 => v = .int .u64 (tn : Nat)
                  | 5 => v = .int .i64 (m : Nat)
                  | 6 => v = .int .i64 ((m : Int) - 1)
                  | 7 => v = .bool true
                  | 8 => v = .bool false
                  | 9 => v = .bool false
                  | 10 => v = .pointer (some ⟨xb, 1, none⟩)
                  | 11 => v = .int .i64 xs
                  | 12 => v = .pointer (some ⟨w.heap.size, 1, none⟩)
                  | 13 => v = .slice (some ⟨nb, noff, none⟩) d.needs.length nc
                  | 14 => v = .int .i64 (d.needs.length : Nat)
                  | 15 => v = .int .u64 (d.needs.length : Nat)
                  | 16 => v = .int .i64 (m2 : Nat)
                  | 17 => v = .int .i64 ((m2 : Int) - 1)
                  | 18 => v = .bool false
                  | 19 => v = .bool true
                  | 20 => v = .bool true
                  | 21 => v = .bool true
                  | 22 => v = undef
                  | 23 => v = undef
                  | 24 => v = undef
                  | 25 => v = undef
                  | 26 => v = .bool true
                  | _ => False) (by kernel_rfl) (by kernel_rfl) (fun _ _ _ => Grow.trans) Grow.refl ?_ ?_ ?_
              · intro i v y y' h k
                match i, h with
                | 0, h | 1, h | 2, h | 3, h | 4, h | 5, h | 6, h | 7, h | 8, h | 9, h | 10, h | 11, h | 12, h | 13, h | 14, h | 15, h | 16, h | 17, h | 18, h | 19, h | 20, h | 21, h | 22, h | 23, h | 24, h | 25, h | 26, h => exact h
              · simp only [StepsLit, List.take_succ_cons, List.take_zero]
                refine ⟨?_, ?_, ?_, ?_, ?_, ?_, ?_, ?_, ?_, ?_, ?_, ?_, ?_, ?_, ?_, ?_, ?_, ?_, ?_, ?_, ?_, ?_, ?_, ?_, ?_, ?_, ?_, trivial⟩
                · intro w5 hR
                  have hGw : Grow W2w w5 := hR.of_drew
                  have HGW := Lib.hid hGw
                  have hcc := (HGW.out.block HFR2.out).cell
                  have hxc := (HGW.out.block HXB.out).cell
                  clear hR hGw
                  simp only [depV]
                  try go_simp
                  all_goals first
                    | (with_reducible exact Grow.refl _)
                    | (with_reducible exact ⟨Grow.refl _, rfl⟩)
                · intro w5 hR
                  have hGw : Grow W2w w5 := hR.of_drew
                  have HGW := Lib.hid hGw
                  have hcc := (HGW.out.block HFR2.out).cell
                  have hxc := (HGW.out.block HXB.out).cell
                  clear hR hGw
                  simp only [depV]
                  rintro _ rfl
                  try go_simp
                  all_goals first
                    | (with_reducible exact Grow.refl _)
                    | (with_reducible exact ⟨Grow.refl _, rfl⟩)
                · intro w5 hR
                  have hGw : Grow W2w w5 := hR.of_drew
                  have HGW := Lib.hid hGw
                  have hcc := (HGW.out.block HFR2.out).cell
                  have hxc := (HGW.out.block HXB.out).cell
                  clear hR hGw
                  simp only [depV]
                  try go_simp
                  all_goals first
                    | (with_reducible exact Grow.refl _)
                    | (with_reducible exact ⟨Grow.refl _, rfl⟩)
                · intro w5 hR
                  have hGw : Grow W2w w5 := hR.of_drew
                  have HGW := Lib.hid hGw
                  have hcc := (HGW.out.block HFR2.out).cell
                  have hxc := (HGW.out.block HXB.out).cell
                  clear hR hGw
                  simp only [depV]
                  rintro _ rfl
                  try go_simp
                  refine (HT.out _ (HG1.out.trans (HGR.out.trans HGW.out))).mono ?_
                  rintro e w6 ⟨rfl, hb6⟩
                  exact ⟨hb6, rfl⟩
                · intro w5 hR
                  have hGw : Grow W2w w5 := hR.of_drew
                  have HGW := Lib.hid hGw
                  have hcc := (HGW.out.block HFR2.out).cell
                  have hxc := (HGW.out.block HXB.out).cell
                  clear hR hGw
                  simp only [depV]
                  rintro _ rfl
                  try go_simp
                  all_goals first
                    | (with_reducible exact Grow.refl _)
                    | (with_reducible exact ⟨Grow.refl _, rfl⟩)
                · intro w5 hR
                  have hGw : Grow W2w w5 := hR.of_drew
                  have HGW := Lib.hid hGw
                  have hcc := (HGW.out.block HFR2.out).cell
                  have hxc := (HGW.out.block HXB.out).cell
                  clear hR hGw
                  simp only [depV]
                  rintro _ rfl
                  try go_simp
                  all_goals first
                    | (with_reducible exact Grow.refl _)
                    | (with_reducible exact ⟨Grow.refl _, rfl⟩)
                · intro w5 hR
                  have hGw : Grow W2w w5 := hR.of_drew
                  have HGW := Lib.hid hGw
                  have hcc := (HGW.out.block HFR2.out).cell
                  have hxc := (HGW.out.block HXB.out).cell
                  clear hR hGw
                  simp only [depV]
                  rintro _ rfl
                  try go_simp
                  exact ⟨Grow.refl _, IntWalk.i64_in _ (by omega)⟩
                · intro w5 hR
                  have hGw : Grow W2w w5 := hR.of_drew
                  have HGW := Lib.hid hGw
                  have hcc := (HGW.out.block HFR2.out).cell
                  have hxc := (HGW.out.block HXB.out).cell
                  clear hR hGw
                  simp only [depV]
                  rintro _ rfl
                  rintro _ rfl
                  try go_simp
                  refine (W1.out _).mono ?_
                  rintro e w6 ⟨rfl, rfl⟩
                  exact ⟨Grow.refl _, rfl⟩
                · intro w5 hR
                  have hGw : Grow W2w w5 := hR.of_drew
                  have HGW := Lib.hid hGw
                  have hcc := (HGW.out.block HFR2.out).cell
                  have hxc := (HGW.out.block HXB.out).cell
                  clear hR hGw
                  simp only [depV]
                  rintro _ rfl
                  try go_simp
                  all_goals first
                    | (with_reducible exact Grow.refl _)
                    | (with_reducible exact ⟨Grow.refl _, rfl⟩)
                · intro w5 hR
                  have hGw : Grow W2w w5 := hR.of_drew
                  have HGW := Lib.hid hGw
                  have hcc := (HGW.out.block HFR2.out).cell
                  have hxc := (HGW.out.block HXB.out).cell
                  clear hR hGw
                  simp only [depV]
                  rintro _ rfl
                  try go_simp
                  all_goals first
                    | (with_reducible exact Grow.refl _)
                    | (with_reducible exact ⟨Grow.refl _, rfl⟩)
                · intro w5 hR
                  have hGw : Grow W2w w5 := hR.of_drew
                  have HGW := Lib.hid hGw
                  have hcc := (HGW.out.block HFR2.out).cell
                  have hxc := (HGW.out.block HXB.out).cell
                  clear hR hGw
                  simp only [depV]
                  rintro _ rfl
                  try go_simp
                  all_goals first
                    | (with_reducible exact Grow.refl _)
                    | (with_reducible exact ⟨Grow.refl _, rfl⟩)
                · intro w5 hR
                  have hGw : Grow W2w w5 := hR.of_drew
                  have HGW := Lib.hid hGw
                  have hcc := (HGW.out.block HFR2.out).cell
                  have hxc := (HGW.out.block HXB.out).cell
                  clear hR hGw
                  simp only [depV]
                  rintro _ rfl
                  rintro _ rfl
                  try go_simp
                  all_goals first
                    | (with_reducible exact Grow.refl _)
                    | (with_reducible exact ⟨Grow.refl _, rfl⟩)
                · intro w5 hR
                  have hGw : Grow W2w w5 := hR.of_drew
                  have HGW := Lib.hid hGw
                  have hcc := (HGW.out.block HFR2.out).cell
                  have hxc := (HGW.out.block HXB.out).cell
                  clear hR hGw
                  simp only [depV]
                  rintro _ rfl
                  try go_simp
                  all_goals first
                    | (with_reducible exact Grow.refl _)
                    | (with_reducible exact ⟨Grow.refl _, rfl⟩)
                · intro w5 hR
                  have hGw : Grow W2w w5 := hR.of_drew
                  have HGW := Lib.hid hGw
                  have hcc := (HGW.out.block HFR2.out).cell
                  have hxc := (HGW.out.block HXB.out).cell
                  clear hR hGw
                  simp only [depV]
                  rintro _ rfl
                  rintro _ rfl
                  try go_simp
                  all_goals first
                    | (with_reducible exact Grow.refl _)
                    | (with_reducible exact ⟨Grow.refl _, rfl⟩)
                · intro w5 hR
                  have hGw : Grow W2w w5 := hR.of_drew
                  have HGW := Lib.hid hGw
                  have hcc := (HGW.out.block HFR2.out).cell
                  have hxc := (HGW.out.block HXB.out).cell
                  clear hR hGw
                  simp only [depV]
                  rintro _ rfl
                  rintro _ rfl
                  try go_simp
                  all_goals first
                    | (with_reducible exact Grow.refl _)
                    | (with_reducible exact ⟨Grow.refl _, rfl⟩)
                · intro w5 hR
                  have hGw : Grow W2w w5 := hR.of_drew
                  have HGW := Lib.hid hGw
                  have hcc := (HGW.out.block HFR2.out).cell
                  have hxc := (HGW.out.block HXB.out).cell
                  clear hR hGw
                  simp only [depV]
                  rintro _ rfl
                  rintro _ rfl
                  try go_simp
                  all_goals first
                    | (with_reducible exact Grow.refl _)
                    | (with_reducible exact ⟨Grow.refl _, rfl⟩)
                · intro w5 hR
                  have hGw : Grow W2w w5 := hR.of_drew
                  have HGW := Lib.hid hGw
                  have hcc := (HGW.out.block HFR2.out).cell
                  have hxc := (HGW.out.block HXB.out).cell
                  clear hR hGw
                  simp only [depV]
                  rintro _ rfl
                  rintro _ rfl
                  try go_simp
                  all_goals first
                    | (with_reducible exact Grow.refl _)
                    | (with_reducible exact ⟨Grow.refl _, rfl⟩)
                · intro w5 hR
                  have hGw : Grow W2w w5 := hR.of_drew
                  have HGW := Lib.hid hGw
                  have hcc := (HGW.out.block HFR2.out).cell
                  have hxc := (HGW.out.block HXB.out).cell
                  clear hR hGw
                  simp only [depV]
                  rintro _ rfl
                  rintro _ rfl
                  try go_simp
                  exact ⟨Grow.refl _, IntWalk.i64_in _ (by omega)⟩
                · intro w5 hR
                  have hGw : Grow W2w w5 := hR.of_drew
                  have HGW := Lib.hid hGw
                  have hcc := (HGW.out.block HFR2.out).cell
                  have hxc := (HGW.out.block HXB.out).cell
                  clear hR hGw
                  simp only [depV]
                  rintro _ rfl
                  rintro _ rfl
                  rintro _ rfl
                  try go_simp
                  refine (W2.out _).mono ?_
                  rintro e w6 ⟨rfl, rfl⟩
                  exact ⟨Grow.refl _, rfl⟩
                · intro w5 hR
                  have hGw : Grow W2w w5 := hR.of_drew
                  have HGW := Lib.hid hGw
                  have hcc := (HGW.out.block HFR2.out).cell
                  have hxc := (HGW.out.block HXB.out).cell
                  clear hR hGw
                  simp only [depV]
                  rintro _ rfl
                  rintro _ rfl
                  try go_simp
                  all_goals first
                    | (with_reducible exact Grow.refl _)
                    | (with_reducible exact ⟨Grow.refl _, rfl⟩)
                · intro w5 hR
                  have hGw : Grow W2w w5 := hR.of_drew
                  have HGW := Lib.hid hGw
                  have hcc := (HGW.out.block HFR2.out).cell
                  have hxc := (HGW.out.block HXB.out).cell
                  clear hR hGw
                  simp only [depV]
                  rintro _ rfl
                  rintro _ rfl
                  try go_simp
                  all_goals first
                    | (with_reducible exact Grow.refl _)
                    | (with_reducible exact ⟨Grow.refl _, rfl⟩)
                · intro w5 hR
                  have hGw : Grow W2w w5 := hR.of_drew
                  have HGW := Lib.hid hGw
                  have hcc := (HGW.out.block HFR2.out).cell
                  have hxc := (HGW.out.block HXB.out).cell
                  clear hR hGw
                  simp only [depV]
                  rintro _ rfl
                  try go_simp
                  all_goals first
                    | (with_reducible exact Grow.refl _)
                    | (with_reducible exact ⟨Grow.refl _, rfl⟩)
                · intro w5 hR
                  have hGw : Grow W2w w5 := hR.of_drew
                  have HGW := Lib.hid hGw
                  have hcc := (HGW.out.block HFR2.out).cell
                  have hxc := (HGW.out.block HXB.out).cell
                  clear hR hGw
                  simp only [depV]
                  rintro _ rfl
                  try go_simp
                  all_goals first
                    | (with_reducible exact Grow.refl _)
                    | (with_reducible exact ⟨Grow.refl _, rfl⟩)
                · intro w5 hR
                  have hGw : Grow W2w w5 := hR.of_drew
                  have HGW := Lib.hid hGw
                  have hcc := (HGW.out.block HFR2.out).cell
                  have hxc := (HGW.out.block HXB.out).cell
                  clear hR hGw
                  simp only [depV]
                  rintro _ rfl
                  rintro _ rfl
                  try go_simp
                  all_goals first
                    | (with_reducible exact Grow.refl _)
                    | (with_reducible exact ⟨Grow.refl _, rfl⟩)
                · intro w5 hR
                  have hGw : Grow W2w w5 := hR.of_drew
                  have HGW := Lib.hid hGw
                  have hcc := (HGW.out.block HFR2.out).cell
                  have hxc := (HGW.out.block HXB.out).cell
                  clear hR hGw
                  simp only [depV]
                  rintro _ rfl
                  rintro _ rfl
                  try go_simp
                  all_goals first
                    | (with_reducible exact Grow.refl _)
                    | (with_reducible exact ⟨Grow.refl _, rfl⟩)
                · intro w5 hR
                  have hGw : Grow W2w w5 := hR.of_drew
                  have HGW := Lib.hid hGw
                  have hcc := (HGW.out.block HFR2.out).cell
                  have hxc := (HGW.out.block HXB.out).cell
                  clear hR hGw
                  simp only [depV]
                  rintro _ rfl
                  rintro _ rfl
                  try go_simp
                  all_goals first
                    | (with_reducible exact Grow.refl _)
                    | (with_reducible exact ⟨Grow.refl _, rfl⟩)
                · intro w5 hR
                  have hGw : Grow W2w w5 := hR.of_drew
                  have HGW := Lib.hid hGw
                  have hcc := (HGW.out.block HFR2.out).cell
                  have hxc := (HGW.out.block HXB.out).cell
                  clear hR hGw
                  simp only [depV]
                  rintro _ rfl
                  rintro _ rfl
                  try go_simp
                  all_goals first
                    | (with_reducible exact Grow.refl _)
                    | (with_reducible exact ⟨Grow.refl _, rfl⟩)
              · intro w5 hR
                have HG5 : Hid (Grow W2w w5) := Lib.hid hR.of_drew
                clear hR
                simp only [finVC, List.take_succ_cons, List.take_zero, List.drop_succ_cons, List.drop_zero]
                rintro _ rfl
                rintro _ rfl
                rintro _ rfl
                rintro _ rfl
                rintro _ rfl
                rintro _ rfl
                rintro _ rfl
                rintro _ rfl
                rintro _ rfl
                rintro _ rfl
                rintro _ rfl
                rintro _ rfl
                rintro _ rfl
                rintro _ rfl
                rintro _ rfl
                rintro _ rfl
                rintro _ rfl
                rintro _ rfl
                rintro _ rfl
                rintro _ rfl
                rintro _ rfl
                rintro _ rfl
                rintro _ rfl
                rintro _ rfl
                rintro _ rfl
                rintro _ rfl
                rintro _ rfl
                simp only [Act.put, List.setIfInBounds_toArray, List.set_cons_succ, List.set_cons_zero]
                go_wp2
                go_ret
                exact ⟨ret_int (HNO.out (by rw [HOKX.out]; rfl)).symm, HG1.out.trans (HGR.out.trans HG5.out)⟩
            | true =>
              refine wp_region_lit 27 [[], [(0, 85)], [], [(2, 87)], [(3, 88)], [(4, 89)], [(5, 90)], [(1, 86), (6, 91)], [(7, 92)], [(8, 93)], [(9, 94)], [(9, 94), (10, 95)], [(9, 94)], [(9, 94), (12, 97)], [(9, 94), (13, 98)], [(9, 94), (14, 99)], [(9, 94), (15, 100)], [(9, 94), (16, 101)], [(9, 94), (11, 96), (17, 102)], [(9, 94), (18, 103)], [(9, 94), (19, 104)], [(20, 105)], [(21, 106)], [(21, 106), (22, 107)], [(21, 106), (23, 108)], [(21, 106), (24, 109)], [(21, 106), (25, 110)]] Grow (fun qi v w' => match qi with
                  | 0 => v = .pointer (some ⟨xb, 0, none⟩)
                  | 1 => v = .int .i64 xt
                  | 2 => v = poolV ⟨some ⟨fb, foff, none⟩, fc, some ⟨nb, noff, none⟩, nc⟩ d
                  | 3 => v = .int .i64 (tn : Nat)
                  | 4 => v = .int .u64 (tn : Nat)
                  | 5 => v = .int .i64 (m : Nat)
                  | 6 => v = .int .i64 ((m : Int) - 1)
                  | 7 => v = .bool true
                  | 8 => v = .bool false
                  | 9 => v = .bool false
                  | 10 => v = .pointer (some ⟨xb, 1, none⟩)
                  | 11 => v = .int .i64 xs
                  | 12 => v = .pointer (some ⟨w.heap.size, 1, none⟩)
                  | 13 => v = .slice (some ⟨nb, noff, none⟩) d.needs.length nc
                  | 14 => v = .int .i64 (d.needs.length : Nat)
                  | 15 => v = .int .u64 (d.needs.length : Nat)
                  | 16 => v = .int .i64 (m2 : Nat)
                  | 17 => v = .int .i64 ((m2 : Int) - 1)
                  | 18 => v = .bool true
                  | 19 => v = .bool false
                  | 20 => v = .bool false
                  | 21 => v = .bool false
                  | 22 => v = .pointer (some ⟨xb, 2, none⟩)
                  | 23 => v = .int .i64 xy
                  | 24 => v = .bool q3
                  | 25 => v = .bool (!q3)
                  | 26 => v = .bool (!q3)
                  | _ => False) (by kernel_rfl) (by kernel_rfl) (fun _ _ _ => Grow.trans) Grow.refl ?_ ?_ ?_
              · intro i v y y' h k
                match i, h with
                | 0, h | 1, h | 2, h | 3, h | 4, h | 5, h | 6, h | 7, h | 8, h | 9, h | 10, h | 11, h | 12, h | 13, h | 14, h | 15, h | 16, h | 17, h | 18, h | 19, h | 20, h | 21, h | 22, h | 23, h | 24, h | 25, h | 26, h => exact h
              · simp only [StepsLit, List.take_succ_cons, List.take_zero]
                refine ⟨?_, ?_, ?_, ?_, ?_, ?_, ?_, ?_, ?_, ?_, ?_, ?_, ?_, ?_, ?_, ?_, ?_, ?_, ?_, ?_, ?_, ?_, ?_, ?_, ?_, ?_, ?_, trivial⟩
                · intro w5 hR
                  have hGw : Grow W2w w5 := hR.of_drew
                  have HGW := Lib.hid hGw
                  have hcc := (HGW.out.block HFR2.out).cell
                  have hxc := (HGW.out.block HXB.out).cell
                  clear hR hGw
                  simp only [depV]
                  try go_simp
                  all_goals first
                    | (with_reducible exact Grow.refl _)
                    | (with_reducible exact ⟨Grow.refl _, rfl⟩)
                · intro w5 hR
                  have hGw : Grow W2w w5 := hR.of_drew
                  have HGW := Lib.hid hGw
                  have hcc := (HGW.out.block HFR2.out).cell
                  have hxc := (HGW.out.block HXB.out).cell
                  clear hR hGw
                  simp only [depV]
                  rintro _ rfl
                  try go_simp
                  all_goals first
                    | (with_reducible exact Grow.refl _)
                    | (with_reducible exact ⟨Grow.refl _, rfl⟩)
                · intro w5 hR
                  have hGw : Grow W2w w5 := hR.of_drew
                  have HGW := Lib.hid hGw
                  have hcc := (HGW.out.block HFR2.out).cell
                  have hxc := (HGW.out.block HXB.out).cell
                  clear hR hGw
                  simp only [depV]
                  try go_simp
                  all_goals first
                    | (with_reducible exact Grow.refl _)
                    | (with_reducible exact ⟨Grow.refl _, rfl⟩)
                · intro w5 hR
                  have hGw : Grow W2w w5 := hR.of_drew
                  have HGW := Lib.hid hGw
                  have hcc := (HGW.out.block HFR2.out).cell
                  have hxc := (HGW.out.block HXB.out).cell
                  clear hR hGw
                  simp only [depV]
                  rintro _ rfl
                  try go_simp
                  refine (HT.out _ (HG1.out.trans (HGR.out.trans HGW.out))).mono ?_
                  rintro e w6 ⟨rfl, hb6⟩
                  exact ⟨hb6, rfl⟩
                · intro w5 hR
                  have hGw : Grow W2w w5 := hR.of_drew
                  have HGW := Lib.hid hGw
                  have hcc := (HGW.out.block HFR2.out).cell
                  have hxc := (HGW.out.block HXB.out).cell
                  clear hR hGw
                  simp only [depV]
                  rintro _ rfl
                  try go_simp
                  all_goals first
                    | (with_reducible exact Grow.refl _)
                    | (with_reducible exact ⟨Grow.refl _, rfl⟩)
                · intro w5 hR
                  have hGw : Grow W2w w5 := hR.of_drew
                  have HGW := Lib.hid hGw
                  have hcc := (HGW.out.block HFR2.out).cell
                  have hxc := (HGW.out.block HXB.out).cell
                  clear hR hGw
                  simp only [depV]
                  rintro _ rfl
                  try go_simp
                  all_goals first
                    | (with_reducible exact Grow.refl _)
                    | (with_reducible exact ⟨Grow.refl _, rfl⟩)
                · intro w5 hR
                  have hGw : Grow W2w w5 := hR.of_drew
                  have HGW := Lib.hid hGw
                  have hcc := (HGW.out.block HFR2.out).cell
                  have hxc := (HGW.out.block HXB.out).cell
                  clear hR hGw
                  simp only [depV]
                  rintro _ rfl
                  try go_simp
                  exact ⟨Grow.refl _, IntWalk.i64_in _ (by omega)⟩
                · intro w5 hR
                  have hGw : Grow W2w w5 := hR.of_drew
                  have HGW := Lib.hid hGw
                  have hcc := (HGW.out.block HFR2.out).cell
                  have hxc := (HGW.out.block HXB.out).cell
                  clear hR hGw
                  simp only [depV]
                  rintro _ rfl
                  rintro _ rfl
                  try go_simp
                  refine (W1.out _).mono ?_
                  rintro e w6 ⟨rfl, rfl⟩
                  exact ⟨Grow.refl _, rfl⟩
                · intro w5 hR
                  have hGw : Grow W2w w5 := hR.of_drew
                  have HGW := Lib.hid hGw
                  have hcc := (HGW.out.block HFR2.out).cell
                  have hxc := (HGW.out.block HXB.out).cell
                  clear hR hGw
                  simp only [depV]
                  rintro _ rfl
                  try go_simp
                  all_goals first
                    | (with_reducible exact Grow.refl _)
                    | (with_reducible exact ⟨Grow.refl _, rfl⟩)
                · intro w5 hR
                  have hGw : Grow W2w w5 := hR.of_drew
                  have HGW := Lib.hid hGw
                  have hcc := (HGW.out.block HFR2.out).cell
                  have hxc := (HGW.out.block HXB.out).cell
                  clear hR hGw
                  simp only [depV]
                  rintro _ rfl
                  try go_simp
                  all_goals first
                    | (with_reducible exact Grow.refl _)
                    | (with_reducible exact ⟨Grow.refl _, rfl⟩)
                · intro w5 hR
                  have hGw : Grow W2w w5 := hR.of_drew
                  have HGW := Lib.hid hGw
                  have hcc := (HGW.out.block HFR2.out).cell
                  have hxc := (HGW.out.block HXB.out).cell
                  clear hR hGw
                  simp only [depV]
                  rintro _ rfl
                  try go_simp
                  all_goals first
                    | (with_reducible exact Grow.refl _)
                    | (with_reducible exact ⟨Grow.refl _, rfl⟩)
                · intro w5 hR
                  have hGw : Grow W2w w5 := hR.of_drew
                  have HGW := Lib.hid hGw
                  have hcc := (HGW.out.block HFR2.out).cell
                  have hxc := (HGW.out.block HXB.out).cell
                  clear hR hGw
                  simp only [depV]
                  rintro _ rfl
                  rintro _ rfl
                  try go_simp
                  all_goals first
                    | (with_reducible exact Grow.refl _)
                    | (with_reducible exact ⟨Grow.refl _, rfl⟩)
                · intro w5 hR
                  have hGw : Grow W2w w5 := hR.of_drew
                  have HGW := Lib.hid hGw
                  have hcc := (HGW.out.block HFR2.out).cell
                  have hxc := (HGW.out.block HXB.out).cell
                  clear hR hGw
                  simp only [depV]
                  rintro _ rfl
                  try go_simp
                  all_goals first
                    | (with_reducible exact Grow.refl _)
                    | (with_reducible exact ⟨Grow.refl _, rfl⟩)
                · intro w5 hR
                  have hGw : Grow W2w w5 := hR.of_drew
                  have HGW := Lib.hid hGw
                  have hcc := (HGW.out.block HFR2.out).cell
                  have hxc := (HGW.out.block HXB.out).cell
                  clear hR hGw
                  simp only [depV]
                  rintro _ rfl
                  rintro _ rfl
                  try go_simp
                  all_goals first
                    | (with_reducible exact Grow.refl _)
                    | (with_reducible exact ⟨Grow.refl _, rfl⟩)
                · intro w5 hR
                  have hGw : Grow W2w w5 := hR.of_drew
                  have HGW := Lib.hid hGw
                  have hcc := (HGW.out.block HFR2.out).cell
                  have hxc := (HGW.out.block HXB.out).cell
                  clear hR hGw
                  simp only [depV]
                  rintro _ rfl
                  rintro _ rfl
                  try go_simp
                  all_goals first
                    | (with_reducible exact Grow.refl _)
                    | (with_reducible exact ⟨Grow.refl _, rfl⟩)
                · intro w5 hR
                  have hGw : Grow W2w w5 := hR.of_drew
                  have HGW := Lib.hid hGw
                  have hcc := (HGW.out.block HFR2.out).cell
                  have hxc := (HGW.out.block HXB.out).cell
                  clear hR hGw
                  simp only [depV]
                  rintro _ rfl
                  rintro _ rfl
                  try go_simp
                  all_goals first
                    | (with_reducible exact Grow.refl _)
                    | (with_reducible exact ⟨Grow.refl _, rfl⟩)
                · intro w5 hR
                  have hGw : Grow W2w w5 := hR.of_drew
                  have HGW := Lib.hid hGw
                  have hcc := (HGW.out.block HFR2.out).cell
                  have hxc := (HGW.out.block HXB.out).cell
                  clear hR hGw
                  simp only [depV]
                  rintro _ rfl
                  rintro _ rfl
                  try go_simp
                  all_goals first
                    | (with_reducible exact Grow.refl _)
                    | (with_reducible exact ⟨Grow.refl _, rfl⟩)
                · intro w5 hR
                  have hGw : Grow W2w w5 := hR.of_drew
                  have HGW := Lib.hid hGw
                  have hcc := (HGW.out.block HFR2.out).cell
                  have hxc := (HGW.out.block HXB.out).cell
                  clear hR hGw
                  simp only [depV]
                  rintro _ rfl
                  rintro _ rfl
                  try go_simp
                  exact ⟨Grow.refl _, IntWalk.i64_in _ (by omega)⟩
                · intro w5 hR
                  have hGw : Grow W2w w5 := hR.of_drew
                  have HGW := Lib.hid hGw
                  have hcc := (HGW.out.block HFR2.out).cell
                  have hxc := (HGW.out.block HXB.out).cell
                  clear hR hGw
                  simp only [depV]
                  rintro _ rfl
                  rintro _ rfl
                  rintro _ rfl
                  try go_simp
                  refine (W2.out _).mono ?_
                  rintro e w6 ⟨rfl, rfl⟩
                  exact ⟨Grow.refl _, rfl⟩
                · intro w5 hR
                  have hGw : Grow W2w w5 := hR.of_drew
                  have HGW := Lib.hid hGw
                  have hcc := (HGW.out.block HFR2.out).cell
                  have hxc := (HGW.out.block HXB.out).cell
                  clear hR hGw
                  simp only [depV]
                  rintro _ rfl
                  rintro _ rfl
                  try go_simp
                  all_goals first
                    | (with_reducible exact Grow.refl _)
                    | (with_reducible exact ⟨Grow.refl _, rfl⟩)
                · intro w5 hR
                  have hGw : Grow W2w w5 := hR.of_drew
                  have HGW := Lib.hid hGw
                  have hcc := (HGW.out.block HFR2.out).cell
                  have hxc := (HGW.out.block HXB.out).cell
                  clear hR hGw
                  simp only [depV]
                  rintro _ rfl
                  rintro _ rfl
                  try go_simp
                  all_goals first
                    | (with_reducible exact Grow.refl _)
                    | (with_reducible exact ⟨Grow.refl _, rfl⟩)
                · intro w5 hR
                  have hGw : Grow W2w w5 := hR.of_drew
                  have HGW := Lib.hid hGw
                  have hcc := (HGW.out.block HFR2.out).cell
                  have hxc := (HGW.out.block HXB.out).cell
                  clear hR hGw
                  simp only [depV]
                  rintro _ rfl
                  try go_simp
                  all_goals first
                    | (with_reducible exact Grow.refl _)
                    | (with_reducible exact ⟨Grow.refl _, rfl⟩)
                · intro w5 hR
                  have hGw : Grow W2w w5 := hR.of_drew
                  have HGW := Lib.hid hGw
                  have hcc := (HGW.out.block HFR2.out).cell
                  have hxc := (HGW.out.block HXB.out).cell
                  clear hR hGw
                  simp only [depV]
                  rintro _ rfl
                  try go_simp
                  all_goals first
                    | (with_reducible exact Grow.refl _)
                    | (with_reducible exact ⟨Grow.refl _, rfl⟩)
                · intro w5 hR
                  have hGw : Grow W2w w5 := hR.of_drew
                  have HGW := Lib.hid hGw
                  have hcc := (HGW.out.block HFR2.out).cell
                  have hxc := (HGW.out.block HXB.out).cell
                  clear hR hGw
                  simp only [depV]
                  rintro _ rfl
                  rintro _ rfl
                  try go_simp
                  all_goals first
                    | (with_reducible exact Grow.refl _)
                    | (with_reducible exact ⟨Grow.refl _, rfl⟩)
                · intro w5 hR
                  have hGw : Grow W2w w5 := hR.of_drew
                  have HGW := Lib.hid hGw
                  have hcc := (HGW.out.block HFR2.out).cell
                  have hxc := (HGW.out.block HXB.out).cell
                  clear hR hGw
                  simp only [depV]
                  rintro _ rfl
                  rintro _ rfl
                  try go_simp
                  refine (W3.out _).mono ?_
                  rintro e w6 ⟨rfl, rfl⟩
                  exact ⟨Grow.refl _, rfl⟩
                · intro w5 hR
                  have hGw : Grow W2w w5 := hR.of_drew
                  have HGW := Lib.hid hGw
                  have hcc := (HGW.out.block HFR2.out).cell
                  have hxc := (HGW.out.block HXB.out).cell
                  clear hR hGw
                  simp only [depV]
                  rintro _ rfl
                  rintro _ rfl
                  try go_simp
                  all_goals first
                    | (with_reducible exact Grow.refl _)
                    | (with_reducible exact ⟨Grow.refl _, rfl⟩)
                · intro w5 hR
                  have hGw : Grow W2w w5 := hR.of_drew
                  have HGW := Lib.hid hGw
                  have hcc := (HGW.out.block HFR2.out).cell
                  have hxc := (HGW.out.block HXB.out).cell
                  clear hR hGw
                  simp only [depV]
                  rintro _ rfl
                  rintro _ rfl
                  try go_simp
                  all_goals first
                    | (with_reducible exact Grow.refl _)
                    | (with_reducible exact ⟨Grow.refl _, rfl⟩)
              · intro w5 hR
                have HG5 : Hid (Grow W2w w5) := Lib.hid hR.of_drew
                clear hR
                simp only [finVC, List.take_succ_cons, List.take_zero, List.drop_succ_cons, List.drop_zero]
                rintro _ rfl
                rintro _ rfl
                rintro _ rfl
                rintro _ rfl
                rintro _ rfl
                rintro _ rfl
                rintro _ rfl
                rintro _ rfl
                rintro _ rfl
                rintro _ rfl
                rintro _ rfl
                rintro _ rfl
                rintro _ rfl
                rintro _ rfl
                rintro _ rfl
                rintro _ rfl
                rintro _ rfl
                rintro _ rfl
                rintro _ rfl
                rintro _ rfl
                rintro _ rfl
                rintro _ rfl
                rintro _ rfl
                rintro _ rfl
                rintro _ rfl
                rintro _ rfl
                rintro _ rfl
                simp only [Act.put, List.setIfInBounds_toArray, List.set_cons_succ, List.set_cons_zero]
                cases q3 with
                | false =>
                  go_wp2
                  go_ret
                  exact ⟨ret_int (HNO.out (by rw [HOKX.out]; rfl)).symm, HG1.out.trans (HGR.out.trans HG5.out)⟩
                | true =>
                  go_wp2
                  go_roundw
                  case rel => exact ⟨k + 1, by omega, by go_num, HYES.out (by rw [HOKX.out]; rfl), HGW0.out.trans HG5.out⟩
                  case measure => simp [intOf]; omega
        · obtain rfl : k = d.folk.length := by omega
          have hd2 : decide ((d.folk.length : Int) < (d.folk.length : Int)) = false := decide_eq_false (by omega)
          have HNX : Hid (er = 0) := Lib.hid (by
            have h := HA.out
            rw [List.take_length] at h
            rw [HOK.out, h]
            rfl)
          go_wp2
          go_ret
          exact ⟨ret_int HNX.out.symm, HG1.out.trans (HGR0.out.trans HGX.out)⟩

end Go.Proofs.Ytcgnibfcjadnjaa
