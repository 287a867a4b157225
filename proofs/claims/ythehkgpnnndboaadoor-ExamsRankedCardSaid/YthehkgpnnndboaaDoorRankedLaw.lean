/- RankedLaw: the law ExamsRanked answers true at any papers and truths; written by wip/tools/rankedlaw9.py. -/
import Derived.Test.YthehkgpnnndboaaDoorInside
import Derived.Test.YthehkgpnnndboaaDoorRankMem
namespace Go.Proofs.YthehkgpnnndboaaDoor
open Go.RowKit

set_option maxRecDepth 100000 in
set_option maxHeartbeats 32000000 in
theorem ranked_any (l : List PaperR) (A : Option Addr) (cap : Nat) (ts : List TruthR) (B : Option Addr) (cb : Nat) (w : World) (hA : PapersAt w w.heap.size A l) (hT : TruthsAt w w.heap.size B ts) (hG : Glob w) :
    Calls Tryd.prog 12 #[.slice A l.length cap, .slice B ts.length cb] w fun e w' => e = .returned (.bool true) ∧ Below w.heap.size w w' := by
  have HWK := Lib.hid (fun (w0 : World) (hw : Grow w w0) => works_any w0 (hG.grow hw))
  have HPA := Lib.hid (fun (w0 : World) (hw : Grow w w0) => (hA.below hw).more hw.size)
  have HTA := Lib.hid (fun (w0 : World) (hw : Grow w w0) => (hT.below hw).more hw.size)
  have HGL := Lib.hid (fun (w0 : World) (hw : Grow w w0) => hG.grow hw)
  clear hA hT hG
  go_enter Tryd.func12, Tryd.ntmps12
  by_cases h3 : 3 < l.length
  · have hd1 : decide ((3 : Int) < (l.length : Int)) = true := decide_eq_true (by omega)
    go_wp2_with fail
    refine (HWK.out _ (Grow.refl w)).mono ?_
    rintro e w9 ⟨rfl, hb9⟩
    have HG9 : Hid (Grow w w9) := Lib.hid (((Grow.refl w)).trans hb9)
    clear hb9
    go_wp2_with fail
    go_ret
    exact ⟨rfl, HG9.out⟩
  have hd1 : decide ((3 : Int) < (l.length : Int)) = false := decide_eq_false (by omega)
  have hl3 : l.length ≤ 3 := by omega
  cases hq : decide (ts.length = l.length) with
  | false =>
    have hn1 : ((ts.length : Int) != (l.length : Int)) = true := by
      have := of_decide_eq_false hq
      rw [bne_iff_ne]
      omega
    have hn2 : (ts.length != l.length) = true := by
      have := of_decide_eq_false hq
      rw [bne_iff_ne]
      exact this
    clear hq
    go_wp2_with fail
    refine (HWK.out _ (Grow.refl w)).mono ?_
    rintro e w9 ⟨rfl, hb9⟩
    have HG9 : Hid (Grow w w9) := Lib.hid (((Grow.refl w)).trans hb9)
    clear hb9
    go_wp2_with fail
    go_ret
    exact ⟨rfl, HG9.out⟩
  | true =>
  have HTL : Hid (ts.length = l.length) := Lib.hid (of_decide_eq_true hq)
  have hn1 : ((ts.length : Int) != (l.length : Int)) = false := by
    have := HTL.out
    rw [bne_eq_false_iff_eq]
    omega
  have hn2 : (ts.length != l.length) = false := by
    rw [bne_eq_false_iff_eq]
    exact HTL.out
  clear hq h3
  go_wp2_with fail
  clear hd1 hn1 hn2
  go_loopw [5, 6] (fun rv iv wr => ∃ (k : Nat) (rs : List Int) (A2 : Option Addr) (c2 : Nat), k ≤ l.length ∧ iv = .int .i64 k ∧ rv = .slice A2 k c2 ∧ Hid (rs.length = k) ∧ Hid (GoodTo l rs k) ∧ wr.ownsRow w.heap.size 3 1 (.slice A2 k c2) k (rs.map (Value.int .i64)) ∧ Grow w wr) (fun _ iv _ => l.length - (intOf iv).toNat)
  case atStart => exact ⟨0, [], none, 0, Nat.zero_le _, rfl, rfl, rfl, fun j x hj _ => by omega, ⟨rfl, .inl ⟨rfl, rfl⟩⟩, Grow.refl _⟩
  case round =>
    obtain ⟨k, rs, A2, c2, hk, rfl, rfl, HRL, HGD, hown, hgr⟩ := hrel
    rename World => wr
    have HOW := Lib.hid hown
    have HGR := Lib.hid hgr
    clear hown hgr
    have hk0 : (0 : Int) ≤ (k : Int) := by omega
    by_cases hlt : k < l.length
    · have hd : decide ((k : Int) < (l.length : Int)) = true := decide_eq_true (by omega)
      have hk1 : (k : Int) < (l.length : Int) := by omega
      have hk2 : (k : Int) < (ts.length : Int) := by have := HTL.out; omega
      have HPX := HPA
      have HTX := HTA
      obtain ⟨pb, po, x, rfl, _, c0, c1, c2', c3, HX⟩ := (HPA.out w (Grow.refl w)).at_ hlt
      obtain ⟨tb, tq, y, rfl, _, d0, HY⟩ := (HTA.out w (Grow.refl w)).at_ (k := k) (by have := HTL.out; omega)
      have C0 := Lib.hid c0
      have C1 := Lib.hid c1
      have C2 := Lib.hid c2'
      have C3 := Lib.hid c3
      have D0 := Lib.hid d0
      have HXA := Lib.hid (fun (w0 : World) (hw : Grow w w0) => (HPX.out w0 hw).each x (List.mem_of_getElem? HX.out))
      have HYI := Lib.hid (fun (w0 : World) (hw : Grow w w0) => (HTX.out w0 hw).each y (List.mem_of_getElem? HY.out))
      have HRY := Lib.hid (fun (w0 : World) (hw : Grow w w0) => ready_any x w0 (HXA.out w0 hw))
      clear c0 c1 c2' c3 d0 HPX HTX
      obtain ⟨rd, hrd⟩ : ∃ z, readyP x = z := ⟨_, rfl⟩
      have HRD : Hid (readyP x = rd) := Lib.hid hrd
      rw [hrd] at HRY
      clear hrd
      go_wp2_with fail
      cases rd with
      | false =>
        refine wp_region_lit 26 [[], [], [(0, 34), (1, 35)], [(2, 36)], [(3, 37)], [(4, 38)], [(5, 39)], [(6, 40)], [(6, 40)], [(6, 40), (7, 41), (8, 42)], [(6, 40), (9, 43)], [(6, 40), (10, 44)], [(6, 40), (11, 45)], [(6, 40), (12, 46)], [(13, 47)], [(14, 48)], [(14, 48)], [(14, 48), (15, 49), (16, 50)], [(14, 48), (17, 51)], [(14, 48)], [(14, 48)], [(14, 48), (19, 53), (20, 54)], [(14, 48), (21, 55)], [(14, 48), (18, 52), (22, 56)], [(14, 48), (23, 57)], [(14, 48), (24, 58)]] Grow (fun qi v w' => match qi with
            | 0 => v = .slice (some ⟨pb, po, none⟩) l.length cap
            | 1 => v = .int .i64 (k : Nat)
            | 2 => v = .pointer (some ⟨pb, po + k * 4, none⟩)
            | 3 => v = paperV x
            | 4 => v = .bool false
            | 5 => v = .bool true
            | 6 => v = .bool true
            | 7 => v = undef
            | 8 => v = undef
            | 9 => v = undef
            | 10 => v = undef
            | 11 => v = undef
            | 12 => v = undef
            | 13 => v = .bool true
            | 14 => v = .bool true
            | 15 => v = undef
            | 16 => v = undef
            | 17 => v = undef
            | 18 => v = undef
            | 19 => v = undef
            | 20 => v = undef
            | 21 => v = undef
            | 22 => v = undef
            | 23 => v = undef
            | 24 => v = undef
            | 25 => v = .bool true
            | _ => False) (by kernel_rfl) (by kernel_rfl) (fun _ _ _ => Grow.trans) Grow.refl ?_ ?_ ?_
        · intro i v y y' h k
          match i, h with
          | 0, h | 1, h | 2, h | 3, h | 4, h | 5, h | 6, h | 7, h | 8, h | 9, h | 10, h | 11, h | 12, h | 13, h | 14, h | 15, h | 16, h | 17, h | 18, h | 19, h | 20, h | 21, h | 22, h | 23, h | 24, h | 25, h => exact h
        · simp only [StepsLit, List.take_succ_cons, List.take_zero]
          refine ⟨?_, ?_, ?_, ?_, ?_, ?_, ?_, ?_, ?_, ?_, ?_, ?_, ?_, ?_, ?_, ?_, ?_, ?_, ?_, ?_, ?_, ?_, ?_, ?_, ?_, ?_, trivial⟩
          · intro w5 hR
            have hGw : Grow wr w5 := hR.of_drew
            have HGW := Lib.hid hGw
            have hgw5 : Grow w w5 := HGR.out.trans HGW.out
            have e0 := hgw5.cell C0.out
            have e1 := hgw5.cell C1.out
            have e2 := hgw5.cell C2.out
            have e3 := hgw5.cell C3.out
            have e4 := hgw5.cell D0.out
            have HG5w := Lib.hid hgw5
            clear hgw5
            clear hR hGw
            simp only [depV]
            try go_simp
            all_goals first
              | (with_reducible exact Grow.refl _)
              | (with_reducible exact ⟨Grow.refl _, rfl⟩)
          · intro w5 hR
            have hGw : Grow wr w5 := hR.of_drew
            have HGW := Lib.hid hGw
            have hgw5 : Grow w w5 := HGR.out.trans HGW.out
            have e0 := hgw5.cell C0.out
            have e1 := hgw5.cell C1.out
            have e2 := hgw5.cell C2.out
            have e3 := hgw5.cell C3.out
            have e4 := hgw5.cell D0.out
            have HG5w := Lib.hid hgw5
            clear hgw5
            clear hR hGw
            simp only [depV]
            try go_simp
            all_goals first
              | (with_reducible exact Grow.refl _)
              | (with_reducible exact ⟨Grow.refl _, rfl⟩)
          · intro w5 hR
            have hGw : Grow wr w5 := hR.of_drew
            have HGW := Lib.hid hGw
            have hgw5 : Grow w w5 := HGR.out.trans HGW.out
            have e0 := hgw5.cell C0.out
            have e1 := hgw5.cell C1.out
            have e2 := hgw5.cell C2.out
            have e3 := hgw5.cell C3.out
            have e4 := hgw5.cell D0.out
            have HG5w := Lib.hid hgw5
            clear hgw5
            clear hR hGw
            simp only [depV]
            rintro _ rfl
            rintro _ rfl
            try go_simp
            all_goals first
              | (with_reducible exact Grow.refl _)
              | (with_reducible exact ⟨Grow.refl _, rfl⟩)
          · intro w5 hR
            have hGw : Grow wr w5 := hR.of_drew
            have HGW := Lib.hid hGw
            have hgw5 : Grow w w5 := HGR.out.trans HGW.out
            have e0 := hgw5.cell C0.out
            have e1 := hgw5.cell C1.out
            have e2 := hgw5.cell C2.out
            have e3 := hgw5.cell C3.out
            have e4 := hgw5.cell D0.out
            have HG5w := Lib.hid hgw5
            clear hgw5
            clear hR hGw
            simp only [depV]
            rintro _ rfl
            try go_simp
            all_goals first
              | (with_reducible exact Grow.refl _)
              | (with_reducible exact ⟨Grow.refl _, rfl⟩)
          · intro w5 hR
            have hGw : Grow wr w5 := hR.of_drew
            have HGW := Lib.hid hGw
            have hgw5 : Grow w w5 := HGR.out.trans HGW.out
            have e0 := hgw5.cell C0.out
            have e1 := hgw5.cell C1.out
            have e2 := hgw5.cell C2.out
            have e3 := hgw5.cell C3.out
            have e4 := hgw5.cell D0.out
            have HG5w := Lib.hid hgw5
            clear hgw5
            clear hR hGw
            simp only [depV]
            rintro _ rfl
            try go_simp
            refine (HRY.out w5 HG5w.out).mono ?_
            rintro e w6 ⟨rfl, hb6⟩
            exact ⟨hb6, rfl⟩
          · intro w5 hR
            have hGw : Grow wr w5 := hR.of_drew
            have HGW := Lib.hid hGw
            have hgw5 : Grow w w5 := HGR.out.trans HGW.out
            have e0 := hgw5.cell C0.out
            have e1 := hgw5.cell C1.out
            have e2 := hgw5.cell C2.out
            have e3 := hgw5.cell C3.out
            have e4 := hgw5.cell D0.out
            have HG5w := Lib.hid hgw5
            clear hgw5
            clear hR hGw
            simp only [depV]
            rintro _ rfl
            try go_simp
            all_goals first
              | (with_reducible exact Grow.refl _)
              | (with_reducible exact ⟨Grow.refl _, rfl⟩)
          · intro w5 hR
            have hGw : Grow wr w5 := hR.of_drew
            have HGW := Lib.hid hGw
            have hgw5 : Grow w w5 := HGR.out.trans HGW.out
            have e0 := hgw5.cell C0.out
            have e1 := hgw5.cell C1.out
            have e2 := hgw5.cell C2.out
            have e3 := hgw5.cell C3.out
            have e4 := hgw5.cell D0.out
            have HG5w := Lib.hid hgw5
            clear hgw5
            clear hR hGw
            simp only [depV]
            rintro _ rfl
            try go_simp
            all_goals first
              | (with_reducible exact Grow.refl _)
              | (with_reducible exact ⟨Grow.refl _, rfl⟩)
          · intro w5 hR
            have hGw : Grow wr w5 := hR.of_drew
            have HGW := Lib.hid hGw
            have hgw5 : Grow w w5 := HGR.out.trans HGW.out
            have e0 := hgw5.cell C0.out
            have e1 := hgw5.cell C1.out
            have e2 := hgw5.cell C2.out
            have e3 := hgw5.cell C3.out
            have e4 := hgw5.cell D0.out
            have HG5w := Lib.hid hgw5
            clear hgw5
            clear hR hGw
            simp only [depV]
            rintro _ rfl
            try go_simp
            all_goals first
              | (with_reducible exact Grow.refl _)
              | (with_reducible exact ⟨Grow.refl _, rfl⟩)
          · intro w5 hR
            have hGw : Grow wr w5 := hR.of_drew
            have HGW := Lib.hid hGw
            have hgw5 : Grow w w5 := HGR.out.trans HGW.out
            have e0 := hgw5.cell C0.out
            have e1 := hgw5.cell C1.out
            have e2 := hgw5.cell C2.out
            have e3 := hgw5.cell C3.out
            have e4 := hgw5.cell D0.out
            have HG5w := Lib.hid hgw5
            clear hgw5
            clear hR hGw
            simp only [depV]
            rintro _ rfl
            try go_simp
            all_goals first
              | (with_reducible exact Grow.refl _)
              | (with_reducible exact ⟨Grow.refl _, rfl⟩)
          · intro w5 hR
            have hGw : Grow wr w5 := hR.of_drew
            have HGW := Lib.hid hGw
            have hgw5 : Grow w w5 := HGR.out.trans HGW.out
            have e0 := hgw5.cell C0.out
            have e1 := hgw5.cell C1.out
            have e2 := hgw5.cell C2.out
            have e3 := hgw5.cell C3.out
            have e4 := hgw5.cell D0.out
            have HG5w := Lib.hid hgw5
            clear hgw5
            clear hR hGw
            simp only [depV]
            rintro _ rfl
            rintro _ rfl
            rintro _ rfl
            try go_simp
            all_goals first
              | (with_reducible exact Grow.refl _)
              | (with_reducible exact ⟨Grow.refl _, rfl⟩)
          · intro w5 hR
            have hGw : Grow wr w5 := hR.of_drew
            have HGW := Lib.hid hGw
            have hgw5 : Grow w w5 := HGR.out.trans HGW.out
            have e0 := hgw5.cell C0.out
            have e1 := hgw5.cell C1.out
            have e2 := hgw5.cell C2.out
            have e3 := hgw5.cell C3.out
            have e4 := hgw5.cell D0.out
            have HG5w := Lib.hid hgw5
            clear hgw5
            clear hR hGw
            simp only [depV]
            rintro _ rfl
            rintro _ rfl
            try go_simp
            all_goals first
              | (with_reducible exact Grow.refl _)
              | (with_reducible exact ⟨Grow.refl _, rfl⟩)
          · intro w5 hR
            have hGw : Grow wr w5 := hR.of_drew
            have HGW := Lib.hid hGw
            have hgw5 : Grow w w5 := HGR.out.trans HGW.out
            have e0 := hgw5.cell C0.out
            have e1 := hgw5.cell C1.out
            have e2 := hgw5.cell C2.out
            have e3 := hgw5.cell C3.out
            have e4 := hgw5.cell D0.out
            have HG5w := Lib.hid hgw5
            clear hgw5
            clear hR hGw
            simp only [depV]
            rintro _ rfl
            rintro _ rfl
            try go_simp
            all_goals first
              | (with_reducible exact Grow.refl _)
              | (with_reducible exact ⟨Grow.refl _, rfl⟩)
          · intro w5 hR
            have hGw : Grow wr w5 := hR.of_drew
            have HGW := Lib.hid hGw
            have hgw5 : Grow w w5 := HGR.out.trans HGW.out
            have e0 := hgw5.cell C0.out
            have e1 := hgw5.cell C1.out
            have e2 := hgw5.cell C2.out
            have e3 := hgw5.cell C3.out
            have e4 := hgw5.cell D0.out
            have HG5w := Lib.hid hgw5
            clear hgw5
            clear hR hGw
            simp only [depV]
            rintro _ rfl
            rintro _ rfl
            try go_simp
            all_goals first
              | (with_reducible exact Grow.refl _)
              | (with_reducible exact ⟨Grow.refl _, rfl⟩)
          · intro w5 hR
            have hGw : Grow wr w5 := hR.of_drew
            have HGW := Lib.hid hGw
            have hgw5 : Grow w w5 := HGR.out.trans HGW.out
            have e0 := hgw5.cell C0.out
            have e1 := hgw5.cell C1.out
            have e2 := hgw5.cell C2.out
            have e3 := hgw5.cell C3.out
            have e4 := hgw5.cell D0.out
            have HG5w := Lib.hid hgw5
            clear hgw5
            clear hR hGw
            simp only [depV]
            rintro _ rfl
            rintro _ rfl
            try go_simp
            all_goals first
              | (with_reducible exact Grow.refl _)
              | (with_reducible exact ⟨Grow.refl _, rfl⟩)
          · intro w5 hR
            have hGw : Grow wr w5 := hR.of_drew
            have HGW := Lib.hid hGw
            have hgw5 : Grow w w5 := HGR.out.trans HGW.out
            have e0 := hgw5.cell C0.out
            have e1 := hgw5.cell C1.out
            have e2 := hgw5.cell C2.out
            have e3 := hgw5.cell C3.out
            have e4 := hgw5.cell D0.out
            have HG5w := Lib.hid hgw5
            clear hgw5
            clear hR hGw
            simp only [depV]
            rintro _ rfl
            try go_simp
            all_goals first
              | (with_reducible exact Grow.refl _)
              | (with_reducible exact ⟨Grow.refl _, rfl⟩)
          · intro w5 hR
            have hGw : Grow wr w5 := hR.of_drew
            have HGW := Lib.hid hGw
            have hgw5 : Grow w w5 := HGR.out.trans HGW.out
            have e0 := hgw5.cell C0.out
            have e1 := hgw5.cell C1.out
            have e2 := hgw5.cell C2.out
            have e3 := hgw5.cell C3.out
            have e4 := hgw5.cell D0.out
            have HG5w := Lib.hid hgw5
            clear hgw5
            clear hR hGw
            simp only [depV]
            rintro _ rfl
            try go_simp
            all_goals first
              | (with_reducible exact Grow.refl _)
              | (with_reducible exact ⟨Grow.refl _, rfl⟩)
          · intro w5 hR
            have hGw : Grow wr w5 := hR.of_drew
            have HGW := Lib.hid hGw
            have hgw5 : Grow w w5 := HGR.out.trans HGW.out
            have e0 := hgw5.cell C0.out
            have e1 := hgw5.cell C1.out
            have e2 := hgw5.cell C2.out
            have e3 := hgw5.cell C3.out
            have e4 := hgw5.cell D0.out
            have HG5w := Lib.hid hgw5
            clear hgw5
            clear hR hGw
            simp only [depV]
            rintro _ rfl
            try go_simp
            all_goals first
              | (with_reducible exact Grow.refl _)
              | (with_reducible exact ⟨Grow.refl _, rfl⟩)
          · intro w5 hR
            have hGw : Grow wr w5 := hR.of_drew
            have HGW := Lib.hid hGw
            have hgw5 : Grow w w5 := HGR.out.trans HGW.out
            have e0 := hgw5.cell C0.out
            have e1 := hgw5.cell C1.out
            have e2 := hgw5.cell C2.out
            have e3 := hgw5.cell C3.out
            have e4 := hgw5.cell D0.out
            have HG5w := Lib.hid hgw5
            clear hgw5
            clear hR hGw
            simp only [depV]
            rintro _ rfl
            rintro _ rfl
            rintro _ rfl
            try go_simp
            all_goals first
              | (with_reducible exact Grow.refl _)
              | (with_reducible exact ⟨Grow.refl _, rfl⟩)
          · intro w5 hR
            have hGw : Grow wr w5 := hR.of_drew
            have HGW := Lib.hid hGw
            have hgw5 : Grow w w5 := HGR.out.trans HGW.out
            have e0 := hgw5.cell C0.out
            have e1 := hgw5.cell C1.out
            have e2 := hgw5.cell C2.out
            have e3 := hgw5.cell C3.out
            have e4 := hgw5.cell D0.out
            have HG5w := Lib.hid hgw5
            clear hgw5
            clear hR hGw
            simp only [depV]
            rintro _ rfl
            rintro _ rfl
            try go_simp
            all_goals first
              | (with_reducible exact Grow.refl _)
              | (with_reducible exact ⟨Grow.refl _, rfl⟩)
          · intro w5 hR
            have hGw : Grow wr w5 := hR.of_drew
            have HGW := Lib.hid hGw
            have hgw5 : Grow w w5 := HGR.out.trans HGW.out
            have e0 := hgw5.cell C0.out
            have e1 := hgw5.cell C1.out
            have e2 := hgw5.cell C2.out
            have e3 := hgw5.cell C3.out
            have e4 := hgw5.cell D0.out
            have HG5w := Lib.hid hgw5
            clear hgw5
            clear hR hGw
            simp only [depV]
            rintro _ rfl
            try go_simp
            all_goals first
              | (with_reducible exact Grow.refl _)
              | (with_reducible exact ⟨Grow.refl _, rfl⟩)
          · intro w5 hR
            have hGw : Grow wr w5 := hR.of_drew
            have HGW := Lib.hid hGw
            have hgw5 : Grow w w5 := HGR.out.trans HGW.out
            have e0 := hgw5.cell C0.out
            have e1 := hgw5.cell C1.out
            have e2 := hgw5.cell C2.out
            have e3 := hgw5.cell C3.out
            have e4 := hgw5.cell D0.out
            have HG5w := Lib.hid hgw5
            clear hgw5
            clear hR hGw
            simp only [depV]
            rintro _ rfl
            try go_simp
            all_goals first
              | (with_reducible exact Grow.refl _)
              | (with_reducible exact ⟨Grow.refl _, rfl⟩)
          · intro w5 hR
            have hGw : Grow wr w5 := hR.of_drew
            have HGW := Lib.hid hGw
            have hgw5 : Grow w w5 := HGR.out.trans HGW.out
            have e0 := hgw5.cell C0.out
            have e1 := hgw5.cell C1.out
            have e2 := hgw5.cell C2.out
            have e3 := hgw5.cell C3.out
            have e4 := hgw5.cell D0.out
            have HG5w := Lib.hid hgw5
            clear hgw5
            clear hR hGw
            simp only [depV]
            rintro _ rfl
            rintro _ rfl
            rintro _ rfl
            try go_simp
            all_goals first
              | (with_reducible exact Grow.refl _)
              | (with_reducible exact ⟨Grow.refl _, rfl⟩)
          · intro w5 hR
            have hGw : Grow wr w5 := hR.of_drew
            have HGW := Lib.hid hGw
            have hgw5 : Grow w w5 := HGR.out.trans HGW.out
            have e0 := hgw5.cell C0.out
            have e1 := hgw5.cell C1.out
            have e2 := hgw5.cell C2.out
            have e3 := hgw5.cell C3.out
            have e4 := hgw5.cell D0.out
            have HG5w := Lib.hid hgw5
            clear hgw5
            clear hR hGw
            simp only [depV]
            rintro _ rfl
            rintro _ rfl
            try go_simp
            all_goals first
              | (with_reducible exact Grow.refl _)
              | (with_reducible exact ⟨Grow.refl _, rfl⟩)
          · intro w5 hR
            have hGw : Grow wr w5 := hR.of_drew
            have HGW := Lib.hid hGw
            have hgw5 : Grow w w5 := HGR.out.trans HGW.out
            have e0 := hgw5.cell C0.out
            have e1 := hgw5.cell C1.out
            have e2 := hgw5.cell C2.out
            have e3 := hgw5.cell C3.out
            have e4 := hgw5.cell D0.out
            have HG5w := Lib.hid hgw5
            clear hgw5
            clear hR hGw
            simp only [depV]
            rintro _ rfl
            rintro _ rfl
            rintro _ rfl
            try go_simp
            all_goals first
              | (with_reducible exact Grow.refl _)
              | (with_reducible exact ⟨Grow.refl _, rfl⟩)
          · intro w5 hR
            have hGw : Grow wr w5 := hR.of_drew
            have HGW := Lib.hid hGw
            have hgw5 : Grow w w5 := HGR.out.trans HGW.out
            have e0 := hgw5.cell C0.out
            have e1 := hgw5.cell C1.out
            have e2 := hgw5.cell C2.out
            have e3 := hgw5.cell C3.out
            have e4 := hgw5.cell D0.out
            have HG5w := Lib.hid hgw5
            clear hgw5
            clear hR hGw
            simp only [depV]
            rintro _ rfl
            rintro _ rfl
            try go_simp
            all_goals first
              | (with_reducible exact Grow.refl _)
              | (with_reducible exact ⟨Grow.refl _, rfl⟩)
          · intro w5 hR
            have hGw : Grow wr w5 := hR.of_drew
            have HGW := Lib.hid hGw
            have hgw5 : Grow w w5 := HGR.out.trans HGW.out
            have e0 := hgw5.cell C0.out
            have e1 := hgw5.cell C1.out
            have e2 := hgw5.cell C2.out
            have e3 := hgw5.cell C3.out
            have e4 := hgw5.cell D0.out
            have HG5w := Lib.hid hgw5
            clear hgw5
            clear hR hGw
            simp only [depV]
            rintro _ rfl
            rintro _ rfl
            try go_simp
            all_goals first
              | (with_reducible exact Grow.refl _)
              | (with_reducible exact ⟨Grow.refl _, rfl⟩)
        · intro w5 hR
          have HG5 : Hid (Grow wr w5) := Lib.hid hR.of_drew
          clear hR
          simp only [finVC, List.take_succ_cons, List.take_zero, List.drop_succ_cons, List.drop_zero]
          rintro _ rfl
          rintro _ rfl
          rintro _ rfl
          rintro _ rfl
          rintro _ rfl
          rintro _ rfl
          rintro _ rfl
          rintro _ rfl
          rintro _ rfl
          rintro _ rfl
          rintro _ rfl
          rintro _ rfl
          rintro _ rfl
          rintro _ rfl
          rintro _ rfl
          rintro _ rfl
          rintro _ rfl
          rintro _ rfl
          rintro _ rfl
          rintro _ rfl
          rintro _ rfl
          rintro _ rfl
          rintro _ rfl
          rintro _ rfl
          rintro _ rfl
          rintro _ rfl
          simp only [Act.put, List.setIfInBounds_toArray, List.set_cons_succ, List.set_cons_zero]
          have HG8 : Hid (Grow w w5) := Lib.hid (HGR.out.trans HG5.out)
          go_wp2_with fail
          refine (HWK.out _ HG8.out).mono ?_
          rintro e w9 ⟨rfl, hb9⟩
          have HG9 : Hid (Grow w w9) := Lib.hid ((HG8.out).trans hb9)
          clear hb9
          go_wp2_with fail
          go_ret
          exact ⟨rfl, HG9.out⟩
      | true =>
      obtain ⟨hok, G, hs, hj3⟩ := ready_parts HRD.out
      by_cases x20 : 20 < y.xs.length
      · have hdl : decide ((20 : Int) < (y.xs.length : Int)) = true := decide_eq_true (by omega)
        clear hs hok
        refine wp_region_lit 26 [[], [], [(0, 34), (1, 35)], [(2, 36)], [(3, 37)], [(4, 38)], [(5, 39)], [(6, 40)], [(6, 40)], [(6, 40), (7, 41), (8, 42)], [(6, 40), (9, 43)], [(6, 40), (10, 44)], [(6, 40), (11, 45)], [(6, 40), (12, 46)], [(13, 47)], [(14, 48)], [(14, 48)], [(14, 48), (15, 49), (16, 50)], [(14, 48), (17, 51)], [(14, 48)], [(14, 48)], [(14, 48), (19, 53), (20, 54)], [(14, 48), (21, 55)], [(14, 48), (18, 52), (22, 56)], [(14, 48), (23, 57)], [(14, 48), (24, 58)]] Grow (fun qi v w' => match qi with
            | 0 => v = .slice (some ⟨pb, po, none⟩) l.length cap
            | 1 => v = .int .i64 (k : Nat)
            | 2 => v = .pointer (some ⟨pb, po + k * 4, none⟩)
            | 3 => v = paperV x
            | 4 => v = .bool true
            | 5 => v = .bool false
            | 6 => v = .bool false
            | 7 => v = .slice (some ⟨tb, tq, none⟩) ts.length cb
            | 8 => v = .int .i64 (k : Nat)
            | 9 => v = .pointer (some ⟨tb, tq + k, none⟩)
            | 10 => v = .slice y.a y.xs.length y.c
            | 11 => v = .int .i64 (y.xs.length : Nat)
            | 12 => v = .bool true
            | 13 => v = .bool true
            | 14 => v = .bool true
            | 15 => v = undef
            | 16 => v = undef
            | 17 => v = undef
            | 18 => v = undef
            | 19 => v = undef
            | 20 => v = undef
            | 21 => v = undef
            | 22 => v = undef
            | 23 => v = undef
            | 24 => v = undef
            | 25 => v = .bool true
            | _ => False) (by kernel_rfl) (by kernel_rfl) (fun _ _ _ => Grow.trans) Grow.refl ?_ ?_ ?_
        · intro i v y y' h k
          match i, h with
          | 0, h | 1, h | 2, h | 3, h | 4, h | 5, h | 6, h | 7, h | 8, h | 9, h | 10, h | 11, h | 12, h | 13, h | 14, h | 15, h | 16, h | 17, h | 18, h | 19, h | 20, h | 21, h | 22, h | 23, h | 24, h | 25, h => exact h
        · simp only [StepsLit, List.take_succ_cons, List.take_zero]
          refine ⟨?_, ?_, ?_, ?_, ?_, ?_, ?_, ?_, ?_, ?_, ?_, ?_, ?_, ?_, ?_, ?_, ?_, ?_, ?_, ?_, ?_, ?_, ?_, ?_, ?_, ?_, trivial⟩
          · intro w5 hR
            have hGw : Grow wr w5 := hR.of_drew
            have HGW := Lib.hid hGw
            have hgw5 : Grow w w5 := HGR.out.trans HGW.out
            have e0 := hgw5.cell C0.out
            have e1 := hgw5.cell C1.out
            have e2 := hgw5.cell C2.out
            have e3 := hgw5.cell C3.out
            have e4 := hgw5.cell D0.out
            have HG5w := Lib.hid hgw5
            clear hgw5
            clear hR hGw
            simp only [depV]
            try go_simp
            all_goals first
              | (with_reducible exact Grow.refl _)
              | (with_reducible exact ⟨Grow.refl _, rfl⟩)
          · intro w5 hR
            have hGw : Grow wr w5 := hR.of_drew
            have HGW := Lib.hid hGw
            have hgw5 : Grow w w5 := HGR.out.trans HGW.out
            have e0 := hgw5.cell C0.out
            have e1 := hgw5.cell C1.out
            have e2 := hgw5.cell C2.out
            have e3 := hgw5.cell C3.out
            have e4 := hgw5.cell D0.out
            have HG5w := Lib.hid hgw5
            clear hgw5
            clear hR hGw
            simp only [depV]
            try go_simp
            all_goals first
              | (with_reducible exact Grow.refl _)
              | (with_reducible exact ⟨Grow.refl _, rfl⟩)
          · intro w5 hR
            have hGw : Grow wr w5 := hR.of_drew
            have HGW := Lib.hid hGw
            have hgw5 : Grow w w5 := HGR.out.trans HGW.out
            have e0 := hgw5.cell C0.out
            have e1 := hgw5.cell C1.out
            have e2 := hgw5.cell C2.out
            have e3 := hgw5.cell C3.out
            have e4 := hgw5.cell D0.out
            have HG5w := Lib.hid hgw5
            clear hgw5
            clear hR hGw
            simp only [depV]
            rintro _ rfl
            rintro _ rfl
            try go_simp
            all_goals first
              | (with_reducible exact Grow.refl _)
              | (with_reducible exact ⟨Grow.refl _, rfl⟩)
          · intro w5 hR
            have hGw : Grow wr w5 := hR.of_drew
            have HGW := Lib.hid hGw
            have hgw5 : Grow w w5 := HGR.out.trans HGW.out
            have e0 := hgw5.cell C0.out
            have e1 := hgw5.cell C1.out
            have e2 := hgw5.cell C2.out
            have e3 := hgw5.cell C3.out
            have e4 := hgw5.cell D0.out
            have HG5w := Lib.hid hgw5
            clear hgw5
            clear hR hGw
            simp only [depV]
            rintro _ rfl
            try go_simp
            all_goals first
              | (with_reducible exact Grow.refl _)
              | (with_reducible exact ⟨Grow.refl _, rfl⟩)
          · intro w5 hR
            have hGw : Grow wr w5 := hR.of_drew
            have HGW := Lib.hid hGw
            have hgw5 : Grow w w5 := HGR.out.trans HGW.out
            have e0 := hgw5.cell C0.out
            have e1 := hgw5.cell C1.out
            have e2 := hgw5.cell C2.out
            have e3 := hgw5.cell C3.out
            have e4 := hgw5.cell D0.out
            have HG5w := Lib.hid hgw5
            clear hgw5
            clear hR hGw
            simp only [depV]
            rintro _ rfl
            try go_simp
            refine (HRY.out w5 HG5w.out).mono ?_
            rintro e w6 ⟨rfl, hb6⟩
            exact ⟨hb6, rfl⟩
          · intro w5 hR
            have hGw : Grow wr w5 := hR.of_drew
            have HGW := Lib.hid hGw
            have hgw5 : Grow w w5 := HGR.out.trans HGW.out
            have e0 := hgw5.cell C0.out
            have e1 := hgw5.cell C1.out
            have e2 := hgw5.cell C2.out
            have e3 := hgw5.cell C3.out
            have e4 := hgw5.cell D0.out
            have HG5w := Lib.hid hgw5
            clear hgw5
            clear hR hGw
            simp only [depV]
            rintro _ rfl
            try go_simp
            all_goals first
              | (with_reducible exact Grow.refl _)
              | (with_reducible exact ⟨Grow.refl _, rfl⟩)
          · intro w5 hR
            have hGw : Grow wr w5 := hR.of_drew
            have HGW := Lib.hid hGw
            have hgw5 : Grow w w5 := HGR.out.trans HGW.out
            have e0 := hgw5.cell C0.out
            have e1 := hgw5.cell C1.out
            have e2 := hgw5.cell C2.out
            have e3 := hgw5.cell C3.out
            have e4 := hgw5.cell D0.out
            have HG5w := Lib.hid hgw5
            clear hgw5
            clear hR hGw
            simp only [depV]
            rintro _ rfl
            try go_simp
            all_goals first
              | (with_reducible exact Grow.refl _)
              | (with_reducible exact ⟨Grow.refl _, rfl⟩)
          · intro w5 hR
            have hGw : Grow wr w5 := hR.of_drew
            have HGW := Lib.hid hGw
            have hgw5 : Grow w w5 := HGR.out.trans HGW.out
            have e0 := hgw5.cell C0.out
            have e1 := hgw5.cell C1.out
            have e2 := hgw5.cell C2.out
            have e3 := hgw5.cell C3.out
            have e4 := hgw5.cell D0.out
            have HG5w := Lib.hid hgw5
            clear hgw5
            clear hR hGw
            simp only [depV]
            rintro _ rfl
            try go_simp
            all_goals first
              | (with_reducible exact Grow.refl _)
              | (with_reducible exact ⟨Grow.refl _, rfl⟩)
          · intro w5 hR
            have hGw : Grow wr w5 := hR.of_drew
            have HGW := Lib.hid hGw
            have hgw5 : Grow w w5 := HGR.out.trans HGW.out
            have e0 := hgw5.cell C0.out
            have e1 := hgw5.cell C1.out
            have e2 := hgw5.cell C2.out
            have e3 := hgw5.cell C3.out
            have e4 := hgw5.cell D0.out
            have HG5w := Lib.hid hgw5
            clear hgw5
            clear hR hGw
            simp only [depV]
            rintro _ rfl
            try go_simp
            all_goals first
              | (with_reducible exact Grow.refl _)
              | (with_reducible exact ⟨Grow.refl _, rfl⟩)
          · intro w5 hR
            have hGw : Grow wr w5 := hR.of_drew
            have HGW := Lib.hid hGw
            have hgw5 : Grow w w5 := HGR.out.trans HGW.out
            have e0 := hgw5.cell C0.out
            have e1 := hgw5.cell C1.out
            have e2 := hgw5.cell C2.out
            have e3 := hgw5.cell C3.out
            have e4 := hgw5.cell D0.out
            have HG5w := Lib.hid hgw5
            clear hgw5
            clear hR hGw
            simp only [depV]
            rintro _ rfl
            rintro _ rfl
            rintro _ rfl
            try go_simp
            all_goals first
              | (with_reducible exact Grow.refl _)
              | (with_reducible exact ⟨Grow.refl _, rfl⟩)
          · intro w5 hR
            have hGw : Grow wr w5 := hR.of_drew
            have HGW := Lib.hid hGw
            have hgw5 : Grow w w5 := HGR.out.trans HGW.out
            have e0 := hgw5.cell C0.out
            have e1 := hgw5.cell C1.out
            have e2 := hgw5.cell C2.out
            have e3 := hgw5.cell C3.out
            have e4 := hgw5.cell D0.out
            have HG5w := Lib.hid hgw5
            clear hgw5
            clear hR hGw
            simp only [depV]
            rintro _ rfl
            rintro _ rfl
            try go_simp
            all_goals first
              | (with_reducible exact Grow.refl _)
              | (with_reducible exact ⟨Grow.refl _, rfl⟩)
          · intro w5 hR
            have hGw : Grow wr w5 := hR.of_drew
            have HGW := Lib.hid hGw
            have hgw5 : Grow w w5 := HGR.out.trans HGW.out
            have e0 := hgw5.cell C0.out
            have e1 := hgw5.cell C1.out
            have e2 := hgw5.cell C2.out
            have e3 := hgw5.cell C3.out
            have e4 := hgw5.cell D0.out
            have HG5w := Lib.hid hgw5
            clear hgw5
            clear hR hGw
            simp only [depV]
            rintro _ rfl
            rintro _ rfl
            try go_simp
            all_goals first
              | (with_reducible exact Grow.refl _)
              | (with_reducible exact ⟨Grow.refl _, rfl⟩)
          · intro w5 hR
            have hGw : Grow wr w5 := hR.of_drew
            have HGW := Lib.hid hGw
            have hgw5 : Grow w w5 := HGR.out.trans HGW.out
            have e0 := hgw5.cell C0.out
            have e1 := hgw5.cell C1.out
            have e2 := hgw5.cell C2.out
            have e3 := hgw5.cell C3.out
            have e4 := hgw5.cell D0.out
            have HG5w := Lib.hid hgw5
            clear hgw5
            clear hR hGw
            simp only [depV]
            rintro _ rfl
            rintro _ rfl
            try go_simp
            all_goals first
              | (with_reducible exact Grow.refl _)
              | (with_reducible exact ⟨Grow.refl _, rfl⟩)
          · intro w5 hR
            have hGw : Grow wr w5 := hR.of_drew
            have HGW := Lib.hid hGw
            have hgw5 : Grow w w5 := HGR.out.trans HGW.out
            have e0 := hgw5.cell C0.out
            have e1 := hgw5.cell C1.out
            have e2 := hgw5.cell C2.out
            have e3 := hgw5.cell C3.out
            have e4 := hgw5.cell D0.out
            have HG5w := Lib.hid hgw5
            clear hgw5
            clear hR hGw
            simp only [depV]
            rintro _ rfl
            rintro _ rfl
            try go_simp
            all_goals first
              | (with_reducible exact Grow.refl _)
              | (with_reducible exact ⟨Grow.refl _, rfl⟩)
          · intro w5 hR
            have hGw : Grow wr w5 := hR.of_drew
            have HGW := Lib.hid hGw
            have hgw5 : Grow w w5 := HGR.out.trans HGW.out
            have e0 := hgw5.cell C0.out
            have e1 := hgw5.cell C1.out
            have e2 := hgw5.cell C2.out
            have e3 := hgw5.cell C3.out
            have e4 := hgw5.cell D0.out
            have HG5w := Lib.hid hgw5
            clear hgw5
            clear hR hGw
            simp only [depV]
            rintro _ rfl
            try go_simp
            all_goals first
              | (with_reducible exact Grow.refl _)
              | (with_reducible exact ⟨Grow.refl _, rfl⟩)
          · intro w5 hR
            have hGw : Grow wr w5 := hR.of_drew
            have HGW := Lib.hid hGw
            have hgw5 : Grow w w5 := HGR.out.trans HGW.out
            have e0 := hgw5.cell C0.out
            have e1 := hgw5.cell C1.out
            have e2 := hgw5.cell C2.out
            have e3 := hgw5.cell C3.out
            have e4 := hgw5.cell D0.out
            have HG5w := Lib.hid hgw5
            clear hgw5
            clear hR hGw
            simp only [depV]
            rintro _ rfl
            try go_simp
            all_goals first
              | (with_reducible exact Grow.refl _)
              | (with_reducible exact ⟨Grow.refl _, rfl⟩)
          · intro w5 hR
            have hGw : Grow wr w5 := hR.of_drew
            have HGW := Lib.hid hGw
            have hgw5 : Grow w w5 := HGR.out.trans HGW.out
            have e0 := hgw5.cell C0.out
            have e1 := hgw5.cell C1.out
            have e2 := hgw5.cell C2.out
            have e3 := hgw5.cell C3.out
            have e4 := hgw5.cell D0.out
            have HG5w := Lib.hid hgw5
            clear hgw5
            clear hR hGw
            simp only [depV]
            rintro _ rfl
            try go_simp
            all_goals first
              | (with_reducible exact Grow.refl _)
              | (with_reducible exact ⟨Grow.refl _, rfl⟩)
          · intro w5 hR
            have hGw : Grow wr w5 := hR.of_drew
            have HGW := Lib.hid hGw
            have hgw5 : Grow w w5 := HGR.out.trans HGW.out
            have e0 := hgw5.cell C0.out
            have e1 := hgw5.cell C1.out
            have e2 := hgw5.cell C2.out
            have e3 := hgw5.cell C3.out
            have e4 := hgw5.cell D0.out
            have HG5w := Lib.hid hgw5
            clear hgw5
            clear hR hGw
            simp only [depV]
            rintro _ rfl
            rintro _ rfl
            rintro _ rfl
            try go_simp
            all_goals first
              | (with_reducible exact Grow.refl _)
              | (with_reducible exact ⟨Grow.refl _, rfl⟩)
          · intro w5 hR
            have hGw : Grow wr w5 := hR.of_drew
            have HGW := Lib.hid hGw
            have hgw5 : Grow w w5 := HGR.out.trans HGW.out
            have e0 := hgw5.cell C0.out
            have e1 := hgw5.cell C1.out
            have e2 := hgw5.cell C2.out
            have e3 := hgw5.cell C3.out
            have e4 := hgw5.cell D0.out
            have HG5w := Lib.hid hgw5
            clear hgw5
            clear hR hGw
            simp only [depV]
            rintro _ rfl
            rintro _ rfl
            try go_simp
            all_goals first
              | (with_reducible exact Grow.refl _)
              | (with_reducible exact ⟨Grow.refl _, rfl⟩)
          · intro w5 hR
            have hGw : Grow wr w5 := hR.of_drew
            have HGW := Lib.hid hGw
            have hgw5 : Grow w w5 := HGR.out.trans HGW.out
            have e0 := hgw5.cell C0.out
            have e1 := hgw5.cell C1.out
            have e2 := hgw5.cell C2.out
            have e3 := hgw5.cell C3.out
            have e4 := hgw5.cell D0.out
            have HG5w := Lib.hid hgw5
            clear hgw5
            clear hR hGw
            simp only [depV]
            rintro _ rfl
            try go_simp
            all_goals first
              | (with_reducible exact Grow.refl _)
              | (with_reducible exact ⟨Grow.refl _, rfl⟩)
          · intro w5 hR
            have hGw : Grow wr w5 := hR.of_drew
            have HGW := Lib.hid hGw
            have hgw5 : Grow w w5 := HGR.out.trans HGW.out
            have e0 := hgw5.cell C0.out
            have e1 := hgw5.cell C1.out
            have e2 := hgw5.cell C2.out
            have e3 := hgw5.cell C3.out
            have e4 := hgw5.cell D0.out
            have HG5w := Lib.hid hgw5
            clear hgw5
            clear hR hGw
            simp only [depV]
            rintro _ rfl
            try go_simp
            all_goals first
              | (with_reducible exact Grow.refl _)
              | (with_reducible exact ⟨Grow.refl _, rfl⟩)
          · intro w5 hR
            have hGw : Grow wr w5 := hR.of_drew
            have HGW := Lib.hid hGw
            have hgw5 : Grow w w5 := HGR.out.trans HGW.out
            have e0 := hgw5.cell C0.out
            have e1 := hgw5.cell C1.out
            have e2 := hgw5.cell C2.out
            have e3 := hgw5.cell C3.out
            have e4 := hgw5.cell D0.out
            have HG5w := Lib.hid hgw5
            clear hgw5
            clear hR hGw
            simp only [depV]
            rintro _ rfl
            rintro _ rfl
            rintro _ rfl
            try go_simp
            all_goals first
              | (with_reducible exact Grow.refl _)
              | (with_reducible exact ⟨Grow.refl _, rfl⟩)
          · intro w5 hR
            have hGw : Grow wr w5 := hR.of_drew
            have HGW := Lib.hid hGw
            have hgw5 : Grow w w5 := HGR.out.trans HGW.out
            have e0 := hgw5.cell C0.out
            have e1 := hgw5.cell C1.out
            have e2 := hgw5.cell C2.out
            have e3 := hgw5.cell C3.out
            have e4 := hgw5.cell D0.out
            have HG5w := Lib.hid hgw5
            clear hgw5
            clear hR hGw
            simp only [depV]
            rintro _ rfl
            rintro _ rfl
            try go_simp
            all_goals first
              | (with_reducible exact Grow.refl _)
              | (with_reducible exact ⟨Grow.refl _, rfl⟩)
          · intro w5 hR
            have hGw : Grow wr w5 := hR.of_drew
            have HGW := Lib.hid hGw
            have hgw5 : Grow w w5 := HGR.out.trans HGW.out
            have e0 := hgw5.cell C0.out
            have e1 := hgw5.cell C1.out
            have e2 := hgw5.cell C2.out
            have e3 := hgw5.cell C3.out
            have e4 := hgw5.cell D0.out
            have HG5w := Lib.hid hgw5
            clear hgw5
            clear hR hGw
            simp only [depV]
            rintro _ rfl
            rintro _ rfl
            rintro _ rfl
            try go_simp
            all_goals first
              | (with_reducible exact Grow.refl _)
              | (with_reducible exact ⟨Grow.refl _, rfl⟩)
          · intro w5 hR
            have hGw : Grow wr w5 := hR.of_drew
            have HGW := Lib.hid hGw
            have hgw5 : Grow w w5 := HGR.out.trans HGW.out
            have e0 := hgw5.cell C0.out
            have e1 := hgw5.cell C1.out
            have e2 := hgw5.cell C2.out
            have e3 := hgw5.cell C3.out
            have e4 := hgw5.cell D0.out
            have HG5w := Lib.hid hgw5
            clear hgw5
            clear hR hGw
            simp only [depV]
            rintro _ rfl
            rintro _ rfl
            try go_simp
            all_goals first
              | (with_reducible exact Grow.refl _)
              | (with_reducible exact ⟨Grow.refl _, rfl⟩)
          · intro w5 hR
            have hGw : Grow wr w5 := hR.of_drew
            have HGW := Lib.hid hGw
            have hgw5 : Grow w w5 := HGR.out.trans HGW.out
            have e0 := hgw5.cell C0.out
            have e1 := hgw5.cell C1.out
            have e2 := hgw5.cell C2.out
            have e3 := hgw5.cell C3.out
            have e4 := hgw5.cell D0.out
            have HG5w := Lib.hid hgw5
            clear hgw5
            clear hR hGw
            simp only [depV]
            rintro _ rfl
            rintro _ rfl
            try go_simp
            all_goals first
              | (with_reducible exact Grow.refl _)
              | (with_reducible exact ⟨Grow.refl _, rfl⟩)
        · intro w5 hR
          have HG5 : Hid (Grow wr w5) := Lib.hid hR.of_drew
          clear hR
          simp only [finVC, List.take_succ_cons, List.take_zero, List.drop_succ_cons, List.drop_zero]
          rintro _ rfl
          rintro _ rfl
          rintro _ rfl
          rintro _ rfl
          rintro _ rfl
          rintro _ rfl
          rintro _ rfl
          rintro _ rfl
          rintro _ rfl
          rintro _ rfl
          rintro _ rfl
          rintro _ rfl
          rintro _ rfl
          rintro _ rfl
          rintro _ rfl
          rintro _ rfl
          rintro _ rfl
          rintro _ rfl
          rintro _ rfl
          rintro _ rfl
          rintro _ rfl
          rintro _ rfl
          rintro _ rfl
          rintro _ rfl
          rintro _ rfl
          rintro _ rfl
          simp only [Act.put, List.setIfInBounds_toArray, List.set_cons_succ, List.set_cons_zero]
          have HG8 : Hid (Grow w w5) := Lib.hid (HGR.out.trans HG5.out)
          go_wp2_with fail
          refine (HWK.out _ HG8.out).mono ?_
          rintro e w9 ⟨rfl, hb9⟩
          have HG9 : Hid (Grow w w9) := Lib.hid ((HG8.out).trans hb9)
          clear hb9
          go_wp2_with fail
          go_ret
          exact ⟨rfl, HG9.out⟩
      have hdl : decide ((20 : Int) < (y.xs.length : Int)) = false := decide_eq_false (by omega)
      have HPO := Lib.hid (fun (w0 : World) (hw : Grow w w0) => rIsPossible_any x G y.a y.c y.xs (by omega) w0 (HXA.out w0 hw) (HYI.out w0 hw))
      have HPP : Hid (possD x.d y.xs = true → fitsI x.items y.xs = true ∧ numErr x 0 0 = 0 ∧ ((rangeV x).1 ≤ resD x.items y.xs ∧ resD x.items y.xs ≤ (rangeV x).2)) := Lib.hid (fun hps => by
        have hT : truthsL x.d ≠ [] := truths_some.2 ⟨y.xs, hps⟩
        have hfi : fitsI x.items y.xs = true := by
          have h := hps
          unfold possD at h
          rw [Bool.and_eq_true] at h
          exact h.1
        have h0 := num_some hok hT
        refine ⟨hfi, h0, ?_⟩
        unfold rangeV
        rw [if_pos h0]
        exact (range_is G hT).2.2 y.xs hps)
      obtain ⟨bp, hbp⟩ : ∃ z, possD x.d y.xs = z := ⟨_, rfl⟩
      rw [hbp] at HPO HPP
      have HS := Lib.hid hs
      clear hbp hs hok
      refine wp_region_lit 26 [[], [], [(0, 34), (1, 35)], [(2, 36)], [(3, 37)], [(4, 38)], [(5, 39)], [(6, 40)], [(6, 40)], [(6, 40), (7, 41), (8, 42)], [(6, 40), (9, 43)], [(6, 40), (10, 44)], [(6, 40), (11, 45)], [(6, 40), (12, 46)], [(13, 47)], [(14, 48)], [(14, 48)], [(14, 48), (15, 49), (16, 50)], [(14, 48), (17, 51)], [(14, 48)], [(14, 48)], [(14, 48), (19, 53), (20, 54)], [(14, 48), (21, 55)], [(14, 48), (18, 52), (22, 56)], [(14, 48), (23, 57)], [(14, 48), (24, 58)]] Grow (fun qi v w' => match qi with
          | 0 => v = .slice (some ⟨pb, po, none⟩) l.length cap
          | 1 => v = .int .i64 (k : Nat)
          | 2 => v = .pointer (some ⟨pb, po + k * 4, none⟩)
          | 3 => v = paperV x
          | 4 => v = .bool true
          | 5 => v = .bool false
          | 6 => v = .bool false
          | 7 => v = .slice (some ⟨tb, tq, none⟩) ts.length cb
          | 8 => v = .int .i64 (k : Nat)
          | 9 => v = .pointer (some ⟨tb, tq + k, none⟩)
          | 10 => v = .slice y.a y.xs.length y.c
          | 11 => v = .int .i64 (y.xs.length : Nat)
          | 12 => v = .bool false
          | 13 => v = .bool false
          | 14 => v = .bool false
          | 15 => v = .slice (some ⟨pb, po, none⟩) l.length cap
          | 16 => v = .int .i64 (k : Nat)
          | 17 => v = .pointer (some ⟨pb, po + k * 4, none⟩)
          | 18 => v = paperV x
          | 19 => v = .slice (some ⟨tb, tq, none⟩) ts.length cb
          | 20 => v = .int .i64 (k : Nat)
          | 21 => v = .pointer (some ⟨tb, tq + k, none⟩)
          | 22 => v = .slice y.a y.xs.length y.c
          | 23 => v = .bool bp
          | 24 => v = .bool (!bp)
          | 25 => v = .bool (!bp)
          | _ => False) (by kernel_rfl) (by kernel_rfl) (fun _ _ _ => Grow.trans) Grow.refl ?_ ?_ ?_
      · intro i v y y' h k
        match i, h with
        | 0, h | 1, h | 2, h | 3, h | 4, h | 5, h | 6, h | 7, h | 8, h | 9, h | 10, h | 11, h | 12, h | 13, h | 14, h | 15, h | 16, h | 17, h | 18, h | 19, h | 20, h | 21, h | 22, h | 23, h | 24, h | 25, h => exact h
      · simp only [StepsLit, List.take_succ_cons, List.take_zero]
        refine ⟨?_, ?_, ?_, ?_, ?_, ?_, ?_, ?_, ?_, ?_, ?_, ?_, ?_, ?_, ?_, ?_, ?_, ?_, ?_, ?_, ?_, ?_, ?_, ?_, ?_, ?_, trivial⟩
        · intro w5 hR
          have hGw : Grow wr w5 := hR.of_drew
          have HGW := Lib.hid hGw
          have hgw5 : Grow w w5 := HGR.out.trans HGW.out
          have e0 := hgw5.cell C0.out
          have e1 := hgw5.cell C1.out
          have e2 := hgw5.cell C2.out
          have e3 := hgw5.cell C3.out
          have e4 := hgw5.cell D0.out
          have HG5w := Lib.hid hgw5
          clear hgw5
          clear hR hGw
          simp only [depV]
          try go_simp
          all_goals first
            | (with_reducible exact Grow.refl _)
            | (with_reducible exact ⟨Grow.refl _, rfl⟩)
        · intro w5 hR
          have hGw : Grow wr w5 := hR.of_drew
          have HGW := Lib.hid hGw
          have hgw5 : Grow w w5 := HGR.out.trans HGW.out
          have e0 := hgw5.cell C0.out
          have e1 := hgw5.cell C1.out
          have e2 := hgw5.cell C2.out
          have e3 := hgw5.cell C3.out
          have e4 := hgw5.cell D0.out
          have HG5w := Lib.hid hgw5
          clear hgw5
          clear hR hGw
          simp only [depV]
          try go_simp
          all_goals first
            | (with_reducible exact Grow.refl _)
            | (with_reducible exact ⟨Grow.refl _, rfl⟩)
        · intro w5 hR
          have hGw : Grow wr w5 := hR.of_drew
          have HGW := Lib.hid hGw
          have hgw5 : Grow w w5 := HGR.out.trans HGW.out
          have e0 := hgw5.cell C0.out
          have e1 := hgw5.cell C1.out
          have e2 := hgw5.cell C2.out
          have e3 := hgw5.cell C3.out
          have e4 := hgw5.cell D0.out
          have HG5w := Lib.hid hgw5
          clear hgw5
          clear hR hGw
          simp only [depV]
          rintro _ rfl
          rintro _ rfl
          try go_simp
          all_goals first
            | (with_reducible exact Grow.refl _)
            | (with_reducible exact ⟨Grow.refl _, rfl⟩)
        · intro w5 hR
          have hGw : Grow wr w5 := hR.of_drew
          have HGW := Lib.hid hGw
          have hgw5 : Grow w w5 := HGR.out.trans HGW.out
          have e0 := hgw5.cell C0.out
          have e1 := hgw5.cell C1.out
          have e2 := hgw5.cell C2.out
          have e3 := hgw5.cell C3.out
          have e4 := hgw5.cell D0.out
          have HG5w := Lib.hid hgw5
          clear hgw5
          clear hR hGw
          simp only [depV]
          rintro _ rfl
          try go_simp
          all_goals first
            | (with_reducible exact Grow.refl _)
            | (with_reducible exact ⟨Grow.refl _, rfl⟩)
        · intro w5 hR
          have hGw : Grow wr w5 := hR.of_drew
          have HGW := Lib.hid hGw
          have hgw5 : Grow w w5 := HGR.out.trans HGW.out
          have e0 := hgw5.cell C0.out
          have e1 := hgw5.cell C1.out
          have e2 := hgw5.cell C2.out
          have e3 := hgw5.cell C3.out
          have e4 := hgw5.cell D0.out
          have HG5w := Lib.hid hgw5
          clear hgw5
          clear hR hGw
          simp only [depV]
          rintro _ rfl
          try go_simp
          refine (HRY.out w5 HG5w.out).mono ?_
          rintro e w6 ⟨rfl, hb6⟩
          exact ⟨hb6, rfl⟩
        · intro w5 hR
          have hGw : Grow wr w5 := hR.of_drew
          have HGW := Lib.hid hGw
          have hgw5 : Grow w w5 := HGR.out.trans HGW.out
          have e0 := hgw5.cell C0.out
          have e1 := hgw5.cell C1.out
          have e2 := hgw5.cell C2.out
          have e3 := hgw5.cell C3.out
          have e4 := hgw5.cell D0.out
          have HG5w := Lib.hid hgw5
          clear hgw5
          clear hR hGw
          simp only [depV]
          rintro _ rfl
          try go_simp
          all_goals first
            | (with_reducible exact Grow.refl _)
            | (with_reducible exact ⟨Grow.refl _, rfl⟩)
        · intro w5 hR
          have hGw : Grow wr w5 := hR.of_drew
          have HGW := Lib.hid hGw
          have hgw5 : Grow w w5 := HGR.out.trans HGW.out
          have e0 := hgw5.cell C0.out
          have e1 := hgw5.cell C1.out
          have e2 := hgw5.cell C2.out
          have e3 := hgw5.cell C3.out
          have e4 := hgw5.cell D0.out
          have HG5w := Lib.hid hgw5
          clear hgw5
          clear hR hGw
          simp only [depV]
          rintro _ rfl
          try go_simp
          all_goals first
            | (with_reducible exact Grow.refl _)
            | (with_reducible exact ⟨Grow.refl _, rfl⟩)
        · intro w5 hR
          have hGw : Grow wr w5 := hR.of_drew
          have HGW := Lib.hid hGw
          have hgw5 : Grow w w5 := HGR.out.trans HGW.out
          have e0 := hgw5.cell C0.out
          have e1 := hgw5.cell C1.out
          have e2 := hgw5.cell C2.out
          have e3 := hgw5.cell C3.out
          have e4 := hgw5.cell D0.out
          have HG5w := Lib.hid hgw5
          clear hgw5
          clear hR hGw
          simp only [depV]
          rintro _ rfl
          try go_simp
          all_goals first
            | (with_reducible exact Grow.refl _)
            | (with_reducible exact ⟨Grow.refl _, rfl⟩)
        · intro w5 hR
          have hGw : Grow wr w5 := hR.of_drew
          have HGW := Lib.hid hGw
          have hgw5 : Grow w w5 := HGR.out.trans HGW.out
          have e0 := hgw5.cell C0.out
          have e1 := hgw5.cell C1.out
          have e2 := hgw5.cell C2.out
          have e3 := hgw5.cell C3.out
          have e4 := hgw5.cell D0.out
          have HG5w := Lib.hid hgw5
          clear hgw5
          clear hR hGw
          simp only [depV]
          rintro _ rfl
          try go_simp
          all_goals first
            | (with_reducible exact Grow.refl _)
            | (with_reducible exact ⟨Grow.refl _, rfl⟩)
        · intro w5 hR
          have hGw : Grow wr w5 := hR.of_drew
          have HGW := Lib.hid hGw
          have hgw5 : Grow w w5 := HGR.out.trans HGW.out
          have e0 := hgw5.cell C0.out
          have e1 := hgw5.cell C1.out
          have e2 := hgw5.cell C2.out
          have e3 := hgw5.cell C3.out
          have e4 := hgw5.cell D0.out
          have HG5w := Lib.hid hgw5
          clear hgw5
          clear hR hGw
          simp only [depV]
          rintro _ rfl
          rintro _ rfl
          rintro _ rfl
          try go_simp
          all_goals first
            | (with_reducible exact Grow.refl _)
            | (with_reducible exact ⟨Grow.refl _, rfl⟩)
        · intro w5 hR
          have hGw : Grow wr w5 := hR.of_drew
          have HGW := Lib.hid hGw
          have hgw5 : Grow w w5 := HGR.out.trans HGW.out
          have e0 := hgw5.cell C0.out
          have e1 := hgw5.cell C1.out
          have e2 := hgw5.cell C2.out
          have e3 := hgw5.cell C3.out
          have e4 := hgw5.cell D0.out
          have HG5w := Lib.hid hgw5
          clear hgw5
          clear hR hGw
          simp only [depV]
          rintro _ rfl
          rintro _ rfl
          try go_simp
          all_goals first
            | (with_reducible exact Grow.refl _)
            | (with_reducible exact ⟨Grow.refl _, rfl⟩)
        · intro w5 hR
          have hGw : Grow wr w5 := hR.of_drew
          have HGW := Lib.hid hGw
          have hgw5 : Grow w w5 := HGR.out.trans HGW.out
          have e0 := hgw5.cell C0.out
          have e1 := hgw5.cell C1.out
          have e2 := hgw5.cell C2.out
          have e3 := hgw5.cell C3.out
          have e4 := hgw5.cell D0.out
          have HG5w := Lib.hid hgw5
          clear hgw5
          clear hR hGw
          simp only [depV]
          rintro _ rfl
          rintro _ rfl
          try go_simp
          all_goals first
            | (with_reducible exact Grow.refl _)
            | (with_reducible exact ⟨Grow.refl _, rfl⟩)
        · intro w5 hR
          have hGw : Grow wr w5 := hR.of_drew
          have HGW := Lib.hid hGw
          have hgw5 : Grow w w5 := HGR.out.trans HGW.out
          have e0 := hgw5.cell C0.out
          have e1 := hgw5.cell C1.out
          have e2 := hgw5.cell C2.out
          have e3 := hgw5.cell C3.out
          have e4 := hgw5.cell D0.out
          have HG5w := Lib.hid hgw5
          clear hgw5
          clear hR hGw
          simp only [depV]
          rintro _ rfl
          rintro _ rfl
          try go_simp
          all_goals first
            | (with_reducible exact Grow.refl _)
            | (with_reducible exact ⟨Grow.refl _, rfl⟩)
        · intro w5 hR
          have hGw : Grow wr w5 := hR.of_drew
          have HGW := Lib.hid hGw
          have hgw5 : Grow w w5 := HGR.out.trans HGW.out
          have e0 := hgw5.cell C0.out
          have e1 := hgw5.cell C1.out
          have e2 := hgw5.cell C2.out
          have e3 := hgw5.cell C3.out
          have e4 := hgw5.cell D0.out
          have HG5w := Lib.hid hgw5
          clear hgw5
          clear hR hGw
          simp only [depV]
          rintro _ rfl
          rintro _ rfl
          try go_simp
          all_goals first
            | (with_reducible exact Grow.refl _)
            | (with_reducible exact ⟨Grow.refl _, rfl⟩)
        · intro w5 hR
          have hGw : Grow wr w5 := hR.of_drew
          have HGW := Lib.hid hGw
          have hgw5 : Grow w w5 := HGR.out.trans HGW.out
          have e0 := hgw5.cell C0.out
          have e1 := hgw5.cell C1.out
          have e2 := hgw5.cell C2.out
          have e3 := hgw5.cell C3.out
          have e4 := hgw5.cell D0.out
          have HG5w := Lib.hid hgw5
          clear hgw5
          clear hR hGw
          simp only [depV]
          rintro _ rfl
          try go_simp
          all_goals first
            | (with_reducible exact Grow.refl _)
            | (with_reducible exact ⟨Grow.refl _, rfl⟩)
        · intro w5 hR
          have hGw : Grow wr w5 := hR.of_drew
          have HGW := Lib.hid hGw
          have hgw5 : Grow w w5 := HGR.out.trans HGW.out
          have e0 := hgw5.cell C0.out
          have e1 := hgw5.cell C1.out
          have e2 := hgw5.cell C2.out
          have e3 := hgw5.cell C3.out
          have e4 := hgw5.cell D0.out
          have HG5w := Lib.hid hgw5
          clear hgw5
          clear hR hGw
          simp only [depV]
          rintro _ rfl
          try go_simp
          all_goals first
            | (with_reducible exact Grow.refl _)
            | (with_reducible exact ⟨Grow.refl _, rfl⟩)
        · intro w5 hR
          have hGw : Grow wr w5 := hR.of_drew
          have HGW := Lib.hid hGw
          have hgw5 : Grow w w5 := HGR.out.trans HGW.out
          have e0 := hgw5.cell C0.out
          have e1 := hgw5.cell C1.out
          have e2 := hgw5.cell C2.out
          have e3 := hgw5.cell C3.out
          have e4 := hgw5.cell D0.out
          have HG5w := Lib.hid hgw5
          clear hgw5
          clear hR hGw
          simp only [depV]
          rintro _ rfl
          try go_simp
          all_goals first
            | (with_reducible exact Grow.refl _)
            | (with_reducible exact ⟨Grow.refl _, rfl⟩)
        · intro w5 hR
          have hGw : Grow wr w5 := hR.of_drew
          have HGW := Lib.hid hGw
          have hgw5 : Grow w w5 := HGR.out.trans HGW.out
          have e0 := hgw5.cell C0.out
          have e1 := hgw5.cell C1.out
          have e2 := hgw5.cell C2.out
          have e3 := hgw5.cell C3.out
          have e4 := hgw5.cell D0.out
          have HG5w := Lib.hid hgw5
          clear hgw5
          clear hR hGw
          simp only [depV]
          rintro _ rfl
          rintro _ rfl
          rintro _ rfl
          try go_simp
          all_goals first
            | (with_reducible exact Grow.refl _)
            | (with_reducible exact ⟨Grow.refl _, rfl⟩)
        · intro w5 hR
          have hGw : Grow wr w5 := hR.of_drew
          have HGW := Lib.hid hGw
          have hgw5 : Grow w w5 := HGR.out.trans HGW.out
          have e0 := hgw5.cell C0.out
          have e1 := hgw5.cell C1.out
          have e2 := hgw5.cell C2.out
          have e3 := hgw5.cell C3.out
          have e4 := hgw5.cell D0.out
          have HG5w := Lib.hid hgw5
          clear hgw5
          clear hR hGw
          simp only [depV]
          rintro _ rfl
          rintro _ rfl
          try go_simp
          all_goals first
            | (with_reducible exact Grow.refl _)
            | (with_reducible exact ⟨Grow.refl _, rfl⟩)
        · intro w5 hR
          have hGw : Grow wr w5 := hR.of_drew
          have HGW := Lib.hid hGw
          have hgw5 : Grow w w5 := HGR.out.trans HGW.out
          have e0 := hgw5.cell C0.out
          have e1 := hgw5.cell C1.out
          have e2 := hgw5.cell C2.out
          have e3 := hgw5.cell C3.out
          have e4 := hgw5.cell D0.out
          have HG5w := Lib.hid hgw5
          clear hgw5
          clear hR hGw
          simp only [depV]
          rintro _ rfl
          try go_simp
          all_goals first
            | (with_reducible exact Grow.refl _)
            | (with_reducible exact ⟨Grow.refl _, rfl⟩)
        · intro w5 hR
          have hGw : Grow wr w5 := hR.of_drew
          have HGW := Lib.hid hGw
          have hgw5 : Grow w w5 := HGR.out.trans HGW.out
          have e0 := hgw5.cell C0.out
          have e1 := hgw5.cell C1.out
          have e2 := hgw5.cell C2.out
          have e3 := hgw5.cell C3.out
          have e4 := hgw5.cell D0.out
          have HG5w := Lib.hid hgw5
          clear hgw5
          clear hR hGw
          simp only [depV]
          rintro _ rfl
          try go_simp
          all_goals first
            | (with_reducible exact Grow.refl _)
            | (with_reducible exact ⟨Grow.refl _, rfl⟩)
        · intro w5 hR
          have hGw : Grow wr w5 := hR.of_drew
          have HGW := Lib.hid hGw
          have hgw5 : Grow w w5 := HGR.out.trans HGW.out
          have e0 := hgw5.cell C0.out
          have e1 := hgw5.cell C1.out
          have e2 := hgw5.cell C2.out
          have e3 := hgw5.cell C3.out
          have e4 := hgw5.cell D0.out
          have HG5w := Lib.hid hgw5
          clear hgw5
          clear hR hGw
          simp only [depV]
          rintro _ rfl
          rintro _ rfl
          rintro _ rfl
          try go_simp
          all_goals first
            | (with_reducible exact Grow.refl _)
            | (with_reducible exact ⟨Grow.refl _, rfl⟩)
        · intro w5 hR
          have hGw : Grow wr w5 := hR.of_drew
          have HGW := Lib.hid hGw
          have hgw5 : Grow w w5 := HGR.out.trans HGW.out
          have e0 := hgw5.cell C0.out
          have e1 := hgw5.cell C1.out
          have e2 := hgw5.cell C2.out
          have e3 := hgw5.cell C3.out
          have e4 := hgw5.cell D0.out
          have HG5w := Lib.hid hgw5
          clear hgw5
          clear hR hGw
          simp only [depV]
          rintro _ rfl
          rintro _ rfl
          try go_simp
          all_goals first
            | (with_reducible exact Grow.refl _)
            | (with_reducible exact ⟨Grow.refl _, rfl⟩)
        · intro w5 hR
          have hGw : Grow wr w5 := hR.of_drew
          have HGW := Lib.hid hGw
          have hgw5 : Grow w w5 := HGR.out.trans HGW.out
          have e0 := hgw5.cell C0.out
          have e1 := hgw5.cell C1.out
          have e2 := hgw5.cell C2.out
          have e3 := hgw5.cell C3.out
          have e4 := hgw5.cell D0.out
          have HG5w := Lib.hid hgw5
          clear hgw5
          clear hR hGw
          simp only [depV]
          rintro _ rfl
          rintro _ rfl
          rintro _ rfl
          try go_simp
          refine (HPO.out w5 HG5w.out).mono ?_
          rintro e w6 ⟨rfl, hb6⟩
          exact ⟨hb6, rfl⟩
        · intro w5 hR
          have hGw : Grow wr w5 := hR.of_drew
          have HGW := Lib.hid hGw
          have hgw5 : Grow w w5 := HGR.out.trans HGW.out
          have e0 := hgw5.cell C0.out
          have e1 := hgw5.cell C1.out
          have e2 := hgw5.cell C2.out
          have e3 := hgw5.cell C3.out
          have e4 := hgw5.cell D0.out
          have HG5w := Lib.hid hgw5
          clear hgw5
          clear hR hGw
          simp only [depV]
          rintro _ rfl
          rintro _ rfl
          try go_simp
          all_goals first
            | (with_reducible exact Grow.refl _)
            | (with_reducible exact ⟨Grow.refl _, rfl⟩)
        · intro w5 hR
          have hGw : Grow wr w5 := hR.of_drew
          have HGW := Lib.hid hGw
          have hgw5 : Grow w w5 := HGR.out.trans HGW.out
          have e0 := hgw5.cell C0.out
          have e1 := hgw5.cell C1.out
          have e2 := hgw5.cell C2.out
          have e3 := hgw5.cell C3.out
          have e4 := hgw5.cell D0.out
          have HG5w := Lib.hid hgw5
          clear hgw5
          clear hR hGw
          simp only [depV]
          rintro _ rfl
          rintro _ rfl
          try go_simp
          all_goals first
            | (with_reducible exact Grow.refl _)
            | (with_reducible exact ⟨Grow.refl _, rfl⟩)
      · intro w5 hR
        have HG5 : Hid (Grow wr w5) := Lib.hid hR.of_drew
        clear hR
        simp only [finVC, List.take_succ_cons, List.take_zero, List.drop_succ_cons, List.drop_zero]
        rintro _ rfl
        rintro _ rfl
        rintro _ rfl
        rintro _ rfl
        rintro _ rfl
        rintro _ rfl
        rintro _ rfl
        rintro _ rfl
        rintro _ rfl
        rintro _ rfl
        rintro _ rfl
        rintro _ rfl
        rintro _ rfl
        rintro _ rfl
        rintro _ rfl
        rintro _ rfl
        rintro _ rfl
        rintro _ rfl
        rintro _ rfl
        rintro _ rfl
        rintro _ rfl
        rintro _ rfl
        rintro _ rfl
        rintro _ rfl
        rintro _ rfl
        rintro _ rfl
        simp only [Act.put, List.setIfInBounds_toArray, List.set_cons_succ, List.set_cons_zero]
        rename World => Wq
        have HGQ : Hid (Grow w Wq) := Lib.hid (HGR.out.trans HG5.out)
        cases bp with
        | false =>
          go_wp2_with fail
          refine (HWK.out _ HGQ.out).mono ?_
          rintro e w9 ⟨rfl, hb9⟩
          have HG9 : Hid (Grow w w9) := Lib.hid ((HGQ.out).trans hb9)
          clear hb9
          go_wp2_with fail
          go_ret
          exact ⟨rfl, HG9.out⟩
        | true =>
        obtain ⟨hfi, h0, hin⟩ := HPP.out rfl
        have HRS := Lib.hid (fun (w0 : World) (hw : Grow w w0) => rResult_any x G y.a y.c y.xs hfi w0 (HXA.out w0 hw) (HYI.out w0 hw))
        have HGDN := Lib.hid (GoodTo.snoc HGD.out HRL.out HX.out h0 hin HS.out)
        obtain ⟨rx, hrx⟩ : ∃ z, resD x.items y.xs = z := ⟨_, rfl⟩
        rw [hrx] at HRS HGDN
        clear hrx hfi h0 hin HPP HPO
        obtain ⟨g0, hrg, hge⟩ := row_gIZ HOW.out HGR.out.size
        have HOQ : Hid (Wq.ownsRow w.heap.size 3 1 (.slice A2 k c2) k (rs.map (Value.int .i64))) := Lib.hid (own_turnIZ (n := k) (r := rx) HOW.out (TurnIZ.of_grow HG5.out) hrg rfl)
        clear hrg hge g0
        obtain ⟨gg, hrg, hge⟩ := row_gIZ HOQ.out HGQ.out.size
        have HRGQ := Lib.hid hrg
        have HGE := Lib.hid hge
        obtain ⟨lo, hlo⟩ : ∃ z, Wq.heap.size = z := ⟨_, rfl⟩
        have HLO := Lib.hid hlo
        rw [hlo] at HRGQ
        have HRG : Hid (RowGZ A2 gg lo) := HRGQ
        clear hrg hge hlo HRGQ HG5 HOW
        go_wp2_with fail
        refine wp_region_lit 12 [[], [], [], [(1, 62), (2, 63)], [(3, 64)], [], [], [(5, 66), (6, 67)], [(7, 68)], [(4, 65), (8, 69)], [(9, 70)], [(0, 61), (10, 71)]] (TurnIZ gg k lo rx) (fun qi v w' => match qi with
            | 0 => v = .slice A2 k c2
            | 1 => v = .slice (some ⟨pb, po, none⟩) l.length cap
            | 2 => v = .int .i64 (k : Nat)
            | 3 => v = .pointer (some ⟨pb, po + k * 4, none⟩)
            | 4 => v = paperV x
            | 5 => v = .slice (some ⟨tb, tq, none⟩) ts.length cb
            | 6 => v = .int .i64 (k : Nat)
            | 7 => v = .pointer (some ⟨tb, tq + k, none⟩)
            | 8 => v = .slice y.a y.xs.length y.c
            | 9 => v = .int .i64 rx
            | 10 => BoxZ lo rx v w'
            | 11 => OwnSIZ gg lo w.heap.size k (rs.map (Value.int .i64)) rx v w'
            | _ => False) (by kernel_rfl) (by kernel_rfl) (fun _ _ _ => TurnIZ.trans) (TurnIZ.refl _ _ _ _) ?_ ?_ ?_
        · intro i v y y' h k
          match i, h with
          | 10, h => exact h.turn k
          | 11, h => exact h.turn k
          | 0, h | 1, h | 2, h | 3, h | 4, h | 5, h | 6, h | 7, h | 8, h | 9, h => exact h
        · simp only [StepsLit, List.take_succ_cons, List.take_zero]
          refine ⟨?_, ?_, ?_, ?_, ?_, ?_, ?_, ?_, ?_, ?_, ?_, ?_, trivial⟩
          · intro w5 hR
            have hGw : (TurnIZ gg k lo rx) Wq w5 := hR.of_drew
            have HGW := Lib.hid hGw
            have hz5 : lo ≤ w5.heap.size := by rw [← HLO.out]; exact HGW.out.size
            have hgw5 : Grow w w5 := Below.trans HGQ.out (HGW.out.below HGE.out HGQ.out.size)
            have e0 := hgw5.cell C0.out
            have e1 := hgw5.cell C1.out
            have e2 := hgw5.cell C2.out
            have e3 := hgw5.cell C3.out
            have e4 := hgw5.cell D0.out
            have HG5w := Lib.hid hgw5
            clear hgw5
            clear hR hGw
            simp only [depV]
            try go_simp
            all_goals first
              | (with_reducible exact (TurnIZ.refl _ _ _ _) _)
              | (with_reducible exact ⟨(TurnIZ.refl _ _ _ _) _, rfl⟩)
          · intro w5 hR
            have hGw : (TurnIZ gg k lo rx) Wq w5 := hR.of_drew
            have HGW := Lib.hid hGw
            have hz5 : lo ≤ w5.heap.size := by rw [← HLO.out]; exact HGW.out.size
            have hgw5 : Grow w w5 := Below.trans HGQ.out (HGW.out.below HGE.out HGQ.out.size)
            have e0 := hgw5.cell C0.out
            have e1 := hgw5.cell C1.out
            have e2 := hgw5.cell C2.out
            have e3 := hgw5.cell C3.out
            have e4 := hgw5.cell D0.out
            have HG5w := Lib.hid hgw5
            clear hgw5
            clear hR hGw
            simp only [depV]
            try go_simp
            all_goals first
              | (with_reducible exact (TurnIZ.refl _ _ _ _) _)
              | (with_reducible exact ⟨(TurnIZ.refl _ _ _ _) _, rfl⟩)
          · intro w5 hR
            have hGw : (TurnIZ gg k lo rx) Wq w5 := hR.of_drew
            have HGW := Lib.hid hGw
            have hz5 : lo ≤ w5.heap.size := by rw [← HLO.out]; exact HGW.out.size
            have hgw5 : Grow w w5 := Below.trans HGQ.out (HGW.out.below HGE.out HGQ.out.size)
            have e0 := hgw5.cell C0.out
            have e1 := hgw5.cell C1.out
            have e2 := hgw5.cell C2.out
            have e3 := hgw5.cell C3.out
            have e4 := hgw5.cell D0.out
            have HG5w := Lib.hid hgw5
            clear hgw5
            clear hR hGw
            simp only [depV]
            try go_simp
            all_goals first
              | (with_reducible exact (TurnIZ.refl _ _ _ _) _)
              | (with_reducible exact ⟨(TurnIZ.refl _ _ _ _) _, rfl⟩)
          · intro w5 hR
            have hGw : (TurnIZ gg k lo rx) Wq w5 := hR.of_drew
            have HGW := Lib.hid hGw
            have hz5 : lo ≤ w5.heap.size := by rw [← HLO.out]; exact HGW.out.size
            have hgw5 : Grow w w5 := Below.trans HGQ.out (HGW.out.below HGE.out HGQ.out.size)
            have e0 := hgw5.cell C0.out
            have e1 := hgw5.cell C1.out
            have e2 := hgw5.cell C2.out
            have e3 := hgw5.cell C3.out
            have e4 := hgw5.cell D0.out
            have HG5w := Lib.hid hgw5
            clear hgw5
            clear hR hGw
            simp only [depV]
            rintro _ rfl
            rintro _ rfl
            try go_simp
            all_goals first
              | (with_reducible exact (TurnIZ.refl _ _ _ _) _)
              | (with_reducible exact ⟨(TurnIZ.refl _ _ _ _) _, rfl⟩)
          · intro w5 hR
            have hGw : (TurnIZ gg k lo rx) Wq w5 := hR.of_drew
            have HGW := Lib.hid hGw
            have hz5 : lo ≤ w5.heap.size := by rw [← HLO.out]; exact HGW.out.size
            have hgw5 : Grow w w5 := Below.trans HGQ.out (HGW.out.below HGE.out HGQ.out.size)
            have e0 := hgw5.cell C0.out
            have e1 := hgw5.cell C1.out
            have e2 := hgw5.cell C2.out
            have e3 := hgw5.cell C3.out
            have e4 := hgw5.cell D0.out
            have HG5w := Lib.hid hgw5
            clear hgw5
            clear hR hGw
            simp only [depV]
            rintro _ rfl
            try go_simp
            all_goals first
              | (with_reducible exact (TurnIZ.refl _ _ _ _) _)
              | (with_reducible exact ⟨(TurnIZ.refl _ _ _ _) _, rfl⟩)
          · intro w5 hR
            have hGw : (TurnIZ gg k lo rx) Wq w5 := hR.of_drew
            have HGW := Lib.hid hGw
            have hz5 : lo ≤ w5.heap.size := by rw [← HLO.out]; exact HGW.out.size
            have hgw5 : Grow w w5 := Below.trans HGQ.out (HGW.out.below HGE.out HGQ.out.size)
            have e0 := hgw5.cell C0.out
            have e1 := hgw5.cell C1.out
            have e2 := hgw5.cell C2.out
            have e3 := hgw5.cell C3.out
            have e4 := hgw5.cell D0.out
            have HG5w := Lib.hid hgw5
            clear hgw5
            clear hR hGw
            simp only [depV]
            try go_simp
            all_goals first
              | (with_reducible exact (TurnIZ.refl _ _ _ _) _)
              | (with_reducible exact ⟨(TurnIZ.refl _ _ _ _) _, rfl⟩)
          · intro w5 hR
            have hGw : (TurnIZ gg k lo rx) Wq w5 := hR.of_drew
            have HGW := Lib.hid hGw
            have hz5 : lo ≤ w5.heap.size := by rw [← HLO.out]; exact HGW.out.size
            have hgw5 : Grow w w5 := Below.trans HGQ.out (HGW.out.below HGE.out HGQ.out.size)
            have e0 := hgw5.cell C0.out
            have e1 := hgw5.cell C1.out
            have e2 := hgw5.cell C2.out
            have e3 := hgw5.cell C3.out
            have e4 := hgw5.cell D0.out
            have HG5w := Lib.hid hgw5
            clear hgw5
            clear hR hGw
            simp only [depV]
            try go_simp
            all_goals first
              | (with_reducible exact (TurnIZ.refl _ _ _ _) _)
              | (with_reducible exact ⟨(TurnIZ.refl _ _ _ _) _, rfl⟩)
          · intro w5 hR
            have hGw : (TurnIZ gg k lo rx) Wq w5 := hR.of_drew
            have HGW := Lib.hid hGw
            have hz5 : lo ≤ w5.heap.size := by rw [← HLO.out]; exact HGW.out.size
            have hgw5 : Grow w w5 := Below.trans HGQ.out (HGW.out.below HGE.out HGQ.out.size)
            have e0 := hgw5.cell C0.out
            have e1 := hgw5.cell C1.out
            have e2 := hgw5.cell C2.out
            have e3 := hgw5.cell C3.out
            have e4 := hgw5.cell D0.out
            have HG5w := Lib.hid hgw5
            clear hgw5
            clear hR hGw
            simp only [depV]
            rintro _ rfl
            rintro _ rfl
            try go_simp
            all_goals first
              | (with_reducible exact (TurnIZ.refl _ _ _ _) _)
              | (with_reducible exact ⟨(TurnIZ.refl _ _ _ _) _, rfl⟩)
          · intro w5 hR
            have hGw : (TurnIZ gg k lo rx) Wq w5 := hR.of_drew
            have HGW := Lib.hid hGw
            have hz5 : lo ≤ w5.heap.size := by rw [← HLO.out]; exact HGW.out.size
            have hgw5 : Grow w w5 := Below.trans HGQ.out (HGW.out.below HGE.out HGQ.out.size)
            have e0 := hgw5.cell C0.out
            have e1 := hgw5.cell C1.out
            have e2 := hgw5.cell C2.out
            have e3 := hgw5.cell C3.out
            have e4 := hgw5.cell D0.out
            have HG5w := Lib.hid hgw5
            clear hgw5
            clear hR hGw
            simp only [depV]
            rintro _ rfl
            try go_simp
            all_goals first
              | (with_reducible exact (TurnIZ.refl _ _ _ _) _)
              | (with_reducible exact ⟨(TurnIZ.refl _ _ _ _) _, rfl⟩)
          · intro w5 hR
            have hGw : (TurnIZ gg k lo rx) Wq w5 := hR.of_drew
            have HGW := Lib.hid hGw
            have hz5 : lo ≤ w5.heap.size := by rw [← HLO.out]; exact HGW.out.size
            have hgw5 : Grow w w5 := Below.trans HGQ.out (HGW.out.below HGE.out HGQ.out.size)
            have e0 := hgw5.cell C0.out
            have e1 := hgw5.cell C1.out
            have e2 := hgw5.cell C2.out
            have e3 := hgw5.cell C3.out
            have e4 := hgw5.cell D0.out
            have HG5w := Lib.hid hgw5
            clear hgw5
            clear hR hGw
            simp only [depV]
            rintro _ rfl
            rintro _ rfl
            try go_simp
            refine (HRS.out w5 HG5w.out).mono ?_
            rintro e w6 ⟨rfl, hb6⟩
            exact ⟨TurnIZ.of_grow hb6, rfl⟩
          · intro w5 hR
            have hGw : (TurnIZ gg k lo rx) Wq w5 := hR.of_drew
            have HGW := Lib.hid hGw
            have hz5 : lo ≤ w5.heap.size := by rw [← HLO.out]; exact HGW.out.size
            have hgw5 : Grow w w5 := Below.trans HGQ.out (HGW.out.below HGE.out HGQ.out.size)
            have e0 := hgw5.cell C0.out
            have e1 := hgw5.cell C1.out
            have e2 := hgw5.cell C2.out
            have e3 := hgw5.cell C3.out
            have e4 := hgw5.cell D0.out
            have HG5w := Lib.hid hgw5
            clear hgw5
            clear hR hGw
            simp only [depV]
            rintro _ rfl
            try go_simp
            exact ⟨TurnIZ.of_grow (Grow.alloc _ _), _, rfl, hz5, BlockIs.new _ _ _⟩
          · intro w5 hR
            have hGw : (TurnIZ gg k lo rx) Wq w5 := hR.of_drew
            have HGW := Lib.hid hGw
            have hz5 : lo ≤ w5.heap.size := by rw [← HLO.out]; exact HGW.out.size
            have hgw5 : Grow w w5 := Below.trans HGQ.out (HGW.out.below HGE.out HGQ.out.size)
            have e0 := hgw5.cell C0.out
            have e1 := hgw5.cell C1.out
            have e2 := hgw5.cell C2.out
            have e3 := hgw5.cell C3.out
            have e4 := hgw5.cell D0.out
            have HG5w := Lib.hid hgw5
            clear hgw5
            clear hR hGw
            simp only [depV]
            rintro _ rfl
            intro v10 hv10
            obtain ⟨bq, rfl, hbq, hBq⟩ := hv10
            obtain ⟨v', w', hrun, hT, hO⟩ := append_turnIZ (own_turnIZ HOQ.out HGW.out HRG.out rfl) HRG.out hz5 hBq rfl HG5w.out.size (by omega)
            refine wp_append_headSIZ (s := .tmp 61) (x := .tmp 71) rfl rfl rfl rfl hrun ?_
            exact ⟨rfl, hT, hO⟩
        · intro w5 hR
          have HG5 : Hid ((TurnIZ gg k lo rx) Wq w5) := Lib.hid hR.of_drew
          clear hR
          simp only [finVC, List.take_succ_cons, List.take_zero, List.drop_succ_cons, List.drop_zero]
          rintro _ rfl
          rintro _ rfl
          rintro _ rfl
          rintro _ rfl
          rintro _ rfl
          rintro _ rfl
          rintro _ rfl
          rintro _ rfl
          rintro _ rfl
          rintro _ rfl
          intro v10 hv10
          intro v11 hv11
          simp only [Act.put, List.setIfInBounds_toArray, List.set_cons_succ, List.set_cons_zero]
          obtain ⟨b6, c6, u6, rfl, hown6, he6⟩ := hv11.own (by rw [List.length_map]; exact HRL.out)
          have HGN : Hid (Grow w w5) := Lib.hid (Below.trans HGQ.out (HG5.out.below HGE.out HGQ.out.size))
          have HON : Hid (w5.ownsRow w.heap.size 3 1 (.slice (some ⟨b6, 0, none⟩) (k + 1) c6) (k + 1) ((rs ++ [rx]).map (Value.int .i64))) := Lib.hid (by
            rw [List.map_append]
            rw [show u6 = .int .i64 rx from he6] at hown6
            exact hown6)
          have HLN : Hid ((rs ++ [rx]).length = k + 1) := Lib.hid (by rw [List.length_append, HRL.out]; rfl)
          clear hv10 hv11 hown6 he6 HG5
          go_wp2_with fail
          go_roundw
          case rel => exact ⟨k + 1, rs ++ [rx], some ⟨b6, 0, none⟩, c6, by omega, by go_num, rfl, HLN.out, HGDN.out, HON.out, HGN.out⟩
          case measure => simp [intOf]; omega
    · obtain rfl : k = l.length := by omega
      have hd : decide ((l.length : Int) < (l.length : Int)) = false := decide_eq_false (by omega)
      have HIR := Lib.hid (own_ints HOW.out).1
      have hre : ranksErr l = 0 := HGD.out.err hl3
      have HRK := Lib.hid (ranksApi_any l A cap wr (HPA.out wr HGR.out) HGD.out.short (HGL.out wr HGR.out) (by omega))
      rw [hre] at HRK
      have HRO : Hid (∀ B n w', RanksOut l B n w' → n = l.length ∧ ∃ b, B = some ⟨b, 0, none⟩ ∧ BlockIs w' b 33 (rowC (rankF (rngL l)) n)) := Lib.hid (fun B n w' h => by
        unfold RanksOut at h
        rwa [if_pos hre] at h)
      clear hre HOW hk hk0 hlt
      rename World => ws
      go_wp2_with fail
      refine HRK.out.mono ?_
      rintro e w2 ⟨⟨Rb, n, rfl, HO⟩, hb2⟩
      obtain ⟨rfl, rb, rfl, hrb⟩ := HRO.out _ _ _ HO.out
      have HRB := Lib.hid hrb
      have HG2 : Hid (Grow w w2) := Lib.hid (HGR.out.trans hb2)
      have HI2 : Hid (Ints w2 w2.heap.size A2 rs) := Lib.hid ((HIR.out.below hb2).more (show Grow ws w2 from hb2).size)
      clear hb2 hrb HO HRO HRK HIR HGR hd
      go_wp2_with fail
      go_loopw [9] (fun iv wr => ∃ i : Nat, i ≤ l.length ∧ iv = .int .i64 (i : Nat) ∧ Grow w2 wr) (fun iv _ => l.length - (intOf iv).toNat)
      case atStart => exact ⟨0, Nat.zero_le _, rfl, Grow.refl _⟩
      case round =>
        obtain ⟨i, hi, rfl, hgr⟩ := hrel
        rename World => wr
        have HGR := Lib.hid hgr
        clear hgr
        have hi0 : (0 : Int) ≤ (i : Int) := by omega
        by_cases hli : i < l.length
        · have hd : decide ((i : Int) < (l.length : Int)) = true := decide_eq_true (by omega)
          have hi1 : (i : Int) < (l.length : Int) := by omega
          go_wp2_with fail
          clear hd
          go_loopw [10, 11] (fun cv kv wt => ∃ k : Nat, k ≤ l.length ∧ kv = .int .i64 (k : Nat) ∧ cv = .int .i64 (1 + (aboveTo rs i k : Nat)) ∧ Grow wr wt) (fun _ kv _ => l.length - (intOf kv).toNat)
          case atStart => exact ⟨0, Nat.zero_le _, rfl, rfl, Grow.refl _⟩
          case round =>
            obtain ⟨k, hk, rfl, rfl, hgt⟩ := hrel
            rename World => wt
            have HGT := Lib.hid hgt
            have HGW2 : Hid (Grow w2 wt) := Lib.hid (HGR.out.trans hgt)
            clear hgt
            have hk0 : (0 : Int) ≤ (k : Int) := by omega
            have hab := aboveTo_le rs i k
            by_cases hlk : k < l.length
            · have hd : decide ((k : Int) < (l.length : Int)) = true := decide_eq_true (by omega)
              have hk1 : (k : Int) < (l.length : Int) := by omega
              have hrl := HRL.out
              have hIT : Ints wt wt.heap.size A2 rs := (HI2.out.below HGW2.out).more HGW2.out.size
              obtain ⟨gb, go, rk, e1, _, ck, HXK⟩ := hIT.at_ (k := k) (by omega)
              obtain ⟨_, _, ri, e2, _, ci, HXI⟩ := hIT.at_ (k := i) (by omega)
              rw [e1] at e2
              cases e2
              subst e1
              have CI := Lib.hid ci
              have CK := Lib.hid ck
              have HAS := Lib.hid (aboveTo_succ rs i k HXI.out HXK.out)
              clear hIT ci ck hrl
              go_wp2_with fail
              refine wp_region_lit 9 [[], [], [(0, 99), (1, 100)], [(2, 101)], [], [], [(4, 103), (5, 104)], [(6, 105)], [(3, 102), (7, 106)]] Grow (fun qi v w' => match qi with
                  | 0 => v = .slice (some ⟨gb, go, none⟩) l.length c2
                  | 1 => v = .int .i64 (k : Nat)
                  | 2 => v = .pointer (some ⟨gb, go + k, none⟩)
                  | 3 => v = .int .i64 rk
                  | 4 => v = .slice (some ⟨gb, go, none⟩) l.length c2
                  | 5 => v = .int .i64 (i : Nat)
                  | 6 => v = .pointer (some ⟨gb, go + i, none⟩)
                  | 7 => v = .int .i64 ri
                  | 8 => v = .bool (decide (ri < rk))
                  | _ => False) (by kernel_rfl) (by kernel_rfl) (fun _ _ _ => Grow.trans) Grow.refl ?_ ?_ ?_
              · intro i v y y' h k
                match i, h with
                | 0, h | 1, h | 2, h | 3, h | 4, h | 5, h | 6, h | 7, h | 8, h => exact h
              · simp only [StepsLit, List.take_succ_cons, List.take_zero]
                refine ⟨?_, ?_, ?_, ?_, ?_, ?_, ?_, ?_, ?_, trivial⟩
                · intro w5 hR
                  have hGw : Grow wt w5 := hR.of_drew
                  have HGW := Lib.hid hGw
                  have ci := HGW.out.cell CI.out
                  have ck := HGW.out.cell CK.out
                  clear hR hGw
                  simp only [depV]
                  try go_simp
                  all_goals first
                    | (with_reducible exact Grow.refl _)
                    | (with_reducible exact ⟨Grow.refl _, rfl⟩)
                · intro w5 hR
                  have hGw : Grow wt w5 := hR.of_drew
                  have HGW := Lib.hid hGw
                  have ci := HGW.out.cell CI.out
                  have ck := HGW.out.cell CK.out
                  clear hR hGw
                  simp only [depV]
                  try go_simp
                  all_goals first
                    | (with_reducible exact Grow.refl _)
                    | (with_reducible exact ⟨Grow.refl _, rfl⟩)
                · intro w5 hR
                  have hGw : Grow wt w5 := hR.of_drew
                  have HGW := Lib.hid hGw
                  have ci := HGW.out.cell CI.out
                  have ck := HGW.out.cell CK.out
                  clear hR hGw
                  simp only [depV]
                  rintro _ rfl
                  rintro _ rfl
                  try go_simp
                  all_goals first
                    | (with_reducible exact Grow.refl _)
                    | (with_reducible exact ⟨Grow.refl _, rfl⟩)
                · intro w5 hR
                  have hGw : Grow wt w5 := hR.of_drew
                  have HGW := Lib.hid hGw
                  have ci := HGW.out.cell CI.out
                  have ck := HGW.out.cell CK.out
                  clear hR hGw
                  simp only [depV]
                  rintro _ rfl
                  try go_simp
                  all_goals first
                    | (with_reducible exact Grow.refl _)
                    | (with_reducible exact ⟨Grow.refl _, rfl⟩)
                · intro w5 hR
                  have hGw : Grow wt w5 := hR.of_drew
                  have HGW := Lib.hid hGw
                  have ci := HGW.out.cell CI.out
                  have ck := HGW.out.cell CK.out
                  clear hR hGw
                  simp only [depV]
                  try go_simp
                  all_goals first
                    | (with_reducible exact Grow.refl _)
                    | (with_reducible exact ⟨Grow.refl _, rfl⟩)
                · intro w5 hR
                  have hGw : Grow wt w5 := hR.of_drew
                  have HGW := Lib.hid hGw
                  have ci := HGW.out.cell CI.out
                  have ck := HGW.out.cell CK.out
                  clear hR hGw
                  simp only [depV]
                  try go_simp
                  all_goals first
                    | (with_reducible exact Grow.refl _)
                    | (with_reducible exact ⟨Grow.refl _, rfl⟩)
                · intro w5 hR
                  have hGw : Grow wt w5 := hR.of_drew
                  have HGW := Lib.hid hGw
                  have ci := HGW.out.cell CI.out
                  have ck := HGW.out.cell CK.out
                  clear hR hGw
                  simp only [depV]
                  rintro _ rfl
                  rintro _ rfl
                  try go_simp
                  all_goals first
                    | (with_reducible exact Grow.refl _)
                    | (with_reducible exact ⟨Grow.refl _, rfl⟩)
                · intro w5 hR
                  have hGw : Grow wt w5 := hR.of_drew
                  have HGW := Lib.hid hGw
                  have ci := HGW.out.cell CI.out
                  have ck := HGW.out.cell CK.out
                  clear hR hGw
                  simp only [depV]
                  rintro _ rfl
                  try go_simp
                  all_goals first
                    | (with_reducible exact Grow.refl _)
                    | (with_reducible exact ⟨Grow.refl _, rfl⟩)
                · intro w5 hR
                  have hGw : Grow wt w5 := hR.of_drew
                  have HGW := Lib.hid hGw
                  have ci := HGW.out.cell CI.out
                  have ck := HGW.out.cell CK.out
                  clear hR hGw
                  simp only [depV]
                  rintro _ rfl
                  rintro _ rfl
                  try go_simp
                  all_goals first
                    | (with_reducible exact Grow.refl _)
                    | (with_reducible exact ⟨Grow.refl _, rfl⟩)
              · intro w5 hR
                have HG5 : Hid (Grow wt w5) := Lib.hid hR.of_drew
                clear hR
                simp only [finVC, List.take_succ_cons, List.take_zero, List.drop_succ_cons, List.drop_zero]
                rintro _ rfl
                rintro _ rfl
                rintro _ rfl
                rintro _ rfl
                rintro _ rfl
                rintro _ rfl
                rintro _ rfl
                rintro _ rfl
                rintro _ rfl
                simp only [Act.put, List.setIfInBounds_toArray, List.set_cons_succ, List.set_cons_zero]
                have HGN : Hid (Grow wr w5) := Lib.hid (HGT.out.trans HG5.out)
                have has := HAS.out
                by_cases hgt : ri < rk
                · have hdg : decide (ri < rk) = true := decide_eq_true hgt
                  rw [if_pos hgt] at has
                  have HAN := Lib.hid has
                  clear has
                  go_wp2_with fail
                  go_roundw
                  case rel => exact ⟨k + 1, by omega, by go_num, by rw [HAN.out]; go_num, HGN.out⟩
                  case measure => simp [intOf]; omega
                · have hdg : decide (ri < rk) = false := decide_eq_false hgt
                  rw [if_neg hgt] at has
                  have HAN := Lib.hid has
                  clear has
                  go_wp2_with fail
                  go_roundw
                  case rel => exact ⟨k + 1, by omega, by go_num, by rw [HAN.out]; rfl, HGN.out⟩
                  case measure => simp [intOf]; omega
            · obtain rfl : k = l.length := by omega
              have hd : decide ((l.length : Int) < (l.length : Int)) = false := decide_eq_false (by omega)
              have HRI := Lib.hid (ranked_in HGD.out hli)
              have hp0 := ((HGW2.out.block HRB.out).cell (i * 2)).trans (rowC_lo (rankF (rngL l)) hli)
              have hp1 := ((HGW2.out.block HRB.out).cell (i * 2 + 1)).trans (rowC_hi (rankF (rngL l)) hli)
              have HLE := Lib.hid (fun (k : Nat) (x y : PaperR) (hx : l[i]? = some x) (hy : l[k]? = some y) (h : (rangeV y).2 < (rangeV x).1) => ranked_less HGD.out hx hy h)
              obtain ⟨⟨q1, q2⟩, hq⟩ : ∃ z, rankF (rngL l) i = z := ⟨_, rfl⟩
              have HQ := Lib.hid hq
              rw [hq] at HRI hp0 hp1 HLE
              obtain ⟨ab, hab2⟩ : ∃ z, aboveTo rs i l.length = z := ⟨_, rfl⟩
              rw [hab2] at HRI hab ⊢
              dsimp only at HRI HLE hp0 hp1
              have hri := HRI.out
              have HIN := Lib.hid (fun w0 => inside_yes (n := 1 + (ab : Int)) (a := q1) (b := q2) ⟨hri.1, hri.2.1⟩ w0)
              have hq1 : decide (q1 < 1) = false := decide_eq_false (by omega)
              have hq2 : decide ((l.length : Int) < q2) = false := decide_eq_false (by omega)
              clear hq hab2 hri HRI
              go_wp2_with fail
              refine (HIN.out _).mono ?_
              rintro e w3 ⟨rfl, hb3⟩
              have HG3 : Hid (Grow w2 w3) := Lib.hid (HGW2.out.trans hb3)
              have HG30 : Hid (Grow wr w3) := Lib.hid (HGT.out.trans hb3)
              have hp0 := ((HG3.out.block HRB.out).cell (i * 2)).trans (rowC_lo (rankF (rngL l)) hli)
              have hp1 := ((HG3.out.block HRB.out).cell (i * 2 + 1)).trans (rowC_hi (rankF (rngL l)) hli)
              rw [HQ.out] at hp0 hp1
              dsimp only at hp0 hp1
              clear hb3 HIN
              go_wp2_with fail
              clear hd hp0 hp1 hq1 hq2
              go_loopw [12] (fun kv wt => ∃ k : Nat, k ≤ l.length ∧ kv = .int .i64 (k : Nat) ∧ Grow w3 wt) (fun kv _ => l.length - (intOf kv).toNat)
              case atStart => exact ⟨0, Nat.zero_le _, rfl, Grow.refl _⟩
              case round =>
                obtain ⟨k, hk, rfl, hgt⟩ := hrel
                rename World => w4
                have HG4 : Hid (Grow w2 w4) := Lib.hid (HG3.out.trans hgt)
                have HG40 : Hid (Grow w3 w4) := Lib.hid hgt
                clear hgt
                have hk0 : (0 : Int) ≤ (k : Int) := by omega
                by_cases hlk : k < l.length
                · have hd : decide ((k : Int) < (l.length : Int)) = true := decide_eq_true (by omega)
                  have hk1 : (k : Int) < (l.length : Int) := by omega
                  have HPY := HPA
                  obtain ⟨_, _, y, e2, _, c4, c5, c6, c7, HY⟩ := (HPA.out w (Grow.refl w)).at_ hlk
                  obtain ⟨pb, po, x, rfl, _, c0, c1, c2', c3, HX⟩ := (HPA.out w (Grow.refl w)).at_ hli
                  cases e2
                  have hgx := HGD.out i x hli HX.out
                  have hgy := HGD.out k y hlk HY.out
                  have HRX := Lib.hid (fun (w0 : World) (hw : Grow w w0) => rangeApi_any x w0 ((HPY.out w0 hw).each x (List.mem_of_getElem? HX.out)) hgx.2.2 (HGL.out w0 hw))
                  have HRY := Lib.hid (fun (w0 : World) (hw : Grow w w0) => rangeApi_any y w0 ((HPY.out w0 hw).each y (List.mem_of_getElem? HY.out)) hgy.2.2 (HGL.out w0 hw))
                  rw [hgx.1] at HRX
                  rw [hgy.1] at HRY
                  have HLX := Lib.hid (HLE.out k x y HX.out HY.out)
                  obtain ⟨⟨u1, u2⟩, hu⟩ : ∃ z, rankF (rngL l) k = z := ⟨_, rfl⟩
                  have HU := Lib.hid hu
                  obtain ⟨⟨a1, a2⟩, hxa⟩ : ∃ z, rangeV x = z := ⟨_, rfl⟩
                  obtain ⟨⟨b1, b2⟩, hyb⟩ : ∃ z, rangeV y = z := ⟨_, rfl⟩
                  rw [hxa] at HRX HLX
                  rw [hyb] at HRY HLX
                  rw [hu] at HLX
                  dsimp only at HLX
                  have C0 := Lib.hid c0
                  have C1 := Lib.hid c1
                  have C2 := Lib.hid c2'
                  have C3 := Lib.hid c3
                  have C4 := Lib.hid c4
                  have C5 := Lib.hid c5
                  have C6 := Lib.hid c6
                  have C7 := Lib.hid c7
                  have HGX : Hid (Grow w w4) := Lib.hid (HG2.out.trans HG4.out)
                  have c0 := HGX.out.cell C0.out
                  have c1 := HGX.out.cell C1.out
                  have c2' := HGX.out.cell C2.out
                  have c3 := HGX.out.cell C3.out
                  clear c4 c5 c6 c7 hgx hgy hu hxa hyb HPY
                  go_wp2_with fail
                  refine (HRX.out _ HGX.out).mono ?_
                  rintro e w5 ⟨rfl, hb5⟩
                  have HG5 : Hid (Grow w4 w5) := Lib.hid hb5
                  clear hb5 c0 c1 c2' c3
                  go_upto_region 28 with fail
                  obtain ⟨w6, hw6, hg6, hf6, hs6⟩ := one_block w5 33 #[.int .i64 a1, .int .i64 a2]
                  rw [show w5.alloc (.cells #[.int .i64 a1, .int .i64 a2] 33) = w6 from hw6]
                  clear hw6
                  obtain ⟨sa, hsa⟩ : ∃ z, w5.heap.size = z := ⟨_, rfl⟩
                  rw [hsa] at hf6 hs6 ⊢
                  have HSA6 := Lib.hid hf6
                  have HG6 : Hid (Grow w4 w6) := Lib.hid (HG5.out.trans hg6)
                  have HGY : Hid (Grow w w6) := Lib.hid (HGX.out.trans HG6.out)
                  clear hf6 hg6 hsa HG5
                  have c4 := HGY.out.cell C4.out
                  have c5 := HGY.out.cell C5.out
                  have c6 := HGY.out.cell C6.out
                  have c7 := HGY.out.cell C7.out
                  go_wp2_with fail
                  refine (HRY.out _ HGY.out).mono ?_
                  rintro e w7 ⟨rfl, hb7⟩
                  have HG7 : Hid (Grow w4 w7) := Lib.hid (HG6.out.trans hb7)
                  have HSA7 := Lib.hid ((show Grow w6 w7 from hb7).block HSA6.out)
                  clear hb7 c4 c5 c6 c7 HSA6 HG6
                  go_upto_region 29 with fail
                  obtain ⟨w8, hw8, hg8, hf8, hs8⟩ := one_block w7 33 #[.int .i64 b1, .int .i64 b2]
                  rw [show w7.alloc (.cells #[.int .i64 b1, .int .i64 b2] 33) = w8 from hw8]
                  clear hw8
                  obtain ⟨sb, hsb⟩ : ∃ z, w7.heap.size = z := ⟨_, rfl⟩
                  rw [hsb] at hf8 hs8 ⊢
                  have HSB8 := Lib.hid hf8
                  have HSA8 := Lib.hid (hg8.block HSA7.out)
                  have HG8 : Hid (Grow w4 w8) := Lib.hid (HG7.out.trans hg8)
                  have HG80 : Hid (Grow w3 w8) := Lib.hid (HG40.out.trans HG8.out)
                  have HRB8 := Lib.hid ((HG4.out.trans HG8.out).block HRB.out)
                  clear hf8 hg8 hsb HSA7 HG7
                  by_cases hc : b2 < a1
                  · have hdc : decide (b2 < a1) = true := decide_eq_true hc
                    have hlx := HLX.out hc
                    have hg1 : decide (u1 ≤ q1) = false := decide_eq_false (by omega)
                    have hg2 : decide (u2 ≤ q2) = false := decide_eq_false (by omega)
                    refine wp_region_lit 39 [[], [(0, 157)], [(1, 158)], [(2, 159)], [(2, 159), (3, 160)], [(2, 159), (4, 161)], [(5, 162)], [(6, 163)], [(6, 163), (7, 164)], [(6, 163)], [(6, 163), (9, 166)], [(6, 163), (8, 165), (10, 167)], [(6, 163), (11, 168)], [(12, 169)], [(12, 169)], [(12, 169), (13, 170), (14, 171)], [(12, 169), (15, 172)], [(12, 169), (16, 173)], [(12, 169)], [(12, 169)], [(12, 169), (18, 175), (19, 176)], [(12, 169), (20, 177)], [(12, 169), (21, 178)], [(12, 169), (17, 174), (22, 179)], [(12, 169), (23, 180)], [(24, 181)], [(24, 181)], [(24, 181), (25, 182), (26, 183)], [(24, 181), (27, 184)], [(24, 181), (28, 185)], [(24, 181)], [(24, 181)], [(24, 181), (30, 187), (31, 188)], [(24, 181), (32, 189)], [(24, 181), (33, 190)], [(24, 181), (29, 186), (34, 191)], [(12, 169), (24, 181), (35, 192)], [(6, 163), (12, 169), (36, 193)], [(6, 163), (37, 194)]] Grow (fun qi v w' => match qi with
                        | 0 => v = .int .i64 0
                        | 1 => v = .bool false
                        | 2 => v = .bool false
                        | 3 => v = .int .i64 0
                        | 4 => v = .bool false
                        | 5 => v = .bool false
                        | 6 => v = .bool false
                        | 7 => v = .pointer (some ⟨sa, 0, none⟩)
                        | 8 => v = .int .i64 a1
                        | 9 => v = .pointer (some ⟨sb, 1, none⟩)
                        | 10 => v = .int .i64 b2
                        | 11 => v = .bool true
                        | 12 => v = .bool true
                        | 13 => v = .slice (some ⟨rb, 0, none⟩) l.length l.length
                        | 14 => v = .int .i64 (i : Nat)
                        | 15 => v = .pointer (some ⟨rb, i * 2, none⟩)
                        | 16 => v = .pointer (some ⟨rb, i * 2, none⟩)
                        | 17 => v = .int .i64 q1
                        | 18 => v = .slice (some ⟨rb, 0, none⟩) l.length l.length
                        | 19 => v = .int .i64 (k : Nat)
                        | 20 => v = .pointer (some ⟨rb, k * 2, none⟩)
                        | 21 => v = .pointer (some ⟨rb, k * 2, none⟩)
                        | 22 => v = .int .i64 u1
                        | 23 => v = .bool false
                        | 24 => v = .bool false
                        | 25 => v = .slice (some ⟨rb, 0, none⟩) l.length l.length
                        | 26 => v = .int .i64 (i : Nat)
                        | 27 => v = .pointer (some ⟨rb, i * 2, none⟩)
                        | 28 => v = .pointer (some ⟨rb, i * 2 + 1, none⟩)
                        | 29 => v = .int .i64 q2
                        | 30 => v = .slice (some ⟨rb, 0, none⟩) l.length l.length
                        | 31 => v = .int .i64 (k : Nat)
                        | 32 => v = .pointer (some ⟨rb, k * 2, none⟩)
                        | 33 => v = .pointer (some ⟨rb, k * 2 + 1, none⟩)
                        | 34 => v = .int .i64 u2
                        | 35 => v = .bool false
                        | 36 => v = .bool false
                        | 37 => v = .bool false
                        | 38 => v = .bool false
                        | _ => False) (by kernel_rfl) (by kernel_rfl) (fun _ _ _ => Grow.trans) Grow.refl ?_ ?_ ?_
                    · intro i v y y' h k
                      match i, h with
                      | 0, h | 1, h | 2, h | 3, h | 4, h | 5, h | 6, h | 7, h | 8, h | 9, h | 10, h | 11, h | 12, h | 13, h | 14, h | 15, h | 16, h | 17, h | 18, h | 19, h | 20, h | 21, h | 22, h | 23, h | 24, h | 25, h | 26, h | 27, h | 28, h | 29, h | 30, h | 31, h | 32, h | 33, h | 34, h | 35, h | 36, h | 37, h | 38, h => exact h
                    · simp only [StepsLit, List.take_succ_cons, List.take_zero]
                      refine ⟨?_, ?_, ?_, ?_, ?_, ?_, ?_, ?_, ?_, ?_, ?_, ?_, ?_, ?_, ?_, ?_, ?_, ?_, ?_, ?_, ?_, ?_, ?_, ?_, ?_, ?_, ?_, ?_, ?_, ?_, ?_, ?_, ?_, ?_, ?_, ?_, ?_, ?_, ?_, trivial⟩
                      · intro w5 hR
                        have hGw : Grow w8 w5 := hR.of_drew
                        have HGW := Lib.hid hGw
                        have sac := (HGW.out.block HSA8.out).cell
                        have sbc := (HGW.out.block HSB8.out).cell
                        have hp0 := ((HGW.out.block HRB8.out).cell (i * 2)).trans (rowC_lo (rankF (rngL l)) hli)
                        have hp1 := ((HGW.out.block HRB8.out).cell (i * 2 + 1)).trans (rowC_hi (rankF (rngL l)) hli)
                        have ho0 := ((HGW.out.block HRB8.out).cell (k * 2)).trans (rowC_lo (rankF (rngL l)) hlk)
                        have ho1 := ((HGW.out.block HRB8.out).cell (k * 2 + 1)).trans (rowC_hi (rankF (rngL l)) hlk)
                        rw [HQ.out] at hp0 hp1
                        rw [HU.out] at ho0 ho1
                        dsimp only at hp0 hp1 ho0 ho1
                        clear hR hGw
                        simp only [depV]
                        try go_simp
                        all_goals first
                          | (with_reducible exact Grow.refl _)
                          | (with_reducible exact ⟨Grow.refl _, rfl⟩)
                      · intro w5 hR
                        have hGw : Grow w8 w5 := hR.of_drew
                        have HGW := Lib.hid hGw
                        have sac := (HGW.out.block HSA8.out).cell
                        have sbc := (HGW.out.block HSB8.out).cell
                        have hp0 := ((HGW.out.block HRB8.out).cell (i * 2)).trans (rowC_lo (rankF (rngL l)) hli)
                        have hp1 := ((HGW.out.block HRB8.out).cell (i * 2 + 1)).trans (rowC_hi (rankF (rngL l)) hli)
                        have ho0 := ((HGW.out.block HRB8.out).cell (k * 2)).trans (rowC_lo (rankF (rngL l)) hlk)
                        have ho1 := ((HGW.out.block HRB8.out).cell (k * 2 + 1)).trans (rowC_hi (rankF (rngL l)) hlk)
                        rw [HQ.out] at hp0 hp1
                        rw [HU.out] at ho0 ho1
                        dsimp only at hp0 hp1 ho0 ho1
                        clear hR hGw
                        simp only [depV]
                        rintro _ rfl
                        try go_simp
                        all_goals first
                          | (with_reducible exact Grow.refl _)
                          | (with_reducible exact ⟨Grow.refl _, rfl⟩)
                      · intro w5 hR
                        have hGw : Grow w8 w5 := hR.of_drew
                        have HGW := Lib.hid hGw
                        have sac := (HGW.out.block HSA8.out).cell
                        have sbc := (HGW.out.block HSB8.out).cell
                        have hp0 := ((HGW.out.block HRB8.out).cell (i * 2)).trans (rowC_lo (rankF (rngL l)) hli)
                        have hp1 := ((HGW.out.block HRB8.out).cell (i * 2 + 1)).trans (rowC_hi (rankF (rngL l)) hli)
                        have ho0 := ((HGW.out.block HRB8.out).cell (k * 2)).trans (rowC_lo (rankF (rngL l)) hlk)
                        have ho1 := ((HGW.out.block HRB8.out).cell (k * 2 + 1)).trans (rowC_hi (rankF (rngL l)) hlk)
                        rw [HQ.out] at hp0 hp1
                        rw [HU.out] at ho0 ho1
                        dsimp only at hp0 hp1 ho0 ho1
                        clear hR hGw
                        simp only [depV]
                        rintro _ rfl
                        try go_simp
                        all_goals first
                          | (with_reducible exact Grow.refl _)
                          | (with_reducible exact ⟨Grow.refl _, rfl⟩)
                      · intro w5 hR
                        have hGw : Grow w8 w5 := hR.of_drew
                        have HGW := Lib.hid hGw
                        have sac := (HGW.out.block HSA8.out).cell
                        have sbc := (HGW.out.block HSB8.out).cell
                        have hp0 := ((HGW.out.block HRB8.out).cell (i * 2)).trans (rowC_lo (rankF (rngL l)) hli)
                        have hp1 := ((HGW.out.block HRB8.out).cell (i * 2 + 1)).trans (rowC_hi (rankF (rngL l)) hli)
                        have ho0 := ((HGW.out.block HRB8.out).cell (k * 2)).trans (rowC_lo (rankF (rngL l)) hlk)
                        have ho1 := ((HGW.out.block HRB8.out).cell (k * 2 + 1)).trans (rowC_hi (rankF (rngL l)) hlk)
                        rw [HQ.out] at hp0 hp1
                        rw [HU.out] at ho0 ho1
                        dsimp only at hp0 hp1 ho0 ho1
                        clear hR hGw
                        simp only [depV]
                        rintro _ rfl
                        try go_simp
                        all_goals first
                          | (with_reducible exact Grow.refl _)
                          | (with_reducible exact ⟨Grow.refl _, rfl⟩)
                      · intro w5 hR
                        have hGw : Grow w8 w5 := hR.of_drew
                        have HGW := Lib.hid hGw
                        have sac := (HGW.out.block HSA8.out).cell
                        have sbc := (HGW.out.block HSB8.out).cell
                        have hp0 := ((HGW.out.block HRB8.out).cell (i * 2)).trans (rowC_lo (rankF (rngL l)) hli)
                        have hp1 := ((HGW.out.block HRB8.out).cell (i * 2 + 1)).trans (rowC_hi (rankF (rngL l)) hli)
                        have ho0 := ((HGW.out.block HRB8.out).cell (k * 2)).trans (rowC_lo (rankF (rngL l)) hlk)
                        have ho1 := ((HGW.out.block HRB8.out).cell (k * 2 + 1)).trans (rowC_hi (rankF (rngL l)) hlk)
                        rw [HQ.out] at hp0 hp1
                        rw [HU.out] at ho0 ho1
                        dsimp only at hp0 hp1 ho0 ho1
                        clear hR hGw
                        simp only [depV]
                        rintro _ rfl
                        rintro _ rfl
                        try go_simp
                        all_goals first
                          | (with_reducible exact Grow.refl _)
                          | (with_reducible exact ⟨Grow.refl _, rfl⟩)
                      · intro w5 hR
                        have hGw : Grow w8 w5 := hR.of_drew
                        have HGW := Lib.hid hGw
                        have sac := (HGW.out.block HSA8.out).cell
                        have sbc := (HGW.out.block HSB8.out).cell
                        have hp0 := ((HGW.out.block HRB8.out).cell (i * 2)).trans (rowC_lo (rankF (rngL l)) hli)
                        have hp1 := ((HGW.out.block HRB8.out).cell (i * 2 + 1)).trans (rowC_hi (rankF (rngL l)) hli)
                        have ho0 := ((HGW.out.block HRB8.out).cell (k * 2)).trans (rowC_lo (rankF (rngL l)) hlk)
                        have ho1 := ((HGW.out.block HRB8.out).cell (k * 2 + 1)).trans (rowC_hi (rankF (rngL l)) hlk)
                        rw [HQ.out] at hp0 hp1
                        rw [HU.out] at ho0 ho1
                        dsimp only at hp0 hp1 ho0 ho1
                        clear hR hGw
                        simp only [depV]
                        rintro _ rfl
                        rintro _ rfl
                        try go_simp
                        all_goals first
                          | (with_reducible exact Grow.refl _)
                          | (with_reducible exact ⟨Grow.refl _, rfl⟩)
                      · intro w5 hR
                        have hGw : Grow w8 w5 := hR.of_drew
                        have HGW := Lib.hid hGw
                        have sac := (HGW.out.block HSA8.out).cell
                        have sbc := (HGW.out.block HSB8.out).cell
                        have hp0 := ((HGW.out.block HRB8.out).cell (i * 2)).trans (rowC_lo (rankF (rngL l)) hli)
                        have hp1 := ((HGW.out.block HRB8.out).cell (i * 2 + 1)).trans (rowC_hi (rankF (rngL l)) hli)
                        have ho0 := ((HGW.out.block HRB8.out).cell (k * 2)).trans (rowC_lo (rankF (rngL l)) hlk)
                        have ho1 := ((HGW.out.block HRB8.out).cell (k * 2 + 1)).trans (rowC_hi (rankF (rngL l)) hlk)
                        rw [HQ.out] at hp0 hp1
                        rw [HU.out] at ho0 ho1
                        dsimp only at hp0 hp1 ho0 ho1
                        clear hR hGw
                        simp only [depV]
                        rintro _ rfl
                        try go_simp
                        all_goals first
                          | (with_reducible exact Grow.refl _)
                          | (with_reducible exact ⟨Grow.refl _, rfl⟩)
                      · intro w5 hR
                        have hGw : Grow w8 w5 := hR.of_drew
                        have HGW := Lib.hid hGw
                        have sac := (HGW.out.block HSA8.out).cell
                        have sbc := (HGW.out.block HSB8.out).cell
                        have hp0 := ((HGW.out.block HRB8.out).cell (i * 2)).trans (rowC_lo (rankF (rngL l)) hli)
                        have hp1 := ((HGW.out.block HRB8.out).cell (i * 2 + 1)).trans (rowC_hi (rankF (rngL l)) hli)
                        have ho0 := ((HGW.out.block HRB8.out).cell (k * 2)).trans (rowC_lo (rankF (rngL l)) hlk)
                        have ho1 := ((HGW.out.block HRB8.out).cell (k * 2 + 1)).trans (rowC_hi (rankF (rngL l)) hlk)
                        rw [HQ.out] at hp0 hp1
                        rw [HU.out] at ho0 ho1
                        dsimp only at hp0 hp1 ho0 ho1
                        clear hR hGw
                        simp only [depV]
                        rintro _ rfl
                        try go_simp
                        all_goals first
                          | (with_reducible exact Grow.refl _)
                          | (with_reducible exact ⟨Grow.refl _, rfl⟩)
                      · intro w5 hR
                        have hGw : Grow w8 w5 := hR.of_drew
                        have HGW := Lib.hid hGw
                        have sac := (HGW.out.block HSA8.out).cell
                        have sbc := (HGW.out.block HSB8.out).cell
                        have hp0 := ((HGW.out.block HRB8.out).cell (i * 2)).trans (rowC_lo (rankF (rngL l)) hli)
                        have hp1 := ((HGW.out.block HRB8.out).cell (i * 2 + 1)).trans (rowC_hi (rankF (rngL l)) hli)
                        have ho0 := ((HGW.out.block HRB8.out).cell (k * 2)).trans (rowC_lo (rankF (rngL l)) hlk)
                        have ho1 := ((HGW.out.block HRB8.out).cell (k * 2 + 1)).trans (rowC_hi (rankF (rngL l)) hlk)
                        rw [HQ.out] at hp0 hp1
                        rw [HU.out] at ho0 ho1
                        dsimp only at hp0 hp1 ho0 ho1
                        clear hR hGw
                        simp only [depV]
                        rintro _ rfl
                        rintro _ rfl
                        try go_simp
                        all_goals first
                          | (with_reducible exact Grow.refl _)
                          | (with_reducible exact ⟨Grow.refl _, rfl⟩)
                      · intro w5 hR
                        have hGw : Grow w8 w5 := hR.of_drew
                        have HGW := Lib.hid hGw
                        have sac := (HGW.out.block HSA8.out).cell
                        have sbc := (HGW.out.block HSB8.out).cell
                        have hp0 := ((HGW.out.block HRB8.out).cell (i * 2)).trans (rowC_lo (rankF (rngL l)) hli)
                        have hp1 := ((HGW.out.block HRB8.out).cell (i * 2 + 1)).trans (rowC_hi (rankF (rngL l)) hli)
                        have ho0 := ((HGW.out.block HRB8.out).cell (k * 2)).trans (rowC_lo (rankF (rngL l)) hlk)
                        have ho1 := ((HGW.out.block HRB8.out).cell (k * 2 + 1)).trans (rowC_hi (rankF (rngL l)) hlk)
                        rw [HQ.out] at hp0 hp1
                        rw [HU.out] at ho0 ho1
                        dsimp only at hp0 hp1 ho0 ho1
                        clear hR hGw
                        simp only [depV]
                        rintro _ rfl
                        try go_simp
                        all_goals first
                          | (with_reducible exact Grow.refl _)
                          | (with_reducible exact ⟨Grow.refl _, rfl⟩)
                      · intro w5 hR
                        have hGw : Grow w8 w5 := hR.of_drew
                        have HGW := Lib.hid hGw
                        have sac := (HGW.out.block HSA8.out).cell
                        have sbc := (HGW.out.block HSB8.out).cell
                        have hp0 := ((HGW.out.block HRB8.out).cell (i * 2)).trans (rowC_lo (rankF (rngL l)) hli)
                        have hp1 := ((HGW.out.block HRB8.out).cell (i * 2 + 1)).trans (rowC_hi (rankF (rngL l)) hli)
                        have ho0 := ((HGW.out.block HRB8.out).cell (k * 2)).trans (rowC_lo (rankF (rngL l)) hlk)
                        have ho1 := ((HGW.out.block HRB8.out).cell (k * 2 + 1)).trans (rowC_hi (rankF (rngL l)) hlk)
                        rw [HQ.out] at hp0 hp1
                        rw [HU.out] at ho0 ho1
                        dsimp only at hp0 hp1 ho0 ho1
                        clear hR hGw
                        simp only [depV]
                        rintro _ rfl
                        rintro _ rfl
                        try go_simp
                        all_goals first
                          | (with_reducible exact Grow.refl _)
                          | (with_reducible exact ⟨Grow.refl _, rfl⟩)
                      · intro w5 hR
                        have hGw : Grow w8 w5 := hR.of_drew
                        have HGW := Lib.hid hGw
                        have sac := (HGW.out.block HSA8.out).cell
                        have sbc := (HGW.out.block HSB8.out).cell
                        have hp0 := ((HGW.out.block HRB8.out).cell (i * 2)).trans (rowC_lo (rankF (rngL l)) hli)
                        have hp1 := ((HGW.out.block HRB8.out).cell (i * 2 + 1)).trans (rowC_hi (rankF (rngL l)) hli)
                        have ho0 := ((HGW.out.block HRB8.out).cell (k * 2)).trans (rowC_lo (rankF (rngL l)) hlk)
                        have ho1 := ((HGW.out.block HRB8.out).cell (k * 2 + 1)).trans (rowC_hi (rankF (rngL l)) hlk)
                        rw [HQ.out] at hp0 hp1
                        rw [HU.out] at ho0 ho1
                        dsimp only at hp0 hp1 ho0 ho1
                        clear hR hGw
                        simp only [depV]
                        rintro _ rfl
                        rintro _ rfl
                        rintro _ rfl
                        try go_simp
                        all_goals first
                          | (with_reducible exact Grow.refl _)
                          | (with_reducible exact ⟨Grow.refl _, rfl⟩)
                      · intro w5 hR
                        have hGw : Grow w8 w5 := hR.of_drew
                        have HGW := Lib.hid hGw
                        have sac := (HGW.out.block HSA8.out).cell
                        have sbc := (HGW.out.block HSB8.out).cell
                        have hp0 := ((HGW.out.block HRB8.out).cell (i * 2)).trans (rowC_lo (rankF (rngL l)) hli)
                        have hp1 := ((HGW.out.block HRB8.out).cell (i * 2 + 1)).trans (rowC_hi (rankF (rngL l)) hli)
                        have ho0 := ((HGW.out.block HRB8.out).cell (k * 2)).trans (rowC_lo (rankF (rngL l)) hlk)
                        have ho1 := ((HGW.out.block HRB8.out).cell (k * 2 + 1)).trans (rowC_hi (rankF (rngL l)) hlk)
                        rw [HQ.out] at hp0 hp1
                        rw [HU.out] at ho0 ho1
                        dsimp only at hp0 hp1 ho0 ho1
                        clear hR hGw
                        simp only [depV]
                        rintro _ rfl
                        rintro _ rfl
                        try go_simp
                        all_goals first
                          | (with_reducible exact Grow.refl _)
                          | (with_reducible exact ⟨Grow.refl _, rfl⟩)
                      · intro w5 hR
                        have hGw : Grow w8 w5 := hR.of_drew
                        have HGW := Lib.hid hGw
                        have sac := (HGW.out.block HSA8.out).cell
                        have sbc := (HGW.out.block HSB8.out).cell
                        have hp0 := ((HGW.out.block HRB8.out).cell (i * 2)).trans (rowC_lo (rankF (rngL l)) hli)
                        have hp1 := ((HGW.out.block HRB8.out).cell (i * 2 + 1)).trans (rowC_hi (rankF (rngL l)) hli)
                        have ho0 := ((HGW.out.block HRB8.out).cell (k * 2)).trans (rowC_lo (rankF (rngL l)) hlk)
                        have ho1 := ((HGW.out.block HRB8.out).cell (k * 2 + 1)).trans (rowC_hi (rankF (rngL l)) hlk)
                        rw [HQ.out] at hp0 hp1
                        rw [HU.out] at ho0 ho1
                        dsimp only at hp0 hp1 ho0 ho1
                        clear hR hGw
                        simp only [depV]
                        rintro _ rfl
                        try go_simp
                        all_goals first
                          | (with_reducible exact Grow.refl _)
                          | (with_reducible exact ⟨Grow.refl _, rfl⟩)
                      · intro w5 hR
                        have hGw : Grow w8 w5 := hR.of_drew
                        have HGW := Lib.hid hGw
                        have sac := (HGW.out.block HSA8.out).cell
                        have sbc := (HGW.out.block HSB8.out).cell
                        have hp0 := ((HGW.out.block HRB8.out).cell (i * 2)).trans (rowC_lo (rankF (rngL l)) hli)
                        have hp1 := ((HGW.out.block HRB8.out).cell (i * 2 + 1)).trans (rowC_hi (rankF (rngL l)) hli)
                        have ho0 := ((HGW.out.block HRB8.out).cell (k * 2)).trans (rowC_lo (rankF (rngL l)) hlk)
                        have ho1 := ((HGW.out.block HRB8.out).cell (k * 2 + 1)).trans (rowC_hi (rankF (rngL l)) hlk)
                        rw [HQ.out] at hp0 hp1
                        rw [HU.out] at ho0 ho1
                        dsimp only at hp0 hp1 ho0 ho1
                        clear hR hGw
                        simp only [depV]
                        rintro _ rfl
                        try go_simp
                        all_goals first
                          | (with_reducible exact Grow.refl _)
                          | (with_reducible exact ⟨Grow.refl _, rfl⟩)
                      · intro w5 hR
                        have hGw : Grow w8 w5 := hR.of_drew
                        have HGW := Lib.hid hGw
                        have sac := (HGW.out.block HSA8.out).cell
                        have sbc := (HGW.out.block HSB8.out).cell
                        have hp0 := ((HGW.out.block HRB8.out).cell (i * 2)).trans (rowC_lo (rankF (rngL l)) hli)
                        have hp1 := ((HGW.out.block HRB8.out).cell (i * 2 + 1)).trans (rowC_hi (rankF (rngL l)) hli)
                        have ho0 := ((HGW.out.block HRB8.out).cell (k * 2)).trans (rowC_lo (rankF (rngL l)) hlk)
                        have ho1 := ((HGW.out.block HRB8.out).cell (k * 2 + 1)).trans (rowC_hi (rankF (rngL l)) hlk)
                        rw [HQ.out] at hp0 hp1
                        rw [HU.out] at ho0 ho1
                        dsimp only at hp0 hp1 ho0 ho1
                        clear hR hGw
                        simp only [depV]
                        rintro _ rfl
                        rintro _ rfl
                        rintro _ rfl
                        try go_simp
                        all_goals first
                          | (with_reducible exact Grow.refl _)
                          | (with_reducible exact ⟨Grow.refl _, rfl⟩)
                      · intro w5 hR
                        have hGw : Grow w8 w5 := hR.of_drew
                        have HGW := Lib.hid hGw
                        have sac := (HGW.out.block HSA8.out).cell
                        have sbc := (HGW.out.block HSB8.out).cell
                        have hp0 := ((HGW.out.block HRB8.out).cell (i * 2)).trans (rowC_lo (rankF (rngL l)) hli)
                        have hp1 := ((HGW.out.block HRB8.out).cell (i * 2 + 1)).trans (rowC_hi (rankF (rngL l)) hli)
                        have ho0 := ((HGW.out.block HRB8.out).cell (k * 2)).trans (rowC_lo (rankF (rngL l)) hlk)
                        have ho1 := ((HGW.out.block HRB8.out).cell (k * 2 + 1)).trans (rowC_hi (rankF (rngL l)) hlk)
                        rw [HQ.out] at hp0 hp1
                        rw [HU.out] at ho0 ho1
                        dsimp only at hp0 hp1 ho0 ho1
                        clear hR hGw
                        simp only [depV]
                        rintro _ rfl
                        rintro _ rfl
                        try go_simp
                        all_goals first
                          | (with_reducible exact Grow.refl _)
                          | (with_reducible exact ⟨Grow.refl _, rfl⟩)
                      · intro w5 hR
                        have hGw : Grow w8 w5 := hR.of_drew
                        have HGW := Lib.hid hGw
                        have sac := (HGW.out.block HSA8.out).cell
                        have sbc := (HGW.out.block HSB8.out).cell
                        have hp0 := ((HGW.out.block HRB8.out).cell (i * 2)).trans (rowC_lo (rankF (rngL l)) hli)
                        have hp1 := ((HGW.out.block HRB8.out).cell (i * 2 + 1)).trans (rowC_hi (rankF (rngL l)) hli)
                        have ho0 := ((HGW.out.block HRB8.out).cell (k * 2)).trans (rowC_lo (rankF (rngL l)) hlk)
                        have ho1 := ((HGW.out.block HRB8.out).cell (k * 2 + 1)).trans (rowC_hi (rankF (rngL l)) hlk)
                        rw [HQ.out] at hp0 hp1
                        rw [HU.out] at ho0 ho1
                        dsimp only at hp0 hp1 ho0 ho1
                        clear hR hGw
                        simp only [depV]
                        rintro _ rfl
                        rintro _ rfl
                        try go_simp
                        all_goals first
                          | (with_reducible exact Grow.refl _)
                          | (with_reducible exact ⟨Grow.refl _, rfl⟩)
                      · intro w5 hR
                        have hGw : Grow w8 w5 := hR.of_drew
                        have HGW := Lib.hid hGw
                        have sac := (HGW.out.block HSA8.out).cell
                        have sbc := (HGW.out.block HSB8.out).cell
                        have hp0 := ((HGW.out.block HRB8.out).cell (i * 2)).trans (rowC_lo (rankF (rngL l)) hli)
                        have hp1 := ((HGW.out.block HRB8.out).cell (i * 2 + 1)).trans (rowC_hi (rankF (rngL l)) hli)
                        have ho0 := ((HGW.out.block HRB8.out).cell (k * 2)).trans (rowC_lo (rankF (rngL l)) hlk)
                        have ho1 := ((HGW.out.block HRB8.out).cell (k * 2 + 1)).trans (rowC_hi (rankF (rngL l)) hlk)
                        rw [HQ.out] at hp0 hp1
                        rw [HU.out] at ho0 ho1
                        dsimp only at hp0 hp1 ho0 ho1
                        clear hR hGw
                        simp only [depV]
                        rintro _ rfl
                        try go_simp
                        all_goals first
                          | (with_reducible exact Grow.refl _)
                          | (with_reducible exact ⟨Grow.refl _, rfl⟩)
                      · intro w5 hR
                        have hGw : Grow w8 w5 := hR.of_drew
                        have HGW := Lib.hid hGw
                        have sac := (HGW.out.block HSA8.out).cell
                        have sbc := (HGW.out.block HSB8.out).cell
                        have hp0 := ((HGW.out.block HRB8.out).cell (i * 2)).trans (rowC_lo (rankF (rngL l)) hli)
                        have hp1 := ((HGW.out.block HRB8.out).cell (i * 2 + 1)).trans (rowC_hi (rankF (rngL l)) hli)
                        have ho0 := ((HGW.out.block HRB8.out).cell (k * 2)).trans (rowC_lo (rankF (rngL l)) hlk)
                        have ho1 := ((HGW.out.block HRB8.out).cell (k * 2 + 1)).trans (rowC_hi (rankF (rngL l)) hlk)
                        rw [HQ.out] at hp0 hp1
                        rw [HU.out] at ho0 ho1
                        dsimp only at hp0 hp1 ho0 ho1
                        clear hR hGw
                        simp only [depV]
                        rintro _ rfl
                        try go_simp
                        all_goals first
                          | (with_reducible exact Grow.refl _)
                          | (with_reducible exact ⟨Grow.refl _, rfl⟩)
                      · intro w5 hR
                        have hGw : Grow w8 w5 := hR.of_drew
                        have HGW := Lib.hid hGw
                        have sac := (HGW.out.block HSA8.out).cell
                        have sbc := (HGW.out.block HSB8.out).cell
                        have hp0 := ((HGW.out.block HRB8.out).cell (i * 2)).trans (rowC_lo (rankF (rngL l)) hli)
                        have hp1 := ((HGW.out.block HRB8.out).cell (i * 2 + 1)).trans (rowC_hi (rankF (rngL l)) hli)
                        have ho0 := ((HGW.out.block HRB8.out).cell (k * 2)).trans (rowC_lo (rankF (rngL l)) hlk)
                        have ho1 := ((HGW.out.block HRB8.out).cell (k * 2 + 1)).trans (rowC_hi (rankF (rngL l)) hlk)
                        rw [HQ.out] at hp0 hp1
                        rw [HU.out] at ho0 ho1
                        dsimp only at hp0 hp1 ho0 ho1
                        clear hR hGw
                        simp only [depV]
                        rintro _ rfl
                        rintro _ rfl
                        rintro _ rfl
                        try go_simp
                        all_goals first
                          | (with_reducible exact Grow.refl _)
                          | (with_reducible exact ⟨Grow.refl _, rfl⟩)
                      · intro w5 hR
                        have hGw : Grow w8 w5 := hR.of_drew
                        have HGW := Lib.hid hGw
                        have sac := (HGW.out.block HSA8.out).cell
                        have sbc := (HGW.out.block HSB8.out).cell
                        have hp0 := ((HGW.out.block HRB8.out).cell (i * 2)).trans (rowC_lo (rankF (rngL l)) hli)
                        have hp1 := ((HGW.out.block HRB8.out).cell (i * 2 + 1)).trans (rowC_hi (rankF (rngL l)) hli)
                        have ho0 := ((HGW.out.block HRB8.out).cell (k * 2)).trans (rowC_lo (rankF (rngL l)) hlk)
                        have ho1 := ((HGW.out.block HRB8.out).cell (k * 2 + 1)).trans (rowC_hi (rankF (rngL l)) hlk)
                        rw [HQ.out] at hp0 hp1
                        rw [HU.out] at ho0 ho1
                        dsimp only at hp0 hp1 ho0 ho1
                        clear hR hGw
                        simp only [depV]
                        rintro _ rfl
                        rintro _ rfl
                        try go_simp
                        all_goals first
                          | (with_reducible exact Grow.refl _)
                          | (with_reducible exact ⟨Grow.refl _, rfl⟩)
                      · intro w5 hR
                        have hGw : Grow w8 w5 := hR.of_drew
                        have HGW := Lib.hid hGw
                        have sac := (HGW.out.block HSA8.out).cell
                        have sbc := (HGW.out.block HSB8.out).cell
                        have hp0 := ((HGW.out.block HRB8.out).cell (i * 2)).trans (rowC_lo (rankF (rngL l)) hli)
                        have hp1 := ((HGW.out.block HRB8.out).cell (i * 2 + 1)).trans (rowC_hi (rankF (rngL l)) hli)
                        have ho0 := ((HGW.out.block HRB8.out).cell (k * 2)).trans (rowC_lo (rankF (rngL l)) hlk)
                        have ho1 := ((HGW.out.block HRB8.out).cell (k * 2 + 1)).trans (rowC_hi (rankF (rngL l)) hlk)
                        rw [HQ.out] at hp0 hp1
                        rw [HU.out] at ho0 ho1
                        dsimp only at hp0 hp1 ho0 ho1
                        clear hR hGw
                        simp only [depV]
                        rintro _ rfl
                        rintro _ rfl
                        try go_simp
                        all_goals first
                          | (with_reducible exact Grow.refl _)
                          | (with_reducible exact ⟨Grow.refl _, rfl⟩)
                      · intro w5 hR
                        have hGw : Grow w8 w5 := hR.of_drew
                        have HGW := Lib.hid hGw
                        have sac := (HGW.out.block HSA8.out).cell
                        have sbc := (HGW.out.block HSB8.out).cell
                        have hp0 := ((HGW.out.block HRB8.out).cell (i * 2)).trans (rowC_lo (rankF (rngL l)) hli)
                        have hp1 := ((HGW.out.block HRB8.out).cell (i * 2 + 1)).trans (rowC_hi (rankF (rngL l)) hli)
                        have ho0 := ((HGW.out.block HRB8.out).cell (k * 2)).trans (rowC_lo (rankF (rngL l)) hlk)
                        have ho1 := ((HGW.out.block HRB8.out).cell (k * 2 + 1)).trans (rowC_hi (rankF (rngL l)) hlk)
                        rw [HQ.out] at hp0 hp1
                        rw [HU.out] at ho0 ho1
                        dsimp only at hp0 hp1 ho0 ho1
                        clear hR hGw
                        simp only [depV]
                        rintro _ rfl
                        rintro _ rfl
                        rintro _ rfl
                        try go_simp
                        all_goals first
                          | (with_reducible exact Grow.refl _)
                          | (with_reducible exact ⟨Grow.refl _, rfl⟩)
                      · intro w5 hR
                        have hGw : Grow w8 w5 := hR.of_drew
                        have HGW := Lib.hid hGw
                        have sac := (HGW.out.block HSA8.out).cell
                        have sbc := (HGW.out.block HSB8.out).cell
                        have hp0 := ((HGW.out.block HRB8.out).cell (i * 2)).trans (rowC_lo (rankF (rngL l)) hli)
                        have hp1 := ((HGW.out.block HRB8.out).cell (i * 2 + 1)).trans (rowC_hi (rankF (rngL l)) hli)
                        have ho0 := ((HGW.out.block HRB8.out).cell (k * 2)).trans (rowC_lo (rankF (rngL l)) hlk)
                        have ho1 := ((HGW.out.block HRB8.out).cell (k * 2 + 1)).trans (rowC_hi (rankF (rngL l)) hlk)
                        rw [HQ.out] at hp0 hp1
                        rw [HU.out] at ho0 ho1
                        dsimp only at hp0 hp1 ho0 ho1
                        clear hR hGw
                        simp only [depV]
                        rintro _ rfl
                        rintro _ rfl
                        try go_simp
                        all_goals first
                          | (with_reducible exact Grow.refl _)
                          | (with_reducible exact ⟨Grow.refl _, rfl⟩)
                      · intro w5 hR
                        have hGw : Grow w8 w5 := hR.of_drew
                        have HGW := Lib.hid hGw
                        have sac := (HGW.out.block HSA8.out).cell
                        have sbc := (HGW.out.block HSB8.out).cell
                        have hp0 := ((HGW.out.block HRB8.out).cell (i * 2)).trans (rowC_lo (rankF (rngL l)) hli)
                        have hp1 := ((HGW.out.block HRB8.out).cell (i * 2 + 1)).trans (rowC_hi (rankF (rngL l)) hli)
                        have ho0 := ((HGW.out.block HRB8.out).cell (k * 2)).trans (rowC_lo (rankF (rngL l)) hlk)
                        have ho1 := ((HGW.out.block HRB8.out).cell (k * 2 + 1)).trans (rowC_hi (rankF (rngL l)) hlk)
                        rw [HQ.out] at hp0 hp1
                        rw [HU.out] at ho0 ho1
                        dsimp only at hp0 hp1 ho0 ho1
                        clear hR hGw
                        simp only [depV]
                        rintro _ rfl
                        try go_simp
                        all_goals first
                          | (with_reducible exact Grow.refl _)
                          | (with_reducible exact ⟨Grow.refl _, rfl⟩)
                      · intro w5 hR
                        have hGw : Grow w8 w5 := hR.of_drew
                        have HGW := Lib.hid hGw
                        have sac := (HGW.out.block HSA8.out).cell
                        have sbc := (HGW.out.block HSB8.out).cell
                        have hp0 := ((HGW.out.block HRB8.out).cell (i * 2)).trans (rowC_lo (rankF (rngL l)) hli)
                        have hp1 := ((HGW.out.block HRB8.out).cell (i * 2 + 1)).trans (rowC_hi (rankF (rngL l)) hli)
                        have ho0 := ((HGW.out.block HRB8.out).cell (k * 2)).trans (rowC_lo (rankF (rngL l)) hlk)
                        have ho1 := ((HGW.out.block HRB8.out).cell (k * 2 + 1)).trans (rowC_hi (rankF (rngL l)) hlk)
                        rw [HQ.out] at hp0 hp1
                        rw [HU.out] at ho0 ho1
                        dsimp only at hp0 hp1 ho0 ho1
                        clear hR hGw
                        simp only [depV]
                        rintro _ rfl
                        try go_simp
                        all_goals first
                          | (with_reducible exact Grow.refl _)
                          | (with_reducible exact ⟨Grow.refl _, rfl⟩)
                      · intro w5 hR
                        have hGw : Grow w8 w5 := hR.of_drew
                        have HGW := Lib.hid hGw
                        have sac := (HGW.out.block HSA8.out).cell
                        have sbc := (HGW.out.block HSB8.out).cell
                        have hp0 := ((HGW.out.block HRB8.out).cell (i * 2)).trans (rowC_lo (rankF (rngL l)) hli)
                        have hp1 := ((HGW.out.block HRB8.out).cell (i * 2 + 1)).trans (rowC_hi (rankF (rngL l)) hli)
                        have ho0 := ((HGW.out.block HRB8.out).cell (k * 2)).trans (rowC_lo (rankF (rngL l)) hlk)
                        have ho1 := ((HGW.out.block HRB8.out).cell (k * 2 + 1)).trans (rowC_hi (rankF (rngL l)) hlk)
                        rw [HQ.out] at hp0 hp1
                        rw [HU.out] at ho0 ho1
                        dsimp only at hp0 hp1 ho0 ho1
                        clear hR hGw
                        simp only [depV]
                        rintro _ rfl
                        rintro _ rfl
                        rintro _ rfl
                        try go_simp
                        all_goals first
                          | (with_reducible exact Grow.refl _)
                          | (with_reducible exact ⟨Grow.refl _, rfl⟩)
                      · intro w5 hR
                        have hGw : Grow w8 w5 := hR.of_drew
                        have HGW := Lib.hid hGw
                        have sac := (HGW.out.block HSA8.out).cell
                        have sbc := (HGW.out.block HSB8.out).cell
                        have hp0 := ((HGW.out.block HRB8.out).cell (i * 2)).trans (rowC_lo (rankF (rngL l)) hli)
                        have hp1 := ((HGW.out.block HRB8.out).cell (i * 2 + 1)).trans (rowC_hi (rankF (rngL l)) hli)
                        have ho0 := ((HGW.out.block HRB8.out).cell (k * 2)).trans (rowC_lo (rankF (rngL l)) hlk)
                        have ho1 := ((HGW.out.block HRB8.out).cell (k * 2 + 1)).trans (rowC_hi (rankF (rngL l)) hlk)
                        rw [HQ.out] at hp0 hp1
                        rw [HU.out] at ho0 ho1
                        dsimp only at hp0 hp1 ho0 ho1
                        clear hR hGw
                        simp only [depV]
                        rintro _ rfl
                        rintro _ rfl
                        try go_simp
                        all_goals first
                          | (with_reducible exact Grow.refl _)
                          | (with_reducible exact ⟨Grow.refl _, rfl⟩)
                      · intro w5 hR
                        have hGw : Grow w8 w5 := hR.of_drew
                        have HGW := Lib.hid hGw
                        have sac := (HGW.out.block HSA8.out).cell
                        have sbc := (HGW.out.block HSB8.out).cell
                        have hp0 := ((HGW.out.block HRB8.out).cell (i * 2)).trans (rowC_lo (rankF (rngL l)) hli)
                        have hp1 := ((HGW.out.block HRB8.out).cell (i * 2 + 1)).trans (rowC_hi (rankF (rngL l)) hli)
                        have ho0 := ((HGW.out.block HRB8.out).cell (k * 2)).trans (rowC_lo (rankF (rngL l)) hlk)
                        have ho1 := ((HGW.out.block HRB8.out).cell (k * 2 + 1)).trans (rowC_hi (rankF (rngL l)) hlk)
                        rw [HQ.out] at hp0 hp1
                        rw [HU.out] at ho0 ho1
                        dsimp only at hp0 hp1 ho0 ho1
                        clear hR hGw
                        simp only [depV]
                        rintro _ rfl
                        rintro _ rfl
                        try go_simp
                        all_goals first
                          | (with_reducible exact Grow.refl _)
                          | (with_reducible exact ⟨Grow.refl _, rfl⟩)
                      · intro w5 hR
                        have hGw : Grow w8 w5 := hR.of_drew
                        have HGW := Lib.hid hGw
                        have sac := (HGW.out.block HSA8.out).cell
                        have sbc := (HGW.out.block HSB8.out).cell
                        have hp0 := ((HGW.out.block HRB8.out).cell (i * 2)).trans (rowC_lo (rankF (rngL l)) hli)
                        have hp1 := ((HGW.out.block HRB8.out).cell (i * 2 + 1)).trans (rowC_hi (rankF (rngL l)) hli)
                        have ho0 := ((HGW.out.block HRB8.out).cell (k * 2)).trans (rowC_lo (rankF (rngL l)) hlk)
                        have ho1 := ((HGW.out.block HRB8.out).cell (k * 2 + 1)).trans (rowC_hi (rankF (rngL l)) hlk)
                        rw [HQ.out] at hp0 hp1
                        rw [HU.out] at ho0 ho1
                        dsimp only at hp0 hp1 ho0 ho1
                        clear hR hGw
                        simp only [depV]
                        rintro _ rfl
                        try go_simp
                        all_goals first
                          | (with_reducible exact Grow.refl _)
                          | (with_reducible exact ⟨Grow.refl _, rfl⟩)
                      · intro w5 hR
                        have hGw : Grow w8 w5 := hR.of_drew
                        have HGW := Lib.hid hGw
                        have sac := (HGW.out.block HSA8.out).cell
                        have sbc := (HGW.out.block HSB8.out).cell
                        have hp0 := ((HGW.out.block HRB8.out).cell (i * 2)).trans (rowC_lo (rankF (rngL l)) hli)
                        have hp1 := ((HGW.out.block HRB8.out).cell (i * 2 + 1)).trans (rowC_hi (rankF (rngL l)) hli)
                        have ho0 := ((HGW.out.block HRB8.out).cell (k * 2)).trans (rowC_lo (rankF (rngL l)) hlk)
                        have ho1 := ((HGW.out.block HRB8.out).cell (k * 2 + 1)).trans (rowC_hi (rankF (rngL l)) hlk)
                        rw [HQ.out] at hp0 hp1
                        rw [HU.out] at ho0 ho1
                        dsimp only at hp0 hp1 ho0 ho1
                        clear hR hGw
                        simp only [depV]
                        rintro _ rfl
                        try go_simp
                        all_goals first
                          | (with_reducible exact Grow.refl _)
                          | (with_reducible exact ⟨Grow.refl _, rfl⟩)
                      · intro w5 hR
                        have hGw : Grow w8 w5 := hR.of_drew
                        have HGW := Lib.hid hGw
                        have sac := (HGW.out.block HSA8.out).cell
                        have sbc := (HGW.out.block HSB8.out).cell
                        have hp0 := ((HGW.out.block HRB8.out).cell (i * 2)).trans (rowC_lo (rankF (rngL l)) hli)
                        have hp1 := ((HGW.out.block HRB8.out).cell (i * 2 + 1)).trans (rowC_hi (rankF (rngL l)) hli)
                        have ho0 := ((HGW.out.block HRB8.out).cell (k * 2)).trans (rowC_lo (rankF (rngL l)) hlk)
                        have ho1 := ((HGW.out.block HRB8.out).cell (k * 2 + 1)).trans (rowC_hi (rankF (rngL l)) hlk)
                        rw [HQ.out] at hp0 hp1
                        rw [HU.out] at ho0 ho1
                        dsimp only at hp0 hp1 ho0 ho1
                        clear hR hGw
                        simp only [depV]
                        rintro _ rfl
                        rintro _ rfl
                        rintro _ rfl
                        try go_simp
                        all_goals first
                          | (with_reducible exact Grow.refl _)
                          | (with_reducible exact ⟨Grow.refl _, rfl⟩)
                      · intro w5 hR
                        have hGw : Grow w8 w5 := hR.of_drew
                        have HGW := Lib.hid hGw
                        have sac := (HGW.out.block HSA8.out).cell
                        have sbc := (HGW.out.block HSB8.out).cell
                        have hp0 := ((HGW.out.block HRB8.out).cell (i * 2)).trans (rowC_lo (rankF (rngL l)) hli)
                        have hp1 := ((HGW.out.block HRB8.out).cell (i * 2 + 1)).trans (rowC_hi (rankF (rngL l)) hli)
                        have ho0 := ((HGW.out.block HRB8.out).cell (k * 2)).trans (rowC_lo (rankF (rngL l)) hlk)
                        have ho1 := ((HGW.out.block HRB8.out).cell (k * 2 + 1)).trans (rowC_hi (rankF (rngL l)) hlk)
                        rw [HQ.out] at hp0 hp1
                        rw [HU.out] at ho0 ho1
                        dsimp only at hp0 hp1 ho0 ho1
                        clear hR hGw
                        simp only [depV]
                        rintro _ rfl
                        rintro _ rfl
                        try go_simp
                        all_goals first
                          | (with_reducible exact Grow.refl _)
                          | (with_reducible exact ⟨Grow.refl _, rfl⟩)
                      · intro w5 hR
                        have hGw : Grow w8 w5 := hR.of_drew
                        have HGW := Lib.hid hGw
                        have sac := (HGW.out.block HSA8.out).cell
                        have sbc := (HGW.out.block HSB8.out).cell
                        have hp0 := ((HGW.out.block HRB8.out).cell (i * 2)).trans (rowC_lo (rankF (rngL l)) hli)
                        have hp1 := ((HGW.out.block HRB8.out).cell (i * 2 + 1)).trans (rowC_hi (rankF (rngL l)) hli)
                        have ho0 := ((HGW.out.block HRB8.out).cell (k * 2)).trans (rowC_lo (rankF (rngL l)) hlk)
                        have ho1 := ((HGW.out.block HRB8.out).cell (k * 2 + 1)).trans (rowC_hi (rankF (rngL l)) hlk)
                        rw [HQ.out] at hp0 hp1
                        rw [HU.out] at ho0 ho1
                        dsimp only at hp0 hp1 ho0 ho1
                        clear hR hGw
                        simp only [depV]
                        rintro _ rfl
                        rintro _ rfl
                        try go_simp
                        all_goals first
                          | (with_reducible exact Grow.refl _)
                          | (with_reducible exact ⟨Grow.refl _, rfl⟩)
                      · intro w5 hR
                        have hGw : Grow w8 w5 := hR.of_drew
                        have HGW := Lib.hid hGw
                        have sac := (HGW.out.block HSA8.out).cell
                        have sbc := (HGW.out.block HSB8.out).cell
                        have hp0 := ((HGW.out.block HRB8.out).cell (i * 2)).trans (rowC_lo (rankF (rngL l)) hli)
                        have hp1 := ((HGW.out.block HRB8.out).cell (i * 2 + 1)).trans (rowC_hi (rankF (rngL l)) hli)
                        have ho0 := ((HGW.out.block HRB8.out).cell (k * 2)).trans (rowC_lo (rankF (rngL l)) hlk)
                        have ho1 := ((HGW.out.block HRB8.out).cell (k * 2 + 1)).trans (rowC_hi (rankF (rngL l)) hlk)
                        rw [HQ.out] at hp0 hp1
                        rw [HU.out] at ho0 ho1
                        dsimp only at hp0 hp1 ho0 ho1
                        clear hR hGw
                        simp only [depV]
                        rintro _ rfl
                        rintro _ rfl
                        rintro _ rfl
                        try go_simp
                        all_goals first
                          | (with_reducible exact Grow.refl _)
                          | (with_reducible exact ⟨Grow.refl _, rfl⟩)
                      · intro w5 hR
                        have hGw : Grow w8 w5 := hR.of_drew
                        have HGW := Lib.hid hGw
                        have sac := (HGW.out.block HSA8.out).cell
                        have sbc := (HGW.out.block HSB8.out).cell
                        have hp0 := ((HGW.out.block HRB8.out).cell (i * 2)).trans (rowC_lo (rankF (rngL l)) hli)
                        have hp1 := ((HGW.out.block HRB8.out).cell (i * 2 + 1)).trans (rowC_hi (rankF (rngL l)) hli)
                        have ho0 := ((HGW.out.block HRB8.out).cell (k * 2)).trans (rowC_lo (rankF (rngL l)) hlk)
                        have ho1 := ((HGW.out.block HRB8.out).cell (k * 2 + 1)).trans (rowC_hi (rankF (rngL l)) hlk)
                        rw [HQ.out] at hp0 hp1
                        rw [HU.out] at ho0 ho1
                        dsimp only at hp0 hp1 ho0 ho1
                        clear hR hGw
                        simp only [depV]
                        rintro _ rfl
                        rintro _ rfl
                        rintro _ rfl
                        try go_simp
                        all_goals first
                          | (with_reducible exact Grow.refl _)
                          | (with_reducible exact ⟨Grow.refl _, rfl⟩)
                      · intro w5 hR
                        have hGw : Grow w8 w5 := hR.of_drew
                        have HGW := Lib.hid hGw
                        have sac := (HGW.out.block HSA8.out).cell
                        have sbc := (HGW.out.block HSB8.out).cell
                        have hp0 := ((HGW.out.block HRB8.out).cell (i * 2)).trans (rowC_lo (rankF (rngL l)) hli)
                        have hp1 := ((HGW.out.block HRB8.out).cell (i * 2 + 1)).trans (rowC_hi (rankF (rngL l)) hli)
                        have ho0 := ((HGW.out.block HRB8.out).cell (k * 2)).trans (rowC_lo (rankF (rngL l)) hlk)
                        have ho1 := ((HGW.out.block HRB8.out).cell (k * 2 + 1)).trans (rowC_hi (rankF (rngL l)) hlk)
                        rw [HQ.out] at hp0 hp1
                        rw [HU.out] at ho0 ho1
                        dsimp only at hp0 hp1 ho0 ho1
                        clear hR hGw
                        simp only [depV]
                        rintro _ rfl
                        rintro _ rfl
                        rintro _ rfl
                        try go_simp
                        all_goals first
                          | (with_reducible exact Grow.refl _)
                          | (with_reducible exact ⟨Grow.refl _, rfl⟩)
                      · intro w5 hR
                        have hGw : Grow w8 w5 := hR.of_drew
                        have HGW := Lib.hid hGw
                        have sac := (HGW.out.block HSA8.out).cell
                        have sbc := (HGW.out.block HSB8.out).cell
                        have hp0 := ((HGW.out.block HRB8.out).cell (i * 2)).trans (rowC_lo (rankF (rngL l)) hli)
                        have hp1 := ((HGW.out.block HRB8.out).cell (i * 2 + 1)).trans (rowC_hi (rankF (rngL l)) hli)
                        have ho0 := ((HGW.out.block HRB8.out).cell (k * 2)).trans (rowC_lo (rankF (rngL l)) hlk)
                        have ho1 := ((HGW.out.block HRB8.out).cell (k * 2 + 1)).trans (rowC_hi (rankF (rngL l)) hlk)
                        rw [HQ.out] at hp0 hp1
                        rw [HU.out] at ho0 ho1
                        dsimp only at hp0 hp1 ho0 ho1
                        clear hR hGw
                        simp only [depV]
                        rintro _ rfl
                        rintro _ rfl
                        try go_simp
                        all_goals first
                          | (with_reducible exact Grow.refl _)
                          | (with_reducible exact ⟨Grow.refl _, rfl⟩)
                    · intro w5 hR
                      have HG5 : Hid (Grow w8 w5) := Lib.hid hR.of_drew
                      clear hR
                      simp only [finVC, List.take_succ_cons, List.take_zero, List.drop_succ_cons, List.drop_zero]
                      rintro _ rfl
                      rintro _ rfl
                      rintro _ rfl
                      rintro _ rfl
                      rintro _ rfl
                      rintro _ rfl
                      rintro _ rfl
                      rintro _ rfl
                      rintro _ rfl
                      rintro _ rfl
                      rintro _ rfl
                      rintro _ rfl
                      rintro _ rfl
                      rintro _ rfl
                      rintro _ rfl
                      rintro _ rfl
                      rintro _ rfl
                      rintro _ rfl
                      rintro _ rfl
                      rintro _ rfl
                      rintro _ rfl
                      rintro _ rfl
                      rintro _ rfl
                      rintro _ rfl
                      rintro _ rfl
                      rintro _ rfl
                      rintro _ rfl
                      rintro _ rfl
                      rintro _ rfl
                      rintro _ rfl
                      rintro _ rfl
                      rintro _ rfl
                      rintro _ rfl
                      rintro _ rfl
                      rintro _ rfl
                      rintro _ rfl
                      rintro _ rfl
                      rintro _ rfl
                      rintro _ rfl
                      simp only [Act.put, List.setIfInBounds_toArray, List.set_cons_succ, List.set_cons_zero]
                      have HGN : Hid (Grow w3 w5) := Lib.hid (HG80.out.trans HG5.out)
                      go_wp2_with fail
                      go_roundw
                      case rel => exact ⟨k + 1, by omega, by go_num, HGN.out⟩
                      case measure => simp [intOf]; omega
                  · have hdc : decide (b2 < a1) = false := decide_eq_false hc
                    refine wp_region_lit 39 [[], [(0, 157)], [(1, 158)], [(2, 159)], [(2, 159), (3, 160)], [(2, 159), (4, 161)], [(5, 162)], [(6, 163)], [(6, 163), (7, 164)], [(6, 163)], [(6, 163), (9, 166)], [(6, 163), (8, 165), (10, 167)], [(6, 163), (11, 168)], [(12, 169)], [(12, 169)], [(12, 169), (13, 170), (14, 171)], [(12, 169), (15, 172)], [(12, 169), (16, 173)], [(12, 169)], [(12, 169)], [(12, 169), (18, 175), (19, 176)], [(12, 169), (20, 177)], [(12, 169), (21, 178)], [(12, 169), (17, 174), (22, 179)], [(12, 169), (23, 180)], [(24, 181)], [(24, 181)], [(24, 181), (25, 182), (26, 183)], [(24, 181), (27, 184)], [(24, 181), (28, 185)], [(24, 181)], [(24, 181)], [(24, 181), (30, 187), (31, 188)], [(24, 181), (32, 189)], [(24, 181), (33, 190)], [(24, 181), (29, 186), (34, 191)], [(12, 169), (24, 181), (35, 192)], [(6, 163), (12, 169), (36, 193)], [(6, 163), (37, 194)]] Grow (fun qi v w' => match qi with
                        | 0 => v = .int .i64 0
                        | 1 => v = .bool false
                        | 2 => v = .bool false
                        | 3 => v = .int .i64 0
                        | 4 => v = .bool false
                        | 5 => v = .bool false
                        | 6 => v = .bool false
                        | 7 => v = .pointer (some ⟨sa, 0, none⟩)
                        | 8 => v = .int .i64 a1
                        | 9 => v = .pointer (some ⟨sb, 1, none⟩)
                        | 10 => v = .int .i64 b2
                        | 11 => v = .bool false
                        | 12 => v = .bool false
                        | 13 => v = undef
                        | 14 => v = undef
                        | 15 => v = undef
                        | 16 => v = undef
                        | 17 => v = undef
                        | 18 => v = undef
                        | 19 => v = undef
                        | 20 => v = undef
                        | 21 => v = undef
                        | 22 => v = undef
                        | 23 => v = undef
                        | 24 => v = undef
                        | 25 => v = undef
                        | 26 => v = undef
                        | 27 => v = undef
                        | 28 => v = undef
                        | 29 => v = undef
                        | 30 => v = undef
                        | 31 => v = undef
                        | 32 => v = undef
                        | 33 => v = undef
                        | 34 => v = undef
                        | 35 => v = undef
                        | 36 => v = undef
                        | 37 => v = .bool false
                        | 38 => v = .bool false
                        | _ => False) (by kernel_rfl) (by kernel_rfl) (fun _ _ _ => Grow.trans) Grow.refl ?_ ?_ ?_
                    · intro i v y y' h k
                      match i, h with
                      | 0, h | 1, h | 2, h | 3, h | 4, h | 5, h | 6, h | 7, h | 8, h | 9, h | 10, h | 11, h | 12, h | 13, h | 14, h | 15, h | 16, h | 17, h | 18, h | 19, h | 20, h | 21, h | 22, h | 23, h | 24, h | 25, h | 26, h | 27, h | 28, h | 29, h | 30, h | 31, h | 32, h | 33, h | 34, h | 35, h | 36, h | 37, h | 38, h => exact h
                    · simp only [StepsLit, List.take_succ_cons, List.take_zero]
                      refine ⟨?_, ?_, ?_, ?_, ?_, ?_, ?_, ?_, ?_, ?_, ?_, ?_, ?_, ?_, ?_, ?_, ?_, ?_, ?_, ?_, ?_, ?_, ?_, ?_, ?_, ?_, ?_, ?_, ?_, ?_, ?_, ?_, ?_, ?_, ?_, ?_, ?_, ?_, ?_, trivial⟩
                      · intro w5 hR
                        have hGw : Grow w8 w5 := hR.of_drew
                        have HGW := Lib.hid hGw
                        have sac := (HGW.out.block HSA8.out).cell
                        have sbc := (HGW.out.block HSB8.out).cell
                        have hp0 := ((HGW.out.block HRB8.out).cell (i * 2)).trans (rowC_lo (rankF (rngL l)) hli)
                        have hp1 := ((HGW.out.block HRB8.out).cell (i * 2 + 1)).trans (rowC_hi (rankF (rngL l)) hli)
                        have ho0 := ((HGW.out.block HRB8.out).cell (k * 2)).trans (rowC_lo (rankF (rngL l)) hlk)
                        have ho1 := ((HGW.out.block HRB8.out).cell (k * 2 + 1)).trans (rowC_hi (rankF (rngL l)) hlk)
                        rw [HQ.out] at hp0 hp1
                        rw [HU.out] at ho0 ho1
                        dsimp only at hp0 hp1 ho0 ho1
                        clear hR hGw
                        simp only [depV]
                        try go_simp
                        all_goals first
                          | (with_reducible exact Grow.refl _)
                          | (with_reducible exact ⟨Grow.refl _, rfl⟩)
                      · intro w5 hR
                        have hGw : Grow w8 w5 := hR.of_drew
                        have HGW := Lib.hid hGw
                        have sac := (HGW.out.block HSA8.out).cell
                        have sbc := (HGW.out.block HSB8.out).cell
                        have hp0 := ((HGW.out.block HRB8.out).cell (i * 2)).trans (rowC_lo (rankF (rngL l)) hli)
                        have hp1 := ((HGW.out.block HRB8.out).cell (i * 2 + 1)).trans (rowC_hi (rankF (rngL l)) hli)
                        have ho0 := ((HGW.out.block HRB8.out).cell (k * 2)).trans (rowC_lo (rankF (rngL l)) hlk)
                        have ho1 := ((HGW.out.block HRB8.out).cell (k * 2 + 1)).trans (rowC_hi (rankF (rngL l)) hlk)
                        rw [HQ.out] at hp0 hp1
                        rw [HU.out] at ho0 ho1
                        dsimp only at hp0 hp1 ho0 ho1
                        clear hR hGw
                        simp only [depV]
                        rintro _ rfl
                        try go_simp
                        all_goals first
                          | (with_reducible exact Grow.refl _)
                          | (with_reducible exact ⟨Grow.refl _, rfl⟩)
                      · intro w5 hR
                        have hGw : Grow w8 w5 := hR.of_drew
                        have HGW := Lib.hid hGw
                        have sac := (HGW.out.block HSA8.out).cell
                        have sbc := (HGW.out.block HSB8.out).cell
                        have hp0 := ((HGW.out.block HRB8.out).cell (i * 2)).trans (rowC_lo (rankF (rngL l)) hli)
                        have hp1 := ((HGW.out.block HRB8.out).cell (i * 2 + 1)).trans (rowC_hi (rankF (rngL l)) hli)
                        have ho0 := ((HGW.out.block HRB8.out).cell (k * 2)).trans (rowC_lo (rankF (rngL l)) hlk)
                        have ho1 := ((HGW.out.block HRB8.out).cell (k * 2 + 1)).trans (rowC_hi (rankF (rngL l)) hlk)
                        rw [HQ.out] at hp0 hp1
                        rw [HU.out] at ho0 ho1
                        dsimp only at hp0 hp1 ho0 ho1
                        clear hR hGw
                        simp only [depV]
                        rintro _ rfl
                        try go_simp
                        all_goals first
                          | (with_reducible exact Grow.refl _)
                          | (with_reducible exact ⟨Grow.refl _, rfl⟩)
                      · intro w5 hR
                        have hGw : Grow w8 w5 := hR.of_drew
                        have HGW := Lib.hid hGw
                        have sac := (HGW.out.block HSA8.out).cell
                        have sbc := (HGW.out.block HSB8.out).cell
                        have hp0 := ((HGW.out.block HRB8.out).cell (i * 2)).trans (rowC_lo (rankF (rngL l)) hli)
                        have hp1 := ((HGW.out.block HRB8.out).cell (i * 2 + 1)).trans (rowC_hi (rankF (rngL l)) hli)
                        have ho0 := ((HGW.out.block HRB8.out).cell (k * 2)).trans (rowC_lo (rankF (rngL l)) hlk)
                        have ho1 := ((HGW.out.block HRB8.out).cell (k * 2 + 1)).trans (rowC_hi (rankF (rngL l)) hlk)
                        rw [HQ.out] at hp0 hp1
                        rw [HU.out] at ho0 ho1
                        dsimp only at hp0 hp1 ho0 ho1
                        clear hR hGw
                        simp only [depV]
                        rintro _ rfl
                        try go_simp
                        all_goals first
                          | (with_reducible exact Grow.refl _)
                          | (with_reducible exact ⟨Grow.refl _, rfl⟩)
                      · intro w5 hR
                        have hGw : Grow w8 w5 := hR.of_drew
                        have HGW := Lib.hid hGw
                        have sac := (HGW.out.block HSA8.out).cell
                        have sbc := (HGW.out.block HSB8.out).cell
                        have hp0 := ((HGW.out.block HRB8.out).cell (i * 2)).trans (rowC_lo (rankF (rngL l)) hli)
                        have hp1 := ((HGW.out.block HRB8.out).cell (i * 2 + 1)).trans (rowC_hi (rankF (rngL l)) hli)
                        have ho0 := ((HGW.out.block HRB8.out).cell (k * 2)).trans (rowC_lo (rankF (rngL l)) hlk)
                        have ho1 := ((HGW.out.block HRB8.out).cell (k * 2 + 1)).trans (rowC_hi (rankF (rngL l)) hlk)
                        rw [HQ.out] at hp0 hp1
                        rw [HU.out] at ho0 ho1
                        dsimp only at hp0 hp1 ho0 ho1
                        clear hR hGw
                        simp only [depV]
                        rintro _ rfl
                        rintro _ rfl
                        try go_simp
                        all_goals first
                          | (with_reducible exact Grow.refl _)
                          | (with_reducible exact ⟨Grow.refl _, rfl⟩)
                      · intro w5 hR
                        have hGw : Grow w8 w5 := hR.of_drew
                        have HGW := Lib.hid hGw
                        have sac := (HGW.out.block HSA8.out).cell
                        have sbc := (HGW.out.block HSB8.out).cell
                        have hp0 := ((HGW.out.block HRB8.out).cell (i * 2)).trans (rowC_lo (rankF (rngL l)) hli)
                        have hp1 := ((HGW.out.block HRB8.out).cell (i * 2 + 1)).trans (rowC_hi (rankF (rngL l)) hli)
                        have ho0 := ((HGW.out.block HRB8.out).cell (k * 2)).trans (rowC_lo (rankF (rngL l)) hlk)
                        have ho1 := ((HGW.out.block HRB8.out).cell (k * 2 + 1)).trans (rowC_hi (rankF (rngL l)) hlk)
                        rw [HQ.out] at hp0 hp1
                        rw [HU.out] at ho0 ho1
                        dsimp only at hp0 hp1 ho0 ho1
                        clear hR hGw
                        simp only [depV]
                        rintro _ rfl
                        rintro _ rfl
                        try go_simp
                        all_goals first
                          | (with_reducible exact Grow.refl _)
                          | (with_reducible exact ⟨Grow.refl _, rfl⟩)
                      · intro w5 hR
                        have hGw : Grow w8 w5 := hR.of_drew
                        have HGW := Lib.hid hGw
                        have sac := (HGW.out.block HSA8.out).cell
                        have sbc := (HGW.out.block HSB8.out).cell
                        have hp0 := ((HGW.out.block HRB8.out).cell (i * 2)).trans (rowC_lo (rankF (rngL l)) hli)
                        have hp1 := ((HGW.out.block HRB8.out).cell (i * 2 + 1)).trans (rowC_hi (rankF (rngL l)) hli)
                        have ho0 := ((HGW.out.block HRB8.out).cell (k * 2)).trans (rowC_lo (rankF (rngL l)) hlk)
                        have ho1 := ((HGW.out.block HRB8.out).cell (k * 2 + 1)).trans (rowC_hi (rankF (rngL l)) hlk)
                        rw [HQ.out] at hp0 hp1
                        rw [HU.out] at ho0 ho1
                        dsimp only at hp0 hp1 ho0 ho1
                        clear hR hGw
                        simp only [depV]
                        rintro _ rfl
                        try go_simp
                        all_goals first
                          | (with_reducible exact Grow.refl _)
                          | (with_reducible exact ⟨Grow.refl _, rfl⟩)
                      · intro w5 hR
                        have hGw : Grow w8 w5 := hR.of_drew
                        have HGW := Lib.hid hGw
                        have sac := (HGW.out.block HSA8.out).cell
                        have sbc := (HGW.out.block HSB8.out).cell
                        have hp0 := ((HGW.out.block HRB8.out).cell (i * 2)).trans (rowC_lo (rankF (rngL l)) hli)
                        have hp1 := ((HGW.out.block HRB8.out).cell (i * 2 + 1)).trans (rowC_hi (rankF (rngL l)) hli)
                        have ho0 := ((HGW.out.block HRB8.out).cell (k * 2)).trans (rowC_lo (rankF (rngL l)) hlk)
                        have ho1 := ((HGW.out.block HRB8.out).cell (k * 2 + 1)).trans (rowC_hi (rankF (rngL l)) hlk)
                        rw [HQ.out] at hp0 hp1
                        rw [HU.out] at ho0 ho1
                        dsimp only at hp0 hp1 ho0 ho1
                        clear hR hGw
                        simp only [depV]
                        rintro _ rfl
                        try go_simp
                        all_goals first
                          | (with_reducible exact Grow.refl _)
                          | (with_reducible exact ⟨Grow.refl _, rfl⟩)
                      · intro w5 hR
                        have hGw : Grow w8 w5 := hR.of_drew
                        have HGW := Lib.hid hGw
                        have sac := (HGW.out.block HSA8.out).cell
                        have sbc := (HGW.out.block HSB8.out).cell
                        have hp0 := ((HGW.out.block HRB8.out).cell (i * 2)).trans (rowC_lo (rankF (rngL l)) hli)
                        have hp1 := ((HGW.out.block HRB8.out).cell (i * 2 + 1)).trans (rowC_hi (rankF (rngL l)) hli)
                        have ho0 := ((HGW.out.block HRB8.out).cell (k * 2)).trans (rowC_lo (rankF (rngL l)) hlk)
                        have ho1 := ((HGW.out.block HRB8.out).cell (k * 2 + 1)).trans (rowC_hi (rankF (rngL l)) hlk)
                        rw [HQ.out] at hp0 hp1
                        rw [HU.out] at ho0 ho1
                        dsimp only at hp0 hp1 ho0 ho1
                        clear hR hGw
                        simp only [depV]
                        rintro _ rfl
                        rintro _ rfl
                        try go_simp
                        all_goals first
                          | (with_reducible exact Grow.refl _)
                          | (with_reducible exact ⟨Grow.refl _, rfl⟩)
                      · intro w5 hR
                        have hGw : Grow w8 w5 := hR.of_drew
                        have HGW := Lib.hid hGw
                        have sac := (HGW.out.block HSA8.out).cell
                        have sbc := (HGW.out.block HSB8.out).cell
                        have hp0 := ((HGW.out.block HRB8.out).cell (i * 2)).trans (rowC_lo (rankF (rngL l)) hli)
                        have hp1 := ((HGW.out.block HRB8.out).cell (i * 2 + 1)).trans (rowC_hi (rankF (rngL l)) hli)
                        have ho0 := ((HGW.out.block HRB8.out).cell (k * 2)).trans (rowC_lo (rankF (rngL l)) hlk)
                        have ho1 := ((HGW.out.block HRB8.out).cell (k * 2 + 1)).trans (rowC_hi (rankF (rngL l)) hlk)
                        rw [HQ.out] at hp0 hp1
                        rw [HU.out] at ho0 ho1
                        dsimp only at hp0 hp1 ho0 ho1
                        clear hR hGw
                        simp only [depV]
                        rintro _ rfl
                        try go_simp
                        all_goals first
                          | (with_reducible exact Grow.refl _)
                          | (with_reducible exact ⟨Grow.refl _, rfl⟩)
                      · intro w5 hR
                        have hGw : Grow w8 w5 := hR.of_drew
                        have HGW := Lib.hid hGw
                        have sac := (HGW.out.block HSA8.out).cell
                        have sbc := (HGW.out.block HSB8.out).cell
                        have hp0 := ((HGW.out.block HRB8.out).cell (i * 2)).trans (rowC_lo (rankF (rngL l)) hli)
                        have hp1 := ((HGW.out.block HRB8.out).cell (i * 2 + 1)).trans (rowC_hi (rankF (rngL l)) hli)
                        have ho0 := ((HGW.out.block HRB8.out).cell (k * 2)).trans (rowC_lo (rankF (rngL l)) hlk)
                        have ho1 := ((HGW.out.block HRB8.out).cell (k * 2 + 1)).trans (rowC_hi (rankF (rngL l)) hlk)
                        rw [HQ.out] at hp0 hp1
                        rw [HU.out] at ho0 ho1
                        dsimp only at hp0 hp1 ho0 ho1
                        clear hR hGw
                        simp only [depV]
                        rintro _ rfl
                        rintro _ rfl
                        try go_simp
                        all_goals first
                          | (with_reducible exact Grow.refl _)
                          | (with_reducible exact ⟨Grow.refl _, rfl⟩)
                      · intro w5 hR
                        have hGw : Grow w8 w5 := hR.of_drew
                        have HGW := Lib.hid hGw
                        have sac := (HGW.out.block HSA8.out).cell
                        have sbc := (HGW.out.block HSB8.out).cell
                        have hp0 := ((HGW.out.block HRB8.out).cell (i * 2)).trans (rowC_lo (rankF (rngL l)) hli)
                        have hp1 := ((HGW.out.block HRB8.out).cell (i * 2 + 1)).trans (rowC_hi (rankF (rngL l)) hli)
                        have ho0 := ((HGW.out.block HRB8.out).cell (k * 2)).trans (rowC_lo (rankF (rngL l)) hlk)
                        have ho1 := ((HGW.out.block HRB8.out).cell (k * 2 + 1)).trans (rowC_hi (rankF (rngL l)) hlk)
                        rw [HQ.out] at hp0 hp1
                        rw [HU.out] at ho0 ho1
                        dsimp only at hp0 hp1 ho0 ho1
                        clear hR hGw
                        simp only [depV]
                        rintro _ rfl
                        rintro _ rfl
                        rintro _ rfl
                        try go_simp
                        all_goals first
                          | (with_reducible exact Grow.refl _)
                          | (with_reducible exact ⟨Grow.refl _, rfl⟩)
                      · intro w5 hR
                        have hGw : Grow w8 w5 := hR.of_drew
                        have HGW := Lib.hid hGw
                        have sac := (HGW.out.block HSA8.out).cell
                        have sbc := (HGW.out.block HSB8.out).cell
                        have hp0 := ((HGW.out.block HRB8.out).cell (i * 2)).trans (rowC_lo (rankF (rngL l)) hli)
                        have hp1 := ((HGW.out.block HRB8.out).cell (i * 2 + 1)).trans (rowC_hi (rankF (rngL l)) hli)
                        have ho0 := ((HGW.out.block HRB8.out).cell (k * 2)).trans (rowC_lo (rankF (rngL l)) hlk)
                        have ho1 := ((HGW.out.block HRB8.out).cell (k * 2 + 1)).trans (rowC_hi (rankF (rngL l)) hlk)
                        rw [HQ.out] at hp0 hp1
                        rw [HU.out] at ho0 ho1
                        dsimp only at hp0 hp1 ho0 ho1
                        clear hR hGw
                        simp only [depV]
                        rintro _ rfl
                        rintro _ rfl
                        try go_simp
                        all_goals first
                          | (with_reducible exact Grow.refl _)
                          | (with_reducible exact ⟨Grow.refl _, rfl⟩)
                      · intro w5 hR
                        have hGw : Grow w8 w5 := hR.of_drew
                        have HGW := Lib.hid hGw
                        have sac := (HGW.out.block HSA8.out).cell
                        have sbc := (HGW.out.block HSB8.out).cell
                        have hp0 := ((HGW.out.block HRB8.out).cell (i * 2)).trans (rowC_lo (rankF (rngL l)) hli)
                        have hp1 := ((HGW.out.block HRB8.out).cell (i * 2 + 1)).trans (rowC_hi (rankF (rngL l)) hli)
                        have ho0 := ((HGW.out.block HRB8.out).cell (k * 2)).trans (rowC_lo (rankF (rngL l)) hlk)
                        have ho1 := ((HGW.out.block HRB8.out).cell (k * 2 + 1)).trans (rowC_hi (rankF (rngL l)) hlk)
                        rw [HQ.out] at hp0 hp1
                        rw [HU.out] at ho0 ho1
                        dsimp only at hp0 hp1 ho0 ho1
                        clear hR hGw
                        simp only [depV]
                        rintro _ rfl
                        try go_simp
                        all_goals first
                          | (with_reducible exact Grow.refl _)
                          | (with_reducible exact ⟨Grow.refl _, rfl⟩)
                      · intro w5 hR
                        have hGw : Grow w8 w5 := hR.of_drew
                        have HGW := Lib.hid hGw
                        have sac := (HGW.out.block HSA8.out).cell
                        have sbc := (HGW.out.block HSB8.out).cell
                        have hp0 := ((HGW.out.block HRB8.out).cell (i * 2)).trans (rowC_lo (rankF (rngL l)) hli)
                        have hp1 := ((HGW.out.block HRB8.out).cell (i * 2 + 1)).trans (rowC_hi (rankF (rngL l)) hli)
                        have ho0 := ((HGW.out.block HRB8.out).cell (k * 2)).trans (rowC_lo (rankF (rngL l)) hlk)
                        have ho1 := ((HGW.out.block HRB8.out).cell (k * 2 + 1)).trans (rowC_hi (rankF (rngL l)) hlk)
                        rw [HQ.out] at hp0 hp1
                        rw [HU.out] at ho0 ho1
                        dsimp only at hp0 hp1 ho0 ho1
                        clear hR hGw
                        simp only [depV]
                        rintro _ rfl
                        try go_simp
                        all_goals first
                          | (with_reducible exact Grow.refl _)
                          | (with_reducible exact ⟨Grow.refl _, rfl⟩)
                      · intro w5 hR
                        have hGw : Grow w8 w5 := hR.of_drew
                        have HGW := Lib.hid hGw
                        have sac := (HGW.out.block HSA8.out).cell
                        have sbc := (HGW.out.block HSB8.out).cell
                        have hp0 := ((HGW.out.block HRB8.out).cell (i * 2)).trans (rowC_lo (rankF (rngL l)) hli)
                        have hp1 := ((HGW.out.block HRB8.out).cell (i * 2 + 1)).trans (rowC_hi (rankF (rngL l)) hli)
                        have ho0 := ((HGW.out.block HRB8.out).cell (k * 2)).trans (rowC_lo (rankF (rngL l)) hlk)
                        have ho1 := ((HGW.out.block HRB8.out).cell (k * 2 + 1)).trans (rowC_hi (rankF (rngL l)) hlk)
                        rw [HQ.out] at hp0 hp1
                        rw [HU.out] at ho0 ho1
                        dsimp only at hp0 hp1 ho0 ho1
                        clear hR hGw
                        simp only [depV]
                        rintro _ rfl
                        rintro _ rfl
                        rintro _ rfl
                        try go_simp
                        all_goals first
                          | (with_reducible exact Grow.refl _)
                          | (with_reducible exact ⟨Grow.refl _, rfl⟩)
                      · intro w5 hR
                        have hGw : Grow w8 w5 := hR.of_drew
                        have HGW := Lib.hid hGw
                        have sac := (HGW.out.block HSA8.out).cell
                        have sbc := (HGW.out.block HSB8.out).cell
                        have hp0 := ((HGW.out.block HRB8.out).cell (i * 2)).trans (rowC_lo (rankF (rngL l)) hli)
                        have hp1 := ((HGW.out.block HRB8.out).cell (i * 2 + 1)).trans (rowC_hi (rankF (rngL l)) hli)
                        have ho0 := ((HGW.out.block HRB8.out).cell (k * 2)).trans (rowC_lo (rankF (rngL l)) hlk)
                        have ho1 := ((HGW.out.block HRB8.out).cell (k * 2 + 1)).trans (rowC_hi (rankF (rngL l)) hlk)
                        rw [HQ.out] at hp0 hp1
                        rw [HU.out] at ho0 ho1
                        dsimp only at hp0 hp1 ho0 ho1
                        clear hR hGw
                        simp only [depV]
                        rintro _ rfl
                        rintro _ rfl
                        try go_simp
                        all_goals first
                          | (with_reducible exact Grow.refl _)
                          | (with_reducible exact ⟨Grow.refl _, rfl⟩)
                      · intro w5 hR
                        have hGw : Grow w8 w5 := hR.of_drew
                        have HGW := Lib.hid hGw
                        have sac := (HGW.out.block HSA8.out).cell
                        have sbc := (HGW.out.block HSB8.out).cell
                        have hp0 := ((HGW.out.block HRB8.out).cell (i * 2)).trans (rowC_lo (rankF (rngL l)) hli)
                        have hp1 := ((HGW.out.block HRB8.out).cell (i * 2 + 1)).trans (rowC_hi (rankF (rngL l)) hli)
                        have ho0 := ((HGW.out.block HRB8.out).cell (k * 2)).trans (rowC_lo (rankF (rngL l)) hlk)
                        have ho1 := ((HGW.out.block HRB8.out).cell (k * 2 + 1)).trans (rowC_hi (rankF (rngL l)) hlk)
                        rw [HQ.out] at hp0 hp1
                        rw [HU.out] at ho0 ho1
                        dsimp only at hp0 hp1 ho0 ho1
                        clear hR hGw
                        simp only [depV]
                        rintro _ rfl
                        rintro _ rfl
                        try go_simp
                        all_goals first
                          | (with_reducible exact Grow.refl _)
                          | (with_reducible exact ⟨Grow.refl _, rfl⟩)
                      · intro w5 hR
                        have hGw : Grow w8 w5 := hR.of_drew
                        have HGW := Lib.hid hGw
                        have sac := (HGW.out.block HSA8.out).cell
                        have sbc := (HGW.out.block HSB8.out).cell
                        have hp0 := ((HGW.out.block HRB8.out).cell (i * 2)).trans (rowC_lo (rankF (rngL l)) hli)
                        have hp1 := ((HGW.out.block HRB8.out).cell (i * 2 + 1)).trans (rowC_hi (rankF (rngL l)) hli)
                        have ho0 := ((HGW.out.block HRB8.out).cell (k * 2)).trans (rowC_lo (rankF (rngL l)) hlk)
                        have ho1 := ((HGW.out.block HRB8.out).cell (k * 2 + 1)).trans (rowC_hi (rankF (rngL l)) hlk)
                        rw [HQ.out] at hp0 hp1
                        rw [HU.out] at ho0 ho1
                        dsimp only at hp0 hp1 ho0 ho1
                        clear hR hGw
                        simp only [depV]
                        rintro _ rfl
                        try go_simp
                        all_goals first
                          | (with_reducible exact Grow.refl _)
                          | (with_reducible exact ⟨Grow.refl _, rfl⟩)
                      · intro w5 hR
                        have hGw : Grow w8 w5 := hR.of_drew
                        have HGW := Lib.hid hGw
                        have sac := (HGW.out.block HSA8.out).cell
                        have sbc := (HGW.out.block HSB8.out).cell
                        have hp0 := ((HGW.out.block HRB8.out).cell (i * 2)).trans (rowC_lo (rankF (rngL l)) hli)
                        have hp1 := ((HGW.out.block HRB8.out).cell (i * 2 + 1)).trans (rowC_hi (rankF (rngL l)) hli)
                        have ho0 := ((HGW.out.block HRB8.out).cell (k * 2)).trans (rowC_lo (rankF (rngL l)) hlk)
                        have ho1 := ((HGW.out.block HRB8.out).cell (k * 2 + 1)).trans (rowC_hi (rankF (rngL l)) hlk)
                        rw [HQ.out] at hp0 hp1
                        rw [HU.out] at ho0 ho1
                        dsimp only at hp0 hp1 ho0 ho1
                        clear hR hGw
                        simp only [depV]
                        rintro _ rfl
                        try go_simp
                        all_goals first
                          | (with_reducible exact Grow.refl _)
                          | (with_reducible exact ⟨Grow.refl _, rfl⟩)
                      · intro w5 hR
                        have hGw : Grow w8 w5 := hR.of_drew
                        have HGW := Lib.hid hGw
                        have sac := (HGW.out.block HSA8.out).cell
                        have sbc := (HGW.out.block HSB8.out).cell
                        have hp0 := ((HGW.out.block HRB8.out).cell (i * 2)).trans (rowC_lo (rankF (rngL l)) hli)
                        have hp1 := ((HGW.out.block HRB8.out).cell (i * 2 + 1)).trans (rowC_hi (rankF (rngL l)) hli)
                        have ho0 := ((HGW.out.block HRB8.out).cell (k * 2)).trans (rowC_lo (rankF (rngL l)) hlk)
                        have ho1 := ((HGW.out.block HRB8.out).cell (k * 2 + 1)).trans (rowC_hi (rankF (rngL l)) hlk)
                        rw [HQ.out] at hp0 hp1
                        rw [HU.out] at ho0 ho1
                        dsimp only at hp0 hp1 ho0 ho1
                        clear hR hGw
                        simp only [depV]
                        rintro _ rfl
                        rintro _ rfl
                        rintro _ rfl
                        try go_simp
                        all_goals first
                          | (with_reducible exact Grow.refl _)
                          | (with_reducible exact ⟨Grow.refl _, rfl⟩)
                      · intro w5 hR
                        have hGw : Grow w8 w5 := hR.of_drew
                        have HGW := Lib.hid hGw
                        have sac := (HGW.out.block HSA8.out).cell
                        have sbc := (HGW.out.block HSB8.out).cell
                        have hp0 := ((HGW.out.block HRB8.out).cell (i * 2)).trans (rowC_lo (rankF (rngL l)) hli)
                        have hp1 := ((HGW.out.block HRB8.out).cell (i * 2 + 1)).trans (rowC_hi (rankF (rngL l)) hli)
                        have ho0 := ((HGW.out.block HRB8.out).cell (k * 2)).trans (rowC_lo (rankF (rngL l)) hlk)
                        have ho1 := ((HGW.out.block HRB8.out).cell (k * 2 + 1)).trans (rowC_hi (rankF (rngL l)) hlk)
                        rw [HQ.out] at hp0 hp1
                        rw [HU.out] at ho0 ho1
                        dsimp only at hp0 hp1 ho0 ho1
                        clear hR hGw
                        simp only [depV]
                        rintro _ rfl
                        rintro _ rfl
                        try go_simp
                        all_goals first
                          | (with_reducible exact Grow.refl _)
                          | (with_reducible exact ⟨Grow.refl _, rfl⟩)
                      · intro w5 hR
                        have hGw : Grow w8 w5 := hR.of_drew
                        have HGW := Lib.hid hGw
                        have sac := (HGW.out.block HSA8.out).cell
                        have sbc := (HGW.out.block HSB8.out).cell
                        have hp0 := ((HGW.out.block HRB8.out).cell (i * 2)).trans (rowC_lo (rankF (rngL l)) hli)
                        have hp1 := ((HGW.out.block HRB8.out).cell (i * 2 + 1)).trans (rowC_hi (rankF (rngL l)) hli)
                        have ho0 := ((HGW.out.block HRB8.out).cell (k * 2)).trans (rowC_lo (rankF (rngL l)) hlk)
                        have ho1 := ((HGW.out.block HRB8.out).cell (k * 2 + 1)).trans (rowC_hi (rankF (rngL l)) hlk)
                        rw [HQ.out] at hp0 hp1
                        rw [HU.out] at ho0 ho1
                        dsimp only at hp0 hp1 ho0 ho1
                        clear hR hGw
                        simp only [depV]
                        rintro _ rfl
                        rintro _ rfl
                        try go_simp
                        all_goals first
                          | (with_reducible exact Grow.refl _)
                          | (with_reducible exact ⟨Grow.refl _, rfl⟩)
                      · intro w5 hR
                        have hGw : Grow w8 w5 := hR.of_drew
                        have HGW := Lib.hid hGw
                        have sac := (HGW.out.block HSA8.out).cell
                        have sbc := (HGW.out.block HSB8.out).cell
                        have hp0 := ((HGW.out.block HRB8.out).cell (i * 2)).trans (rowC_lo (rankF (rngL l)) hli)
                        have hp1 := ((HGW.out.block HRB8.out).cell (i * 2 + 1)).trans (rowC_hi (rankF (rngL l)) hli)
                        have ho0 := ((HGW.out.block HRB8.out).cell (k * 2)).trans (rowC_lo (rankF (rngL l)) hlk)
                        have ho1 := ((HGW.out.block HRB8.out).cell (k * 2 + 1)).trans (rowC_hi (rankF (rngL l)) hlk)
                        rw [HQ.out] at hp0 hp1
                        rw [HU.out] at ho0 ho1
                        dsimp only at hp0 hp1 ho0 ho1
                        clear hR hGw
                        simp only [depV]
                        rintro _ rfl
                        rintro _ rfl
                        rintro _ rfl
                        try go_simp
                        all_goals first
                          | (with_reducible exact Grow.refl _)
                          | (with_reducible exact ⟨Grow.refl _, rfl⟩)
                      · intro w5 hR
                        have hGw : Grow w8 w5 := hR.of_drew
                        have HGW := Lib.hid hGw
                        have sac := (HGW.out.block HSA8.out).cell
                        have sbc := (HGW.out.block HSB8.out).cell
                        have hp0 := ((HGW.out.block HRB8.out).cell (i * 2)).trans (rowC_lo (rankF (rngL l)) hli)
                        have hp1 := ((HGW.out.block HRB8.out).cell (i * 2 + 1)).trans (rowC_hi (rankF (rngL l)) hli)
                        have ho0 := ((HGW.out.block HRB8.out).cell (k * 2)).trans (rowC_lo (rankF (rngL l)) hlk)
                        have ho1 := ((HGW.out.block HRB8.out).cell (k * 2 + 1)).trans (rowC_hi (rankF (rngL l)) hlk)
                        rw [HQ.out] at hp0 hp1
                        rw [HU.out] at ho0 ho1
                        dsimp only at hp0 hp1 ho0 ho1
                        clear hR hGw
                        simp only [depV]
                        rintro _ rfl
                        rintro _ rfl
                        try go_simp
                        all_goals first
                          | (with_reducible exact Grow.refl _)
                          | (with_reducible exact ⟨Grow.refl _, rfl⟩)
                      · intro w5 hR
                        have hGw : Grow w8 w5 := hR.of_drew
                        have HGW := Lib.hid hGw
                        have sac := (HGW.out.block HSA8.out).cell
                        have sbc := (HGW.out.block HSB8.out).cell
                        have hp0 := ((HGW.out.block HRB8.out).cell (i * 2)).trans (rowC_lo (rankF (rngL l)) hli)
                        have hp1 := ((HGW.out.block HRB8.out).cell (i * 2 + 1)).trans (rowC_hi (rankF (rngL l)) hli)
                        have ho0 := ((HGW.out.block HRB8.out).cell (k * 2)).trans (rowC_lo (rankF (rngL l)) hlk)
                        have ho1 := ((HGW.out.block HRB8.out).cell (k * 2 + 1)).trans (rowC_hi (rankF (rngL l)) hlk)
                        rw [HQ.out] at hp0 hp1
                        rw [HU.out] at ho0 ho1
                        dsimp only at hp0 hp1 ho0 ho1
                        clear hR hGw
                        simp only [depV]
                        rintro _ rfl
                        try go_simp
                        intro h
                        exact absurd (show (none : Option Bool) = some false from h) (by simp)
                      · intro w5 hR
                        have hGw : Grow w8 w5 := hR.of_drew
                        have HGW := Lib.hid hGw
                        have sac := (HGW.out.block HSA8.out).cell
                        have sbc := (HGW.out.block HSB8.out).cell
                        have hp0 := ((HGW.out.block HRB8.out).cell (i * 2)).trans (rowC_lo (rankF (rngL l)) hli)
                        have hp1 := ((HGW.out.block HRB8.out).cell (i * 2 + 1)).trans (rowC_hi (rankF (rngL l)) hli)
                        have ho0 := ((HGW.out.block HRB8.out).cell (k * 2)).trans (rowC_lo (rankF (rngL l)) hlk)
                        have ho1 := ((HGW.out.block HRB8.out).cell (k * 2 + 1)).trans (rowC_hi (rankF (rngL l)) hlk)
                        rw [HQ.out] at hp0 hp1
                        rw [HU.out] at ho0 ho1
                        dsimp only at hp0 hp1 ho0 ho1
                        clear hR hGw
                        simp only [depV]
                        rintro _ rfl
                        try go_simp
                        intro h
                        exact absurd (show (none : Option Bool) = some false from h) (by simp)
                      · intro w5 hR
                        have hGw : Grow w8 w5 := hR.of_drew
                        have HGW := Lib.hid hGw
                        have sac := (HGW.out.block HSA8.out).cell
                        have sbc := (HGW.out.block HSB8.out).cell
                        have hp0 := ((HGW.out.block HRB8.out).cell (i * 2)).trans (rowC_lo (rankF (rngL l)) hli)
                        have hp1 := ((HGW.out.block HRB8.out).cell (i * 2 + 1)).trans (rowC_hi (rankF (rngL l)) hli)
                        have ho0 := ((HGW.out.block HRB8.out).cell (k * 2)).trans (rowC_lo (rankF (rngL l)) hlk)
                        have ho1 := ((HGW.out.block HRB8.out).cell (k * 2 + 1)).trans (rowC_hi (rankF (rngL l)) hlk)
                        rw [HQ.out] at hp0 hp1
                        rw [HU.out] at ho0 ho1
                        dsimp only at hp0 hp1 ho0 ho1
                        clear hR hGw
                        simp only [depV]
                        rintro _ rfl
                        rintro _ rfl
                        rintro _ rfl
                        try go_simp
                        intro h
                        exact absurd (show (none : Option Bool) = some false from h) (by simp)
                      · intro w5 hR
                        have hGw : Grow w8 w5 := hR.of_drew
                        have HGW := Lib.hid hGw
                        have sac := (HGW.out.block HSA8.out).cell
                        have sbc := (HGW.out.block HSB8.out).cell
                        have hp0 := ((HGW.out.block HRB8.out).cell (i * 2)).trans (rowC_lo (rankF (rngL l)) hli)
                        have hp1 := ((HGW.out.block HRB8.out).cell (i * 2 + 1)).trans (rowC_hi (rankF (rngL l)) hli)
                        have ho0 := ((HGW.out.block HRB8.out).cell (k * 2)).trans (rowC_lo (rankF (rngL l)) hlk)
                        have ho1 := ((HGW.out.block HRB8.out).cell (k * 2 + 1)).trans (rowC_hi (rankF (rngL l)) hlk)
                        rw [HQ.out] at hp0 hp1
                        rw [HU.out] at ho0 ho1
                        dsimp only at hp0 hp1 ho0 ho1
                        clear hR hGw
                        simp only [depV]
                        rintro _ rfl
                        rintro _ rfl
                        try go_simp
                        intro h
                        exact absurd (show (none : Option Bool) = some false from h) (by simp)
                      · intro w5 hR
                        have hGw : Grow w8 w5 := hR.of_drew
                        have HGW := Lib.hid hGw
                        have sac := (HGW.out.block HSA8.out).cell
                        have sbc := (HGW.out.block HSB8.out).cell
                        have hp0 := ((HGW.out.block HRB8.out).cell (i * 2)).trans (rowC_lo (rankF (rngL l)) hli)
                        have hp1 := ((HGW.out.block HRB8.out).cell (i * 2 + 1)).trans (rowC_hi (rankF (rngL l)) hli)
                        have ho0 := ((HGW.out.block HRB8.out).cell (k * 2)).trans (rowC_lo (rankF (rngL l)) hlk)
                        have ho1 := ((HGW.out.block HRB8.out).cell (k * 2 + 1)).trans (rowC_hi (rankF (rngL l)) hlk)
                        rw [HQ.out] at hp0 hp1
                        rw [HU.out] at ho0 ho1
                        dsimp only at hp0 hp1 ho0 ho1
                        clear hR hGw
                        simp only [depV]
                        rintro _ rfl
                        rintro _ rfl
                        try go_simp
                        intro h
                        exact absurd (show (none : Option Bool) = some false from h) (by simp)
                      · intro w5 hR
                        have hGw : Grow w8 w5 := hR.of_drew
                        have HGW := Lib.hid hGw
                        have sac := (HGW.out.block HSA8.out).cell
                        have sbc := (HGW.out.block HSB8.out).cell
                        have hp0 := ((HGW.out.block HRB8.out).cell (i * 2)).trans (rowC_lo (rankF (rngL l)) hli)
                        have hp1 := ((HGW.out.block HRB8.out).cell (i * 2 + 1)).trans (rowC_hi (rankF (rngL l)) hli)
                        have ho0 := ((HGW.out.block HRB8.out).cell (k * 2)).trans (rowC_lo (rankF (rngL l)) hlk)
                        have ho1 := ((HGW.out.block HRB8.out).cell (k * 2 + 1)).trans (rowC_hi (rankF (rngL l)) hlk)
                        rw [HQ.out] at hp0 hp1
                        rw [HU.out] at ho0 ho1
                        dsimp only at hp0 hp1 ho0 ho1
                        clear hR hGw
                        simp only [depV]
                        rintro _ rfl
                        try go_simp
                        intro h
                        exact absurd (show (none : Option Bool) = some false from h) (by simp)
                      · intro w5 hR
                        have hGw : Grow w8 w5 := hR.of_drew
                        have HGW := Lib.hid hGw
                        have sac := (HGW.out.block HSA8.out).cell
                        have sbc := (HGW.out.block HSB8.out).cell
                        have hp0 := ((HGW.out.block HRB8.out).cell (i * 2)).trans (rowC_lo (rankF (rngL l)) hli)
                        have hp1 := ((HGW.out.block HRB8.out).cell (i * 2 + 1)).trans (rowC_hi (rankF (rngL l)) hli)
                        have ho0 := ((HGW.out.block HRB8.out).cell (k * 2)).trans (rowC_lo (rankF (rngL l)) hlk)
                        have ho1 := ((HGW.out.block HRB8.out).cell (k * 2 + 1)).trans (rowC_hi (rankF (rngL l)) hlk)
                        rw [HQ.out] at hp0 hp1
                        rw [HU.out] at ho0 ho1
                        dsimp only at hp0 hp1 ho0 ho1
                        clear hR hGw
                        simp only [depV]
                        rintro _ rfl
                        try go_simp
                        intro h
                        exact absurd (show (none : Option Bool) = some false from h) (by simp)
                      · intro w5 hR
                        have hGw : Grow w8 w5 := hR.of_drew
                        have HGW := Lib.hid hGw
                        have sac := (HGW.out.block HSA8.out).cell
                        have sbc := (HGW.out.block HSB8.out).cell
                        have hp0 := ((HGW.out.block HRB8.out).cell (i * 2)).trans (rowC_lo (rankF (rngL l)) hli)
                        have hp1 := ((HGW.out.block HRB8.out).cell (i * 2 + 1)).trans (rowC_hi (rankF (rngL l)) hli)
                        have ho0 := ((HGW.out.block HRB8.out).cell (k * 2)).trans (rowC_lo (rankF (rngL l)) hlk)
                        have ho1 := ((HGW.out.block HRB8.out).cell (k * 2 + 1)).trans (rowC_hi (rankF (rngL l)) hlk)
                        rw [HQ.out] at hp0 hp1
                        rw [HU.out] at ho0 ho1
                        dsimp only at hp0 hp1 ho0 ho1
                        clear hR hGw
                        simp only [depV]
                        rintro _ rfl
                        rintro _ rfl
                        rintro _ rfl
                        try go_simp
                        intro h
                        exact absurd (show (none : Option Bool) = some false from h) (by simp)
                      · intro w5 hR
                        have hGw : Grow w8 w5 := hR.of_drew
                        have HGW := Lib.hid hGw
                        have sac := (HGW.out.block HSA8.out).cell
                        have sbc := (HGW.out.block HSB8.out).cell
                        have hp0 := ((HGW.out.block HRB8.out).cell (i * 2)).trans (rowC_lo (rankF (rngL l)) hli)
                        have hp1 := ((HGW.out.block HRB8.out).cell (i * 2 + 1)).trans (rowC_hi (rankF (rngL l)) hli)
                        have ho0 := ((HGW.out.block HRB8.out).cell (k * 2)).trans (rowC_lo (rankF (rngL l)) hlk)
                        have ho1 := ((HGW.out.block HRB8.out).cell (k * 2 + 1)).trans (rowC_hi (rankF (rngL l)) hlk)
                        rw [HQ.out] at hp0 hp1
                        rw [HU.out] at ho0 ho1
                        dsimp only at hp0 hp1 ho0 ho1
                        clear hR hGw
                        simp only [depV]
                        rintro _ rfl
                        rintro _ rfl
                        try go_simp
                        intro h
                        exact absurd (show (none : Option Bool) = some false from h) (by simp)
                      · intro w5 hR
                        have hGw : Grow w8 w5 := hR.of_drew
                        have HGW := Lib.hid hGw
                        have sac := (HGW.out.block HSA8.out).cell
                        have sbc := (HGW.out.block HSB8.out).cell
                        have hp0 := ((HGW.out.block HRB8.out).cell (i * 2)).trans (rowC_lo (rankF (rngL l)) hli)
                        have hp1 := ((HGW.out.block HRB8.out).cell (i * 2 + 1)).trans (rowC_hi (rankF (rngL l)) hli)
                        have ho0 := ((HGW.out.block HRB8.out).cell (k * 2)).trans (rowC_lo (rankF (rngL l)) hlk)
                        have ho1 := ((HGW.out.block HRB8.out).cell (k * 2 + 1)).trans (rowC_hi (rankF (rngL l)) hlk)
                        rw [HQ.out] at hp0 hp1
                        rw [HU.out] at ho0 ho1
                        dsimp only at hp0 hp1 ho0 ho1
                        clear hR hGw
                        simp only [depV]
                        rintro _ rfl
                        rintro _ rfl
                        try go_simp
                        intro h
                        exact absurd (show (none : Option Bool) = some false from h) (by simp)
                      · intro w5 hR
                        have hGw : Grow w8 w5 := hR.of_drew
                        have HGW := Lib.hid hGw
                        have sac := (HGW.out.block HSA8.out).cell
                        have sbc := (HGW.out.block HSB8.out).cell
                        have hp0 := ((HGW.out.block HRB8.out).cell (i * 2)).trans (rowC_lo (rankF (rngL l)) hli)
                        have hp1 := ((HGW.out.block HRB8.out).cell (i * 2 + 1)).trans (rowC_hi (rankF (rngL l)) hli)
                        have ho0 := ((HGW.out.block HRB8.out).cell (k * 2)).trans (rowC_lo (rankF (rngL l)) hlk)
                        have ho1 := ((HGW.out.block HRB8.out).cell (k * 2 + 1)).trans (rowC_hi (rankF (rngL l)) hlk)
                        rw [HQ.out] at hp0 hp1
                        rw [HU.out] at ho0 ho1
                        dsimp only at hp0 hp1 ho0 ho1
                        clear hR hGw
                        simp only [depV]
                        rintro _ rfl
                        rintro _ rfl
                        rintro _ rfl
                        try go_simp
                        intro h
                        exact absurd (show (none : Option Bool) = some false from h) (by simp)
                      · intro w5 hR
                        have hGw : Grow w8 w5 := hR.of_drew
                        have HGW := Lib.hid hGw
                        have sac := (HGW.out.block HSA8.out).cell
                        have sbc := (HGW.out.block HSB8.out).cell
                        have hp0 := ((HGW.out.block HRB8.out).cell (i * 2)).trans (rowC_lo (rankF (rngL l)) hli)
                        have hp1 := ((HGW.out.block HRB8.out).cell (i * 2 + 1)).trans (rowC_hi (rankF (rngL l)) hli)
                        have ho0 := ((HGW.out.block HRB8.out).cell (k * 2)).trans (rowC_lo (rankF (rngL l)) hlk)
                        have ho1 := ((HGW.out.block HRB8.out).cell (k * 2 + 1)).trans (rowC_hi (rankF (rngL l)) hlk)
                        rw [HQ.out] at hp0 hp1
                        rw [HU.out] at ho0 ho1
                        dsimp only at hp0 hp1 ho0 ho1
                        clear hR hGw
                        simp only [depV]
                        rintro _ rfl
                        rintro _ rfl
                        rintro _ rfl
                        try go_simp
                        all_goals first
                          | (with_reducible exact Grow.refl _)
                          | (with_reducible exact ⟨Grow.refl _, rfl⟩)
                      · intro w5 hR
                        have hGw : Grow w8 w5 := hR.of_drew
                        have HGW := Lib.hid hGw
                        have sac := (HGW.out.block HSA8.out).cell
                        have sbc := (HGW.out.block HSB8.out).cell
                        have hp0 := ((HGW.out.block HRB8.out).cell (i * 2)).trans (rowC_lo (rankF (rngL l)) hli)
                        have hp1 := ((HGW.out.block HRB8.out).cell (i * 2 + 1)).trans (rowC_hi (rankF (rngL l)) hli)
                        have ho0 := ((HGW.out.block HRB8.out).cell (k * 2)).trans (rowC_lo (rankF (rngL l)) hlk)
                        have ho1 := ((HGW.out.block HRB8.out).cell (k * 2 + 1)).trans (rowC_hi (rankF (rngL l)) hlk)
                        rw [HQ.out] at hp0 hp1
                        rw [HU.out] at ho0 ho1
                        dsimp only at hp0 hp1 ho0 ho1
                        clear hR hGw
                        simp only [depV]
                        rintro _ rfl
                        rintro _ rfl
                        rintro _ rfl
                        try go_simp
                        all_goals first
                          | (with_reducible exact Grow.refl _)
                          | (with_reducible exact ⟨Grow.refl _, rfl⟩)
                      · intro w5 hR
                        have hGw : Grow w8 w5 := hR.of_drew
                        have HGW := Lib.hid hGw
                        have sac := (HGW.out.block HSA8.out).cell
                        have sbc := (HGW.out.block HSB8.out).cell
                        have hp0 := ((HGW.out.block HRB8.out).cell (i * 2)).trans (rowC_lo (rankF (rngL l)) hli)
                        have hp1 := ((HGW.out.block HRB8.out).cell (i * 2 + 1)).trans (rowC_hi (rankF (rngL l)) hli)
                        have ho0 := ((HGW.out.block HRB8.out).cell (k * 2)).trans (rowC_lo (rankF (rngL l)) hlk)
                        have ho1 := ((HGW.out.block HRB8.out).cell (k * 2 + 1)).trans (rowC_hi (rankF (rngL l)) hlk)
                        rw [HQ.out] at hp0 hp1
                        rw [HU.out] at ho0 ho1
                        dsimp only at hp0 hp1 ho0 ho1
                        clear hR hGw
                        simp only [depV]
                        rintro _ rfl
                        rintro _ rfl
                        try go_simp
                        all_goals first
                          | (with_reducible exact Grow.refl _)
                          | (with_reducible exact ⟨Grow.refl _, rfl⟩)
                    · intro w5 hR
                      have HG5 : Hid (Grow w8 w5) := Lib.hid hR.of_drew
                      clear hR
                      simp only [finVC, List.take_succ_cons, List.take_zero, List.drop_succ_cons, List.drop_zero]
                      rintro _ rfl
                      rintro _ rfl
                      rintro _ rfl
                      rintro _ rfl
                      rintro _ rfl
                      rintro _ rfl
                      rintro _ rfl
                      rintro _ rfl
                      rintro _ rfl
                      rintro _ rfl
                      rintro _ rfl
                      rintro _ rfl
                      rintro _ rfl
                      rintro _ rfl
                      rintro _ rfl
                      rintro _ rfl
                      rintro _ rfl
                      rintro _ rfl
                      rintro _ rfl
                      rintro _ rfl
                      rintro _ rfl
                      rintro _ rfl
                      rintro _ rfl
                      rintro _ rfl
                      rintro _ rfl
                      rintro _ rfl
                      rintro _ rfl
                      rintro _ rfl
                      rintro _ rfl
                      rintro _ rfl
                      rintro _ rfl
                      rintro _ rfl
                      rintro _ rfl
                      rintro _ rfl
                      rintro _ rfl
                      rintro _ rfl
                      rintro _ rfl
                      rintro _ rfl
                      rintro _ rfl
                      simp only [Act.put, List.setIfInBounds_toArray, List.set_cons_succ, List.set_cons_zero]
                      have HGN : Hid (Grow w3 w5) := Lib.hid (HG80.out.trans HG5.out)
                      go_wp2_with fail
                      go_roundw
                      case rel => exact ⟨k + 1, by omega, by go_num, HGN.out⟩
                      case measure => simp [intOf]; omega
                · obtain rfl : k = l.length := by omega
                  have hd : decide ((l.length : Int) < (l.length : Int)) = false := decide_eq_false (by omega)
                  have HGN : Hid (Grow w2 w4) := Lib.hid HG4.out
                  go_wp2_with fail
                  go_roundw
                  case rel => exact ⟨i + 1, by omega, by go_num, HGN.out⟩
                  case measure => simp [intOf]; omega
        · obtain rfl : i = l.length := by omega
          have hd : decide ((l.length : Int) < (l.length : Int)) = false := decide_eq_false (by omega)
          have HGF : Hid (Grow w wr) := Lib.hid (HG2.out.trans HGR.out)
          go_wp2_with fail
          refine (HWK.out _ HGF.out).mono ?_
          rintro e w9 ⟨rfl, hb9⟩
          have HG9 : Hid (Grow w w9) := Lib.hid ((HGF.out).trans hb9)
          clear hb9
          go_wp2_with fail
          go_ret
          exact ⟨rfl, HG9.out⟩

end Go.Proofs.YthehkgpnnndboaaDoor
