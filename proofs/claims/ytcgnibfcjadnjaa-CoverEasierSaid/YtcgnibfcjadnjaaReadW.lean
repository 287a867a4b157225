/- ReadW: readWatch: a pool that has been checked and the groups of a possible watch. -/
import Derived.Test.YtcgnibfcjadnjaaReads
namespace Go.Proofs.Ytcgnibfcjadnjaa
open Go.RowKit

def fillL (ws : List Int) (k : Nat) : List Int := ws.take k ++ List.replicate (ws.length - k) 0
theorem fill_zero (ws : List Int) : fillL ws 0 = List.replicate ws.length 0 := by simp [fillL]
theorem fill_all (ws : List Int) : fillL ws ws.length = ws := by simp [fillL]
theorem fill_set {ws : List Int} {k : Nat} {x : Int} (h : ws[k]? = some x) : (fillL ws k).set k x = fillL ws (k + 1) := by
  have hk := lt_of_at h
  unfold fillL
  rw [take_snoc h, List.set_append, if_neg (by rw [List.length_take]; omega), List.length_take, Nat.min_eq_left (by omega), Nat.sub_self, show ws.length - k = (ws.length - (k + 1)) + 1 by omega, List.replicate_succ, List.set_cons_zero, List.append_assoc]
  rfl
theorem fill_len (ws : List Int) {k : Nat} (hk : k ≤ ws.length) : (fillL ws k).length = ws.length := by
  unfold fillL
  rw [List.length_append, List.length_take, List.length_replicate]
  omega

set_option maxRecDepth 100000 in
set_option maxHeartbeats 4000000 in
theorem readWatch_bad (h : PoolH) (d : PoolI) (A : Option Addr) (cap n : Nat) (w : World) (hA : PoolAt w w.heap.size h d) (hs : Short d) (hok : okPool d = false) :
    Calls Try.prog 44 #[poolV h d, .slice A n cap] w fun e w' => e = .returned (.tuple #[.agg zeroP, .slice none 0 0, .int .i64 100]) ∧ Below w.heap.size w w' := by
  have HR := Lib.hid (fun (w0 : World) (hw : Grow w w0) => read_any h d w0 (hA.grow hw) hs)
  have h1 : poolErr d = 100 := by unfold poolErr; rw [hok]; rfl
  have h2 : readCells h d = zeroP := by unfold readCells; rw [hok]; rfl
  rw [h1, h2] at HR
  obtain ⟨fa, fc, na, nc⟩ := h
  clear h1 h2 hok hA
  go_enter Try.func44, Try.ntmps44
  go_upto_region 1 with fail
  obtain ⟨W, hW, hg, hf, hr, hsz⟩ := two_blocks w 25 73 (cellsP ⟨fa, fc, na, nc⟩ d) zeroP
  rw [hW]
  clear hW
  have hcc := hf.cell
  have HRB := Lib.hid hr
  have HG := Lib.hid hg
  clear hf hr hg
  go_wp2_with fail
  refine (HR.out W HG.out).mono ?_
  rintro e w1 ⟨rfl, hb1⟩
  have HG1 : Hid (Grow W w1) := hb1
  clear hb1 hcc
  go_upto_region 2 with fail
  obtain ⟨w2, hw2, hg2, hf2, hz2⟩ := one_block w1 73 zeroP
  have HG2 : Hid (Grow W w2) := Lib.hid (HG1.out.trans hg2)
  rw [hw2]
  clear hw2 hg2 hf2 hz2
  have hrb := HG2.out.block HRB.out
  have hrc := hrb.cell
  have hrf := hrb.frozen
  have H5 := Lib.hid (stores4 hrb (.slice none 0 0) (.slice none 0 0) (.int .i64 0) (.int .i64 0))
  have HB5 := Lib.hid ((HG.out.trans HG2.out).trans' (below4 (w := w2) (B := w.heap.size) (b := w.heap.size + 1) (by omega) (.slice none 0 0) (.slice none 0 0) (.int .i64 0) (.int .i64 0)))
  clear hrb
  go_wp2
  exact bodyPost_ret (results_watch Try.results44 _ _ _ _ _ _ _ _ _ H5.out rfl rfl rfl) rfl ⟨rfl, HB5.out⟩

set_option maxRecDepth 100000 in
set_option maxHeartbeats 16000000 in
theorem readWatch_any (h : PoolH) (p : Pool) (G : Good p) (hok : okPool p.i = true) (hs : Short p.i) (A : Option Addr) (cap : Nat) (ws : List Int) (w : World) (hA : PoolAt w w.heap.size h p.i) (hI : Ints w w.heap.size A ws) (hl : ws.length ≤ 1000) (hwf : Wf ws) :
    Calls Try.prog 44 #[poolN h p, .slice A ws.length cap] w fun e w' => ∃ v gv er, e = .returned (.tuple #[v, gv, .int .i64 er]) ∧
      (okWatch p ws = true → v = poolN h p ∧ er = 0 ∧ ∃ b, gv = .slice (some ⟨b, 0, none⟩) ws.length ws.length ∧ Ints w' w'.heap.size (some ⟨b, 0, none⟩) ws) ∧ (okWatch p ws = false → v = .agg zeroP ∧ gv = .slice none 0 0 ∧ er = 101) ∧ Below w.heap.size w w' := by
  have HR := Lib.hid (fun (w0 : World) (hw : Grow w w0) => read_any h p.i w0 (hA.grow hw) hs)
  have HIN := Lib.hid (fun (w0 : World) (hw : Grow w w0) => (hI.below hw).more hw.size)
  have HIP := Lib.hid (fun (b c : Nat) (w0 : World) (hw : Grow w w0) (hb : Ints w0 w0.heap.size (some ⟨b, 0, none⟩) ws) => isPossible_any h p G (some ⟨b, 0, none⟩) c ws w0 (hA.grow hw) hb (by omega) hwf)
  have h1 : poolErr p.i = 0 := by unfold poolErr; rw [hok]; rfl
  have h2 : readCells h p.i = cellsN h p := by unfold readCells; rw [hok]; exact cells_i h p
  rw [h1, h2, pool_i] at HR
  obtain ⟨PO, hPO⟩ : ∃ z : Ending → World → Prop, (fun e w' => ∃ v gv er, e = Ending.returned (.tuple #[v, gv, .int .i64 er]) ∧
      (okWatch p ws = true → v = poolN h p ∧ er = 0 ∧ ∃ b, gv = .slice (some ⟨b, 0, none⟩) ws.length ws.length ∧ Ints w' w'.heap.size (some ⟨b, 0, none⟩) ws) ∧ (okWatch p ws = false → v = .agg zeroP ∧ gv = .slice none 0 0 ∧ er = 101) ∧ Below w.heap.size w w') = z := ⟨_, rfl⟩
  have HY : Hid (∀ b w', okWatch p ws = true → Ints w' w'.heap.size (some ⟨b, 0, none⟩) ws → Below w.heap.size w w' → PO (Ending.returned (.tuple #[poolN h p, .slice (some ⟨b, 0, none⟩) ws.length ws.length, .int .i64 0])) w') := Lib.hid (fun b w' h1 h2 h3 => by rw [← hPO]; exact ⟨_, _, _, rfl, fun _ => ⟨rfl, rfl, b, rfl, h2⟩, fun h => (by rw [h1] at h; cases h), h3⟩)
  have HNO : Hid (∀ w', okWatch p ws = false → Below w.heap.size w w' → PO (Ending.returned (.tuple #[.agg zeroP, .slice none 0 0, .int .i64 101])) w') := Lib.hid (fun w' h1 h3 => by rw [← hPO]; exact ⟨_, _, _, rfl, fun h => (by rw [h1] at h; cases h), fun _ => ⟨rfl, rfl, rfl⟩, h3⟩)
  rw [hPO]
  obtain ⟨q, hq'⟩ : ∃ z, okWatch p ws = z := ⟨_, rfl⟩
  rw [hq'] at HY HNO HIP
  obtain ⟨fa, fc, na, nc⟩ := h
  clear h1 h2 hok hA hPO hq' hI hs hwf
  go_enter Try.func44, Try.ntmps44
  go_upto_region 1 with fail
  obtain ⟨W, hW, hg, hf, hr, hsz⟩ := two_blocks w 25 73 (cellsN ⟨fa, fc, na, nc⟩ p) zeroP
  rw [hW]
  clear hW
  have hcc := hf.cell
  have HRB := Lib.hid hr
  have HG := Lib.hid hg
  clear hf hr hg
  go_wp2_with fail
  refine (HR.out W HG.out).mono ?_
  rintro e w1 ⟨rfl, hb1⟩
  have HG1 : Hid (Grow W w1) := hb1
  clear hb1 hcc HR
  go_upto_region 2 with fail
  obtain ⟨w2, hw2, hg2, hf2, hz2⟩ := one_block w1 73 (cellsN ⟨fa, fc, na, nc⟩ p)
  have HG2 : Hid (Grow W w2) := Lib.hid (HG1.out.trans hg2)
  rw [hw2]
  have HXB := Lib.hid hf2
  have hw1s : W.heap.size ≤ w1.heap.size := HG1.out.size
  obtain ⟨xb, hxb⟩ : ∃ z, w1.heap.size = z := ⟨_, rfl⟩
  rw [hxb] at HXB hz2 hw1s ⊢
  clear hw2 hg2 hf2 hxb HG1
  have hmk := make_full_group ws.length w2 (by omega)
  go_upto_region 5 with fail
  obtain ⟨w3, hw3, hg3, hf3, hz3⟩ := one_block w2 83 (intCells (List.replicate ws.length 0))
  have HG3 : Hid (Grow w w3) := Lib.hid (HG.out.trans (HG2.out.trans hg3))
  have HB3 : Hid (BlockIs w3 w2.heap.size 83 (intCells (fillL ws 0))) := Lib.hid (by rw [fill_zero]; exact hf3)
  have HX3 := Lib.hid (hg3.block HXB.out)
  have HR3 := Lib.hid ((HG2.out.trans hg3).block HRB.out)
  rw [hw3]
  obtain ⟨gb, hgb⟩ : ∃ z, w2.heap.size = z := ⟨_, rfl⟩
  rw [hgb] at HB3 hz2 hz3 ⊢
  have hws : W.heap.size ≤ gb := by omega
  have hwg : w.heap.size + 1 < gb := by omega
  have hxg : xb ≠ gb := by omega
  have hrg : w.heap.size + 1 ≠ gb := by omega
  have hwg0 : w.heap.size ≤ gb := by omega
  clear hw3 hg3 hf3 hgb hmk HXB HRB HG2 HG
  go_wp2_with fail
  go_loopw [26] (fun iv wr => ∃ k : Nat, k ≤ ws.length ∧ iv = .int .i64 (k : Nat) ∧ BlockIs wr gb 83 (intCells (fillL ws k)) ∧ BlockIs wr xb 73 (cellsN ⟨fa, fc, na, nc⟩ p) ∧ BlockIs wr (w.heap.size + 1) 73 zeroP ∧ Grow w wr) (fun iv _ => ws.length - (intOf iv).toNat)
  case atStart => exact ⟨0, Nat.zero_le _, rfl, HB3.out, HX3.out, HR3.out, HG3.out⟩
  case round =>
    obtain ⟨k, hk, rfl, hbk, hxk, hrk, hgr⟩ := hrel
    rename World => wr
    have HBK := Lib.hid hbk
    have HXK := Lib.hid hxk
    have HRK := Lib.hid hrk
    have HGR := Lib.hid hgr
    clear hbk hxk hrk hgr HB3 HX3 HR3
    by_cases hlt : k < ws.length
    · have hd : decide ((k : Int) < (ws.length : Int)) = true := decide_eq_true (by omega)
      have h00 : (0 : Int) ≤ (k : Int) := by omega
      have hk1 : (k : Int) < (ws.length : Int) := by omega
      obtain ⟨b, off, x, rfl, hbl, hc, HX⟩ := (HIN.out wr HGR.out).at_ hlt
      have hgc : wr.cell? ⟨gb, k, none⟩ = some ((fillL ws k).map (Value.int .i64))[k]! := by
        rw [HBK.out.cell]
        simp [fill_len ws hk, hlt]
      have hgf : wr.frozen? ⟨gb, k, none⟩ = false := HBK.out.frozen k
      have HN : Hid (BlockIs (wr.setCell ⟨gb, k, none⟩ (.int .i64 x)) gb 83 (intCells (fillL ws (k + 1)))) := Lib.hid (by
        have := HBK.out.near k (.int .i64 x)
        rw [intCells_set, fill_set HX.out] at this
        exact this)
      have HXN := Lib.hid (HXK.out.far (p := ⟨gb, k, none⟩) hxg (.int .i64 x))
      have HRN := Lib.hid (HRK.out.far (p := ⟨gb, k, none⟩) hrg (.int .i64 x))
      have HGN : Hid (Grow w (wr.setCell ⟨gb, k, none⟩ (.int .i64 x))) := Lib.hid (HGR.out.setC (p := ⟨gb, k, none⟩) hwg0 _)
      go_wp2
      go_roundw
      case rel => exact ⟨k + 1, by omega, by go_num, HN.out, HXN.out, HRN.out, HGN.out⟩
      case measure => simp [intOf]; omega
    · obtain rfl : k = ws.length := by omega
      have hd : decide ((ws.length : Int) < (ws.length : Int)) = false := decide_eq_false (by omega)
      have HGI : Hid (Ints wr wr.heap.size (some ⟨gb, 0, none⟩) ws) := Lib.hid (by have h := HBK.out; rw [fill_all] at h; exact ints_of_block h)
      have hxc := HXK.out.cell
      go_wp2_with fail
      refine (HIP.out gb ws.length wr HGR.out HGI.out).mono ?_
      rintro e w4 ⟨rfl, hb4⟩
      have HX4 : Hid (Grow wr w4) := hb4
      have HG4 : Hid (Grow w w4) := Lib.hid (HGR.out.trans hb4)
      have hxc4 := (HX4.out.block HXK.out).cell
      have hrb := HX4.out.block HRK.out
      have hrc := hrb.cell
      have hrf := hrb.frozen
      have HRB4 := Lib.hid hrb
      clear hb4 hxc hrb
      cases q with
      | false =>
        have H5 := Lib.hid (stores4 HRB4.out (.slice none 0 0) (.slice none 0 0) (.int .i64 0) (.int .i64 0))
        have HB5 := Lib.hid (HG4.out.trans' (below4 (w := w4) (B := w.heap.size) (b := w.heap.size + 1) (by omega) (.slice none 0 0) (.slice none 0 0) (.int .i64 0) (.int .i64 0)))
        go_wp2
        exact bodyPost_ret (results_watch Try.results44 _ _ _ _ _ _ _ _ _ H5.out rfl rfl rfl) rfl (HNO.out _ (by first | rfl | trivial) HB5.out)
      | true =>
        have H5 := Lib.hid (stores4 HRB4.out (.slice fa p.folk.length fc) (.slice na p.needs.length nc) (.int .i64 (p.ill : Nat)) (.int .i64 (p.most : Nat)))
        have HB5 := Lib.hid (HG4.out.trans' (below4 (w := w4) (B := w.heap.size) (b := w.heap.size + 1) (by omega) (.slice fa p.folk.length fc) (.slice na p.needs.length nc) (.int .i64 (p.ill : Nat)) (.int .i64 (p.most : Nat))))
        have HGB := Lib.hid (HX4.out.block HBK.out)
        have HI5 : Hid (Ints _ _ (some ⟨gb, 0, none⟩) ws) := Lib.hid (ints_of_block (by have h := far4 HGB.out (Ne.symm hrg) (.slice fa p.folk.length fc) (.slice na p.needs.length nc) (.int .i64 (p.ill : Nat)) (.int .i64 (p.most : Nat)); rw [fill_all] at h; exact h))
        go_wp2
        exact bodyPost_ret (results_watch Try.results44 _ _ _ _ _ _ _ _ _ H5.out rfl rfl rfl) rfl (HY.out gb _ (by first | rfl | trivial) HI5.out HB5.out)

end Go.Proofs.Ytcgnibfcjadnjaa
