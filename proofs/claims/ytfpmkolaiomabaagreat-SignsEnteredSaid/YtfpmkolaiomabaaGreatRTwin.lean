/- RTwin: the specification's twin. -/
import Derived.Test.YtfpmkolaiomabaaGreatAlike
namespace Go.Proofs.YtfpmkolaiomabaaGreat
open Go.RowKit

def rtwinD (x y : EntryD) : Bool := (cmpF (canonD x.form) (canonD y.form) == 0) && (bits .and .i64 x.regions y.regions != 0) && decide (max x.low y.low ≤ min x.high y.high)

set_option maxRecDepth 100000 in
set_option maxHeartbeats 32000000 in
theorem rtwin_any (x y : EntryR) (w : World) (hx : MovesAt w w.heap.size x) (hy : MovesAt w w.heap.size y) (ox : okForm x.d.form = true) (oy : okForm y.d.form = true) :
    Calls Tryz.prog 70 #[entryV x, entryV y] w fun e w' => e = .returned (.bool (rtwinD x.d y.d)) ∧ Below w.heap.size w w' := by
  have HCX := Lib.hid (fun (w0 : World) (h : Grow w w0) => rcanon_any x.d.form x.A x.cap w.heap.size w0 (hx.1.below h) h.size ox)
  have HCY := Lib.hid (fun (w0 : World) (h : Grow w w0) => rcanon_any y.d.form y.A y.cap w.heap.size w0 (hy.1.below h) h.size oy)
  have HFI := Lib.hid (fun (A A' : Option Addr) (cap cap' : Nat) (w0 : World) (h : Ints w0 w0.heap.size A (canonD x.d.form).moves) (h' : Ints w0 w0.heap.size A' (canonD y.d.form).moves) => rFirst_any (canonD x.d.form) (canonD y.d.form) A A' cap cap' w0 h h' (okForm_canon ox) (okForm_canon oy))
  clear hx hy ox oy
  have HO : Hid (rtwinD x.d y.d = ((cmpF (canonD x.d.form) (canonD y.d.form) == 0) && (bits .and .i64 x.d.regions y.d.regions != 0) && decide (max x.d.low y.d.low ≤ min x.d.high y.d.high))) := rfl
  generalize rtwinD x.d y.d = res at HO ⊢
  generalize cmpF (canonD x.d.form) (canonD y.d.form) = cc at HFI HO
  generalize h1 : (cc == 0) = p1 at HO
  generalize hz : bits .and .i64 x.d.regions y.d.regions = z at HO
  generalize h2 : (z != 0) = p2 at HO
  generalize h3 : decide (max x.d.low y.d.low ≤ min x.d.high y.d.high) = p3 at HO
  have H1 := Lib.hid h1
  have H2 := Lib.hid h2
  have H3 := Lib.hid h3
  have HZ := Lib.hid hz
  clear h1 h2 h3 hz
  go_enter Tryz.func70, Tryz.ntmps70
  go_upto_region 1 with fail
  obtain ⟨W, hW, hg, hf, hf', hsz⟩ := two_blocks w 62 62 (cellsE x) (cellsE y)
  rw [hW]
  clear hW
  refine wp_region_lit 34 [[], [(0, 5)], [(1, 6)], [], [(3, 8)], [(4, 9)], [(2, 7), (5, 10)], [(6, 11)], [(7, 12)], [(8, 13)], [(8, 13), (9, 14)], [(8, 13)], [(8, 13), (11, 16)], [(8, 13), (10, 15), (12, 17)], [(8, 13), (13, 18)], [(8, 13), (14, 19)], [(15, 20)], [(16, 21)], [(16, 21), (17, 22)], [(16, 21), (18, 23)], [(16, 21)], [(16, 21), (20, 25)], [(16, 21), (21, 26)], [(16, 21), (19, 24), (22, 27)], [(16, 21)], [(16, 21), (24, 29)], [(16, 21), (25, 30)], [(16, 21)], [(16, 21), (27, 32)], [(16, 21), (28, 33)], [(16, 21), (26, 31), (29, 34)], [(16, 21), (23, 28), (30, 35)], [(16, 21), (31, 36)], [(32, 37)]] Grow (fun i v w' => match i with
      | 0 => v = .pointer (some ⟨w.heap.size, 3, none⟩)
      | 1 => v = formV x.d.form x.A x.cap
      | 2 => NewForm (canonD x.d.form) w.heap.size v w'
      | 3 => v = .pointer (some ⟨w.heap.size + 1, 3, none⟩)
      | 4 => v = formV y.d.form y.A y.cap
      | 5 => NewForm (canonD y.d.form) w.heap.size v w'
      | 6 => v = .int .i64 cc
      | 7 => v = .bool p1
      | 8 => v = .bool p1
      | 9 => v = bif p1 then .pointer (some ⟨w.heap.size, 2, none⟩) else undef
      | 10 => v = bif p1 then .int .i64 x.d.regions else undef
      | 11 => v = bif p1 then .pointer (some ⟨w.heap.size + 1, 2, none⟩) else undef
      | 12 => v = bif p1 then .int .i64 y.d.regions else undef
      | 13 => v = bif p1 then .int .i64 z else undef
      | 14 => v = bif p1 then .bool p2 else undef
      | 15 => v = .bool (p1 && p2)
      | 16 => v = .bool (p1 && p2)
      | 17 => v = bif p1 && p2 then .pointer (some ⟨w.heap.size, 9, none⟩) else undef
      | 18 => v = bif p1 && p2 then .pointer (some ⟨w.heap.size, 9, none⟩) else undef
      | 19 => v = bif p1 && p2 then .int .i64 x.d.low else undef
      | 20 => v = bif p1 && p2 then .pointer (some ⟨w.heap.size + 1, 9, none⟩) else undef
      | 21 => v = bif p1 && p2 then .pointer (some ⟨w.heap.size + 1, 9, none⟩) else undef
      | 22 => v = bif p1 && p2 then .int .i64 y.d.low else undef
      | 23 => v = bif p1 && p2 then .int .i64 (max x.d.low y.d.low) else undef
      | 24 => v = bif p1 && p2 then .pointer (some ⟨w.heap.size, 9, none⟩) else undef
      | 25 => v = bif p1 && p2 then .pointer (some ⟨w.heap.size, 10, none⟩) else undef
      | 26 => v = bif p1 && p2 then .int .i64 x.d.high else undef
      | 27 => v = bif p1 && p2 then .pointer (some ⟨w.heap.size + 1, 9, none⟩) else undef
      | 28 => v = bif p1 && p2 then .pointer (some ⟨w.heap.size + 1, 10, none⟩) else undef
      | 29 => v = bif p1 && p2 then .int .i64 y.d.high else undef
      | 30 => v = bif p1 && p2 then .int .i64 (min x.d.high y.d.high) else undef
      | 31 => v = bif p1 && p2 then .bool p3 else undef
      | 32 => v = .bool (p1 && p2 && p3)
      | 33 => v = .bool (p1 && p2 && p3)
      | _ => False) (by kernel_rfl) (by kernel_rfl) (fun _ _ _ => Grow.trans) Grow.refl ?_ ?_ ?_
  · intro i v y y' h k
    match i, h with
    | 2, h => obtain ⟨a, c, h1, h2⟩ := h; exact ⟨a, c, h1, h2.grow k⟩
    | 5, h => obtain ⟨a, c, h1, h2⟩ := h; exact ⟨a, c, h1, h2.grow k⟩
    | 0, h | 1, h | 3, h | 4, h | 6, h | 7, h | 8, h | 9, h | 10, h | 11, h | 12, h | 13, h | 14, h | 15, h | 16, h | 17, h | 18, h | 19, h | 20, h | 21, h | 22, h | 23, h | 24, h | 25, h | 26, h | 27, h | 28, h | 29, h | 30, h | 31, h | 32, h | 33, h => exact h
  · rcases (show p1 = false ∨ (p1 = true ∧ p2 = false) ∨ (p1 = true ∧ p2 = true) by cases p1 <;> cases p2 <;> simp) with rfl | ⟨rfl, rfl⟩ | ⟨rfl, rfl⟩
    all_goals simp only [Bool.true_and, Bool.false_and, cond_true, cond_false]
    all_goals
      simp only [StepsLit, List.take_succ_cons, List.take_zero]
      refine ⟨?_, ?_, ?_, ?_, ?_, ?_, ?_, ?_, ?_, ?_, ?_, ?_, ?_, ?_, ?_, ?_, ?_, ?_, ?_, ?_, ?_, ?_, ?_, ?_, ?_, ?_, ?_, ?_, ?_, ?_, ?_, ?_, ?_, ?_, trivial⟩
    all_goals
      intro w3 hR
      have hG := hR.of_drew
      have hfc := (hG.block hf).cell
      have hfc' := (hG.block hf').cell
      have HG := Lib.hid (hg.trans hG)
      simp only [depV, Region.wanted, yielded, cond_true]
      repeat (rintro _ rfl)
      try go_simp
    all_goals first
      | (with_reducible exact Grow.refl _)
      | (with_reducible exact ⟨Grow.refl _, HZ.out⟩)
      | (with_reducible refine ⟨Grow.refl _, ?_⟩; split <;> omega)
      | (with_reducible refine ⟨Grow.refl _, ?_⟩; first | (have h := H1.out; simpa using h) | (have h := H2.out; simpa using h) | (have h := H3.out; simpa using h) | (have h := H3.out; simp only [decide_eq_true_eq, decide_eq_false_iff_not] at h ⊢; omega))
      | (intro h; exact absurd h (by simp [undef]))
      | skip
    · refine (HCX.out _ HG.out).mono ?_
      rintro e w4 ⟨A4, c4, rfl, hi4, hb4⟩
      exact ⟨hb4, A4, c4, rfl, hi4.mono HG.out.size⟩
    · refine (HCY.out _ HG.out).mono ?_
      rintro e w4 ⟨A4, c4, rfl, hi4, hb4⟩
      exact ⟨hb4, A4, c4, rfl, hi4.mono HG.out.size⟩
    · rintro _ ⟨A4, c4, rfl, hi4⟩ _ ⟨A5, c5, rfl, hi5⟩
      refine (HFI.out _ _ _ _ _ hi4.ints hi5.ints).mono ?_
      rintro e w4 ⟨rfl, hb4⟩
      exact ⟨hb4, rfl⟩
    · refine (HCX.out _ HG.out).mono ?_
      rintro e w4 ⟨A4, c4, rfl, hi4, hb4⟩
      exact ⟨hb4, A4, c4, rfl, hi4.mono HG.out.size⟩
    · refine (HCY.out _ HG.out).mono ?_
      rintro e w4 ⟨A4, c4, rfl, hi4, hb4⟩
      exact ⟨hb4, A4, c4, rfl, hi4.mono HG.out.size⟩
    · rintro _ ⟨A4, c4, rfl, hi4⟩ _ ⟨A5, c5, rfl, hi5⟩
      refine (HFI.out _ _ _ _ _ hi4.ints hi5.ints).mono ?_
      rintro e w4 ⟨rfl, hb4⟩
      exact ⟨hb4, rfl⟩
    · refine (HCX.out _ HG.out).mono ?_
      rintro e w4 ⟨A4, c4, rfl, hi4, hb4⟩
      exact ⟨hb4, A4, c4, rfl, hi4.mono HG.out.size⟩
    · refine (HCY.out _ HG.out).mono ?_
      rintro e w4 ⟨A4, c4, rfl, hi4, hb4⟩
      exact ⟨hb4, A4, c4, rfl, hi4.mono HG.out.size⟩
    · rintro _ ⟨A4, c4, rfl, hi4⟩ _ ⟨A5, c5, rfl, hi5⟩
      refine (HFI.out _ _ _ _ _ hi4.ints hi5.ints).mono ?_
      rintro e w4 ⟨rfl, hb4⟩
      exact ⟨hb4, rfl⟩
  · intro w3 hR
    have HG := Lib.hid (hg.trans hR.of_drew)
    have HE : Hid ((p1 && p2 && p3) = res) := by rw [Hid, HO.out]
    clear hf hf' hg hR HO
    simp only [finVC, List.take_succ_cons, List.take_zero, List.drop_succ_cons, List.drop_zero]
    rintro _ rfl
    rintro _ rfl
    intro v2 hv2
    rintro _ rfl
    rintro _ rfl
    intro v5 hv5
    rintro _ rfl
    rintro _ rfl
    rintro _ rfl
    rintro _ rfl
    rintro _ rfl
    rintro _ rfl
    rintro _ rfl
    rintro _ rfl
    rintro _ rfl
    rintro _ rfl
    rintro _ rfl
    rintro _ rfl
    rintro _ rfl
    rintro _ rfl
    rintro _ rfl
    rintro _ rfl
    rintro _ rfl
    rintro _ rfl
    rintro _ rfl
    rintro _ rfl
    rintro _ rfl
    rintro _ rfl
    rintro _ rfl
    rintro _ rfl
    rintro _ rfl
    rintro _ rfl
    rintro _ rfl
    rintro _ rfl
    simp only [Act.put, List.setIfInBounds_toArray, List.set_cons_succ, List.set_cons_zero]
    go_wp2
    go_ret
    exact ⟨ret_bool HE.out, HG.out⟩

end Go.Proofs.YtfpmkolaiomabaaGreat
