/- The closures that order entries. -/
import Derived.Test.YtjpnblflenlnaaaGreatEntry
import Derived.Test.YtjpnblflenlnaaaGreatCmp
import Derived.Deep.DeepCutAuto
namespace Go.Proofs.YtjpnblflenlnaaaGreat
open Go.RowKit

/-- the order of the dictionary -/
def cmpE (x y : EntryD) : Int := orL [cmpF x.form y.form, cmpI x.sign y.sign, cmpI x.id y.id]
theorem cmpE_then : cmpE = thenC (fun x y => cmpF x.form y.form) (thenC (fun x y => cmpI x.sign y.sign) (fun x y => cmpI x.id y.id)) := by
  funext x y
  simp only [cmpE, orL, thenC]
  repeat' split
  all_goals simp_all
theorem cmp_cmpE : Cmp cmpE := by
  rw [cmpE_then]
  exact (cmp_cmpF.on EntryD.form).then_ ((cmp_cmpI.on EntryD.sign).then_ (cmp_cmpI.on EntryD.id))
/-- two of the same Id alone are equal in it -/
theorem cmpE_eq0 {x y : EntryD} (h : cmpE x y = 0) : x.id = y.id := by
  rw [cmpE_then] at h
  simp only [thenC] at h
  by_cases h1 : cmpF x.form y.form = 0
  · rw [if_pos h1] at h
    by_cases h2 : cmpI x.sign y.sign = 0
    · rw [if_pos h2] at h; exact cmpI_eq0 h
    · rw [if_neg h2] at h; exact absurd h h2
  · rw [if_neg h1] at h; exact absurd h h1

set_option maxRecDepth 100000 in
set_option maxHeartbeats 2000000 in
theorem order1_any (x y : EntryR) (w : World) (hx : MovesAt w w.heap.size x) (hy : MovesAt w w.heap.size y) (hxl : x.d.form.moves.length ≤ 6) (hyl : y.d.form.moves.length ≤ 6) :
    Calls Tryz.prog 57 #[entryV x, entryV y] w fun e w' => e = .returned (.int .i64 (cmpE x.d y.d)) ∧ Grew w w' := by
  have HX := Lib.hid hx
  have HY := Lib.hid hy
  clear hx hy
  go_enter Tryz.func57, Tryz.ntmps57
  go_upto_region 1 with fail
  obtain ⟨W, hW, hWd, hg, hf, hf', hsz⟩ : ∃ W, (w.alloc (.cells (cellsE x) 62)).alloc (.cells (cellsE y) 62) = W ∧ w.drawn = W.drawn ∧ Grow w W ∧ BlockIs W w.heap.size 62 (cellsE x) ∧ BlockIs W (w.heap.size + 1) 62 (cellsE y) ∧ w.heap.size + 1 < W.heap.size := by
    obtain ⟨W, h1, h2⟩ := two_blocks w 62 62 (cellsE x) (cellsE y)
    exact ⟨W, h1, by rw [← h1]; rfl, h2⟩
  rw [hW]
  clear hW
  have HC := Lib.hid (fun w1 (h : Grow w w1) => compareForms_grew x.d.form y.d.form x.A y.A x.cap y.cap w1 ((HX.out.1.below h).more h.size) ((HY.out.1.below h).more h.size) (by omega) (by omega))
  refine wp_region_lit 15 [[], [(0, 5)], [], [(2, 7)], [(1, 6), (3, 8)], [], [(5, 10)], [], [(7, 12)], [(6, 11), (8, 13)], [], [(10, 15)], [], [(12, 17)], [(11, 16), (13, 18)]] Grew (fun i v _ => match i with
      | 0 => v = .pointer (some ⟨w.heap.size, 3, none⟩) | 1 => v = formV x.d.form x.A x.cap | 2 => v = .pointer (some ⟨w.heap.size + 1, 3, none⟩) | 3 => v = formV y.d.form y.A y.cap | 4 => v = .int .i64 (cmpF x.d.form y.d.form)
      | 5 => v = .pointer (some ⟨w.heap.size, 1, none⟩) | 6 => v = .int .i64 x.d.sign | 7 => v = .pointer (some ⟨w.heap.size + 1, 1, none⟩) | 8 => v = .int .i64 y.d.sign | 9 => v = .int .i64 (cmpI x.d.sign y.d.sign)
      | 10 => v = .pointer (some ⟨w.heap.size, 0, none⟩) | 11 => v = .int .i64 x.d.id | 12 => v = .pointer (some ⟨w.heap.size + 1, 0, none⟩) | 13 => v = .int .i64 y.d.id | 14 => v = .int .i64 (cmpI x.d.id y.d.id)
      | _ => False) (by kernel_rfl) (by kernel_rfl) (fun _ _ _ => Grew.trans) Grew.refl (fun _ _ _ _ h _ => h) ?_ ?_
  · simp only [StepsLit, List.take_succ_cons, List.take_zero]
    refine ⟨?_, ?_, ?_, ?_, ?_, ?_, ?_, ?_, ?_, ?_, ?_, ?_, ?_, ?_, ?_, trivial⟩
    all_goals
      intro w1 hR
      have hfc := (hR.1.of_drew.block hf).cell
      have hgc := (hR.1.of_drew.block hf').cell
      have hbw : Grow w w1 := hg.trans hR.1.of_drew
      have HBW := Lib.hid hbw
      clear hbw
      simp only [depV, Region.wanted, cond_true]
      repeat (rintro _ rfl)
      go_simp
    all_goals first
      | exact Grew.refl _
      | (refine (cmpCompare_any _ _ _).mono ?_; rintro e w' ⟨rfl, rfl⟩; go_simp; exact Grew.refl _)
      | (refine (HC.out _ HBW.out).mono ?_; rintro e w' ⟨rfl, hgr⟩; go_simp; try exact hgr)
  · intro w2 hR2
    have hd2 : w.drawn ≤ w2.drawn := by rw [hWd]; exact hR2.of_drew.2
    have HG : Hid (Grew w w2) := ⟨hg.trans hR2.1.of_drew, hd2⟩
    clear hf hf' hg hR2 hWd hd2
    simp only [finVC, List.take_succ_cons, List.take_zero, List.drop_succ_cons, List.drop_zero]
    repeat (rintro _ rfl)
    simp only [Act.put, List.setIfInBounds_toArray, List.set_cons_succ, List.set_cons_zero]
    have hn : Ints (w2.alloc (.cells #[.int .i64 (cmpF x.d.form y.d.form), .int .i64 (cmpI x.d.sign y.d.sign), .int .i64 (cmpI x.d.id y.d.id)] 3)) (w2.heap.size + 1) (some ⟨w2.heap.size, 0, none⟩)
        [cmpF x.d.form y.d.form, cmpI x.d.sign y.d.sign, cmpI x.d.id y.d.id] := by
      have := ints_block (xs := [cmpF x.d.form y.d.form, cmpI x.d.sign y.d.sign, cmpI x.d.id y.d.id]) (BlockIs.new w2 3 #[.int .i64 (cmpF x.d.form y.d.form), .int .i64 (cmpI x.d.sign y.d.sign), .int .i64 (cmpI x.d.id y.d.id)])
      simpa using this
    have HOR := Lib.hid (cmpOr_any (some ⟨w2.heap.size, 0, none⟩) 3 _ _ _ hn (by simp))
    clear hn
    go_wp2_with (first | (go_at_call 58; refine HOR.out.mono ?_; rintro e w' ⟨rfl, rfl⟩))
    go_ret
    exact ⟨rfl, HG.out.trans (Grew.alloc _ _)⟩

set_option maxHeartbeats 2000000 in
theorem merge1_any (x y : EntryR) (w : World) :
    Calls Tryz.prog 72 #[entryV x, entryV y] w fun e w' => e = .returned (.int .i64 (cmpI x.d.id y.d.id)) ∧ Grew w w' := by
  go_enter Tryz.func72, Tryz.ntmps72
  go_wp2_with (first | (go_at_call 59; refine (cmpCompare_any _ _ _).mono ?_; rintro e w' ⟨rfl, rfl⟩))
  go_ret
  exact ⟨rfl, (Grew.alloc _ _).trans (Grew.alloc _ _)⟩

end Go.Proofs.YtjpnblflenlnaaaGreat
