/- Check: worst, best, validHand, validTask, read. -/
import Derived.Test.YthlihchndmbkaaaSlices
import Derived.Deep.DeepCutAuto
namespace Go.Proofs.Ythlihchndmbkaaa
open Go.RowKit

set_option maxHeartbeats 800000 in
theorem validHand_any (h : HandD) (w : World) : Calls Try.prog 76 #[handV h] w fun e w' => e = .returned (.bool (okHand h)) ∧ Below w.heap.size w w' := by
  obtain ⟨s0, s1, t0, t1, e0, e1, slip⟩ := h
  have HO : Hid (okHand ⟨s0, s1, t0, t1, e0, e1, slip⟩ = (okSpan s0 s1 100 && okSpan t0 t1 20 && okSpan e0 e1 20 && inB slip 0 100)) := rfl
  have HA := Lib.hid (fun w0 => validSpan_any s0 s1 100 w0)
  have HB := Lib.hid (fun w0 => validSpan_any t0 t1 20 w0)
  have HC := Lib.hid (fun w0 => validSpan_any e0 e1 20 w0)
  generalize okSpan s0 s1 100 = a at HO HA
  generalize okSpan t0 t1 20 = b at HO HB
  generalize okSpan e0 e1 20 = c at HO HC
  go_enter Try.func76, Try.ntmps76
  go_upto_region 1 with fail
  obtain ⟨W, hW, hg, hH, hsz⟩ := one_block w 52 (cellsH ⟨s0, s1, t0, t1, e0, e1, slip⟩)
  rw [hW]
  clear hW
  have HH := Lib.hid hH
  have HG := Lib.hid hg
  have hcc := hH.cell
  clear hg hH
  go_cut [3] (fun v wx => v = .bool (a && b && c) ∧ Grow W wx)
  case first =>
    cases a
    · go_wp2_with fail
      refine (HA.out _).mono ?_
      rintro e w1 ⟨rfl, hb1⟩
      go_wp2
      go_meet
      exact ⟨rfl, hb1⟩
    · go_wp2_with fail
      refine (HA.out _).mono ?_
      rintro e w1 ⟨rfl, hb1⟩
      have HB1 : Hid (Grow W w1) := hb1
      clear hb1 hcc
      have hcc := (Grow.block HB1.out HH.out).cell
      cases b
      · go_wp2_with fail
        refine (HB.out _).mono ?_
        rintro e w2 ⟨rfl, hb2⟩
        go_wp2
        go_meet
        exact ⟨rfl, HB1.out.trans hb2⟩
      · go_wp2_with fail
        refine (HB.out _).mono ?_
        rintro e w2 ⟨rfl, hb2⟩
        have HB2 : Hid (Grow W w2) := HB1.out.trans hb2
        clear hb2 hcc
        have hcc := (Grow.block HB2.out HH.out).cell
        go_wp2_with fail
        refine (HC.out _).mono ?_
        rintro e w3 ⟨rfl, hb3⟩
        go_wp2
        go_meet
        exact ⟨rfl, HB2.out.trans hb3⟩
  case rest =>
    obtain ⟨rfl, hgr⟩ := hcut
    have HGR := Lib.hid hgr
    clear hcc
    have hcc := (Grow.block hgr HH.out).cell
    clear hgr
    obtain ⟨abc, HABC⟩ : ∃ x, Hid ((a && b && c) = x) := ⟨_, rfl⟩
    rw [HABC.out]
    cases abc
    · go_wp2_with fail
      go_ret
      exact ⟨ret_bool (by rw [HO.out, HABC.out]; rfl), HG.out.trans HGR.out⟩
    · go_wp2_with (first | (go_at_call 48; refine (within_any _ _ _ _).mono ?_; rintro e w' ⟨rfl, rfl⟩))
      go_ret
      exact ⟨ret_bool (by rw [HO.out, HABC.out]; rfl), HG.out.trans HGR.out⟩

set_option maxHeartbeats 400000 in
theorem outside_any (x : Int) (w : World) : Calls Try.prog 74 #[.int .i64 x] w fun e w' => e = .returned (.bool (!inB x 0 10)) ∧ w = w' := by
  go_enter Try.func74, Try.ntmps74
  go_wp2_with (first | (go_at_call 48; refine (within_any _ _ _ _).mono ?_; rintro e w' ⟨rfl, rfl⟩))
  go_ret
  exact ⟨rfl, rfl⟩
set_option maxHeartbeats 400000 in
theorem wrong_any (h : HandD) (w : World) : Calls Try.prog 75 #[handV h] w fun e w' => e = .returned (.bool (!okHand h)) ∧ Below w.heap.size w w' := by
  go_enter Try.func75, Try.ntmps75
  go_upto_region 1 with fail
  obtain ⟨W, hW, hg, hH, hsz⟩ := one_block w 52 (cellsH h)
  rw [hW]
  clear hW
  have HG := Lib.hid hg
  have hcc := hH.cell
  clear hg hH
  go_wp2_with fail
  refine (validHand_any h _).mono ?_
  rintro e w1 ⟨rfl, hb1⟩
  have HB1 : Hid (Grow W w1) := hb1
  clear hb1 hcc
  go_wp2
  go_ret
  exact ⟨rfl, HG.out.trans HB1.out⟩

theorem any_not {α : Type} (q : α → Bool) (l : List α) : (l.any fun x => !q x) = !l.all q := by
  induction l with
  | nil => rfl
  | cons a l ih => simp only [List.any_cons, List.all_cons, ih, Bool.not_and]

set_option maxRecDepth 100000 in
set_option maxHeartbeats 4000000 in
theorem validTask_any (t : TaskR) (n : Nat) (w : World) (ht : TaskAt w n t) (hn : n ≤ w.heap.size) :
    Calls Try.prog 59 #[taskV t] w fun e w' => e = .returned (.bool (okTask t.d)) ∧ Below w.heap.size w w' := by
  obtain ⟨⟨hs, ps, limit, rest, swap⟩, A, ca, B, cb⟩ := t
  have HT := Lib.hid (ht.more hn)
  clear ht hn
  have HO : Hid (okTask ⟨hs, ps, limit, rest, swap⟩ = ((inB hs.length 1 3 && hs.all okHand) && (inB ps.length 1 10 && ps.all fun p => inB p 0 10) && (inB limit 1 10 && inB rest 1 10) && inB swap 0 100)) := rfl
  have HCH := Lib.hid (fun (w0 : World) (hw : Grow w w0) (hl : hs.length ≤ 3) => containsHand_any A ca w.heap.size hs w0 (HT.out.below hw).1 (by omega) hw.size 75 (fun h => !okHand h) (fun _ _ => by kernel_rfl) (fun x w' => wrong_any x w'))
  have HCI := Lib.hid (fun (w0 : World) (hw : Grow w w0) (hl : ps.length ≤ 10) => containsInt0_any B cb w.heap.size ps w0 (HT.out.below hw).2 (by omega) 74 (fun p => !inB p 0 10) (fun _ _ => by kernel_rfl) (fun x => outside_any x w0))
  have e1 : (hs.any fun h => !okHand h) = !hs.all okHand := any_not _ _
  have e2 : (ps.any fun p => !inB p 0 10) = !ps.all fun p => inB p 0 10 := any_not _ _
  rw [e1] at HCH
  rw [e2] at HCI
  clear e1 e2
  generalize (hs.all okHand) = a2 at HO HCH
  generalize (ps.all fun p => inB p 0 10) = b2 at HO HCI
  clear HT
  go_enter Try.func59, Try.ntmps59
  go_upto_region 3 with fail
  obtain ⟨W, hW, hg, hH, hsz⟩ := one_block w 25 (cellsT ⟨⟨hs, ps, limit, rest, swap⟩, A, ca, B, cb⟩)
  rw [hW]
  clear hW
  have HH := Lib.hid hH
  have HG := Lib.hid hg
  have hcc := hH.cell
  clear hg hH
  have hz0 : W.heap.size = W.heap.size := rfl
  go_cut [5] (fun v wx => v = .bool (inB hs.length 1 3 && a2) ∧ Grow W wx)
  case first =>
    by_cases h1 : inB hs.length 1 3 = true
    · have hl3 : hs.length ≤ 3 := by have := inB_iff.1 h1; omega
      go_wp2_with (go_at_call 48; refine (within_any _ _ _ _).mono ?_; rintro e w' ⟨rfl, rfl⟩; rw [h1])
      refine (HCH.out _ HG.out hl3).mono ?_
      rintro e w2 ⟨rfl, hb2⟩
      go_wp2
      go_meet
      exact ⟨by simp [*], hb2⟩
    · have h1' : inB hs.length 1 3 = false := by simpa using h1
      clear h1
      go_wp2_with (go_at_call 48; refine (within_any _ _ _ _).mono ?_; rintro e w' ⟨rfl, rfl⟩; rw [h1'])
      go_meet
      exact ⟨by simp [*], Grow.refl _⟩
  case rest =>
    obtain ⟨rfl, hgr⟩ := hcut
    rename World => w1
    have HG1 : Hid (Grow w w1) := HG.out.trans hgr
    have HH1 := Lib.hid (Grow.block hgr HH.out)
    clear hcc hgr
    have hcc := HH1.out.cell
    generalize (inB (hs.length : Int) 1 3 && a2) = v5 at HO ⊢
    go_upto_region 4 with fail
    go_cut [6] (fun v wx => v = .bool (inB ps.length 1 10 && b2) ∧ w1 = wx)
    case first =>
      by_cases h1 : inB ps.length 1 10 = true
      · have hl3 : ps.length ≤ 10 := by have := inB_iff.1 h1; omega
        go_wp2_with (go_at_call 48; refine (within_any _ _ _ _).mono ?_; rintro e w' ⟨rfl, rfl⟩; rw [h1])
        refine (HCI.out _ HG1.out hl3).mono ?_
        rintro e w2 ⟨rfl, rfl⟩
        go_wp2
        go_meet
        exact ⟨by simp [*], rfl⟩
      · have h1' : inB ps.length 1 10 = false := by simpa using h1
        clear h1
        go_wp2_with (go_at_call 48; refine (within_any _ _ _ _).mono ?_; rintro e w' ⟨rfl, rfl⟩; rw [h1'])
        go_meet
        exact ⟨by simp [*], rfl⟩
    case rest =>
      obtain ⟨rfl, rfl⟩ := hcut
      generalize (inB (ps.length : Int) 1 10 && b2) = v6 at HO ⊢
      go_upto_region 5 with fail
      go_cut [7] (fun v wx => v = .bool (inB limit 1 10 && inB rest 1 10) ∧ w1 = wx)
      case first =>
        by_cases h1 : inB limit 1 10 = true
        · skip
          go_wp2_with (go_at_call 48; refine (within_any _ _ _ _).mono ?_; rintro e w' ⟨rfl, rfl⟩; try rw [h1])
          go_meet
          exact ⟨by simp [*], rfl⟩
        · have h1' : inB limit 1 10 = false := by simpa using h1
          clear h1
          go_wp2_with (go_at_call 48; refine (within_any _ _ _ _).mono ?_; rintro e w' ⟨rfl, rfl⟩; rw [h1'])
          go_meet
          exact ⟨by simp [*], rfl⟩
      case rest =>
        obtain ⟨rfl, rfl⟩ := hcut
        generalize (inB limit 1 10 && inB rest 1 10) = v7 at HO ⊢
        have HF : Hid (Below w.heap.size w w1) := HG1.out
        cases v5
        · go_wp2_with fail
          go_ret
          exact ⟨ret_bool (by rw [HO.out]; rfl), HF.out⟩
        · cases v6
          · go_wp2_with fail
            go_ret
            exact ⟨ret_bool (by rw [HO.out]; rfl), HF.out⟩
          · cases v7
            · go_wp2_with fail
              go_ret
              exact ⟨ret_bool (by rw [HO.out]; rfl), HF.out⟩
            · go_wp2_with (first | (go_at_call 48; refine (within_any _ _ _ _).mono ?_; rintro e w' ⟨rfl, rfl⟩))
              go_ret
              exact ⟨ret_bool (by rw [HO.out]; rfl), HF.out⟩

end Go.Proofs.Ythlihchndmbkaaa
