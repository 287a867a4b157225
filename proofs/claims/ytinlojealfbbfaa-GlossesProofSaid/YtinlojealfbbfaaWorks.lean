/- Works: the example of chapter 2 and what the laws check with it. -/
import Derived.Test.YtinlojealfbbfaaWorksM
import Derived.Test.YtinlojealfbbfaaReadL
import Derived.Test.YtinlojealfbbfaaSortG
namespace Go.Proofs.Ytinlojealfbbfaa
open Go.RowKit

theorem run_eqRd (x y : RdD) (w : World) : (Op.equalIn 10000 69 (rdV x) (rdV y)).run Try.prog w = .ok (decide (x = y)) w := by
  obtain ⟨a, b, c⟩ := x
  obtain ⟨a', b', c'⟩ := y
  simp only [RdD.mk.injEq]
  by_cases h1 : a = a'
  · by_cases h2 : b = b'
    · by_cases h3 : c = c'
      · subst h1 h2 h3; simp [go_sem]
      · subst h1 h2; simp [go_sem, h3]
    · subst h1; simp [go_sem, h2]
  · simp [go_sem, h1]

set_option maxRecDepth 100000 in
set_option maxHeartbeats 4000000 in
theorem sameReadings_eq (A A' : Option Addr) (cap cap' B B' : Nat) (xs : List RdD) (w : World) (hA : RdAt w B A xs) (hA' : RdAt w B' A' xs) (hl : xs.length ≤ 1000000) :
    Calls Try.prog 18 #[.slice A xs.length cap, .slice A' xs.length cap'] w fun e w' => e = .returned (.bool true) ∧ ∃ n, w' = w.drewN n := by
  have d0 : ((xs.length : Int) != (xs.length : Int)) = false := by simp
  go_enter Try.func18, Try.ntmps18
  go_wp2_with fail
  go_loopw [5] (fun i wr => ∃ k n : Nat, k ≤ xs.length ∧ i = .int .i64 k ∧ wr = w.drewN n) (fun i _ => xs.length - (intOf i).toNat)
  case atStart => exact ⟨0, 0, Nat.zero_le _, rfl, rfl⟩
  case round =>
    obtain ⟨k, q, hk, rfl, rfl⟩ := hrel
    by_cases hlt : k < xs.length
    · obtain ⟨b, off, x, hAe, hb, hc, HX⟩ := hA.at_ hlt
      obtain ⟨b', off', y, hAe', hb', hc', HY⟩ := hA'.at_ hlt
      have hxy : x = y := by have h1 := HX.out; rw [HY.out] at h1; exact (Option.some.inj h1).symm
      subst hxy
      subst hAe
      subst hAe'
      have hki : (k : Int) < (xs.length : Int) := by omega
      have hk0 : (0 : Int) ≤ (k : Int) := by omega
      have e0 := hc 0 (by omega); have e1 := hc 1 (by omega); have e2 := hc 2 (by omega)
      have f0 := hc' 0 (by omega); have f1 := hc' 1 (by omega); have f2 := hc' 2 (by omega)
      rw [Nat.add_zero] at e0 f0
      have heq : ∀ w0 : World, (Op.equalIn 10000 69 (rdV x) (rdV x)).run Try.prog w0 = .ok true w0 := fun w0 => by rw [run_eqRd]; simp
      clear hA hA' hc hc' hb hb'
      go_wp2
      go_quiet (fail)
      go_wp2
      go_roundw
      case rel => exact ⟨k + 1, _, hlt, by go_num, rfl⟩
      case measure => simp [intOf]; omega
    · obtain rfl : k = xs.length := by omega
      clear hA hA'
      go_wp2
      go_ret
      exact ⟨rfl, _, rfl⟩

abbrev exInts : Array Value := #[.int .i64 10, .int .i64 4]
abbrev exCells : Array Value := #[.int .i64 0, .int .i64 1, .int .i64 0, .int .i64 0, .int .i64 6, .int .i64 3, .int .i64 1, .int .i64 1, .int .i64 0, .int .i64 2, .int .i64 8, .int .i64 4, .int .i64 2, .int .i64 5, .int .i64 0, .int .i64 4, .int .i64 10, .int .i64 6, .int .i64 0, .int .i64 2, .int .i64 0, .int .i64 5, .int .i64 7, .int .i64 1, .int .i64 1, .int .i64 7, .int .i64 1, .int .i64 0, .int .i64 4, .int .i64 16]
abbrev exRdCells : Array Value := #[.int .i64 2, .int .i64 5, .int .i64 4, .int .i64 5, .int .i64 7, .int .i64 5, .int .i64 7, .int .i64 8, .int .i64 4, .int .i64 8, .int .i64 10, .int .i64 2]
theorem exInts_at {w : World} {a : Nat} (h : BlockIs w a 3 exInts) : Ints w w.heap.size (some ⟨a, 0, none⟩) [10, 4] := .inr ⟨a, 0, rfl, h.lt, fun i x hi => by
  rw [h.cell]
  match i, hi with
  | 0, hi | 1, hi =>
    obtain rfl := Option.some.inj hi
    rfl⟩
theorem exGloss_at {w : World} {a : Nat} (h : BlockIs w a 55 exCells) : GlossAt w w.heap.size (some ⟨a, 0, none⟩) exL := .inr ⟨a, 0, rfl, h.lt, fun i x hi j hj => by
  rw [h.cell]
  match i, hi with
  | 0, hi | 1, hi | 2, hi | 3, hi | 4, hi =>
    obtain rfl := Option.some.inj hi
    match j, hj with
    | 0, _ | 1, _ | 2, _ | 3, _ | 4, _ | 5, _ => rfl⟩
theorem exRds_at {w : World} {a : Nat} (h : BlockIs w a 69 exRdCells) : RdAt w w.heap.size (some ⟨a, 0, none⟩) exRds := .inr ⟨a, 0, rfl, h.lt, fun i x hi j hj => by
  rw [h.cell]
  match i, hi with
  | 0, hi | 1, hi | 2, hi | 3, hi =>
    obtain rfl := Option.some.inj hi
    match j, hj with
    | 0, _ | 1, _ | 2, _ => rfl⟩
theorem results_ex {fn : Func} (h : fn.results = #[.cell 0 24, .tmp 1]) (t : Array Value) (W : World) (b : Nat) (v0 v1 u : Value)
    (hb : BlockIs W b 24 #[v0, v1]) (ht : t.getD 0 undef = .pointer (some ⟨b, 0, none⟩)) (hu : t.getD 1 undef = u) :
    (results fn t).run Try.prog W = .ok (.tuple #[.agg #[v0, v1], u]) W := by
  have hc := hb.cell
  simp only [results, h]
  simp at ht hu
  simp [go_sem, ht, hc, hu]

set_option maxRecDepth 100000 in
set_option maxHeartbeats 4000000 in
theorem example_any (w : World) : Calls Try.prog 41 #[] w fun e w' => ∃ a b : Nat, e = .returned (.tuple #[filmsV ⟨exF, some ⟨a, 0, none⟩, 2⟩, .slice (some ⟨b, 0, none⟩) 5 5]) ∧ Ints w' w'.heap.size (some ⟨a, 0, none⟩) [10, 4] ∧ GlossAt w' w'.heap.size (some ⟨b, 0, none⟩) exL ∧ Below w.heap.size w w' := by
  go_enter Try.func41, Try.ntmps41
  go_upto_region 1 with fail
  obtain ⟨W, hW, hg, hf, hsz⟩ := one_block w 24 #[.slice none 0 0, .int .i64 0]
  rw [hW]
  clear hW
  have hcc := hf.cell
  have hff := hf.frozen
  have HG := Lib.hid hg
  have hne : w.heap.size ≠ W.heap.size := by omega
  have hne2 : w.heap.size ≠ W.heap.size + 1 := by omega
  clear hg
  go_wp2
  obtain ⟨W8, hW8⟩ : ∃ W8, ((W.setCell ⟨w.heap.size, 0, none⟩ (.slice (some ⟨W.heap.size, 0, none⟩) 2 2)).setCell ⟨w.heap.size, 1, none⟩ (.int .i64 5)) = W8 := ⟨_, rfl⟩
  have hF8 : BlockIs W8 w.heap.size 24 #[.slice (some ⟨W.heap.size, 0, none⟩) 2 2, .int .i64 5] := by rw [← hW8]; exact (hf.near 0 _).near 1 _
  have hb8 : Below w.heap.size w W8 := by rw [← hW8]; exact (HG.out.setC (p := ⟨w.heap.size, 0, none⟩) (Nat.le_refl _) _).setCell (p := ⟨w.heap.size, 1, none⟩) (Nat.le_refl _) _
  have hs8 : W8.heap.size = W.heap.size := by rw [← hW8]; simp
  rw [hW8]
  obtain ⟨W9, hW9, hg9, hI9, hG9, hsz9⟩ := two_blocks W8 3 55 exInts exCells
  rw [hW9]
  rw [hs8] at hI9 hG9
  have hF9 := Grow.block hg9 hF8
  exact bodyPost_ret (results_ex Try.results41 _ _ w.heap.size _ _ _ hF9 rfl rfl) rfl ⟨W.heap.size, W.heap.size + 1, rfl, exInts_at hI9, exGloss_at hG9, hb8.trans (Below.mono hg9 (by omega))⟩

set_option maxRecDepth 100000 in
set_option maxHeartbeats 8000000 in
theorem works_any (w : World) : Calls Try.prog 13 #[] w fun e w' => e = .returned (.bool true) ∧ Below w.heap.size w w' := by
  go_enter Try.func13, Try.ntmps13
  go_wp2_with fail
  refine (example_any _).mono ?_
  rintro e w1 ⟨a, b, rfl, hi1, hg1, hb1⟩
  have HB1 := Lib.hid hb1
  go_upto_region 2 with fail
  obtain ⟨W2, hW2, hg2, hf2, hsz2⟩ := one_block w1 24 (cellsF ⟨exF, some ⟨a, 0, none⟩, 2⟩)
  rw [hW2]
  clear hW2
  obtain ⟨b1, e1⟩ : ∃ q, w1.heap.size = q := ⟨_, rfl⟩
  have HF2 := Lib.hid hf2
  have HG2 := Lib.hid hg2
  rw [e1] at hf2 hsz2 HF2 ⊢
  have HI := Lib.hid (fun (w0 : World) (hw : Grow w1 w0) => (hi1.below hw).more hw.size)
  have HGL := Lib.hid (fun (w0 : World) (hw : Grow w1 w0) => (hg1.below hw).more hw.size)
  have HRD := Lib.hid (fun (w0 : World) (hw : Grow w1 w0) => readingsApi_any sortG_ok ⟨exF, some ⟨a, 0, none⟩, 2⟩ exL (some ⟨b, 0, none⟩) 5 0 w0.heap.size w0 (HI.out w0 hw) (HGL.out w0 hw) (Nat.le_refl _) (show exF.frames.length ≤ 1000000 by decide) (by decide))
  have HAG := Lib.hid (fun (w0 : World) (hw : Grow w1 w0) => agreeApi_any sortG_ok ⟨exF, some ⟨a, 0, none⟩, 2⟩ exL (some ⟨b, 0, none⟩) 5 1 2 w0.heap.size w0 (HI.out w0 hw) (HGL.out w0 hw) (Nat.le_refl _) (show exF.frames.length ≤ 1000000 by decide) (by decide))
  rw [ex_film] at HRD
  rw [ex_agree] at HAG
  have hcc := hf2.cell
  clear hf2 hg2 hi1 hg1 hb1 e1
  go_wp2_with fail
  refine (HRD.out W2 HG2.out).mono ?_
  rintro e w3 ⟨v, rfl, hv, hb3⟩
  obtain ⟨A3, c3, all, rfl, hso, hrt⟩ := hv.2 rfl
  obtain rfl := hso.unique ex_sorted
  rw [ex_held] at hrt ⊢
  have e10 : (frameOf exF 0).toNat = 10 := by decide
  have e5 : exF.signs.toNat = 5 := by decide
  rw [e10, e5, ex_rds] at hrt ⊢
  have HG3 : Hid (Grow W2 w3) := hb3
  have HRT := Lib.hid hrt
  have hcc := (HG3.out.block HF2.out).cell
  clear hv hso hb3 hrt
  go_wp2_with fail
  refine (HAG.out w3 (HG2.out.trans HG3.out)).mono ?_
  rintro e w4 ⟨m, n, rfl, hav, hb4⟩
  obtain ⟨all, hso, hm, hn⟩ := hav.2 rfl
  obtain rfl := hso.unique ex_sorted
  rw [ex_held, ex_both] at hm
  rw [ex_held, ex_same] at hn
  subst hm hn
  have HG4 : Hid (Grow W2 w4) := HG3.out.trans hb4
  have HR4 := Lib.hid (HRT.out.grow hb4)
  have hlen : exRds.length = 4 := rfl
  rw [hlen]
  clear hav hso hb4 hcc
  have HSM := Lib.hid (sameReadings_eq A3 (some ⟨w4.heap.size, 0, none⟩) c3 4 w4.heap.size (w4.alloc (.cells exRdCells 69)).heap.size exRds (w4.alloc (.cells exRdCells 69)) (HR4.out.at_.below (Grow.alloc w4 _)) (exRds_at (BlockIs.new _ _ _)) (by decide))
  rw [hlen] at HSM
  go_wp2_with fail
  refine HSM.out.mono ?_
  rintro e w5 ⟨rfl, nq, rfl⟩
  go_wp2
  go_ret
  exact ⟨rfl, HB1.out.trans (Below.mono (HG2.out.trans (HG4.out.trans (Below.drewN_ (Grow.alloc w4 _) _))) HB1.out.size)⟩

end Go.Proofs.Ytinlojealfbbfaa
