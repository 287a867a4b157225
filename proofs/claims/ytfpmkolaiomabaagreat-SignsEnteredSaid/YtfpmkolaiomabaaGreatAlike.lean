/- Alike: the specification's Alike. -/
import Derived.Test.YtfpmkolaiomabaaGreatEntry
import Derived.Test.YtfpmkolaiomabaaGreatCanon
import Derived.Test.YtfpmkolaiomabaaGreatFirst
import Derived.Test.YtfpmkolaiomabaaGreatPublic
import Derived.Laws.StructEq
import Derived.Deep.DeepCutAuto
namespace Go.Proofs.YtfpmkolaiomabaaGreat
open Go.RowKit

theorem run_eqS (a b c d : Int) (w : World) : (Op.equalIn 10000 48 (.agg #[.int .i64 a, .int .i64 b]) (.agg #[.int .i64 c, .int .i64 d])).run Tryz.prog w = .ok (decide (a = c ∧ b = d)) w := by
  by_cases h1 : a = c
  · by_cases h2 : b = d
    · subst h1 h2; simp [go_sem]
    · subst h1; simp [go_sem, h2]
  · simp [go_sem, h1]

def alikeD (x y : EntryD) : Bool := (x.id == y.id) && (x.sign == y.sign) && (x.regions == y.regions) && decide (x.low = y.low ∧ x.high = y.high) && (cmpF (canonD x.form) (canonD y.form) == 0)

set_option maxRecDepth 100000 in
set_option maxHeartbeats 32000000 in
theorem rAlike_any (x y : EntryR) (w : World) (hx : MovesAt w w.heap.size x) (hy : MovesAt w w.heap.size y) (ox : okForm x.d.form = true) (oy : okForm y.d.form = true) :
    Calls Tryz.prog 89 #[entryV x, entryV y] w fun e w' => e = .returned (.bool (alikeD x.d y.d)) ∧ Below w.heap.size w w' := by
  have heqS := run_eqS x.d.low x.d.high y.d.low y.d.high
  have HCX := Lib.hid (fun (w0 : World) (h : Grow w w0) => rcanon_any x.d.form x.A x.cap w.heap.size w0 (hx.1.below h) h.size ox)
  have HCY := Lib.hid (fun (w0 : World) (h : Grow w w0) => rcanon_any y.d.form y.A y.cap w.heap.size w0 (hy.1.below h) h.size oy)
  have HFI := Lib.hid (fun (A A' : Option Addr) (cap cap' : Nat) (w0 : World) (h : Ints w0 w0.heap.size A (canonD x.d.form).moves) (h' : Ints w0 w0.heap.size A' (canonD y.d.form).moves) => rFirst_any (canonD x.d.form) (canonD y.d.form) A A' cap cap' w0 h h' (okForm_canon ox) (okForm_canon oy))
  clear hx hy ox oy
  have HO : Hid (alikeD x.d y.d = ((x.d.id == y.d.id) && (x.d.sign == y.d.sign) && (x.d.regions == y.d.regions) && decide (x.d.low = y.d.low ∧ x.d.high = y.d.high) && (cmpF (canonD x.d.form) (canonD y.d.form) == 0))) := rfl
  generalize alikeD x.d y.d = res at HO ⊢
  generalize cmpF (canonD x.d.form) (canonD y.d.form) = cc at HFI HO
  generalize h1 : (x.d.id == y.d.id) = p1 at HO
  generalize h2 : (x.d.sign == y.d.sign) = p2 at HO
  generalize h3 : (x.d.regions == y.d.regions) = p3 at HO
  generalize h4 : decide (x.d.low = y.d.low ∧ x.d.high = y.d.high) = p4 at HO heqS
  generalize h5 : (cc == 0) = c0 at HO
  have H1 := Lib.hid h1
  have H2 := Lib.hid h2
  have H3 := Lib.hid h3
  have H5 := Lib.hid h5
  clear h1 h2 h3 h4 h5
  go_enter Tryz.func89, Tryz.ntmps89
  go_upto_region 1 with fail
  obtain ⟨W, hW, hg, hf, hf', hsz⟩ := two_blocks w 62 62 (cellsE x) (cellsE y)
  rw [hW]
  clear hW
  refine wp_region_lit 37 [[], [(0, 5)], [], [(2, 7)], [(1, 6), (3, 8)], [(4, 9)], [(5, 10)], [(5, 10), (6, 11)], [(5, 10)], [(5, 10), (8, 13)], [(5, 10), (7, 12), (9, 14)], [(5, 10), (10, 15)], [(11, 16)], [(12, 17)], [(12, 17), (13, 18)], [(12, 17)], [(12, 17), (15, 20)], [(12, 17), (14, 19), (16, 21)], [(12, 17), (17, 22)], [(18, 23)], [(19, 24)], [(19, 24), (20, 25)], [(19, 24)], [(19, 24), (22, 27)], [(19, 24), (21, 26), (23, 28)], [(19, 24), (24, 29)], [(25, 30)], [(26, 31)], [(26, 31), (27, 32)], [(26, 31), (28, 33)], [(26, 31)], [(26, 31), (30, 35)], [(26, 31), (31, 36)], [(26, 31), (29, 34), (32, 37)], [(26, 31), (33, 38)], [(26, 31), (34, 39)], [(35, 40)]] Grow (fun i v w' => match i with
      | 0 => v = .pointer (some ⟨w.heap.size, 0, none⟩)
      | 1 => v = .int .i64 x.d.id
      | 2 => v = .pointer (some ⟨w.heap.size + 1, 0, none⟩)
      | 3 => v = .int .i64 y.d.id
      | 4 => v = .bool p1
      | 5 => v = .bool p1
      | 6 => v = bif p1 then .pointer (some ⟨w.heap.size, 1, none⟩) else undef
      | 7 => v = bif p1 then .int .i64 x.d.sign else undef
      | 8 => v = bif p1 then .pointer (some ⟨w.heap.size + 1, 1, none⟩) else undef
      | 9 => v = bif p1 then .int .i64 y.d.sign else undef
      | 10 => v = bif p1 then .bool p2 else undef
      | 11 => v = .bool (p1 && p2)
      | 12 => v = .bool (p1 && p2)
      | 13 => v = bif p1 && p2 then .pointer (some ⟨w.heap.size, 2, none⟩) else undef
      | 14 => v = bif p1 && p2 then .int .i64 x.d.regions else undef
      | 15 => v = bif p1 && p2 then .pointer (some ⟨w.heap.size + 1, 2, none⟩) else undef
      | 16 => v = bif p1 && p2 then .int .i64 y.d.regions else undef
      | 17 => v = bif p1 && p2 then .bool p3 else undef
      | 18 => v = .bool (p1 && p2 && p3)
      | 19 => v = .bool (p1 && p2 && p3)
      | 20 => v = bif p1 && p2 && p3 then .pointer (some ⟨w.heap.size, 9, none⟩) else undef
      | 21 => v = bif p1 && p2 && p3 then .agg #[.int .i64 x.d.low, .int .i64 x.d.high] else undef
      | 22 => v = bif p1 && p2 && p3 then .pointer (some ⟨w.heap.size + 1, 9, none⟩) else undef
      | 23 => v = bif p1 && p2 && p3 then .agg #[.int .i64 y.d.low, .int .i64 y.d.high] else undef
      | 24 => v = bif p1 && p2 && p3 then .bool p4 else undef
      | 25 => v = .bool (p1 && p2 && p3 && p4)
      | 26 => v = .bool (p1 && p2 && p3 && p4)
      | 27 => v = bif p1 && p2 && p3 && p4 then .pointer (some ⟨w.heap.size, 3, none⟩) else undef
      | 28 => v = bif p1 && p2 && p3 && p4 then formV x.d.form x.A x.cap else undef
      | 29 => bif p1 && p2 && p3 && p4 then NewForm (canonD x.d.form) w.heap.size v w' else v = undef
      | 30 => v = bif p1 && p2 && p3 && p4 then .pointer (some ⟨w.heap.size + 1, 3, none⟩) else undef
      | 31 => v = bif p1 && p2 && p3 && p4 then formV y.d.form y.A y.cap else undef
      | 32 => bif p1 && p2 && p3 && p4 then NewForm (canonD y.d.form) w.heap.size v w' else v = undef
      | 33 => v = bif p1 && p2 && p3 && p4 then .int .i64 cc else undef
      | 34 => v = bif p1 && p2 && p3 && p4 then .bool c0 else undef
      | 35 => v = .bool (p1 && p2 && p3 && p4 && c0)
      | 36 => v = .bool (p1 && p2 && p3 && p4 && c0)
      | _ => False) (by kernel_rfl) (by kernel_rfl) (fun _ _ _ => Grow.trans) Grow.refl ?_ ?_ ?_
  · intro i v y y' h k
    match i, h with
    | 29, h | 32, h =>
      revert h
      cases (p1 && p2 && p3 && p4)
      · exact id
      · rintro ⟨a, c, h1, h2⟩
        exact ⟨a, c, h1, h2.grow k⟩
    | 0, h | 1, h | 2, h | 3, h | 4, h | 5, h | 6, h | 7, h | 8, h | 9, h | 10, h | 11, h | 12, h | 13, h | 14, h | 15, h | 16, h | 17, h | 18, h | 19, h | 20, h | 21, h | 22, h | 23, h | 24, h | 25, h | 26, h | 27, h | 28, h | 30, h | 31, h | 33, h | 34, h | 35, h | 36, h => exact h
  · rcases (show p1 = false ∨ (p1 = true ∧ p2 = false) ∨ (p1 = true ∧ p2 = true ∧ p3 = false) ∨ (p1 = true ∧ p2 = true ∧ p3 = true ∧ p4 = false) ∨ (p1 = true ∧ p2 = true ∧ p3 = true ∧ p4 = true) by cases p1 <;> cases p2 <;> cases p3 <;> cases p4 <;> simp) with rfl | ⟨rfl, rfl⟩ | ⟨rfl, rfl, rfl⟩ | ⟨rfl, rfl, rfl, rfl⟩ | ⟨rfl, rfl, rfl, rfl⟩
    all_goals simp only [Bool.true_and, Bool.false_and, cond_true, cond_false]
    all_goals
      simp only [StepsLit, List.take_succ_cons, List.take_zero]
      refine ⟨?_, ?_, ?_, ?_, ?_, ?_, ?_, ?_, ?_, ?_, ?_, ?_, ?_, ?_, ?_, ?_, ?_, ?_, ?_, ?_, ?_, ?_, ?_, ?_, ?_, ?_, ?_, ?_, ?_, ?_, ?_, ?_, ?_, ?_, ?_, ?_, ?_, trivial⟩
    all_goals
      intro w3 hR
      have hG := hR.of_drew
      have hfc := (hG.block hf).cell
      have hfc' := (hG.block hf').cell
      have HG := Lib.hid (hg.trans hG)
      simp only [depV, Region.wanted, yielded, cond_true]
      repeat (rintro _ rfl)
      try go_simp
    all_goals first
      | (with_reducible exact Grow.refl _)
      | (with_reducible refine ⟨Grow.refl _, ?_⟩; first | (have h := H1.out; simpa using h) | (have h := H2.out; simpa using h) | (have h := H3.out; simpa using h) | (have h := H5.out; simpa using h))
      | (intro h; exact absurd h (by simp [undef]))
      | skip
    · refine (HCX.out _ HG.out).mono ?_
      rintro e w4 ⟨A4, c4, rfl, hi4, hb4⟩
      exact ⟨hb4, A4, c4, rfl, hi4.mono HG.out.size⟩
    · refine (HCY.out _ HG.out).mono ?_
      rintro e w4 ⟨A4, c4, rfl, hi4, hb4⟩
      exact ⟨hb4, A4, c4, rfl, hi4.mono HG.out.size⟩
    · rintro _ ⟨A4, c4, rfl, hi4⟩ _ ⟨A5, c5, rfl, hi5⟩
      refine (HFI.out _ _ _ _ _ hi4.ints hi5.ints).mono ?_
      rintro e w4 ⟨rfl, hb4⟩
      exact ⟨hb4, rfl⟩
  · intro w3 hR
    have HG := Lib.hid (hg.trans hR.of_drew)
    have HE : Hid ((p1 && p2 && p3 && p4 && c0) = res) := by rw [Hid, HO.out]
    clear hf hf' hg hR HO
    simp only [finVC, List.take_succ_cons, List.take_zero, List.drop_succ_cons, List.drop_zero]
    iterate 29 rintro _ rfl
    intro v29 _
    iterate 2 rintro _ rfl
    intro v32 _
    iterate 4 rintro _ rfl
    simp only [Act.put, List.setIfInBounds_toArray, List.set_cons_succ, List.set_cons_zero]
    go_wp2
    go_ret
    exact ⟨ret_bool HE.out, HG.out⟩

end Go.Proofs.YtfpmkolaiomabaaGreat
