/- Example: the laws' example. -/
import Derived.Test.YthlihchndmbkaaaPlanD
namespace Go.Proofs.Ythlihchndmbkaaa
open Go.RowKit

theorem results_spanL {fn : Func} (h : fn.results = #[.cell 4 47]) (t : Array Value) (W : World) (b : Nat) (v0 v1 : Value)
    (hb : BlockIs W b 47 #[v0, v1]) (ht : t.getD 4 undef = .pointer (some ⟨b, 0, none⟩)) :
    (results fn t).run Try.prog W = .ok (.agg #[v0, v1]) W := by
  have hc := hb.cell
  simp only [results, h]
  simp at ht
  simp [go_sem, ht, hc]
set_option maxHeartbeats 800000 in
theorem lspan_any (lo hi : Int) (w : World) : Calls Try.prog 24 #[.int .i64 lo, .int .i64 hi] w fun e w' => e = .returned (spanV lo hi) ∧ Below w.heap.size w w' := by
  go_enter Try.func24, Try.ntmps24
  go_upto_region 1 with fail
  obtain ⟨W, hW, hg, hf, hsz⟩ := one_block w 47 #[.int .i64 0, .int .i64 0]
  rw [hW]
  clear hW
  have hcc := hf.cell
  have hff := hf.frozen
  have H2 := Lib.hid ((hf.near 0 (.int .i64 lo)).near 1 (.int .i64 hi))
  have HG := Lib.hid hg
  clear hf hg
  go_wp2
  exact bodyPost_ret (results_spanL Try.results24 _ _ w.heap.size _ _ H2.out rfl) rfl ⟨rfl, (HG.out.setC (p := ⟨w.heap.size, 0, none⟩) (Nat.le_refl _) _).setC (p := ⟨w.heap.size, 1, none⟩) (Nat.le_refl _) _⟩

theorem results_task0 {fn : Func} (h : fn.results = #[.cell 0 25]) (t : Array Value) (W : World) (b : Nat) (v0 v1 v2 v3 v4 : Value)
    (hb : BlockIs W b 25 #[v0, v1, v2, v3, v4]) (ht : t.getD 0 undef = .pointer (some ⟨b, 0, none⟩)) :
    (results fn t).run Try.prog W = .ok (.agg #[v0, v1, v2, v3, v4]) W := by
  have hc := hb.cell
  simp only [results, h]
  simp at ht
  simp [go_sem, ht, hc]
abbrev exampleH : Array Value := #[.int .i64 0, .int .i64 2, .int .i64 2, .int .i64 3, .int .i64 1, .int .i64 2, .int .i64 1, .int .i64 0, .int .i64 0, .int .i64 1, .int .i64 4, .int .i64 2, .int .i64 2, .int .i64 2]
abbrev exampleP : Array Value := #[.int .i64 1, .int .i64 1, .int .i64 2, .int .i64 1]
theorem example_at {w : World} {a : Nat} (h1 : BlockIs w a 52 exampleH) (h2 : BlockIs w (a + 1) 3 exampleP) : TaskAt w w.heap.size ⟨exampleT, some ⟨a, 0, none⟩, 2, some ⟨a + 1, 0, none⟩, 4⟩ := by
  refine ⟨.inr ⟨a, 0, rfl, h1.lt, fun i x hi j hj => ?_⟩, .inr ⟨a + 1, 0, rfl, h2.lt, fun i x hi => ?_⟩⟩
  · rw [h1.cell]
    match i, hi with
    | 0, hi | 1, hi =>
      obtain rfl := Option.some.inj hi
      match j, hj with
      | 0, _ | 1, _ | 2, _ | 3, _ | 4, _ | 5, _ | 6, _ => rfl
  · rw [h2.cell]
    match i, hi with
    | 0, hi | 1, hi | 2, hi | 3, hi =>
      obtain rfl := Option.some.inj hi
      rfl

set_option maxRecDepth 100000 in
set_option maxHeartbeats 4000000 in
theorem example_any (w : World) : Calls Try.prog 39 #[] w fun e w' => ∃ a b : Nat, e = .returned (taskV ⟨exampleT, some ⟨a, 0, none⟩, 2, some ⟨b, 0, none⟩, 4⟩) ∧ Grow w w' ∧ TaskAt w' w'.heap.size ⟨exampleT, some ⟨a, 0, none⟩, 2, some ⟨b, 0, none⟩, 4⟩ := by
  go_enter Try.func39, Try.ntmps39
  go_upto_region 1 with fail
  obtain ⟨W, hW, hg, hf, hsz⟩ := one_block w 25 #[.slice none 0 0, .slice none 0 0, .int .i64 0, .int .i64 0, .int .i64 0]
  rw [hW]
  clear hW
  have HF := Lib.hid hf
  have HG := Lib.hid hg
  clear hf hg
  go_wp2_with fail
  refine (lspan_any _ _ _).mono ?_
  rintro e w1 ⟨rfl, hb1⟩
  have HG1 : Hid (Grow W w1) := hb1
  clear hb1
  go_wp2_with fail
  refine (lspan_any _ _ _).mono ?_
  rintro e w2 ⟨rfl, hb2⟩
  have HG2 : Hid (Grow W w2) := HG1.out.trans hb2
  clear hb2
  go_wp2_with fail
  refine (lspan_any _ _ _).mono ?_
  rintro e w3 ⟨rfl, hb3⟩
  have HG3 : Hid (Grow W w3) := HG2.out.trans hb3
  clear hb3
  go_wp2_with fail
  refine (lspan_any _ _ _).mono ?_
  rintro e w4 ⟨rfl, hb4⟩
  have HG4 : Hid (Grow W w4) := HG3.out.trans hb4
  clear hb4
  go_wp2_with fail
  refine (lspan_any _ _ _).mono ?_
  rintro e w5 ⟨rfl, hb5⟩
  have HG5 : Hid (Grow W w5) := HG4.out.trans hb5
  clear hb5
  have hB5 := Grow.block HG5.out HF.out
  have hcc := hB5.cell
  have hff := hB5.frozen
  have hz5 : w.heap.size < w5.heap.size := hB5.lt
  have hne5 : w.heap.size ≠ w5.heap.size := by omega
  have hne6 : w.heap.size ≠ w5.heap.size + 1 := by omega
  go_wp2
  have H5 := five_stores hB5 (.slice (some ⟨w5.heap.size, 0, none⟩) 2 2) (.slice (some ⟨w5.heap.size + 1, 0, none⟩) 4 4) (.int .i64 2) (.int .i64 1) (.int .i64 1)
  have hb8 := five_below (w := w5) (B := w.heap.size) (b := w.heap.size) (Nat.le_refl _) (.slice (some ⟨w5.heap.size, 0, none⟩) 2 2) (.slice (some ⟨w5.heap.size + 1, 0, none⟩) 4 4) (.int .i64 2) (.int .i64 1) (.int .i64 1)
  obtain ⟨W8, hW8⟩ : ∃ W8, (((((w5.setCell ⟨w.heap.size, 0, none⟩ (.slice (some ⟨w5.heap.size, 0, none⟩) 2 2)).setCell ⟨w.heap.size, 1, none⟩ (.slice (some ⟨w5.heap.size + 1, 0, none⟩) 4 4)).setCell ⟨w.heap.size, 2, none⟩ (.int .i64 2)).setCell ⟨w.heap.size, 3, none⟩ (.int .i64 1)).setCell ⟨w.heap.size, 4, none⟩ (.int .i64 1)) = W8 := ⟨_, rfl⟩
  have hs8 : W8.heap.size = w5.heap.size := by rw [← hW8]; simp
  rw [hW8] at H5 hb8 ⊢
  obtain ⟨W9, hW9, hg9, hH9, hP9, hsz9⟩ := two_blocks W8 52 3 exampleH exampleP
  rw [hW9]
  rw [hs8] at hH9 hP9
  have hF9 := Grow.block hg9 H5
  exact bodyPost_ret (results_task0 Try.results39 _ _ w.heap.size _ _ _ _ _ hF9 rfl) rfl ⟨w5.heap.size, w5.heap.size + 1, rfl, (HG.out.trans HG5.out).trans' (hb8.trans (Below.mono hg9 (by omega))), example_at hH9 hP9⟩

end Go.Proofs.Ythlihchndmbkaaa
