/- Read: worst, best, read, readRota. -/
import Derived.Test.YthlihchndmbkaaaCheck
import Derived.Test.YthlihchndmbkaaaAfter
import Derived.Laws.EntriesVeiled
namespace Go.Proofs.Ythlihchndmbkaaa
open Go.RowKit

theorem results_task2 {fn : Func} (h : fn.results = #[.cell 2 67, .tmp 3]) (t : Array Value) (W : World) (b : Nat) (v0 v1 v2 v3 v4 u : Value)
    (hb : BlockIs W b 67 #[v0, v1, v2, v3, v4]) (ht : t.getD 2 undef = .pointer (some ⟨b, 0, none⟩)) (hu : t.getD 3 undef = u) :
    (results fn t).run Try.prog W = .ok (.tuple #[.agg #[v0, v1, v2, v3, v4], u]) W := by
  have hc := hb.cell
  simp only [results, h]
  simp at ht hu
  simp [go_sem, ht, hc, hu]
theorem results_task4 {fn : Func} (h : fn.results = #[.cell 4 67, .tmp 5]) (t : Array Value) (W : World) (b : Nat) (v0 v1 v2 v3 v4 u : Value)
    (hb : BlockIs W b 67 #[v0, v1, v2, v3, v4]) (ht : t.getD 4 undef = .pointer (some ⟨b, 0, none⟩)) (hu : t.getD 5 undef = u) :
    (results fn t).run Try.prog W = .ok (.tuple #[.agg #[v0, v1, v2, v3, v4], u]) W := by
  have hc := hb.cell
  simp only [results, h]
  simp at ht hu
  simp [go_sem, ht, hc, hu]
theorem five_stores {w : World} {b : Nat} {t : TypeId} {c0 c1 c2 c3 c4 : Value} (h : BlockIs w b t #[c0, c1, c2, c3, c4]) (v0 v1 v2 v3 v4 : Value) :
    BlockIs (((((w.setCell ⟨b, 0, none⟩ v0).setCell ⟨b, 1, none⟩ v1).setCell ⟨b, 2, none⟩ v2).setCell ⟨b, 3, none⟩ v3).setCell ⟨b, 4, none⟩ v4) b t #[v0, v1, v2, v3, v4] :=
  ((((h.near 0 v0).near 1 v1).near 2 v2).near 3 v3).near 4 v4
theorem five_below {w : World} {B b : Nat} (hb : B ≤ b) (v0 v1 v2 v3 v4 : Value) :
    Below B w (((((w.setCell ⟨b, 0, none⟩ v0).setCell ⟨b, 1, none⟩ v1).setCell ⟨b, 2, none⟩ v2).setCell ⟨b, 3, none⟩ v3).setCell ⟨b, 4, none⟩ v4) :=
  ((((((Below.refl B w).setCell (p := ⟨b, 0, none⟩) hb v0).setCell (p := ⟨b, 1, none⟩) hb v1).setCell (p := ⟨b, 2, none⟩) hb v2).setCell (p := ⟨b, 3, none⟩) hb v3).setCell (p := ⟨b, 4, none⟩) hb v4)
set_option maxHeartbeats 4000000 in
theorem seven_stores {w : World} {b : Nat} {t : TypeId} {c0 c1 c2 c3 c4 c5 c6 : Value} (h : BlockIs w b t #[c0, c1, c2, c3, c4, c5, c6]) (v0 v1 v2 v3 v4 v5 v6 : Value) :
    BlockIs (((((((w.setCell ⟨b, 0, none⟩ v0).setCell ⟨b, 1, none⟩ v1).setCell ⟨b, 2, none⟩ v2).setCell ⟨b, 3, none⟩ v3).setCell ⟨b, 4, none⟩ v4).setCell ⟨b, 5, none⟩ v5).setCell ⟨b, 6, none⟩ v6) b t #[v0, v1, v2, v3, v4, v5, v6] := by
  have h7 := ((((((h.near 0 v0).near 1 v1).near 2 v2).near 3 v3).near 4 v4).near 5 v5).near 6 v6
  simpa only [List.setIfInBounds_toArray, List.set_cons_succ, List.set_cons_zero] using h7

set_option maxHeartbeats 4000000 in
theorem worst_any (t : TaskR) (w : World) : Calls Try.prog 47 #[taskV t] w fun e w' => e = .returned (courseV 68 67 t) ∧ Below w.heap.size w w' := by
  obtain ⟨⟨hs, ps, limit, rest, swap⟩, A, ca, B, cb⟩ := t
  go_enter Try.func47, Try.ntmps47
  go_upto_region 1 with fail
  obtain ⟨W, hW, hg, hf, hf', hsz⟩ := two_blocks w 67 80 (cellsT ⟨⟨hs, ps, limit, rest, swap⟩, A, ca, B, cb⟩) #[.slice none 0 0, .slice none 0 0, .int .i64 0, .int .i64 0, .int .i64 0, .nilFunc, .nilFunc]
  rw [hW]
  clear hW
  obtain ⟨b1, e1⟩ : ∃ b, w.heap.size + 1 = b := ⟨_, rfl⟩
  rw [e1] at hf' hsz ⊢
  have h01 : w.heap.size < b1 := by omega
  clear e1
  have hcc := hf.cell
  have hrc := hf'.cell
  have hrf := hf'.frozen
  have H7 := Lib.hid (seven_stores hf' (.slice A hs.length ca) (.slice B ps.length cb) (.int .i64 limit) (.int .i64 rest) (.int .i64 swap) (endV 68) (endV 67))
  have HG := Lib.hid hg
  clear hf hf' hg
  go_wp2
  refine bodyPost_ret (results_course Try.results47 _ _ b1 _ _ _ _ _ _ _ H7.out rfl) rfl ⟨rfl, ?_⟩
  exact (((((((HG.out.setC (p := ⟨b1, 0, none⟩) (Nat.le_of_lt h01) _).setC (p := ⟨b1, 1, none⟩) (Nat.le_of_lt h01) _).setC (p := ⟨b1, 2, none⟩) (Nat.le_of_lt h01) _).setC (p := ⟨b1, 3, none⟩) (Nat.le_of_lt h01) _).setC (p := ⟨b1, 4, none⟩) (Nat.le_of_lt h01) _).setC (p := ⟨b1, 5, none⟩) (Nat.le_of_lt h01) _).setC (p := ⟨b1, 6, none⟩) (Nat.le_of_lt h01) _)

abbrev zeroTV : Value := .agg #[.slice none 0 0, .slice none 0 0, .int .i64 0, .int .i64 0, .int .i64 0]
set_option maxHeartbeats 4000000 in
theorem read_any (t : TaskR) (n : Nat) (w : World) (ht : TaskAt w n t) (hn : n ≤ w.heap.size) :
    Calls Try.prog 40 #[taskV t] w fun e w' => e = .returned (.tuple #[if okTask t.d = true then taskV t else zeroTV, .int .i64 (if okTask t.d = true then 0 else 40)]) ∧ Below w.heap.size w w' := by
  have HV := Lib.hid (fun (w0 : World) (hw : Grow w w0) => validTask_any t w.heap.size w0 ((ht.more hn).below hw) hw.size)
  clear ht hn
  obtain ⟨⟨hs, ps, limit, rest, swap⟩, A, ca, B, cb⟩ := t
  dsimp only at HV ⊢
  generalize okTask ⟨hs, ps, limit, rest, swap⟩ = ok at HV ⊢
  go_enter Try.func40, Try.ntmps40
  go_upto_region 1 with fail
  obtain ⟨W, hW, hg, hf, hf', hsz⟩ := two_blocks w 25 67 (cellsT ⟨⟨hs, ps, limit, rest, swap⟩, A, ca, B, cb⟩) #[.slice none 0 0, .slice none 0 0, .int .i64 0, .int .i64 0, .int .i64 0]
  rw [hW]
  clear hW
  obtain ⟨b1, e1⟩ : ∃ b, w.heap.size + 1 = b := ⟨_, rfl⟩
  rw [e1] at hf' hsz ⊢
  have h01 : w.heap.size < b1 := by omega
  clear e1
  have hcc := hf.cell
  have HF := Lib.hid hf
  have HR := Lib.hid hf'
  have HG := Lib.hid hg
  clear hf hf' hg
  go_wp2_with fail
  refine (HV.out _ HG.out).mono ?_
  rintro e w2 ⟨rfl, hb2⟩
  have hR2 := Grow.block hb2 HR.out
  have HG2 : Hid (Grow w w2) := HG.out.trans hb2
  clear hcc
  have hcc := (Grow.block hb2 HF.out).cell
  have hrc := hR2.cell
  have hrf := hR2.frozen
  clear hb2
  cases ok
  · have H5 := Lib.hid (five_stores hR2 (.slice none 0 0) (.slice none 0 0) (.int .i64 0) (.int .i64 0) (.int .i64 0))
    have HF5 : Hid (Below w.heap.size w _) := Lib.hid (HG2.out.trans' (five_below (w := w2) (B := w.heap.size) (b := b1) (by omega) (.slice none 0 0) (.slice none 0 0) (.int .i64 0) (.int .i64 0) (.int .i64 0)))
    clear hR2
    go_wp2
    exact bodyPost_ret (results_task2 Try.results40 _ _ b1 _ _ _ _ _ _ H5.out rfl rfl) rfl ⟨rfl, HF5.out⟩
  · have H5 := Lib.hid (five_stores hR2 (.slice A hs.length ca) (.slice B ps.length cb) (.int .i64 limit) (.int .i64 rest) (.int .i64 swap))
    have HF5 : Hid (Below w.heap.size w _) := Lib.hid (HG2.out.trans' (five_below (w := w2) (B := w.heap.size) (b := b1) (by omega) (.slice A hs.length ca) (.slice B ps.length cb) (.int .i64 limit) (.int .i64 rest) (.int .i64 swap)))
    clear hR2
    go_wp2
    exact bodyPost_ret (results_task2 Try.results40 _ _ b1 _ _ _ _ _ _ H5.out rfl rfl) rfl ⟨rfl, HF5.out⟩

end Go.Proofs.Ythlihchndmbkaaa
