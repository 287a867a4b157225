/- Works: the pool of the examples. -/
import Derived.Test.YtcgnibfcjadnjaaApis
namespace Go.Proofs.Ytcgnibfcjadnjaa
open Go.RowKit

def exP : Pool := ⟨[⟨1, 3, 10⟩, ⟨3, 3, 25⟩, ⟨2, 1, 12⟩, ⟨2, 3, 20⟩, ⟨1, 2, 15⟩], [[1, 1], [1, 0]], 1, 2⟩
theorem ex_ok : okPool exP.i = true := by decide +kernel
theorem ex_good : Good exP := by
  refine ⟨by decide, by decide, by decide, by decide, by decide, by decide, ?_, ?_, by decide, by decide⟩
  · intro r hr
    have h : r = [1, 1] ∨ r = [1, 0] := by simpa [exP] using hr
    rcases h with rfl | rfl
    · exact ⟨rfl, by decide⟩
    · exact ⟨rfl, by decide⟩
  · intro x hx
    have h : x = ⟨1, 3, 10⟩ ∨ x = ⟨3, 3, 25⟩ ∨ x = ⟨2, 1, 12⟩ ∨ x = ⟨2, 3, 20⟩ ∨ x = ⟨1, 2, 15⟩ := by simpa [exP] using hx
    rcases h with rfl | rfl | rfl | rfl | rfl <;> decide
theorem ex_plan : planD exP = some (72, [7, 17]) := by decide +kernel
theorem ex_missed : missedD exP [15, 17] = [2, 1, 0, 0, 1] := by decide +kernel
theorem ex_watch : Watch exP [15, 17] := by
  have h : okWatch exP (natsL [15, 17]) = true := by decide +kernel
  have h2 := (okWatch_is ex_good (by intro x hx; have h : x = 15 ∨ x = 17 := by simpa [natsL] using hx
                                     rcases h with rfl | rfl <;> decide) h).2
  rwa [gsOf_nats] at h2
theorem ex_short : Short exP.i := by
  refine ⟨by decide, by decide, ?_⟩
  intro r hr
  have h : r = [1, 1] ∨ r = [1, 0] := by simpa [exP, Pool.i, natsL] using hr
  rcases h with rfl | rfl <;> decide
abbrev exF : Array Value := #[.int .i64 1, .int .i64 3, .int .i64 10, .int .i64 3, .int .i64 3, .int .i64 25, .int .i64 2, .int .i64 1, .int .i64 12, .int .i64 2, .int .i64 3, .int .i64 20, .int .i64 1, .int .i64 2, .int .i64 15]
theorem results_pool {fn : Func} (h : fn.results = #[.cell 0 25]) (t : Array Value) (W : World) (b : Nat) (v0 v1 v2 v3 : Value)
    (hb : BlockIs W b 25 #[v0, v1, v2, v3]) (ht : t.getD 0 undef = .pointer (some ⟨b, 0, none⟩)) :
    (results fn t).run Try.prog W = .ok (.agg #[v0, v1, v2, v3]) W := by
  have hc := hb.cell
  simp only [results, h]
  simp at ht
  simp [go_sem, ht, hc]
theorem ex_folks {w : World} {b : Nat} (h : BlockIs w b 62 exF) : Folks w w.heap.size (some ⟨b, 0, none⟩) exP.i.folk := by
  refine .inr ⟨b, 0, rfl, h.lt, fun i x hi j hj => ?_⟩
  rw [Nat.zero_add, h.cell]
  have hlt : i < 5 := (List.getElem?_eq_some_iff.1 hi).1
  match i, hlt with
  | 0, _ | 1, _ | 2, _ | 3, _ | 4, _ =>
    obtain rfl := Option.some.inj hi
    match j, hj with
    | 0, _ | 1, _ | 2, _ => rfl
theorem ex_rows {w : World} {b b1 b2 : Nat} (h : BlockIs w b 26 #[.slice (some ⟨b1, 0, none⟩) 2 2, .slice (some ⟨b2, 0, none⟩) 2 2]) (h1 : BlockIs w b1 3 #[.int .i64 1, .int .i64 1]) (h2 : BlockIs w b2 3 #[.int .i64 1, .int .i64 0]) : Rows w w.heap.size (some ⟨b, 0, none⟩) exP.i.needs := by
  refine .inr ⟨b, 0, rfl, h.lt, fun i xs hi => ?_⟩
  have hlt : i < 2 := (List.getElem?_eq_some_iff.1 hi).1
  match i, hlt with
  | 0, _ =>
    obtain rfl := Option.some.inj hi
    exact ⟨_, 2, h.cell 0, ints_block (xs := [1, 1]) h1⟩
  | 1, _ =>
    obtain rfl := Option.some.inj hi
    exact ⟨_, 2, h.cell 1, ints_block (xs := [1, 0]) h2⟩

set_option maxRecDepth 100000 in
set_option maxHeartbeats 8000000 in
theorem example_any (w : World) : Calls Try.prog 43 #[] w fun e w' => ∃ h, e = .returned (poolN h exP) ∧ PoolAt w' w'.heap.size h exP.i ∧ Below w.heap.size w w' := by
  go_enter Try.func43, Try.ntmps43
  go_upto_region 1 with fail
  obtain ⟨W, hW, hg, hf, hsz⟩ := one_block w 25 #[Value.slice none 0 0, .slice none 0 0, .int .i64 0, .int .i64 0]
  rw [hW]
  have hWs : W.heap.size = w.heap.size + 1 := by rw [← hW]; simp
  clear hW
  obtain ⟨W5, hW5⟩ : ∃ z, (((W.alloc (.cells exF 62)).alloc (.cells #[.int .i64 1, .int .i64 1] 3)).alloc (.cells #[.int .i64 1, .int .i64 0] 3)).alloc (.cells #[.slice (some ⟨W.heap.size + 1, 0, none⟩) 2 2, .slice (some ⟨W.heap.size + 1 + 1, 0, none⟩) 2 2] 26) = z := ⟨_, rfl⟩
  have g1 : Grow W W5 := by rw [← hW5]; exact (((Grow.alloc _ _).trans (Grow.alloc _ _)).trans (Grow.alloc _ _)).trans (Grow.alloc _ _)
  have hF : BlockIs W5 W.heap.size 62 exF := by rw [← hW5]; exact (((Grow.alloc _ _).trans (Grow.alloc _ _)).trans (Grow.alloc _ _)).block (BlockIs.new _ _ _)
  have hI1 : BlockIs W5 (W.heap.size + 1) 3 #[.int .i64 1, .int .i64 1] := by
    rw [← hW5]
    have h := ((Grow.alloc _ (.cells #[.int .i64 1, .int .i64 0] 3)).trans (Grow.alloc _ (.cells #[.slice (some ⟨W.heap.size + 1, 0, none⟩) 2 2, .slice (some ⟨W.heap.size + 1 + 1, 0, none⟩) 2 2] 26))).block (BlockIs.new (W.alloc (.cells exF 62)) 3 #[.int .i64 1, .int .i64 1])
    simpa using h
  have hI2 : BlockIs W5 (W.heap.size + 1 + 1) 3 #[.int .i64 1, .int .i64 0] := by
    rw [← hW5]
    have h := (Grow.alloc _ (.cells #[.slice (some ⟨W.heap.size + 1, 0, none⟩) 2 2, .slice (some ⟨W.heap.size + 1 + 1, 0, none⟩) 2 2] 26)).block (BlockIs.new ((W.alloc (.cells exF 62)).alloc (.cells #[.int .i64 1, .int .i64 1] 3)) 3 #[.int .i64 1, .int .i64 0])
    simpa using h
  have hR : BlockIs W5 (W.heap.size + 1 + 1 + 1) 26 #[.slice (some ⟨W.heap.size + 1, 0, none⟩) 2 2, .slice (some ⟨W.heap.size + 1 + 1, 0, none⟩) 2 2] := by
    rw [← hW5]
    have h := BlockIs.new (((W.alloc (.cells exF 62)).alloc (.cells #[.int .i64 1, .int .i64 1] 3)).alloc (.cells #[.int .i64 1, .int .i64 0] 3)) 26 #[.slice (some ⟨W.heap.size + 1, 0, none⟩) 2 2, .slice (some ⟨W.heap.size + 1 + 1, 0, none⟩) 2 2]
    simpa using h
  have hz := g1.block hf
  have H5 := Lib.hid (stores4 hz (.slice (some ⟨W.heap.size, 0, none⟩) 5 5) (.slice (some ⟨W.heap.size + 1 + 1 + 1, 0, none⟩) 2 2) (.int .i64 1) (.int .i64 2))
  have HP : Hid (PoolAt (((((W5.setCell ⟨w.heap.size, 0, none⟩ (.slice (some ⟨W.heap.size, 0, none⟩) 5 5)).setCell ⟨w.heap.size, 1, none⟩ (.slice (some ⟨W.heap.size + 1 + 1 + 1, 0, none⟩) 2 2)).setCell ⟨w.heap.size, 2, none⟩ (.int .i64 1)).setCell ⟨w.heap.size, 3, none⟩ (.int .i64 2))) _ ⟨some ⟨W.heap.size, 0, none⟩, 5, some ⟨W.heap.size + 1 + 1 + 1, 0, none⟩, 2⟩ exP.i) := Lib.hid ⟨ex_folks (far4 hF (by omega) _ _ _ _), ex_rows (far4 hR (by omega) _ _ _ _) (far4 hI1 (by omega) _ _ _ _) (far4 hI2 (by omega) _ _ _ _)⟩
  have HB := Lib.hid ((hg.trans g1).trans' (below4 (w := W5) (B := w.heap.size) (b := w.heap.size) (Nat.le_refl _) (.slice (some ⟨W.heap.size, 0, none⟩) 5 5) (.slice (some ⟨W.heap.size + 1 + 1 + 1, 0, none⟩) 2 2) (.int .i64 1) (.int .i64 2)))
  have hc := hz.cell
  have hfz := hz.frozen
  clear hF hI1 hI2 hR hz hf hg g1 hWs
  go_wp2
  refine bodyPost_ret (results_pool Try.results43 _ _ _ _ _ _ _ H5.out rfl) rfl ?_
  exact ⟨⟨some ⟨W.heap.size, 0, none⟩, 5, some ⟨W.heap.size + 1 + 1 + 1, 0, none⟩, 2⟩, rfl, HP.out, HB.out⟩

end Go.Proofs.Ytcgnibfcjadnjaa
