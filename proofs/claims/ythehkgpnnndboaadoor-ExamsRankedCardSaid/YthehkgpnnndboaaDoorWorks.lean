/- Works: the paper of the examples. -/
import Derived.Test.YthehkgpnnndboaaDoorNext
import Derived.Test.YthehkgpnnndboaaDoorBlame
import Derived.Test.YthehkgpnnndboaaDoorMaths
namespace Go.Proofs.YthehkgpnnndboaaDoor
open Go.RowKit

theorem span_any (a b : Int) (w : World) : Calls Tryd.prog 43 #[.int .i64 a, .int .i64 b] w fun e w' => e = .returned (spanV (a, b)) ∧ Below w.heap.size w w' := by
  go_enter Tryd.func43, Tryd.ntmps43
  go_upto_region 1 with fail
  obtain ⟨W, hW, hg, hf, hsz⟩ := one_block w 33 #[.int .i64 0, .int .i64 0]
  rw [hW]
  clear hW
  have HF := Lib.hid hf
  have HG := Lib.hid hg
  have hc := hf.cell
  have hz := hf.frozen
  clear hf hg
  go_wp2_with fail
  refine bodyPost_ret (results_span Tryd.results43 _ _ w.heap.size _ _ ((HF.out.near 0 _).near 1 _) rfl) rfl ⟨rfl, ?_⟩
  exact (HG.out.setCell (p := ⟨w.heap.size, 0, none⟩) (Nat.le_refl _) _).setCell (p := ⟨w.heap.size, 1, none⟩) (Nat.le_refl _) _
def exR (b0 b1 m1 m2 m3 b2 : Nat) : PaperR := ⟨[⟨2, 10⟩, ⟨1, 20⟩], [⟨⟨0, 1, 1, [7, 15]⟩, some ⟨m1, 0, none⟩, 2⟩, ⟨⟨-1, 0, 0, [6, 13]⟩, some ⟨m2, 0, none⟩, 2⟩, ⟨⟨0, 0, 1, [3, 14]⟩, some ⟨m3, 0, none⟩, 2⟩], 1, [20, 30], some ⟨b0, 0, none⟩, 2, some ⟨b2, 0, none⟩, 3, some ⟨b1, 0, none⟩, 2⟩
theorem exR_d (b0 b1 m1 m2 m3 b2 : Nat) : (exR b0 b1 m1 m2 m3 b2).d = exP := rfl
theorem far4 {w : World} {b b' : Nat} {t : TypeId} {cs : Array Value} (h : BlockIs w b t cs) (hne : b ≠ b') (v0 v1 v2 v3 : Value) :
    BlockIs ((((w.setCell ⟨b', 0, none⟩ v0).setCell ⟨b', 1, none⟩ v1).setCell ⟨b', 2, none⟩ v2).setCell ⟨b', 3, none⟩ v3) b t cs :=
  (((h.far (p := ⟨b', 0, none⟩) hne _).far (p := ⟨b', 1, none⟩) hne _).far (p := ⟨b', 2, none⟩) hne _).far (p := ⟨b', 3, none⟩) hne _
abbrev exI : Array Value := #[.int .i64 2, .int .i64 10, .int .i64 1, .int .i64 20]
abbrev exJ (m1 m2 m3 : Nat) : Array Value := #[.int .i64 0, .int .i64 1, .int .i64 1, .slice (some ⟨m1, 0, none⟩) 2 2, .int .i64 (-1), .int .i64 0, .int .i64 0, .slice (some ⟨m2, 0, none⟩) 2 2, .int .i64 0, .int .i64 0, .int .i64 1, .slice (some ⟨m3, 0, none⟩) 2 2]
theorem ex_at {w : World} {b0 b1 m1 m2 m3 b2 : Nat} (h0 : BlockIs w b0 78 exI) (h1 : BlockIs w b1 3 #[.int .i64 20, .int .i64 30]) (k1 : BlockIs w m1 3 #[.int .i64 7, .int .i64 15]) (k2 : BlockIs w m2 3 #[.int .i64 6, .int .i64 13]) (k3 : BlockIs w m3 3 #[.int .i64 3, .int .i64 14]) (h2 : BlockIs w b2 60 (exJ m1 m2 m3)) :
    PaperAt w w.heap.size (exR b0 b1 m1 m2 m3 b2) := by
  refine ⟨.inr ⟨b0, 0, rfl, h0.lt, fun i x hi j hj => ?_⟩, .inr ⟨b2, 0, rfl, h2.lt, fun i x hi j hj => ?_⟩, fun x hx => ?_, ints_block (xs := [20, 30]) h1⟩
  · rw [Nat.zero_add, h0.cell]
    have hlt : i < 2 := (List.getElem?_eq_some_iff.1 hi).1
    match i, hlt with
    | 0, _ | 1, _ =>
      obtain rfl := Option.some.inj hi
      match j, hj with
      | 0, _ | 1, _ => rfl
  · rw [Nat.zero_add, h2.cell]
    have hlt : i < 3 := (List.getElem?_eq_some_iff.1 hi).1
    match i, hlt with
    | 0, _ | 1, _ | 2, _ =>
      obtain rfl := Option.some.inj hi
      match j, hj with
      | 0, _ | 1, _ | 2, _ | 3, _ => rfl
  · have h : x = ⟨⟨0, 1, 1, [7, 15]⟩, some ⟨m1, 0, none⟩, 2⟩ ∨ x = ⟨⟨-1, 0, 0, [6, 13]⟩, some ⟨m2, 0, none⟩, 2⟩ ∨ x = ⟨⟨0, 0, 1, [3, 14]⟩, some ⟨m3, 0, none⟩, 2⟩ := by simpa [exR] using hx
    rcases h with rfl | rfl | rfl
    · exact ints_block (xs := [7, 15]) k1
    · exact ints_block (xs := [6, 13]) k2
    · exact ints_block (xs := [3, 14]) k3
theorem results_paper {fn : Func} (h : fn.results = #[.cell 0 26]) (t : Array Value) (W : World) (b : Nat) (v0 v1 v2 v3 : Value)
    (hb : BlockIs W b 26 #[v0, v1, v2, v3]) (ht : t.getD 0 undef = .pointer (some ⟨b, 0, none⟩)) :
    (results fn t).run Tryd.prog W = .ok (.agg #[v0, v1, v2, v3]) W := by
  have hc := hb.cell
  simp only [results, h]
  simp at ht
  simp [go_sem, ht, hc]
set_option maxRecDepth 100000 in
set_option maxHeartbeats 8000000 in
theorem example_any (w : World) : Calls Tryd.prog 46 #[] w fun e w' => ∃ b0 b1 m1 m2 m3 b2, e = .returned (paperV (exR b0 b1 m1 m2 m3 b2)) ∧ PaperAt w' w'.heap.size (exR b0 b1 m1 m2 m3 b2) ∧ Below w.heap.size w w' := by
  go_enter Tryd.func46, Tryd.ntmps46
  go_upto_region 1 with fail
  obtain ⟨W, hW, hg, hf, hsz⟩ := one_block w 26 zeroP
  rw [hW]
  have hWs : W.heap.size = w.heap.size + 1 := by rw [← hW]; simp
  have HP0 := Lib.hid hf
  have HG0 := Lib.hid hg
  clear hW hf hg
  go_wp2_with fail
  refine (span_any _ _ _).mono ?_
  rintro e w1 ⟨rfl, hb1⟩
  have g1 : Grow W w1 := ((Grow.alloc _ _).trans (Grow.alloc _ _)).trans hb1
  have hI1 : BlockIs w1 (w.heap.size + 1) 78 exI := by
    rw [← hWs]
    exact ((Grow.alloc _ _).trans hb1).block (BlockIs.new W 78 exI)
  have hG1 : BlockIs w1 (w.heap.size + 1 + 1) 3 #[.int .i64 20, .int .i64 30] := by
    have h := (show Grow _ w1 from hb1).block (BlockIs.new (W.alloc (.cells exI 78)) 3 #[.int .i64 20, .int .i64 30])
    simpa [hWs] using h
  have HI1 := Lib.hid hI1
  have HL1 := Lib.hid hG1
  have HP1 := Lib.hid (g1.block HP0.out)
  have HG1 := Lib.hid (HG0.out.trans g1)
  clear hI1 hG1 g1 hb1
  go_wp2_with fail
  refine (span_any _ _ _).mono ?_
  rintro e w2 ⟨rfl, hb2⟩
  have g2 : Grow w1 w2 := (Grow.alloc _ _).trans hb2
  have hM1 : BlockIs w2 w1.heap.size 3 #[.int .i64 7, .int .i64 15] := (show Grow _ w2 from hb2).block (BlockIs.new w1 3 #[.int .i64 7, .int .i64 15])
  obtain ⟨W5, hW5⟩ : ∃ z, ((w2.alloc (.cells #[.int .i64 6, .int .i64 13] 3)).alloc (.cells #[.int .i64 3, .int .i64 14] 3)).alloc (.cells (exJ w1.heap.size w2.heap.size (w2.heap.size + 1)) 60) = z := ⟨_, rfl⟩
  have g5 : Grow w2 W5 := by rw [← hW5]; exact ((Grow.alloc _ _).trans (Grow.alloc _ _)).trans (Grow.alloc _ _)
  have hM2 : BlockIs W5 w2.heap.size 3 #[.int .i64 6, .int .i64 13] := by rw [← hW5]; exact ((Grow.alloc _ _).trans (Grow.alloc _ _)).block (BlockIs.new _ _ _)
  have hM3 : BlockIs W5 (w2.heap.size + 1) 3 #[.int .i64 3, .int .i64 14] := by
    rw [← hW5]
    have h := (Grow.alloc _ (.cells (exJ w1.heap.size w2.heap.size (w2.heap.size + 1)) 60)).block (BlockIs.new (w2.alloc (.cells #[.int .i64 6, .int .i64 13] 3)) 3 #[.int .i64 3, .int .i64 14])
    simpa using h
  have hJ : BlockIs W5 (w2.heap.size + 1 + 1) 60 (exJ w1.heap.size w2.heap.size (w2.heap.size + 1)) := by
    rw [← hW5]
    have h := BlockIs.new ((w2.alloc (.cells #[.int .i64 6, .int .i64 13] 3)).alloc (.cells #[.int .i64 3, .int .i64 14] 3)) 60 (exJ w1.heap.size w2.heap.size (w2.heap.size + 1))
    simpa using h
  have hz := (g2.trans g5).block HP1.out
  have hlt : w.heap.size < w1.heap.size := HP1.out.lt
  have hlt2 : w1.heap.size ≤ w2.heap.size := g2.size
  have H5 := Lib.hid (stores4 hz (.slice (some ⟨w.heap.size + 1, 0, none⟩) 2 2) (.slice (some ⟨w2.heap.size + 1 + 1, 0, none⟩) 3 3) (.int .i64 1) (.slice (some ⟨w.heap.size + 1 + 1, 0, none⟩) 2 2))
  have HA := Lib.hid (ex_at (far4 ((g2.trans g5).block HI1.out) (b' := w.heap.size) (by omega) (.slice (some ⟨w.heap.size + 1, 0, none⟩) 2 2) (.slice (some ⟨w2.heap.size + 1 + 1, 0, none⟩) 3 3) (.int .i64 1) (.slice (some ⟨w.heap.size + 1 + 1, 0, none⟩) 2 2))
    (far4 ((g2.trans g5).block HL1.out) (by omega) _ _ _ _) (far4 (g5.block hM1) (by omega) _ _ _ _) (far4 hM2 (by omega) _ _ _ _) (far4 hM3 (by omega) _ _ _ _) (far4 hJ (by omega) _ _ _ _))
  have HB := Lib.hid ((HG1.out.trans (g2.trans g5)).trans' (below4 (w := W5) (B := w.heap.size) (b := w.heap.size) (Nat.le_refl _) (.slice (some ⟨w.heap.size + 1, 0, none⟩) 2 2) (.slice (some ⟨w2.heap.size + 1 + 1, 0, none⟩) 3 3) (.int .i64 1) (.slice (some ⟨w.heap.size + 1 + 1, 0, none⟩) 2 2)))
  have hc := hz.cell
  have hfz := hz.frozen
  clear hM1 hM2 hM3 hJ hz hb2 g2 g5 hlt hlt2
  go_wp2_with fail
  refine bodyPost_ret (results_paper Tryd.results46 _ _ _ _ _ _ _ H5.out rfl) rfl ?_
  exact ⟨_, _, _, _, _, _, rfl, HA.out, HB.out⟩

end Go.Proofs.YthehkgpnnndboaaDoor
