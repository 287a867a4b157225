/- Poss: is some truth possible? -/
import Derived.Test.YthehkgpnnndboaaDoorResult
namespace Go.Proofs.YthehkgpnnndboaaDoor
open Go.RowKit Go.Shelf

attribute [local go_sem] Oper.semAt_some

theorem block_low {β : Type} {B b : Nat} {t : TypeId} {cs : Array Value} (hb : b < B) : LowFrom B (fun (_ : β) W => BlockIs W b t cs) := fun _ _ _ hs hg => (hg.block b hb).trans hs
theorem below_low {β : Type} {B n : Nat} {w : World} (hn : n ≤ B) : LowFrom B (fun (_ : β) W => Below n w W) := fun _ _ _ hs hg => hs.trans (Below.mono hg hn)
theorem size_low {β : Type} {B n : Nat} : LowFrom B (fun (_ : β) W => n ≤ W.heap.size) := fun _ _ _ hs hg => Nat.le_trans hs hg.size
theorem pre_low {β : Type} {B : Nat} (P : β → Prop) : LowFrom B (fun (s : β) _ => P s) := fun _ _ _ hs _ => hs
theorem put_below {n D : Nat} (W : World) (o : Obj) (h : n ≤ D) : Below n W (W.putObj D o) := ⟨rfl, rfl, rfl, by simp, fun k hk => World.putObj_heap_other (by omega)⟩
theorem results_boolC {fn : Func} {r : Nat} (h : fn.results = #[.cell r 4]) (t : Array Value) (W : World) (b : Nat) (v : Value)
    (hb : BlockIs W b 4 #[v]) (ht : t.getD r undef = .pointer (some ⟨b, 0, none⟩)) :
    (results fn t).run Tryd.prog W = .ok v W := by
  have hc := hb.cell
  simp only [results, h]
  simp at ht
  simp [go_sem, ht, hc]
set_option maxRecDepth 100000 in
set_option maxHeartbeats 8000000 in
theorem isPossible_any (p : PaperR) (G : GoodP (withW p.d 0)) (w : World) (hA : PaperAt w w.heap.size p) :
    Calls Tryd.prog 75 #[paperV p] w fun e w' => e = .returned (.bool (!(truthsL p.d).isEmpty)) ∧ Below w.heap.size w w' := by
  have HPA := Lib.hid (fun (w0 : World) (hw : Grow w w0) => hA.below hw)
  have hro : Fence.wide.round = none := rfl
  clear hA
  refine (callsIn_wide (n := 8)).1 ?_
  refine callsIn_of_wp_marks Tryd.func75 rfl trivial ?_ hro
  simp only [Tryd.ntmps75, List.size_toArray, List.length_cons, List.length_nil, Nat.reduceAdd, Nat.reduceSub, Array.replicate_succ, Array.replicate_zero, List.push_toArray, List.append_toArray, List.nil_append, List.cons_append]
  refine wpIn_wide.2 ?_
  go_upto_region 1 with fail
  obtain ⟨W, hW, hg, hf, hx, hsz⟩ := two_blocks w 73 4 (cellsP p) #[.bool false]
  rw [hW]
  clear hW
  have HF := Lib.hid hf
  have HX := Lib.hid hx
  have HG := Lib.hid hg
  have hcc := hf.cell
  clear hf hx hg
  go_wp2_with fail
  refine (wpIn_wide (n := 8)).1 ?_
  refine wpIn_rangeLow (first := #[paperV p]) (lb := #[]) (gf := 50) rfl (enters_of Tryd.func50 (by kernel_rfl) rfl)
    (truths_stops p G w.heap.size w.heap.size W (HPA.out W HG.out) HG.out.size) HG.out.size (by omega) (Below.refl _ _) (fun _ => rfl)
    (fun pre W' => pre = [] ∧ BlockIs W' (w.heap.size + 1) 4 #[.bool false] ∧ Below w.heap.size w W' ∧ W.heap.size ≤ W'.heap.size)
    (fun pre W' => pre ≠ [] ∧ BlockIs W' (w.heap.size + 1) 4 #[.bool true] ∧ Below w.heap.size w W' ∧ W.heap.size ≤ W'.heap.size)
    ((pre_low _).and ((block_low hsz).and ((below_low (by omega)).and size_low)))
    ((pre_low _).and ((block_low hsz).and ((below_low (by omega)).and size_low)))
    (fun _ _ h => h.2.2.2) (fun _ _ h => h.2.2.2)
    ⟨rfl, HX.out, HG.out, Nat.le_refl _⟩
    (fun x a' _ => a' = { tmps := #[paperV p, .pointer (some ⟨w.heap.size, 0, none⟩), .pointer (some ⟨w.heap.size + 1, 0, none⟩), paperV p, .func (.func 50) #[paperV p] #[], .agg (cellsT x), .int .i64 (wrongS p.d.judges x : Nat)], defers := [] })
    (fun _ _ _ _ _ _ hs _ _ => hs)
    ?assign ?body ?done ?stop
  case assign =>
    rintro l pre x W3 K hi hK
    simp only [encT]
    gi_wp2
    exact hK _ _ (KeepM.refl _ _ _ _) hi (by simp)
  case body =>
    rintro l pre x a' W3 hl ⟨r, hr⟩ ⟨hp, hb, hgw, hsw⟩ rfl hpr
    have hbc := hb.cell 0
    have hbz := hb.frozen 0
    have HB := Lib.hid hb
    clear hb
    gi_wp2
    exact ⟨KeepM.store _ _ _ (by omega) (by omega) (by omega), by simp, HB.out.near 0 _, hgw.setCell (p := ⟨w.heap.size + 1, 0, none⟩) (by show w.heap.size ≤ w.heap.size + 1; omega) _, by simpa using hsw⟩
  case done =>
    rintro D xs W3 hD rfl ⟨hp, hb, hgw, hsw⟩ hK
    have hbc := hb.cell 0
    have hbz := hb.frozen 0
    have HB := Lib.hid hb
    clear hb
    go_wp2
    have hK' : (W3.setCell ⟨w.heap.size + 1, 0, none⟩ (.bool false)).heap[D]? = some (.deferred (some [])) := (Below.heap_setCell W3 ⟨w.heap.size + 1, 0, none⟩ _ D (by show D ≠ w.heap.size + 1; omega)).trans hK
    refine ⟨by simp, .inl ⟨_, _, rfl, run_takeDeferred hK', ?_⟩⟩
    refine ⟨_, results_boolC Tryd.results75 _ _ _ _ ((World.putObj_heap_other (by omega)).trans (HB.out.near 0 _)) rfl, ?_, ?_⟩
    · rw [hp]
      rfl
    · exact (hgw.setCell (p := ⟨w.heap.size + 1, 0, none⟩) (by show w.heap.size ≤ w.heap.size + 1; omega) _).trans (put_below _ _ (by omega))
  case stop =>
    rintro D pre W3 hD hpr ⟨hp, hb, hgw, hsw⟩ hK
    have HB := Lib.hid hb
    gi_wp2
    refine ⟨by simp, .inl ⟨_, _, rfl, run_takeDeferred hK, ?_⟩⟩
    refine ⟨_, results_boolC Tryd.results75 _ _ _ _ ((World.putObj_heap_other (by omega)).trans HB.out) rfl, ?_, ?_⟩
    · have hne : (truthsL p.d).isEmpty = false := by
        obtain ⟨post, hq⟩ := hpr
        cases hl : truthsL p.d with
        | nil => rw [hl] at hq; exact absurd (List.append_eq_nil_iff.1 hq).1 hp
        | cons _ _ => rfl
      rw [hne]
      rfl
    · exact hgw.trans (put_below _ _ (by omega))

end Go.Proofs.YthehkgpnnndboaaDoor
