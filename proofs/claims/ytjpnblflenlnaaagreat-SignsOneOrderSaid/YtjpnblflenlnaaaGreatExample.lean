/- The examples of the chapter, as the statements have them. -/
import Derived.Test.YtjpnblflenlnaaaGreatSeen
import Derived.Test.YtjpnblflenlnaaaGreatSortK
namespace Go.Proofs.YtjpnblflenlnaaaGreat
open Go.RowKit

theorem results_spanL {fn : Func} (h : fn.results = #[.cell 4 48]) (t : Array Value) (W : World) (b : Nat) (v0 v1 : Value)
    (hb : BlockIs W b 48 #[v0, v1]) (ht : t.getD 4 undef = .pointer (some ⟨b, 0, none⟩)) :
    (results fn t).run Tryz.prog W = .ok (.agg #[v0, v1]) W := by
  have hc := hb.cell
  simp only [results, h]
  simp at ht
  simp [go_sem, ht, hc]
set_option maxHeartbeats 400000 in
theorem spanL_any (lo hi : Int) (w : World) :
    Calls Tryz.prog 46 #[.int .i64 lo, .int .i64 hi] w fun e w' => e = .returned (.agg #[.int .i64 lo, .int .i64 hi]) ∧ w' = w.alloc (.cells #[.int .i64 lo, .int .i64 hi] 48) := by
  go_enter Tryz.func46, Tryz.ntmps46
  go_wp2
  refine bodyPost_ret (results_spanL Tryz.results46 _ _ _ _ _ (BlockIs.new w 48 #[.int .i64 lo, .int .i64 hi]) rfl) rfl ⟨rfl, rfl⟩

def cellsL' (x : EntryR) : List Value := (cellsE x).toList
def exD : List EntryD := [⟨1, 10, 3, ⟨3, -1, -1, 2, 0, [1, 2]⟩, 0, 60⟩, ⟨2, 20, 6, ⟨-1, 3, 1, 2, 0, [7, 6]⟩, 40, 120⟩, ⟨3, 30, 7, ⟨5, 5, 0, 2, 4, [0]⟩, 0, 120⟩, ⟨4, 10, 4, ⟨4, -1, 0, 3, 0, [2, 2, 6]⟩, 0, 120⟩]
def exS : SeenD := ⟨8589934591, 8589934591, 1, 255, 2, -3, 3, 2, 3, 0, 120, [4]⟩
def exE (z : Nat) : List EntryR := [⟨⟨1, 10, 3, ⟨3, -1, -1, 2, 0, [1, 2]⟩, 0, 60⟩, some ⟨z + 1, 0, none⟩, 2⟩, ⟨⟨2, 20, 6, ⟨-1, 3, 1, 2, 0, [7, 6]⟩, 40, 120⟩, some ⟨z + 1 + 1 + 1, 0, none⟩, 2⟩,
  ⟨⟨3, 30, 7, ⟨5, 5, 0, 2, 4, [0]⟩, 0, 120⟩, some ⟨z + 1 + 1 + 1 + 1 + 1, 0, none⟩, 1⟩, ⟨⟨4, 10, 4, ⟨4, -1, 0, 3, 0, [2, 2, 6]⟩, 0, 120⟩, some ⟨z + 1 + 1 + 1 + 1 + 1 + 1 + 1, 0, none⟩, 3⟩]
theorem results_exL {fn : Func} (h : fn.results = #[.tmp 0, .cell 1 50]) (t : Array Value) (W : World) (b : Nat) (u v0 v1 v2 v3 v4 v5 v6 v7 v8 v9 v10 v11 : Value)
    (hb : BlockIs W b 50 #[v0, v1, v2, v3, v4, v5, v6, v7, v8, v9, v10, v11]) (ht : t.getD 1 undef = .pointer (some ⟨b, 0, none⟩)) (hu : t.getD 0 undef = u) :
    (results fn t).run Tryz.prog W = .ok (.tuple #[u, .agg #[v0, v1, v2, v3, v4, v5, v6, v7, v8, v9, v10, v11]]) W := by
  have hc := hb.cell
  simp only [results, h]
  simp at ht hu
  simp [go_sem, ht, hc, hu]
theorem grow_at (w : World) (os : Array Obj) (i : Nat) (t : TypeId) (cs : Array Value) (h : os[i]? = some (.cells cs t (0, 0))) : BlockIs (Go.Sort.grow w os) (w.heap.size + i) t cs := by
  unfold BlockIs Go.Sort.grow
  show (w.heap ++ os)[w.heap.size + i]? = _
  rw [Array.getElem?_append_right (by omega), show w.heap.size + i - w.heap.size = i by omega]
  exact h
theorem grow_at' {w Wf : World} {os : Array Obj} (hw : Go.Sort.grow w os = Wf) (i : Nat) (t : TypeId) (cs : Array Value) (h : os[i]? = some (.cells cs t (0, 0))) : BlockIs Wf (w.heap.size + i) t cs := by
  rw [← hw]; exact grow_at w os i t cs h
theorem grow_below {w Wf : World} {os : Array Obj} (hw : Go.Sort.grow w os = Wf) : Below w.heap.size w Wf := by
  rw [← hw]
  exact ⟨rfl, rfl, rfl, by simp, fun k hk => Go.Sort.heap_grow_old w os hk⟩
/-- what Example leaves -/
def ExamplePost (w : World) (e : Ending) (w' : World) : Prop :=
  ∃ A cap A' cap' le, e = .returned (.tuple #[.slice A (List.length le) cap, seenV exS A' cap']) ∧ le.map EntryR.d = exD ∧ Ents w' w'.heap.size A le ∧ Ints w' w'.heap.size A' exS.moves ∧ Below w.heap.size w w'

set_option maxRecDepth 100000 in
set_option maxHeartbeats 4000000 in
theorem Example_any (w : World) : Calls Tryz.prog 48 #[] w (ExamplePost w) := by
  go_enter Tryz.func48, Tryz.ntmps48
  go_wp2_with (first | (go_at_call 46; refine (spanL_any _ _ _).mono ?_; rintro e w' ⟨rfl, rfl⟩))
  simp only [Go.Sort.alloc_eq_grow, Go.Sort.grow_grow]
  generalize hWf : Go.Sort.grow w _ = Wf
  have b0 := grow_at' hWf 0 50 (cellsS exS (some ⟨w.heap.size + 1 + 1 + 1 + 1 + 1 + 1 + 1 + 1 + 1 + 1 + 1 + 1, 0, none⟩) 1) (by simp [exS])
  have b1 := grow_at' hWf 1 3 #[.int .i64 1, .int .i64 2] (by simp)
  have b3 := grow_at' hWf 3 3 #[.int .i64 7, .int .i64 6] (by simp)
  have b5 := grow_at' hWf 5 3 #[.int .i64 0] (by simp)
  have b7 := grow_at' hWf 7 3 #[.int .i64 2, .int .i64 2, .int .i64 6] (by simp)
  have b9 := grow_at' hWf 9 62 ((exE w.heap.size).flatMap cellsL').toArray (by simp [exE, cellsL'])
  have b12 := grow_at' hWf 12 3 #[.int .i64 4] (by simp)
  have hbl := grow_below hWf
  clear hWf
  refine bodyPost_ret (results_exL Tryz.results48 _ Wf w.heap.size _ _ _ _ _ _ _ _ _ _ _ _ _ b0 rfl rfl) rfl ?_
  refine ⟨some ⟨w.heap.size + 9, 0, none⟩, 4, some ⟨w.heap.size + 12, 0, none⟩, 1, exE w.heap.size, rfl, rfl, ⟨.inr ⟨w.heap.size + 9, 0, rfl, b9.lt, fun i x hi j hj => ?_⟩, fun x hx => ?_⟩, ints_block (xs := [4]) b12, hbl⟩
  · rw [Nat.zero_add, b9.cell]
    have hf := flat_get (enc := cellsL') (k := 11) (fun _ => rfl) (exE w.heap.size) i j hj
    rw [hi, Option.bind_some] at hf
    rw [List.getElem?_toArray, hf]
    exact Array.getElem?_toList
  · simp only [exE, List.mem_cons, List.not_mem_nil, or_false] at hx
    rcases hx with rfl | rfl | rfl | rfl
    · exact ⟨ints_block (xs := [1, 2]) b1, by simp⟩
    · exact ⟨ints_block (xs := [7, 6]) b3, by simp⟩
    · exact ⟨ints_block (xs := [0]) b5, by simp⟩
    · exact ⟨ints_block (xs := [2, 2, 6]) b7, by simp⟩

end Go.Proofs.YtjpnblflenlnaaaGreat
