/- The examples of the chapter, as the statements have them. works: the examples of the chapter hold. -/
import Derived.Test.YtfpmkolaiomabaaGreatSeen
import Derived.Test.YtfpmkolaiomabaaGreatSortK
import Derived.Test.YtfpmkolaiomabaaGreatOrder
import Derived.Test.YtfpmkolaiomabaaGreatAsk
import Derived.Test.YtfpmkolaiomabaaGreatTwinsWalk
import Derived.RangeFuncBox
namespace Go.Proofs.YtfpmkolaiomabaaGreat
open Go.RowKit

theorem results_spanL {fn : Func} (h : fn.results = #[.cell 4 48]) (t : Array Value) (W : World) (b : Nat) (v0 v1 : Value)
    (hb : BlockIs W b 48 #[v0, v1]) (ht : t.getD 4 undef = .pointer (some ⟨b, 0, none⟩)) :
    (results fn t).run Tryz.prog W = .ok (.agg #[v0, v1]) W := by
  have hc := hb.cell
  simp only [results, h]
  simp at ht
  simp [go_sem, ht, hc]
set_option maxHeartbeats 400000 in
theorem spanL_any (lo hi : Int) (w : World) :
    Calls Tryz.prog 46 #[.int .i64 lo, .int .i64 hi] w fun e w' => e = .returned (.agg #[.int .i64 lo, .int .i64 hi]) ∧ w' = w.alloc (.cells #[.int .i64 lo, .int .i64 hi] 48) := by
  go_enter Tryz.func46, Tryz.ntmps46
  go_wp2
  refine bodyPost_ret (results_spanL Tryz.results46 _ _ _ _ _ (BlockIs.new w 48 #[.int .i64 lo, .int .i64 hi]) rfl) rfl ⟨rfl, rfl⟩

def cellsL' (x : EntryR) : List Value := (cellsE x).toList
def exD : List EntryD := [⟨1, 10, 3, ⟨3, -1, -1, 2, 0, [1, 2]⟩, 0, 60⟩, ⟨2, 20, 6, ⟨-1, 3, 1, 2, 0, [7, 6]⟩, 40, 120⟩, ⟨3, 30, 7, ⟨5, 5, 0, 2, 4, [0]⟩, 0, 120⟩, ⟨4, 10, 4, ⟨4, -1, 0, 3, 0, [2, 2, 6]⟩, 0, 120⟩]
def exS : SeenD := ⟨8589934591, 8589934591, 1, 255, 2, -3, 3, 2, 3, 0, 120, [4]⟩
def exE (z : Nat) : List EntryR := [⟨⟨1, 10, 3, ⟨3, -1, -1, 2, 0, [1, 2]⟩, 0, 60⟩, some ⟨z + 1, 0, none⟩, 2⟩, ⟨⟨2, 20, 6, ⟨-1, 3, 1, 2, 0, [7, 6]⟩, 40, 120⟩, some ⟨z + 1 + 1 + 1, 0, none⟩, 2⟩,
  ⟨⟨3, 30, 7, ⟨5, 5, 0, 2, 4, [0]⟩, 0, 120⟩, some ⟨z + 1 + 1 + 1 + 1 + 1, 0, none⟩, 1⟩, ⟨⟨4, 10, 4, ⟨4, -1, 0, 3, 0, [2, 2, 6]⟩, 0, 120⟩, some ⟨z + 1 + 1 + 1 + 1 + 1 + 1 + 1, 0, none⟩, 3⟩]
theorem results_exL {fn : Func} (h : fn.results = #[.tmp 0, .cell 1 50]) (t : Array Value) (W : World) (b : Nat) (u v0 v1 v2 v3 v4 v5 v6 v7 v8 v9 v10 v11 : Value)
    (hb : BlockIs W b 50 #[v0, v1, v2, v3, v4, v5, v6, v7, v8, v9, v10, v11]) (ht : t.getD 1 undef = .pointer (some ⟨b, 0, none⟩)) (hu : t.getD 0 undef = u) :
    (results fn t).run Tryz.prog W = .ok (.tuple #[u, .agg #[v0, v1, v2, v3, v4, v5, v6, v7, v8, v9, v10, v11]]) W := by
  have hc := hb.cell
  simp only [results, h]
  simp at ht hu
  simp [go_sem, ht, hc, hu]
theorem grow_at (w : World) (os : Array Obj) (i : Nat) (t : TypeId) (cs : Array Value) (h : os[i]? = some (.cells cs t (0, 0))) : BlockIs (Go.Sort.grow w os) (w.heap.size + i) t cs := by
  unfold BlockIs Go.Sort.grow
  show (w.heap ++ os)[w.heap.size + i]? = _
  rw [Array.getElem?_append_right (by omega), show w.heap.size + i - w.heap.size = i by omega]
  exact h
theorem grow_at' {w Wf : World} {os : Array Obj} (hw : Go.Sort.grow w os = Wf) (i : Nat) (t : TypeId) (cs : Array Value) (h : os[i]? = some (.cells cs t (0, 0))) : BlockIs Wf (w.heap.size + i) t cs := by
  rw [← hw]; exact grow_at w os i t cs h
theorem grow_below {w Wf : World} {os : Array Obj} (hw : Go.Sort.grow w os = Wf) : Below w.heap.size w Wf := by
  rw [← hw]
  exact ⟨rfl, rfl, rfl, by simp, fun k hk => Go.Sort.heap_grow_old w os hk⟩
/-- what Example leaves -/
def ExamplePost (w : World) (e : Ending) (w' : World) : Prop :=
  ∃ A cap A' cap' le, e = .returned (.tuple #[.slice A (List.length le) cap, seenV exS A' cap']) ∧ le.map EntryR.d = exD ∧ Ents w' w'.heap.size A le ∧ Ints w' w'.heap.size A' exS.moves ∧ Below w.heap.size w w'

set_option maxRecDepth 100000 in
set_option maxHeartbeats 4000000 in
theorem Example_any (w : World) : Calls Tryz.prog 48 #[] w (ExamplePost w) := by
  go_enter Tryz.func48, Tryz.ntmps48
  go_wp2_with (first | (go_at_call 46; refine (spanL_any _ _ _).mono ?_; rintro e w' ⟨rfl, rfl⟩))
  simp only [Go.Sort.alloc_eq_grow, Go.Sort.grow_grow]
  generalize hWf : Go.Sort.grow w _ = Wf
  have b0 := grow_at' hWf 0 50 (cellsS exS (some ⟨w.heap.size + 1 + 1 + 1 + 1 + 1 + 1 + 1 + 1 + 1 + 1 + 1 + 1, 0, none⟩) 1) (by simp [exS])
  have b1 := grow_at' hWf 1 3 #[.int .i64 1, .int .i64 2] (by simp)
  have b3 := grow_at' hWf 3 3 #[.int .i64 7, .int .i64 6] (by simp)
  have b5 := grow_at' hWf 5 3 #[.int .i64 0] (by simp)
  have b7 := grow_at' hWf 7 3 #[.int .i64 2, .int .i64 2, .int .i64 6] (by simp)
  have b9 := grow_at' hWf 9 62 ((exE w.heap.size).flatMap cellsL').toArray (by simp [exE, cellsL'])
  have b12 := grow_at' hWf 12 3 #[.int .i64 4] (by simp)
  have hbl := grow_below hWf
  clear hWf
  refine bodyPost_ret (results_exL Tryz.results48 _ Wf w.heap.size _ _ _ _ _ _ _ _ _ _ _ _ _ b0 rfl rfl) rfl ?_
  refine ⟨some ⟨w.heap.size + 9, 0, none⟩, 4, some ⟨w.heap.size + 12, 0, none⟩, 1, exE w.heap.size, rfl, rfl, ⟨.inr ⟨w.heap.size + 9, 0, rfl, b9.lt, fun i x hi j hj => ?_⟩, fun x hx => ?_⟩, ints_block (xs := [4]) b12, hbl⟩
  · rw [Nat.zero_add, b9.cell]
    have hf := flat_get (enc := cellsL') (k := 11) (fun _ => rfl) (exE w.heap.size) i j hj
    rw [hi, Option.bind_some] at hf
    rw [List.getElem?_toArray, hf]
    exact Array.getElem?_toList
  · simp only [exE, List.mem_cons, List.not_mem_nil, or_false] at hx
    rcases hx with rfl | rfl | rfl | rfl
    · exact ⟨ints_block (xs := [1, 2]) b1, by simp⟩
    · exact ⟨ints_block (xs := [7, 6]) b3, by simp⟩
    · exact ⟨ints_block (xs := [0]) b5, by simp⟩
    · exact ⟨ints_block (xs := [2, 2, 6]) b7, by simp⟩

end Go.Proofs.YtfpmkolaiomabaaGreat

namespace Go.Proofs.YtfpmkolaiomabaaGreat
open Go.RowKit

/-! ### what the functions return for the examples -/
theorem ex_err : bookErr exD = 0 := by decide
theorem ex_find : findErr exD exS = 0 := by decide
theorem ex_ok : okSeen exS = true := by decide
theorem ex_book : IsBookOf exD (exD.map canonE) := by
  have h : readD [] exD = some (exD.map canonE) := by decide
  exact readD_book h
theorem ex_order {r : List Int} (h : OrderD exD r) : r = [1, 2, 3, 4] :=
  h.unique ⟨exD.map canonE, by decide, ex_book, by decide⟩

/-- each once -/
def onceL : List Int → List Int
  | [] => []
  | x :: l => if (onceL l).contains x = true then onceL l else x :: onceL l
theorem onceL_mem : ∀ {l : List Int} {x : Int}, x ∈ onceL l ↔ x ∈ l
  | [], x => Iff.rfl
  | y :: l, x => by
    simp only [onceL]
    split
    · rename_i h
      rw [onceL_mem, List.mem_cons]
      constructor
      · exact .inr
      · rintro (rfl | h2)
        · exact onceL_mem.1 (by simpa using h)
        · exact h2
    · rw [List.mem_cons, List.mem_cons, onceL_mem]
theorem onceL_nodup : ∀ l : List Int, (onceL l).Nodup
  | [] => List.nodup_nil
  | y :: l => by
    simp only [onceL]
    split
    · exact onceL_nodup l
    · rename_i h
      exact List.nodup_cons.2 ⟨by simpa using h, onceL_nodup l⟩
def signsOnce (v : SeenD) (l : List EntryD) : List Int := onceL ((l.filter fun y => agreesD v (canonE y)).map EntryD.sign)
theorem FoundD.length {v : SeenD} {l : List EntryD} {r : List Int} (h : FoundD v l r) : r.length = (signsOnce v l).length := by
  have hr : r.Nodup := h.1.imp fun h => by omega
  have hm : ∀ x, x ∈ r ↔ x ∈ signsOnce v l := fun x => by
    rw [h.2, signsOnce, onceL_mem]
    simp only [List.mem_map, List.mem_filter]
    constructor
    · rintro ⟨y, h1, h2, h3⟩; exact ⟨y, ⟨h1, h2⟩, h3⟩
    · rintro ⟨y, ⟨h1, h2⟩, h3⟩; exact ⟨y, h1, h2, h3⟩
  exact Nat.le_antisymm (nodup_length hr fun x hx => (hm x).1 hx) (nodup_length (onceL_nodup _) fun x hx => (hm x).2 hx)
theorem foundL_len (v : SeenD) (l : List EntryD) : (foundL v l).length = (signsOnce v l).length := (foundL_of v l).length
def maxC (l : List EntryD) (vs : List SeenD) : Nat := vs.foldl (fun m v => max m (signsOnce v l).length) 0
theorem maxD_maxC (l : List EntryD) (vs : List SeenD) : maxD l vs = maxC l vs := by
  unfold maxD maxC
  congr 1
  funext m v
  rw [foundL_len]
theorem ex_found {r : List Int} (h : FoundD exS exD r) : r = [10, 20] := by
  refine ascending_eq h.1 (by decide) fun x => (h.2 x).trans ?_
  have hc : signsOnce exS exD = [20, 10] := by decide
  have : x ∈ signsOnce exS exD ↔ x ∈ [10, 20] := by rw [hc]; simp [or_comm]
  rw [← this, signsOnce, onceL_mem]
  simp only [List.mem_map, List.mem_filter]
  constructor
  · rintro ⟨y, h1, h2, h3⟩; exact ⟨y, ⟨h1, h2⟩, h3⟩
  · rintro ⟨y, ⟨h1, h2⟩, h3⟩; exact ⟨y, h1, h2, h3⟩
theorem ex_best : (bestOf (fun p => maxC exD (answersD exS p)) 5).2 = 2 := by decide +kernel
theorem ex_ask : (askR exD exS).2 = (2, 0) := by
  have hg : askG exD exS = fun p : Nat => maxC exD (answersD exS p) := by funext p; exact maxD_maxC _ _
  have hn : foundL exS exD ≠ [] := fun e => by
    have := ex_found (foundL_of exS exD)
    rw [e] at this
    cases this
  unfold askR
  rw [if_pos ex_find, if_neg hn, hg]
  show (((bestOf (fun p : Nat => maxC exD (answersD exS p)) 5).2 : Int), (0 : Int)) = (2, 0)
  rw [ex_best]
  rfl
def twinsL (l : List EntryD) : List (Int × Int) := l.flatMap fun x => (l.filter fun y => twinOf (canonE x) (canonE y)).map fun y => (x.sign, y.sign)
theorem ex_twins {r : List (Int × Int)} (h : TwinsD exD r) : r = [(10, 20)] := by
  refine sorted_unique cmp_cmpP h.1 (by simp) fun p => (h.2 p).trans ?_
  have hc : twinsL exD = [(10, 20)] := by decide +kernel
  rw [← hc]
  simp only [twinsL, List.mem_flatMap, List.mem_map, List.mem_filter]
  constructor
  · rintro ⟨x, hx, y, hy, ht, hp⟩; exact ⟨x, hx, y, ⟨hy, ht⟩, hp⟩
  · rintro ⟨x, hx, y, ⟨hy, ht⟩, hp⟩; exact ⟨x, hx, y, hy, ht, hp⟩


set_option maxRecDepth 100000 in
set_option maxHeartbeats 8000000 in
theorem works_any (w : World) : Calls Tryz.prog 14 #[] w fun e w' => e = .returned (.bool true) ∧ Below w.heap.size w w' := by
  have heqP := run_eqP
  have HEQ := Lib.hid heqP
  clear heqP
  go_enter Tryz.func14, Tryz.ntmps14
  go_wp2_with fail
  refine (Example_any w).mono ?_
  rintro e w1 ⟨A, cap, A', cap', le, rfl, hd, hen, hin, hb1⟩
  have hll : le.length ≤ 1000000 := by have := congrArg List.length hd; simp [exD] at this; omega
  have hml : exS.moves.length ≤ 1000000 := by decide
  have HEX : Hid (exS = exS) := rfl
  have hfx : ∀ r, FoundD exS exD r → r = [10, 20] := fun r h => ex_found h
  have hax := ex_ask
  have hfe := ex_find
  generalize exS = S at *
  obtain ⟨W, hW, hg, hf, hsz⟩ := one_block w1 50 (cellsS S A' cap')
  have HG1 : Hid (Grow w w1) := hb1
  have HO := Lib.hid (fun w0 (h : Grow w1 w0) => Order_any A cap w1.heap.size le w0 (hen.below h) hll h.size)
  have HF := Lib.hid (fun w0 (h : Grow w1 w0) => Find_any A A' cap cap' w1.heap.size le S w0 (hen.below h) hll (hin.below h) hml h.size)
  have HA := Lib.hid (fun w0 (h : Grow w1 w0) => Ask_any A A' cap cap' w1.heap.size le S w0 (hen.below h) hll (hin.below h) hml h.size)
  have HT := Lib.hid (fun w0 (h : Grow w1 w0) => Twins_any A cap w1.heap.size le w0 (hen.below h) hll h.size)
  have HD := Lib.hid hd
  have HFX := Lib.hid hfx
  have HAX := Lib.hid hax
  have HFE := Lib.hid hfe
  have HGW := Lib.hid hg
  have HFB := Lib.hid hf
  have HW := Lib.hid hW
  clear hen hin hb1 hd hfx hax hfe hg hf hW hml hll HEX
  go_wp2_with fail
  rw [HW.out]
  refine (HO.out _ HGW.out).mono ?_
  rintro e w2 ⟨hb2, A2, c2, r2, rfl, hi2, -, ho2⟩
  rw [show le.map (fun x => x.d) = exD from HD.out] at ho2 ⊢
  obtain rfl := ex_order (ho2 ex_err)
  rw [ex_err]
  have HG2 : Hid (Grow w1 w2) := HGW.out.trans hb2
  have HFB2 := Lib.hid (Grow.block hb2 HFB.out)
  have hcb := HFB2.out.cell
  have HI2 := Lib.hid hi2.ints
  clear hb2 hi2 ho2
  go_wp2_with fail
  refine (HF.out _ HG2.out).mono ?_
  rintro e w3 ⟨hb3, A3, c3, r3, rfl, hi3, -, ho3⟩
  rw [show le.map (fun x => x.d) = exD from HD.out] at ho3 ⊢
  obtain rfl := HFX.out _ (ho3 HFE.out)
  rw [HFE.out]
  have HG3 : Hid (Grow w1 w3) := HG2.out.trans hb3
  have HFB3 := Lib.hid (Grow.block hb3 HFB2.out)
  have hcb := HFB3.out.cell
  have HI3 := Lib.hid hi3.ints
  have HG23 : Hid (Grow w2 w3) := hb3
  clear hb3 hi3 ho3
  go_wp2_with fail
  refine (HA.out _ HG3.out).mono ?_
  rintro e w4 ⟨hb4, rfl⟩
  rw [show le.map (fun x => x.d) = exD from HD.out]
  rw [show (askR exD S).2.1 = 2 from congrArg Prod.fst HAX.out, show (askR exD S).2.2 = 0 from congrArg Prod.snd HAX.out]
  generalize (askR exD S).1 = part
  have HG4 : Hid (Grow w1 w4) := HG3.out.trans hb4
  have HG34 : Hid (Grow w3 w4) := hb4
  clear hb4
  go_wp2_with fail
  refine (HT.out _ HG4.out).mono ?_
  rintro e w5 ⟨hb5, A5, c5, r5, rfl, hi5, -, ho5⟩
  rw [show le.map (fun x => x.d) = exD from HD.out] at ho5 ⊢
  obtain rfl := ex_twins (ho5 ex_err)
  rw [ex_err]
  have HG45 : Hid (Grow w4 w5) := hb5
  obtain ⟨g5, cap5, hA5⟩ := ownsRow_succ (k := 0) hi5
  injection hA5 with e1 e2 e3
  subst e1
  have h50 := hi5.cells (g := g5) rfl 0 (.int .i64 10) rfl
  have h51 := hi5.cells (g := g5) rfl 1 (.int .i64 20) rfl
  have HG5 : Hid (Grow w1 w5) := HG4.out.trans hb5
  have H50 : Hid (w5.cell? ⟨g5, 0, none⟩ = some (.int .i64 10)) := Lib.hid (by simpa [Addr.add] using h50)
  have H51 : Hid (w5.cell? ⟨g5, 1, none⟩ = some (.int .i64 20)) := Lib.hid (by simpa [Addr.add] using h51)
  clear hb5 hi5 ho5 e2 e3 h50 h51
  go_wp2_with fail
  obtain ⟨W6, hW6, hg6, hf6, hsz6⟩ := one_block w5 3 #[.int .i64 1, .int .i64 2, .int .i64 3, .int .i64 4]
  rw [hW6]
  refine (sameInts_any A2 (some ⟨w5.heap.size, 0, none⟩) c2 4 w2.heap.size W6.heap.size [1, 2, 3, 4] [1, 2, 3, 4] W6 (HI2.out.below (((HG23.out.trans HG34.out).trans HG45.out).trans hg6)) (ints_block (xs := [1, 2, 3, 4]) hf6) (by simp) (by simp)).mono ?_
  rintro e w7 ⟨rfl, n7, hw7⟩
  rw [show decide (([1, 2, 3, 4] : List Int) = [1, 2, 3, 4]) = true by decide]
  have HG7 : Hid (Grow w5 w7) := hg6.trans (by rw [hw7]; exact Below.drewN_ (Below.refl _ _) _)
  clear hW6 hg6 hf6 hsz6 hw7
  go_wp2_with fail
  obtain ⟨W8, hW8, hg8, hf8, hsz8⟩ := one_block w7 3 #[.int .i64 10, .int .i64 20]
  rw [hW8]
  refine (sameInts_any A3 (some ⟨w7.heap.size, 0, none⟩) c3 2 w3.heap.size W8.heap.size [10, 20] [10, 20] W8 (HI3.out.below (((HG34.out.trans HG45.out).trans HG7.out).trans hg8)) (ints_block (xs := [10, 20]) hf8) (by simp) (by simp)).mono ?_
  rintro e w9 ⟨rfl, n9, hw9⟩
  rw [show decide (([10, 20] : List Int) = [10, 20]) = true by decide]
  have HG9 : Hid (Grow w5 w9) := HG7.out.trans (hg8.trans (by rw [hw9]; exact Below.drewN_ (Below.refl _ _) _))
  have h50 := HG9.out.cell H50.out
  have h51 := HG9.out.cell H51.out
  have heqP := HEQ.out
  clear hW8 hg8 hf8 hsz8 hw9
  go_wp2
  go_ret
  exact ⟨rfl, (HG1.out.trans HG5.out).trans HG9.out⟩

end Go.Proofs.YtfpmkolaiomabaaGreat

