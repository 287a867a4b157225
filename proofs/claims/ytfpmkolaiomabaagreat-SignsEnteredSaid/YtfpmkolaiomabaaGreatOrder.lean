/- maps.Values at a book: its iterator yields each entry once. slices.AppendSeq, Collect and SortedFunc at entries. slices.SortedFunc of maps.Values of a book. Order: the program's. -/
import Derived.RangeFuncBox
import Derived.RangeFuncLeaves
import Derived.Shelf.Abstract
import Derived.WalkKit
import Derived.OwnWalkIn
import Derived.TacticsInMore
import Derived.LoopNIn
import Derived.LoopIn
import Derived.Maps.AppendAt
import Derived.Test.YtfpmkolaiomabaaGreatFind
import Derived.RangeFuncNested
import Derived.RangeFuncBound
import Derived.RangeFuncCalls
import Derived.Test.YtfpmkolaiomabaaGreatSortK
import Derived.Test.YtfpmkolaiomabaaGreatMem
import Derived.Test.YtfpmkolaiomabaaGreatEntry
namespace Go.Proofs.YtfpmkolaiomabaaGreat
open Go.RowKit Go.Shelf
open Go.ChangeMaps (setBlock)
attribute [local go_sem] Oper.semAt_some

/-- ss are the entries at the places that were handed out -/
def Taken (bk : List EntryR) (seen : Array Nat) (ss : List EntryR) : Prop := seen.toList.Nodup ∧ ss.length = seen.size ∧ ∀ i k : Nat, seen[i]? = some k → bk[k]? = ss[i]? ∧ k < bk.length
theorem Taken.start (bk : List EntryR) : Taken bk #[] [] := ⟨by simp, by simp, by simp⟩
theorem Taken.push {bk : List EntryR} {seen : Array Nat} {ss : List EntryR} (h : Taken bk seen ss) {k : Nat} {x : EntryR} (hx : bk[k]? = some x) (hk : k ∉ seen) : Taken bk (seen.push k) (ss ++ [x]) := by
  obtain ⟨h1, h2, h3⟩ := h
  refine ⟨?_, by simp [h2], fun i j hj => ?_⟩
  · rw [Array.toList_push, List.nodup_append]
    refine ⟨h1, by simp, fun a ha b hb => ?_⟩
    have : b = k := by simpa using hb
    subst this
    rintro rfl
    exact hk (by simpa using ha)
  · rw [Array.getElem?_push] at hj
    by_cases hi : i = seen.size
    · rw [if_pos hi] at hj
      obtain rfl := Option.some.inj hj
      subst hi
      exact ⟨by rw [hx, ← h2]; simp, lt_of_at hx⟩
    · rw [if_neg hi] at hj
      obtain ⟨e1, e2⟩ := h3 i j hj
      have : i < seen.size := by
        rcases Nat.lt_or_ge i seen.size with h | h
        · exact h
        · rw [Array.getElem?_eq_none h] at hj; cases hj
      exact ⟨by rw [e1, List.getElem?_append_left (by omega)], e2⟩
theorem Taken.length_le {bk : List EntryR} {seen : Array Nat} {ss : List EntryR} (h : Taken bk seen ss) : ss.length ≤ bk.length := by
  obtain ⟨h1, h2, h3⟩ := h
  have : seen.toList.length ≤ (List.range bk.length).length := by
    refine List.Nodup.length_le_of_subset h1 fun k hk => ?_
    obtain ⟨i, hi⟩ := List.getElem?_of_mem hk
    exact List.mem_range.2 (h3 i k (by simpa using hi)).2
  simp at this
  omega
theorem Taken.lt {bk : List EntryR} {seen : Array Nat} {ss : List EntryR} (h : Taken bk seen ss) {k : Nat} {x : EntryR} (hx : bk[k]? = some x) (hk : k ∉ seen) : ss.length < bk.length := by
  have := (h.push hx hk).length_le
  simp at this
  omega
theorem Taken.all {bk : List EntryR} {seen : Array Nat} {ss : List EntryR} (h : Taken bk seen ss) (hall : ∀ k x, bk[k]? = some x → k ∈ seen) : ss.Perm bk := by
  obtain ⟨h1, h2, h3⟩ := h
  have hp : seen.toList.Perm (List.range bk.length) := by
    refine (List.perm_ext_iff_of_nodup h1 List.nodup_range).2 fun k => ?_
    rw [List.mem_range]
    constructor
    · intro hk
      obtain ⟨i, hi⟩ := List.getElem?_of_mem hk
      exact (h3 i k (by simpa using hi)).2
    · intro hk
      simpa using hall k bk[k] (List.getElem?_eq_getElem hk)
  have e1 : ss.map some = seen.toList.map fun k => bk[k]? := by
    refine List.ext_getElem? fun i => ?_
    rw [List.getElem?_map, List.getElem?_map]
    by_cases hi : i < seen.size
    · have hk : seen[i]? = some seen[i] := Array.getElem?_eq_getElem hi
      have hs : ss[i]? = some ss[i] := List.getElem?_eq_getElem (by omega)
      have hk' : seen.toList[i]? = some seen[i] := by rw [Array.getElem?_toList]; exact hk
      rw [hk', hs, Option.map_some, Option.map_some, (h3 i _ hk).1, hs]
    · rw [List.getElem?_eq_none (by omega), List.getElem?_eq_none (by simp; omega)]
      rfl
  have e2 : bk.map some = (List.range bk.length).map fun k => bk[k]? := by
    refine List.ext_getElem? fun i => ?_
    rw [List.getElem?_map, List.getElem?_map]
    by_cases hi : i < bk.length
    · rw [List.getElem?_eq_getElem hi, List.getElem?_range hi, Option.map_some, Option.map_some, List.getElem?_eq_getElem hi]
    · rw [List.getElem?_eq_none (by omega), List.getElem?_eq_none (by simp; omega)]
      rfl
  have h4 : (ss.map some).Perm (bk.map some) := by rw [e1, e2]; exact hp.map _
  have := h4.filterMap id
  simpa [List.filterMap_map] using this

theorem step_grown {w w1 : World} {r : Nat} {o : Obj} (hw : w1 = w ∨ w1 = w.drew) : w.grownBy (setBlock w1 r o) (some r) := by
  rcases hw with rfl | rfl
  · exact setBlock_grown _ _ _
  · have := setBlock_grown w r o
    exact ⟨this.os, this.tape, this.output, this.size, this.block⟩

set_option maxHeartbeats 400000 in
theorem values_any (F : Fence) (n : Nat) (h : F.fn 61) (hro : F.round = none) (m : Nat) (w : World) :
    CallsIn F n Tryz.prog 61 #[.map (some m)] w fun e w' =>
      e = .returned (.func (.func 93) #[] #[.pointer (some ⟨w.heap.size, 0, none⟩)]) ∧ w' = w.alloc (.cells #[.map (some m)] 82) := by
  refine callsIn_of_wp Tryz.func61 rfl h ?_ hro
  simp only [Tryz.ntmps61, List.size_toArray, List.length_cons, List.length_nil, Nat.reduceAdd, Nat.reduceSub, Array.replicate_succ, Array.replicate_zero, List.push_toArray, List.append_toArray, List.nil_append, List.cons_append]
  gi_wp2
  go_ret
  exact ⟨rfl, rfl⟩

set_option maxRecDepth 100000 in
set_option maxHeartbeats 2000000 in
theorem values1_in (F : Fence) (n : Nat) (h : F.fn 93) (hro : F.round = none) (hn : 1 ≤ n) (l Bm m : Nat) (bk : List EntryR) (J Jx : List EntryR → World → Prop)
    (hY : ∀ pre x W, J pre W → pre.length < bk.length → YieldAt F (n - 1) Tryz.prog l #[entryV x] W fun e W' =>
      (e = .returned (.bool true) ∧ J (pre ++ [x]) W' ∧ KeepsWalks W W') ∨ (e = .returned (.bool false) ∧ Jx (pre ++ [x]) W'))
    (W : World) (hJ : AbidesFrom W.heap.size J) (hm : W.cell? ⟨Bm, 0, none⟩ = some (.map (some m))) (hb : BookAt W m bk) (h0 : J [] W) :
    CallsIn F n Tryz.prog 93 #[.func (.yield l) #[] #[], .pointer (some ⟨Bm, 0, none⟩)] W fun e W' => (∃ v, e = .returned v) ∧
      ((∃ ss, List.Perm ss bk ∧ J ss W') ∨ (∃ pre, True ∧ Jx pre W')) := by
  have hrg := range_book hb
  refine callsIn_of_wp Tryz.func93 rfl h ?_ hro
  simp only [Tryz.ntmps93, List.size_toArray, List.length_cons, List.length_nil, Nat.reduceAdd, Nat.reduceSub, Array.replicate_succ, Array.replicate_zero, List.push_toArray, List.append_toArray, List.nil_append, List.cons_append]
  gi_wp2
  gi_loopw [4] (fun _ wr => ∃ (seen : Array Nat) (ss : List EntryR), IterAt wr W.heap.size m bk.length seen ∧ BookAt wr m bk ∧ Taken bk seen ss ∧ J ss wr)
    (fun _ wr => (leftOf (entsM bk) (wr.iterSeen W.heap.size)).size)
  case atStart =>
    exact ⟨#[], [], IterAt.new W m bk.length, hb.grow (Grow.alloc _ _), Taken.start bk, hJ [] W _ none h0 (World.grownBy_alloc W _ none) (fun r e => by cases e)⟩
  case round =>
    obtain ⟨seen, ss, hit, hbk, hT, hJs⟩ := hrel
    clear hrg
    rcases next_book 0 hit hbk with ⟨hall, hn1⟩ | ⟨k, y, hy, hk, w1, hw, hn1⟩
    · have hnx : ∀ ty, (Instr.next (.pointer (some ⟨W.heap.size, 0, none⟩)) false ty).run Tryz.prog wr = _ := fun _ => hn1
      have HT := Lib.hid (hT.all hall)
      clear hit hbk hn1
      gi_wp2
      go_end0
      exact ⟨⟨_, rfl⟩, .inl ⟨ss, HT.out, hJs⟩⟩
    · have hgr := step_grown (r := W.heap.size) (o := .mapIter (some m) bk.length (seen.push k) bk.length) hw
      obtain ⟨hit2, hb2, hz2, hoth⟩ := step_book (k := k) hit hw
      have hiw : ∃ o : Obj, wr.heap[W.heap.size]? = some o ∧ o.isWalk = true := ⟨_, hit, rfl⟩
      have hJ2 := hJ ss wr _ (some W.heap.size) hJs hgr (fun r e => by cases e; exact ⟨Nat.le_refl _, hiw⟩)
      generalize setBlock w1 W.heap.size (.mapIter (some m) bk.length (seen.push k) bk.length) = w2 at hn1 hit2 hb2 hz2 hoth hgr hJ2
      have hnx : ∀ ty, (Instr.next (.pointer (some ⟨W.heap.size, 0, none⟩)) false ty).run Tryz.prog wr = _ := fun _ => hn1
      have hmr : m ≠ W.heap.size := by have := hb.lt; omega
      have hbk2 : BookAt w2 m bk := (hoth m hmr).trans hbk
      have hen := entry_book hit2 hbk2 hy
      have hJ3 := hJ ss w2 _ none hJ2 (World.grownBy_alloc w2 (.cells (cellsE y) 62) none) (fun r e => by cases e)
      have hit3 := hit2.grow (Grow.alloc w2 (.cells (cellsE y) 62))
      have hbk3 := hbk2.grow (Grow.alloc w2 (.cells (cellsE y) 62))
      obtain ⟨fn, tmps, assign, body, hyd, hR⟩ := hY ss y _ hJ3 (hT.lt hy hk)
      have HT := Lib.hid (hT.push hy hk)
      have HI := Lib.hid hit3
      have HB := Lib.hid hbk3
      have HI0 := Lib.hid hit
      have hmeas := left_book hy hk
      have HX := Lib.hid hy
      have HK := Lib.hid hk
      clear hit hbk hn1 hit2 hb2 hz2 hoth hgr hJ2 hbk2 hJ3 hit3 hbk3 hT hy hk hw hJs hiw
      gi_wp2
      refine hR.mono ?_
      rintro e W3 (⟨rfl, hJ4, hk4⟩ | ⟨rfl, hJx4⟩)
      · have hit4 : IterAt W3 W.heap.size m bk.length (seen.push k) := hk4.same _ _ HI.out rfl
        have hbk4 : BookAt W3 m bk := hk4.same _ _ HB.out rfl
        clear hen hnx hyd
        gi_wp2
        go_roundw
        case rel => exact ⟨seen.push k, ss ++ [y], hit4, hbk4, HT.out, hJ4⟩
        case measure => rw [hit4.seen, HI0.out.seen]; exact hmeas
      · clear hen hnx hyd
        gi_wp2
        refine bodyPost_ret (results_none rfl _ _ _) rfl ?_
        exact ⟨⟨_, rfl⟩, .inr ⟨ss ++ [y], trivial, hJx4⟩⟩

end Go.Proofs.YtfpmkolaiomabaaGreat

namespace Go.Proofs.YtfpmkolaiomabaaGreat
open Go.RowKit Go.Shelf
attribute [local go_sem] Oper.semAt_some

theorem Tryz.infoEntry : (Tryz.prog.info? 62).map (fun i => (i.zero, i.size, i.bytes)) = some (some (.agg zeroE), 11, 104) := by kernel_rfl
theorem KeepsOthers.walks {W W' : World} (h : KeepsOthers W W') : KeepsWalks W W' := ⟨h.size, fun k o hk ho => h.same k o hk (Obj.not_cells_of_walk ho)⟩
theorem flat_snoc (pre : List EntryR) (x : EntryR) : (pre ++ [x]).flatMap cellsL = pre.flatMap cellsL ++ cellsL x := by simp
theorem news_entry {w : World} {x : EntryR} (t : TypeId) : ∀ j u, (cellsL x)[j]? = some u → (w.alloc (.cells (cellsE x) t)).cell? ((⟨w.heap.size, 0, none⟩ : Addr).add j) = some u := fun j u hu => by
  have h1 := (BlockIs.new w t (cellsE x)).cell j
  have h2 : (cellsL x)[j]? = (cellsE x)[j]? := Array.getElem?_toList
  rw [show (⟨w.heap.size, 0, none⟩ : Addr).add j = ⟨w.heap.size, j, none⟩ by (simp [Addr.add]; omega), h1]
  exact h2.symm.trans hu
theorem one_entry (x : EntryR) : ∀ u ∈ cellsL x, u.oneCell' = true := fun v hv => by
  simp only [cellsL] at hv
  simp at hv
  rcases hv with rfl | rfl | rfl | rfl | rfl | rfl | rfl | rfl | rfl | rfl | rfl <;> rfl

/-- maps.Values of a book stops at every round that says so -/
theorem values_stops (F : Fence) (n : Nat) (h : F.fn 93) (hro : F.round = none) (hn : 1 ≤ n) (Bm m : Nat) (bk : List EntryR) (w : World) (hB : Bm < w.heap.size) (hm : w.cell? ⟨Bm, 0, none⟩ = some (.map (some m))) (hb : BookAt w m bk) :
    SeqStopsK F n Tryz.prog 93 #[.pointer (some ⟨Bm, 0, none⟩)] (fun x : EntryR => #[entryV x]) KeepsWalks (fun ss => List.Perm ss bk) (fun _ => True) bk.length w := fun l J Jx W hW hJ _ hY h0 =>
  values1_in F n h hro hn l Bm m bk J Jx hY W hJ ((hW.cell (p := ⟨Bm, 0, none⟩) hB).trans hm) (hb.grow hW) h0

set_option maxRecDepth 100000 in
set_option maxHeartbeats 2000000 in
theorem appendSeq_in (F : Fence) (n : Nat) (h : F.fn 108) (hro : F.round = none) (hn : 3 ≤ n) (g : Nat) (lb : Array Value) (hFg : F.fn g) (eg : ∀ args w, (callFunc g args).run Tryz.prog w = .ok (.enter g args) w)
    (S Sp : List EntryR → Prop) (N : Nat) (hN : N ≤ 1000000) (w : World) (hseq : ∀ w0, Below w.heap.size w w0 → SeqStopsK F (n - 1) Tryz.prog g lb (fun x : EntryR => #[entryV x]) KeepsWalks S Sp N w0) :
    CallsIn F n Tryz.prog 108 #[.slice none 0 0, .func (.func g) #[] lb] w fun e w' => ∃ v ss, e = .returned v ∧ S ss ∧
      w'.ownsRow w.heap.size 62 11 v ss.length (ss.flatMap cellsL) ∧ Below w.heap.size w w' := by
  have h1 : 1 ≤ n := by omega
  obtain ⟨i0, hi, hz0, hz1, hz2⟩ := info_parts Tryz.infoEntry
  refine callsIn_of_wp_marks Tryz.func108 rfl h ?_ hro
  simp only [Tryz.ntmps108, List.size_toArray, List.length_cons, List.length_nil, Nat.reduceAdd, Nat.reduceSub, Array.replicate_succ, Array.replicate_zero, List.push_toArray, List.append_toArray, List.nil_append, List.cons_append]
  gi_wp2
  have bS := Boxed.new w 33 (.slice none 0 0)
  have hB0 : Below w.heap.size w (w.alloc (.cells #[.slice none 0 0] 33)) := (Below.refl _ w).alloc (Nat.le_refl _) _
  have hsz : (w.alloc (.cells #[.slice none 0 0] 33)).heap.size = w.heap.size + 1 := by simp
  obtain ⟨W0, hW0⟩ : ∃ W0, w.alloc (.cells #[.slice none 0 0] 33) = W0 := ⟨_, rfl⟩
  rw [hW0] at bS hB0 hsz ⊢
  clear hW0
  refine wpIn_rangeFunc_ownH hro h1 (gf := g) (lb := lb) rfl hFg eg (hseq W0 hB0) walksK_t walksK_b (Below.refl _ _) (fun _ => rfl)
    (fun pre W => (∃ v, Boxed W w.heap.size 33 v ∧ W.ownsRow w.heap.size 62 11 v pre.length (pre.flatMap cellsL) ∧ True) ∧ Below w.heap.size w W)
    (fun _ _ _ => False)
    (OwnFrom.and (Own.from (holdsRow_own w.heap.size w.heap.size 33 62 11 (fun pre : List EntryR => pre.length) (fun pre => pre.flatMap cellsL) (fun _ _ => True)) _) (ownFrom_below (Nat.le_refl _) (by omega)))
    (fun _ _ _ _ _ hs _ _ => hs)
    ⟨⟨_, bS, World.ownsRow_nil _ _ _ _, trivial⟩, hB0⟩
    (fun x a' W => ∃ Bx, w.heap.size < Bx ∧ BlockIs W Bx 62 (cellsE x) ∧ a' = { tmps := #[.slice none 0 0, .func (.func g) #[] lb, .pointer (some ⟨w.heap.size, 0, none⟩), undef, .slice none 0 0, .pointer (some ⟨Bx, 0, none⟩), .func (.func g) #[] lb, entryV x, undef, undef, undef, undef, undef], defers := [] })
    (fun x a' _ X Y row hs hg hr => by
      obtain ⟨Bx, h1, h2, h3⟩ := hs
      refine ⟨Bx, h1, h2.grown hg (fun e => ?_), h3⟩
      obtain ⟨_, o, ho, hc⟩ := hr Bx e.symm
      rw [show X.heap[Bx]? = _ from h2] at ho; cases ho; cases hc)
    ?assign ?body ?done ?stop
  case assign =>
    rintro l pre x W K ⟨⟨v, bS1, hr1, -⟩, hB1⟩ hK
    gi_wp2
    exact hK _ _ ((KeepsOthers.alloc _ _).from _) (KeepsOthers.alloc _ _).walks ⟨⟨v, bS1.alloc _, hr1.alloc _, trivial⟩, hB1.alloc hB1.size _⟩ ⟨W.heap.size, bS1.lt, BlockIs.new W _ _, rfl⟩
  case body =>
    rintro l pre x a' W hl - ⟨⟨v, bS1, hrow, -⟩, hB1⟩ ⟨Bx, hBx, bX, rfl⟩ hlt
    have hc := bS1.cell
    have hx := bX.cell
    gi_wp2_with (gi_at_builtin; refine wpListIn_append_own _ rfl _ _ 33 rfl w.heap.size 62 i0 (.agg zeroE) 11 104 Tryz.underlying33 hi hz0 hz1 hz2 rfl (by decide) _ _ _ rfl (hrow.alloc _) ⟨W.heap.size, 0, none⟩ 1 1 (cellsL x) rfl rfl (news_entry 62) (one_entry x) (by unfold maxLen; omega) (by omega) (by have := hB1.size; simp; omega) ?_; intro v' w1 hown' hgrow _; obtain ⟨g', cap', rfl⟩ := ownsRow_succ hown'; obtain ⟨hv1, hv2, hr2, hk2, hb2⟩ := bS1.appended (by decide) hrow hB1.size (Nat.le_refl _) hown' hgrow; have hc1 := hv1.cell; have hf1 := hv1.frozen)
    exact ⟨hk2.from _, hk2.walks, ⟨_, hv2, by rw [flat_snoc]; simpa using hr2, trivial⟩, hB1.trans hb2⟩
  case done =>
    rintro D ss W hD hS ⟨⟨v, hv, hrow, -⟩, hB⟩ hK
    have hc := hv.cell
    gi_wp2
    refine ⟨by simp, .inl ⟨_, _, rfl, run_takeDeferred hK, ?_⟩⟩
    exact ⟨_, results_tmp rfl _ _ _, v, ss, rfl, hS, ownsRow_putObj hrow _ hK rfl, hB.trans (belowK_b (w := w) (Nat.le_refl _) W D _ _ (by omega) hK rfl rfl)⟩
  case stop =>
    rintro D c pre W _ _ h _
    exact h.elim

end Go.Proofs.YtfpmkolaiomabaaGreat

namespace Go.Proofs.YtfpmkolaiomabaaGreat
open Go.RowKit Go.Shelf

theorem valuesW_any (m : Nat) (w : World) : Calls Tryz.prog 61 #[.map (some m)] w fun e w' =>
    e = .returned (.func (.func 93) #[] #[.pointer (some ⟨w.heap.size, 0, none⟩)]) ∧ w' = w.alloc (.cells #[.map (some m)] 82) :=
  (callsIn_wide (n := 5)).1 (values_any Fence.wide 5 trivial rfl m w)

set_option maxRecDepth 100000 in
set_option maxHeartbeats 1000000 in
theorem collect_any (Bm m : Nat) (bk : List EntryR) (w : World) (hB : Bm < w.heap.size) (hm : w.cell? ⟨Bm, 0, none⟩ = some (.map (some m))) (hb : BookAt w m bk) (hl : bk.length ≤ 1000000) :
    Calls Tryz.prog 91 #[.func (.func 93) #[] #[.pointer (some ⟨Bm, 0, none⟩)]] w fun e w' =>
      ∃ v ss, e = .returned v ∧ List.Perm ss bk ∧ w'.ownsRow w.heap.size 62 11 v ss.length (ss.flatMap cellsL) ∧ Below w.heap.size w w' := by
  have HA := Lib.hid ((callsIn_wide (n := 5)).1 (appendSeq_in Fence.wide 5 trivial rfl (by omega) 93 #[.pointer (some ⟨Bm, 0, none⟩)] trivial (enters_of Tryz.func93 (by kernel_rfl) rfl)
    (fun ss => List.Perm ss bk) (fun _ => True) bk.length hl w (fun w0 h0 => values_stops Fence.wide 4 trivial rfl (by omega) Bm m bk w0 (by have := h0.size; omega) ((h0.cell (p := ⟨Bm, 0, none⟩) hB).trans hm) (hb.grow h0))))
  clear hb hm
  go_enter Tryz.func91, Tryz.ntmps91
  go_wp2_with fail
  refine HA.out.mono ?_
  rintro e w' ⟨v, ss, rfl, hp, ho, hb⟩
  have HR := Lib.hid (And.intro hp (And.intro ho hb))
  clear hp ho hb
  go_wp2
  go_ret
  exact ⟨v, ss, rfl, HR.out⟩

/-- what a sorted walk through a book leaves -/
def SortedPost (cf : EntryD → EntryD → Int) (bk : List EntryR) (w : World) (e : Ending) (w' : World) : Prop :=
  ∃ A n cap ys, e = .returned (.slice A n cap) ∧ List.Perm ys bk ∧ ys.Pairwise (fun x y => cf x.d y.d ≤ 0) ∧ w'.ownsRow w.heap.size 62 11 (.slice A n cap) n (List.flatMap cellsL ys) ∧ Below w.heap.size w w'

set_option maxRecDepth 100000 in
set_option maxHeartbeats 1000000 in
theorem sortedFunc_any (Bm m : Nat) (bk : List EntryR) (w : World) (hB : Bm < w.heap.size) (hm : w.cell? ⟨Bm, 0, none⟩ = some (.map (some m))) (hb : BookAt w m bk) (hmv : MovesAll w bk) (hl : bk.length ≤ 1000000)
    (cf : EntryD → EntryD → Int) (hO : Cmp cf) (f : Nat) (ef : ∀ args w, (callFunc f args).run Tryz.prog w = .ok (.enter f args) w)
    (hf : ∀ (x y : EntryR) (w : World), MovesAt w w.heap.size x → MovesAt w w.heap.size y → x.d.form.moves.length ≤ 6 → y.d.form.moves.length ≤ 6 → Calls Tryz.prog f #[entryV x, entryV y] w fun e w' => e = .returned (.int .i64 (cf x.d y.d)) ∧ Grew w w') :
    Calls Tryz.prog 60 #[.func (.func 93) #[] #[.pointer (some ⟨Bm, 0, none⟩)], .func (.func f) #[] #[]] w (SortedPost cf bk w) := by
  have HC := Lib.hid (collect_any Bm m bk w hB hm hb hl)
  have HM := Lib.hid hmv
  have HF := Lib.hid hf
  have HE := Lib.hid ef
  have HO := Lib.hid hO
  clear hb hm hmv hf ef hO
  go_enter Tryz.func60, Tryz.ntmps60
  go_wp2_with fail
  refine HC.out.mono ?_
  rintro e w1 ⟨v, ss, rfl, hp, ho, hb⟩
  obtain ⟨A, cap, rfl⟩ := own_form ho
  have hsl : ss.length ≤ 1000000 := by rw [hp.length_eq]; exact hl
  have HS := Lib.hid (sortE_any ho hsl (fun x hx => ⟨((HM.out x (hp.mem_iff.1 hx)).1.below hb), (HM.out x (hp.mem_iff.1 hx)).2⟩) cf HO.out f HE.out HF.out)
  have HP := Lib.hid hp
  have HB := Lib.hid hb
  have HOW := Lib.hid ho
  clear hp ho hb
  go_wp2_with fail
  refine HS.out.mono ?_
  rintro e w2 ⟨rfl, ys, hyp, hys, hyo, hyg⟩
  have hb2 : Below w.heap.size w w2 := HB.out.grown hyg HB.out.size (fun q hq => own_ge HOW.out q hq)
  have HR := Lib.hid (And.intro (hyp.trans HP.out) (And.intro hys (And.intro hyo hb2)))
  clear hyp hys hyo hyg hb2
  go_wp2
  go_ret
  exact ⟨A, ss.length, cap, ys, rfl, HR.out⟩

end Go.Proofs.YtfpmkolaiomabaaGreat

namespace Go.Proofs.YtfpmkolaiomabaaGreat
open Go.RowKit Go.Shelf

theorem own_ents {w : World} {base n cap : Nat} {t : TypeId} {A : Option Addr} {ys : List EntryR} (h : w.ownsRow base t 11 (.slice A n cap) n (ys.flatMap cellsL)) (hm : ∀ y ∈ ys, MovesAt w w.heap.size y) : Ents w w.heap.size A ys ∧ n = ys.length := by
  have hl : n = ys.length := by
    have := h.1
    rw [flat_length (k := 11) (fun _ => rfl)] at this
    omega
  refine ⟨⟨?_, hm⟩, hl⟩
  rcases h.2 with ⟨h0, h2⟩ | ⟨g, c, cur, hv, hg, hh, h2, h3, h4, h5⟩
  · exact .inl (List.eq_nil_of_length_eq_zero (by omega))
  · injection hv with e1 e2 e3
    subst e1 e3
    refine .inr ⟨g, 0, rfl, (Array.getElem?_eq_some_iff.1 hh).1, fun i x hi j hj => ?_⟩
    have hf := flat_get (enc := cellsL) (k := 11) (fun _ => rfl) ys i j hj
    rw [hi, Option.bind_some] at hf
    have hjl : j < (cellsL x).length := hj
    have hc := h.cells (g := g) rfl (i * 11 + j) ((cellsL x)[j]) (by rw [hf]; exact List.getElem?_eq_getElem hjl)
    rw [show (⟨g, 0, none⟩ : Addr).add (i * 11 + j) = ⟨g, 0 + i * 11 + j, none⟩ by (simp [Addr.add]; omega)] at hc
    rw [hc, ← List.getElem?_eq_getElem hjl]
    exact Array.getElem?_toList

/-- r are the Ids of the book of l, in the order of the dictionary -/
def OrderD (l : List EntryD) (r : List Int) : Prop := ∃ ys : List EntryD, ys.Pairwise (fun x y => cmpE x y ≤ 0) ∧ IsBookOf l ys ∧ r = ys.map EntryD.id
theorem IsBookOf.perm {l a b : List EntryD} (h : IsBookOf l a) (hp : b.Perm a) : IsBookOf l b :=
  ⟨fun y => (hp.mem_iff).trans (h.mem y), (hp.map EntryD.id).nodup_iff.2 h.once⟩
theorem book_strict {l ys : List EntryD} {c : EntryD → EntryD → Int} (hc : ∀ x y, c x y = 0 → x.id = y.id) (hb : IsBookOf l ys) (hs : ys.Pairwise (fun x y => c x y ≤ 0)) : ys.Pairwise (fun x y => c x y < 0) := by
  have ho := hb.once
  unfold Once at ho
  rw [List.Nodup, List.pairwise_map] at ho
  refine (hs.and ho).imp fun ⟨h1, h2⟩ => ?_
  have : c _ _ ≠ 0 := fun e => h2 (hc _ _ e)
  omega
theorem book_unique {l a b : List EntryD} {c : EntryD → EntryD → Int} (h : Cmp c) (hc : ∀ x y, c x y = 0 → x.id = y.id) (ha : IsBookOf l a) (hb : IsBookOf l b) (hsa : a.Pairwise (fun x y => c x y ≤ 0)) (hsb : b.Pairwise (fun x y => c x y ≤ 0)) : a = b :=
  sorted_unique h (book_strict hc ha hsa) (book_strict hc hb hsb) fun x => (ha.mem x).trans (hb.mem x).symm
theorem OrderD.unique {l : List EntryD} {a b : List Int} (ha : OrderD l a) (hb : OrderD l b) : a = b := by
  obtain ⟨x, hx, hbx, rfl⟩ := ha
  obtain ⟨y, hy, hby, rfl⟩ := hb
  rw [book_unique cmp_cmpE (fun _ _ => cmpE_eq0) hbx hby hx hy]
def OrderPost (l : List EntryD) (w : World) (e : Ending) (w' : World) : Prop :=
  Below w.heap.size w w' ∧ ∃ A cap r, e = .returned (.tuple #[.slice A (List.length r) cap, .int .i64 (bookErr l)]) ∧ IntsF w' w.heap.size A r ∧ (bookErr l ≠ 0 → A = none ∧ r = []) ∧ (bookErr l = 0 → OrderD l r)

set_option maxRecDepth 100000 in
set_option maxHeartbeats 4000000 in
theorem Order_any (A : Option Addr) (cap B : Nat) (l : List EntryR) (w : World) (hA : Ents w B A l) (hl : l.length ≤ 1000000) (hB : B ≤ w.heap.size) :
    Calls Tryz.prog 25 #[.slice A l.length cap] w (OrderPost (l.map (·.d)) w) := by
  obtain ⟨i0, hi, hz0, hz1, hz2⟩ := info_parts Tryz.infoInt
  have HR := Lib.hid (read_any A cap B l w hA hl hB)
  clear hA
  go_enter Tryz.func25, Tryz.ntmps25
  go_wp2_with fail
  refine HR.out.mono ?_
  rintro e w1 ⟨hb1, hcase⟩
  have HG1 : Hid (Grow w w1) := hb1
  clear hb1
  rcases hcase with ⟨hne, rfl⟩ | ⟨heq, m, bk, rfl, hm, hbk, hmv, hfar, hrd⟩
  · have HNE : Hid (bookErr (l.map (·.d)) ≠ 0) := hne
    generalize hbe : bookErr (l.map (·.d)) = be at hne
    have HBE := Lib.hid hbe
    clear hbe
    go_wp2
    go_ret2
    exact ⟨HG1.out, none, 0, [], by rw [HBE.out]; rfl, .inl rfl, fun _ => ⟨rfl, rfl⟩, fun h => absurd h HNE.out⟩
  · have hbo := readD_book hrd
    have hlen : bk.length ≤ 1000000 := by have := hbo.length; simp at this; omega
    have HE := Lib.hid heq
    have HBO := Lib.hid hbo
    have HBK := Lib.hid hbk
    have HMV := Lib.hid hmv
    clear heq hm hbk hmv hfar hrd hbo
    go_wp2_with fail
    refine (valuesW_any m w1).mono ?_
    rintro e w2 ⟨rfl, hw2⟩
    have hg2 : Grow w1 w2 := by rw [hw2]; exact Grow.alloc _ _
    have hc2 : w2.cell? ⟨w1.heap.size, 0, none⟩ = some (.map (some m)) := by rw [hw2]; simp
    have hz2' : w1.heap.size < w2.heap.size := by rw [hw2]; simp
    clear hw2
    have HS := Lib.hid (sortedFunc_any w1.heap.size m bk w2 hz2' hc2 (HBK.out.grow hg2) (HMV.out.grow hg2) hlen cmpE cmp_cmpE 57 (enters_of Tryz.func57 (by kernel_rfl) rfl) (fun x y w h1 h2 h3 h4 => order1_any x y w h1 h2 h3 h4))
    have HG2 := Lib.hid (HG1.out.trans hg2)
    have HM2 := Lib.hid (HMV.out.grow hg2)
    clear hg2 hc2 hz2'
    go_wp2_with fail
    refine HS.out.mono ?_
    rintro e w3 ⟨A3, n3, cap3, ys, rfl, hp, hs, ho, hb3⟩
    obtain ⟨hen, rfl⟩ := own_ents ho (fun y hy => ((HM2.out.grow hb3) y (hp.mem_iff.1 hy)).1)
    have hyl : ys.length ≤ 1000000 := by rw [hp.length_eq]; exact hlen
    have hg3 : Grow w w3 := HG2.out.trans hb3
    have HG3 := Lib.hid hg3
    have HEN := Lib.hid hen
    have HOD : Hid (OrderD (l.map (·.d)) (ys.map fun y => y.d.id)) := ⟨ys.map (·.d), by rw [List.pairwise_map]; exact hs, HBO.out.perm (hp.map _), by rw [List.map_map]; rfl⟩
    clear hp hs ho hb3 hen hg3 hlen
    go_wp2
    obtain ⟨W, hW⟩ : ∃ W : World, W = w3 := ⟨_, rfl⟩
    rw [← hW]
    rw [← hW] at HG3 HEN
    clear hW
    go_loopw [7, 23] (fun v i wr => ∃ (k : Nat) (A' : Option Addr) (cap' : Nat), k ≤ ys.length ∧ i = .int .i64 k ∧ v = .slice A' k cap' ∧ wr.ownsRow W.heap.size 3 1 (.slice A' k cap') k (((ys.map fun y => y.d.id).take k).map (Value.int .i64)) ∧ Below W.heap.size W wr) (fun _ i _ => ys.length - (intOf i).toNat)
    case atStart => exact ⟨0, none, 0, Nat.zero_le _, rfl, rfl, by simp [World.ownsRow], Below.refl _ _⟩
    case round =>
      obtain ⟨k, A', cap', hk, rfl, rfl, hown, hbw⟩ := hrel
      by_cases hlt : k < ys.length
      · obtain ⟨b, off, x, rfl, hb, hc, hm, HX⟩ := (HEN.out.below hbw).at_ hlt
        have e0 := hc 0 (by omega); have e1 := hc 1 (by omega); have e2 := hc 2 (by omega); have e3 := hc 3 (by omega); have e4 := hc 4 (by omega); have e5 := hc 5 (by omega)
        have e6 := hc 6 (by omega); have e7 := hc 7 (by omega); have e8 := hc 8 (by omega); have e9 := hc 9 (by omega); have e10 := hc 10 (by omega)
        rw [Nat.add_zero] at e0
        have HOWN := Lib.hid hown
        have HBW := Lib.hid hbw
        clear hc hm hown hbw hb
        go_upto_region 9 with fail
        obtain ⟨W2, hW2, hg2, hx2, hsz2⟩ := one_block wr 62 (cellsE x)
        rw [hW2]
        clear hW2 e0 e1 e2 e3 e4 e5 e6 e7 e8 e9 e10
        have hown2 := own_grow HOWN.out hg2
        have hxc := hx2.cell
        have hbw2 : Below W.heap.size W W2 := HBW.out.trans (Below.mono (show Below wr.heap.size wr W2 from hg2) HBW.out.size)
        have HBW2 := Lib.hid hbw2
        have hwz : W.heap.size ≤ W2.heap.size := hbw2.size
        clear hg2 hx2 hbw2
        go_wp2_with (at_builtin; refine wpList_append_own _ rfl _ _ 22 rfl W.heap.size 3 i0 (.int .i64 0) 1 8 Tryz.underlying22 hi hz0 hz1 hz2 rfl (by decide) _ _ _ rfl (hown2.alloc _) ⟨W2.heap.size, 0, none⟩ 1 1 [.int .i64 x.d.id] rfl rfl ?c1 ?c2 ?c3 ?c4 ?c5 ?_)
        case c1 => exact cell_one_new _ _ _
        case c2 => simp [Value.oneCell']
        case c3 => unfold maxLen; omega
        case c4 => omega
        case c5 => simp; omega
        intro v' w5 hown5 hgrow _
        obtain ⟨A2, cap2, rfl⟩ := own_form hown5
        have hb5 : Below W.heap.size W w5 := (HBW2.out.alloc (by omega) _).grown hgrow (by simp; omega) (fun q hq => own_ge hown2 q hq)
        have HO5 : Hid (w5.ownsRow W.heap.size 3 1 (.slice A2 (k + 1) cap2) (k + 1) (((ys.map fun y => y.d.id).take (k + 1)).map (Value.int .i64))) := by
          refine Lib.hid ?_
          have hx : (ys.map fun y => y.d.id)[k]? = some x.d.id := by rw [List.getElem?_map, HX.out]; rfl
          rw [take_snoc hx, List.map_append]
          simpa [List.map_take] using hown5
        have HB5 := Lib.hid hb5
        clear hown5 hgrow hb5 hown2 hxc
        go_wp2
        go_roundw
        case rel => exact ⟨k + 1, A2, cap2, by omega, by go_num, by simp, HO5.out, HB5.out⟩
        case measure => simp [intOf]; omega
      · obtain rfl : k = ys.length := by omega
        have HO := Lib.hid hown
        have HB := Lib.hid hbw
        clear hown hbw
        go_wp2
        go_ret2
        have ho := HO.out
        rw [List.take_of_length_le (by simp)] at ho
        refine ⟨HG3.out.trans HB.out, A', cap', ys.map fun y => y.d.id, by rw [HE.out]; simp, (own_intsF ho).mono HG3.out.size, fun h => absurd HE.out h, fun _ => HOD.out⟩

end Go.Proofs.YtfpmkolaiomabaaGreat

