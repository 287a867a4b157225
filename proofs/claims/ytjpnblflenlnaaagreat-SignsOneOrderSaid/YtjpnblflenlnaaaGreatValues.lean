/- maps.Values at a book: its iterator yields each entry once. -/
import Derived.RangeFuncBox
import Derived.RangeFuncLeaves
import Derived.Shelf.Abstract
import Derived.WalkKit
import Derived.OwnWalkIn
import Derived.TacticsInMore
import Derived.LoopNIn
import Derived.LoopIn
import Derived.Maps.AppendAt
import Derived.Test.YtjpnblflenlnaaaGreatSigns
namespace Go.Proofs.YtjpnblflenlnaaaGreat
open Go.RowKit Go.Shelf
open Go.ChangeMaps (setBlock)
attribute [local go_sem] Oper.semAt_some

/-- ss are the entries at the places that were handed out -/
def Taken (bk : List EntryR) (seen : Array Nat) (ss : List EntryR) : Prop := seen.toList.Nodup ∧ ss.length = seen.size ∧ ∀ i k : Nat, seen[i]? = some k → bk[k]? = ss[i]? ∧ k < bk.length
theorem Taken.start (bk : List EntryR) : Taken bk #[] [] := ⟨by simp, by simp, by simp⟩
theorem Taken.push {bk : List EntryR} {seen : Array Nat} {ss : List EntryR} (h : Taken bk seen ss) {k : Nat} {x : EntryR} (hx : bk[k]? = some x) (hk : k ∉ seen) : Taken bk (seen.push k) (ss ++ [x]) := by
  obtain ⟨h1, h2, h3⟩ := h
  refine ⟨?_, by simp [h2], fun i j hj => ?_⟩
  · rw [Array.toList_push, List.nodup_append]
    refine ⟨h1, by simp, fun a ha b hb => ?_⟩
    have : b = k := by simpa using hb
    subst this
    rintro rfl
    exact hk (by simpa using ha)
  · rw [Array.getElem?_push] at hj
    by_cases hi : i = seen.size
    · rw [if_pos hi] at hj
      obtain rfl := Option.some.inj hj
      subst hi
      exact ⟨by rw [hx, ← h2]; simp, lt_of_at hx⟩
    · rw [if_neg hi] at hj
      obtain ⟨e1, e2⟩ := h3 i j hj
      have : i < seen.size := by
        rcases Nat.lt_or_ge i seen.size with h | h
        · exact h
        · rw [Array.getElem?_eq_none h] at hj; cases hj
      exact ⟨by rw [e1, List.getElem?_append_left (by omega)], e2⟩
theorem Taken.length_le {bk : List EntryR} {seen : Array Nat} {ss : List EntryR} (h : Taken bk seen ss) : ss.length ≤ bk.length := by
  obtain ⟨h1, h2, h3⟩ := h
  have : seen.toList.length ≤ (List.range bk.length).length := by
    refine List.Nodup.length_le_of_subset h1 fun k hk => ?_
    obtain ⟨i, hi⟩ := List.getElem?_of_mem hk
    exact List.mem_range.2 (h3 i k (by simpa using hi)).2
  simp at this
  omega
theorem Taken.lt {bk : List EntryR} {seen : Array Nat} {ss : List EntryR} (h : Taken bk seen ss) {k : Nat} {x : EntryR} (hx : bk[k]? = some x) (hk : k ∉ seen) : ss.length < bk.length := by
  have := (h.push hx hk).length_le
  simp at this
  omega
theorem Taken.all {bk : List EntryR} {seen : Array Nat} {ss : List EntryR} (h : Taken bk seen ss) (hall : ∀ k x, bk[k]? = some x → k ∈ seen) : ss.Perm bk := by
  obtain ⟨h1, h2, h3⟩ := h
  have hp : seen.toList.Perm (List.range bk.length) := by
    refine (List.perm_ext_iff_of_nodup h1 List.nodup_range).2 fun k => ?_
    rw [List.mem_range]
    constructor
    · intro hk
      obtain ⟨i, hi⟩ := List.getElem?_of_mem hk
      exact (h3 i k (by simpa using hi)).2
    · intro hk
      simpa using hall k bk[k] (List.getElem?_eq_getElem hk)
  have e1 : ss.map some = seen.toList.map fun k => bk[k]? := by
    refine List.ext_getElem? fun i => ?_
    rw [List.getElem?_map, List.getElem?_map]
    by_cases hi : i < seen.size
    · have hk : seen[i]? = some seen[i] := Array.getElem?_eq_getElem hi
      have hs : ss[i]? = some ss[i] := List.getElem?_eq_getElem (by omega)
      have hk' : seen.toList[i]? = some seen[i] := by rw [Array.getElem?_toList]; exact hk
      rw [hk', hs, Option.map_some, Option.map_some, (h3 i _ hk).1, hs]
    · rw [List.getElem?_eq_none (by omega), List.getElem?_eq_none (by simp; omega)]
      rfl
  have e2 : bk.map some = (List.range bk.length).map fun k => bk[k]? := by
    refine List.ext_getElem? fun i => ?_
    rw [List.getElem?_map, List.getElem?_map]
    by_cases hi : i < bk.length
    · rw [List.getElem?_eq_getElem hi, List.getElem?_range hi, Option.map_some, Option.map_some, List.getElem?_eq_getElem hi]
    · rw [List.getElem?_eq_none (by omega), List.getElem?_eq_none (by simp; omega)]
      rfl
  have h4 : (ss.map some).Perm (bk.map some) := by rw [e1, e2]; exact hp.map _
  have := h4.filterMap id
  simpa [List.filterMap_map] using this

theorem step_grown {w w1 : World} {r : Nat} {o : Obj} (hw : w1 = w ∨ w1 = w.drew) : w.grownBy (setBlock w1 r o) (some r) := by
  rcases hw with rfl | rfl
  · exact setBlock_grown _ _ _
  · have := setBlock_grown w r o
    exact ⟨this.os, this.tape, this.output, this.size, this.block⟩

set_option maxHeartbeats 400000 in
theorem values_any (F : Fence) (n : Nat) (h : F.fn 61) (hro : F.round = none) (m : Nat) (w : World) :
    CallsIn F n Tryz.prog 61 #[.map (some m)] w fun e w' =>
      e = .returned (.func (.func 93) #[] #[.pointer (some ⟨w.heap.size, 0, none⟩)]) ∧ w' = w.alloc (.cells #[.map (some m)] 82) := by
  refine callsIn_of_wp Tryz.func61 rfl h ?_ hro
  simp only [Tryz.ntmps61, List.size_toArray, List.length_cons, List.length_nil, Nat.reduceAdd, Nat.reduceSub, Array.replicate_succ, Array.replicate_zero, List.push_toArray, List.append_toArray, List.nil_append, List.cons_append]
  gi_wp2
  go_ret
  exact ⟨rfl, rfl⟩

set_option maxRecDepth 100000 in
set_option maxHeartbeats 2000000 in
theorem values1_in (F : Fence) (n : Nat) (h : F.fn 93) (hro : F.round = none) (hn : 1 ≤ n) (l Bm m : Nat) (bk : List EntryR) (J Jx : List EntryR → World → Prop)
    (hY : ∀ pre x W, J pre W → pre.length < bk.length → YieldAt F (n - 1) Tryz.prog l #[entryV x] W fun e W' =>
      (e = .returned (.bool true) ∧ J (pre ++ [x]) W' ∧ KeepsWalks W W') ∨ (e = .returned (.bool false) ∧ Jx (pre ++ [x]) W'))
    (W : World) (hJ : AbidesFrom W.heap.size J) (hm : W.cell? ⟨Bm, 0, none⟩ = some (.map (some m))) (hb : BookAt W m bk) (h0 : J [] W) :
    CallsIn F n Tryz.prog 93 #[.func (.yield l) #[] #[], .pointer (some ⟨Bm, 0, none⟩)] W fun e W' => (∃ v, e = .returned v) ∧
      ((∃ ss, List.Perm ss bk ∧ J ss W') ∨ (∃ pre, True ∧ Jx pre W')) := by
  have hrg := range_book hb
  refine callsIn_of_wp Tryz.func93 rfl h ?_ hro
  simp only [Tryz.ntmps93, List.size_toArray, List.length_cons, List.length_nil, Nat.reduceAdd, Nat.reduceSub, Array.replicate_succ, Array.replicate_zero, List.push_toArray, List.append_toArray, List.nil_append, List.cons_append]
  gi_wp2
  gi_loopw [4] (fun _ wr => ∃ (seen : Array Nat) (ss : List EntryR), IterAt wr W.heap.size m bk.length seen ∧ BookAt wr m bk ∧ Taken bk seen ss ∧ J ss wr)
    (fun _ wr => (leftOf (entsM bk) (wr.iterSeen W.heap.size)).size)
  case atStart =>
    exact ⟨#[], [], IterAt.new W m bk.length, hb.grow (Grow.alloc _ _), Taken.start bk, hJ [] W _ none h0 (World.grownBy_alloc W _ none) (fun r e => by cases e)⟩
  case round =>
    obtain ⟨seen, ss, hit, hbk, hT, hJs⟩ := hrel
    clear hrg
    rcases next_book 0 hit hbk with ⟨hall, hn1⟩ | ⟨k, y, hy, hk, w1, hw, hn1⟩
    · have hnx : ∀ ty, (Instr.next (.pointer (some ⟨W.heap.size, 0, none⟩)) false ty).run Tryz.prog wr = _ := fun _ => hn1
      have HT := Lib.hid (hT.all hall)
      clear hit hbk hn1
      gi_wp2
      go_end0
      exact ⟨⟨_, rfl⟩, .inl ⟨ss, HT.out, hJs⟩⟩
    · have hgr := step_grown (r := W.heap.size) (o := .mapIter (some m) bk.length (seen.push k) bk.length) hw
      obtain ⟨hit2, hb2, hz2, hoth⟩ := step_book (k := k) hit hw
      have hiw : ∃ o : Obj, wr.heap[W.heap.size]? = some o ∧ o.isWalk = true := ⟨_, hit, rfl⟩
      have hJ2 := hJ ss wr _ (some W.heap.size) hJs hgr (fun r e => by cases e; exact ⟨Nat.le_refl _, hiw⟩)
      generalize setBlock w1 W.heap.size (.mapIter (some m) bk.length (seen.push k) bk.length) = w2 at hn1 hit2 hb2 hz2 hoth hgr hJ2
      have hnx : ∀ ty, (Instr.next (.pointer (some ⟨W.heap.size, 0, none⟩)) false ty).run Tryz.prog wr = _ := fun _ => hn1
      have hmr : m ≠ W.heap.size := by have := hb.lt; omega
      have hbk2 : BookAt w2 m bk := (hoth m hmr).trans hbk
      have hen := entry_book hit2 hbk2 hy
      have hJ3 := hJ ss w2 _ none hJ2 (World.grownBy_alloc w2 (.cells (cellsE y) 62) none) (fun r e => by cases e)
      have hit3 := hit2.grow (Grow.alloc w2 (.cells (cellsE y) 62))
      have hbk3 := hbk2.grow (Grow.alloc w2 (.cells (cellsE y) 62))
      obtain ⟨fn, tmps, assign, body, hyd, hR⟩ := hY ss y _ hJ3 (hT.lt hy hk)
      have HT := Lib.hid (hT.push hy hk)
      have HI := Lib.hid hit3
      have HB := Lib.hid hbk3
      have HI0 := Lib.hid hit
      have hmeas := left_book hy hk
      have HX := Lib.hid hy
      have HK := Lib.hid hk
      clear hit hbk hn1 hit2 hb2 hz2 hoth hgr hJ2 hbk2 hJ3 hit3 hbk3 hT hy hk hw hJs hiw
      gi_wp2
      refine hR.mono ?_
      rintro e W3 (⟨rfl, hJ4, hk4⟩ | ⟨rfl, hJx4⟩)
      · have hit4 : IterAt W3 W.heap.size m bk.length (seen.push k) := hk4.same _ _ HI.out rfl
        have hbk4 : BookAt W3 m bk := hk4.same _ _ HB.out rfl
        clear hen hnx hyd
        gi_wp2
        go_roundw
        case rel => exact ⟨seen.push k, ss ++ [y], hit4, hbk4, HT.out, hJ4⟩
        case measure => rw [hit4.seen, HI0.out.seen]; exact hmeas
      · clear hen hnx hyd
        gi_wp2
        refine bodyPost_ret (results_none rfl _ _ _) rfl ?_
        exact ⟨⟨_, rfl⟩, .inr ⟨ss ++ [y], trivial, hJx4⟩⟩

end Go.Proofs.YtjpnblflenlnaaaGreat
