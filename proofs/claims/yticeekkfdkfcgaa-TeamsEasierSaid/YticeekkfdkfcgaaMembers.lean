/- Members: the members of a team, as the program yields them. -/
import Derived.RangeFuncNested
import Derived.RangeFuncBound
import Derived.RangeFuncCalls
import Derived.RangeFuncLeaves
import Derived.Shelf.Abstract
import Derived.OwnWalkIn
import Derived.TacticsInMore
import Derived.LoopNIn
import Derived.LoopIn
import Derived.Test.YticeekkfdkfcgaaRead
namespace Go.Proofs.Yticeekkfdkfcgaa
open Go.RowKit Go.Shelf

attribute [local go_sem] Oper.semAt_some

/-- a person of a crew, with the number -/
abbrev Mem (P : List PersonR) := { x : Nat × PersonR // P[x.1]? = some x.2 }
/-- the members of a team among the first k people -/
def memTo (P : List PersonR) (team : Nat) : Nat → List (Mem P)
  | 0 => []
  | k + 1 => if h : k < P.length then (if hasN team k = true then memTo P team k ++ [⟨(k, P[k]), List.getElem?_eq_getElem h⟩] else memTo P team k) else memTo P team k
def membersL (P : List PersonR) (team : Nat) : List (Mem P) := memTo P team P.length
theorem memTo_yes {P : List PersonR} {team k : Nat} {x : PersonR} (hx : P[k]? = some x) (h : hasN team k = true) : memTo P team (k + 1) = memTo P team k ++ [⟨(k, x), hx⟩] := by
  have hk := lt_of_at hx
  obtain rfl : P[k] = x := Option.some.inj ((List.getElem?_eq_getElem hk).symm.trans hx)
  rw [memTo, dif_pos hk, if_pos h]
theorem memTo_no {P : List PersonR} {team k : Nat} (h : hasN team k = false) : memTo P team (k + 1) = memTo P team k := by
  rw [memTo]
  split
  · rw [if_neg (by simp [h])]
  · rfl
theorem memTo_out {P : List PersonR} {team k : Nat} (h : ¬ k < P.length) : memTo P team (k + 1) = memTo P team k := by rw [memTo, dif_neg h]
theorem memTo_len (P : List PersonR) (team : Nat) : ∀ k, (memTo P team k).length ≤ k
  | 0 => Nat.le_refl _
  | k + 1 => by
    have ih := memTo_len P team k
    by_cases hk : k < P.length
    · cases h : hasN team k with
      | false => rw [memTo_no h]; omega
      | true => rw [memTo_yes (List.getElem?_eq_getElem hk) h, List.length_append, List.length_singleton]; omega
    · rw [memTo_out hk]; omega
theorem memTo_mem {P : List PersonR} {team : Nat} {x : Mem P} : ∀ k, x ∈ memTo P team k ↔ x.1.1 < k ∧ hasN team x.1.1 = true
  | 0 => by simp [memTo]
  | k + 1 => by
    have ih := memTo_mem (P := P) (team := team) (x := x) k
    by_cases hk : k < P.length
    · cases h : hasN team k with
      | false =>
        rw [memTo_no h, ih]
        constructor
        · rintro ⟨a, b⟩; exact ⟨by omega, b⟩
        · rintro ⟨a, b⟩
          refine ⟨?_, b⟩
          rcases Nat.lt_or_ge x.1.1 k with g | g
          · exact g
          · have : x.1.1 = k := by omega
            rw [this, h] at b; cases b
      | true =>
        have hx := List.getElem?_eq_getElem hk
        rw [memTo_yes hx h, List.mem_append, ih, List.mem_singleton]
        constructor
        · rintro (⟨a, b⟩ | rfl)
          · exact ⟨by omega, b⟩
          · exact ⟨by simp, h⟩
        · rintro ⟨a, b⟩
          rcases Nat.lt_or_ge x.1.1 k with g | g
          · exact .inl ⟨g, b⟩
          · right
            have e : x.1.1 = k := by omega
            have e2 := x.2
            rw [e, hx] at e2
            exact Subtype.ext (Prod.ext e (Option.some.inj e2).symm)
    · rw [memTo_out hk, ih]
      have hne : x.1.1 ≠ k := fun h => hk (by rw [← h]; exact lt_of_at x.2)
      constructor
      · rintro ⟨a, b⟩; exact ⟨by omega, b⟩
      · rintro ⟨a, b⟩; exact ⟨by omega, b⟩

set_option maxHeartbeats 1000000 in
/-- t.members(team): the task and the team are boxed; the function value captures the boxes -/
theorem members_in (F : Fence) (n : Nat) (h5 : F.fn 52) (hro : F.round = none) (c : CrewR) (j : JobD) (l : LawD) (bA : Option Addr) (bc : Nat) (team : Int) (w : World) :
    CallsIn F n Try.prog 52 #[taskV c j l bA bc, .int .i64 team] w fun e w' => e = .returned (.func (.func 64) #[] #[.pointer (some ⟨w.heap.size, 0, none⟩), .pointer (some ⟨w.heap.size + 1, 0, none⟩)]) ∧ w' = (w.alloc (.cells (cellsT c j l bA bc) 63)).alloc (.cells #[.int .i64 team] 3) := by
  refine callsIn_of_wp Try.func52 rfl h5 ?_ hro
  simp only [Try.ntmps52, List.size_toArray, List.length_cons, List.length_nil, Nat.reduceAdd, Nat.reduceSub, Array.replicate_succ, Array.replicate_zero, List.push_toArray, List.append_toArray, List.nil_append, List.cons_append]
  gi_wp2
  go_ret
  exact ⟨rfl, rfl⟩

/-- what a round keeps: all that lies below n₀, and the two boxes of the iterator -/
structure KeepT (n₀ Bt Bm : Nat) (A B : World) : Prop where
  below : Below n₀ A B
  bt : B.heap[Bt]? = A.heap[Bt]?
  bm : B.heap[Bm]? = A.heap[Bm]?
theorem KeepT.refl (n₀ Bt Bm : Nat) (A : World) : KeepT n₀ Bt Bm A A := ⟨Below.refl _ _, rfl, rfl⟩
theorem KeepT.trans {n₀ Bt Bm : Nat} {A B C : World} (h : KeepT n₀ Bt Bm A B) (k : KeepT n₀ Bt Bm B C) : KeepT n₀ Bt Bm A C := ⟨h.below.trans k.below, k.bt.trans h.bt, k.bm.trans h.bm⟩
theorem KeepT.of_below {n₀ Bt Bm n : Nat} {A B : World} (h : Below n A B) (h0 : n₀ ≤ n) (h1 : Bt < n) (h2 : Bm < n) : KeepT n₀ Bt Bm A B := ⟨Below.mono h h0, Below.block h Bt h1, Below.block h Bm h2⟩
theorem keepT_b {n₀ Bt Bm : Nat} {w : World} (h0 : n₀ ≤ w.heap.size) (h1 : Bt < w.heap.size) (h2 : Bm < w.heap.size) (W : World) (l : Nat) (o o' : Obj) (hl : w.heap.size ≤ l) (h : W.heap[l]? = some o) (hc : o.isCells = false) (hw : o.isWalk = false) : KeepT n₀ Bt Bm W (W.putObj l o') :=
  KeepT.of_below (belowK_b (n₀ := w.heap.size) (w := w) (Nat.le_refl _) W l o o' hl h hc hw) h0 h1 h2
theorem KeepT.block {n₀ Bt Bm q : Nat} {A B : World} {t : TypeId} {cs : Array Value} (h : KeepT n₀ Bt Bm A B) (hq : q < n₀ ∨ q = Bt ∨ q = Bm) (hb : BlockIs A q t cs) : BlockIs B q t cs := by
  rcases hq with hq | rfl | rfl
  · exact (Below.block h.below q hq).trans hb
  · exact h.bt.trans hb
  · exact h.bm.trans hb
/-- a store into another block -/
theorem KeepT.store {n₀ Bt Bm b : Nat} (A : World) (j : Nat) (v : Value) (h0 : n₀ ≤ b) (h1 : Bt ≠ b) (h2 : Bm ≠ b) : KeepT n₀ Bt Bm A (A.setCell ⟨b, j, none⟩ v) :=
  ⟨(Below.refl _ _).setCell (p := ⟨b, j, none⟩) h0 v, Below.heap_setCell A ⟨b, j, none⟩ v Bt h1, Below.heap_setCell A ⟨b, j, none⟩ v Bm h2⟩

set_option maxRecDepth 100000 in
set_option maxHeartbeats 2000000 in
/-- the walk of the iterator -/
theorem members1_in (n : Nat) (hn : 1 ≤ n) (l Bt Bm n₀ : Nat) (c : CrewR) (j : JobD) (lw : LawD) (bA : Option Addr) (bc : Nat) (team : Nat) (ht : team < 1000000) (hl : c.people.length ≤ 40) (J Jx : List (Mem c.people) → World → Prop)
    (hY : ∀ pre x W, J pre W → pre.length < c.people.length → YieldAt Fence.wide (n - 1) Try.prog l #[.int .i64 (x.1.1 : Nat), personV x.1.2] W fun e W' =>
      (e = .returned (.bool true) ∧ J (pre ++ [x]) W' ∧ KeepT n₀ Bt Bm W W') ∨ (e = .returned (.bool false) ∧ Jx (pre ++ [x]) W'))
    (hJ : ∀ s A o, J s A → J s (A.alloc o)) (W : World) (hBt : BlockIs W Bt 63 (cellsT c j lw bA bc)) (hBm : BlockIs W Bm 3 #[.int .i64 (team : Nat)]) (hP : People W n₀ c.pa c.people) (hn0 : n₀ ≤ W.heap.size) (h0 : J [] W) :
    CallsIn Fence.wide n Try.prog 64 #[.func (.yield l) #[] #[], .pointer (some ⟨Bt, 0, none⟩), .pointer (some ⟨Bm, 0, none⟩)] W fun e W' => (∃ v, e = .returned v) ∧
      ((∃ ys, ys = membersL c.people team ∧ J ys W') ∨ (∃ pre, (∃ k, k ≤ c.people.length ∧ pre = memTo c.people team k) ∧ Jx pre W')) := by
  have hro : Fence.wide.round = none := rfl
  have h60 : Fence.wide.fn 60 := trivial
  have hcc := hBt.cell
  have HBT := Lib.hid hBt
  have HBM := Lib.hid hBm
  have HP := Lib.hid (fun (w0 : World) (hw : Below n₀ W w0) => hP.below hw)
  clear hBt hBm hP
  refine callsIn_of_wp Try.func64 rfl trivial ?_ hro
  simp only [Try.ntmps64, List.size_toArray, List.length_cons, List.length_nil, Nat.reduceAdd, Nat.reduceSub, Array.replicate_succ, Array.replicate_zero, List.push_toArray, List.append_toArray, List.nil_append, List.cons_append]
  gi_wp2
  clear hcc
  gi_loopw [10] (fun i wr => ∃ k : Nat, k ≤ c.people.length ∧ i = .int .i64 k ∧ J (memTo c.people team k) wr ∧ KeepT n₀ Bt Bm W wr)
    (fun i _ => c.people.length - (intOf i).toNat)
  case atStart => exact ⟨0, Nat.zero_le _, rfl, h0, KeepT.refl _ _ _ _⟩
  case round =>
    obtain ⟨k, hk, rfl, hJs, hnx⟩ := hrel
    by_cases hlt : k < c.people.length
    · obtain ⟨b, off, x, hpa, hbl, hcx, hpx, HX⟩ := (HP.out wr hnx.below).at_ hlt
      have e0 := hcx 0 (by omega); have e1 := hcx 1 (by omega); have e2 := hcx 2 (by omega); have e3 := hcx 3 (by omega); have e4 := hcx 4 (by omega); have e5 := hcx 5 (by omega)
      rw [Nat.add_zero] at e0
      have hk0 : (0 : Int) ≤ (k : Int) := by omega
      have hk1 : (k : Int) < (c.people.length : Int) := by omega
      have hd1 : decide ((k : Int) < (c.people.length : Int)) = true := decide_eq_true (by omega)
      obtain ⟨W2, hW2, hg2, hf2, hsz2⟩ := one_block wr 52 (cellsP x)
      have hJ2 : J (memTo c.people team k) W2 := by rw [← hW2]; exact hJ _ _ _ hJs
      have hbmr := hnx.block (.inr (.inr rfl)) HBM.out
      have hbtr := hnx.block (.inr (.inl rfl)) HBT.out
      have hws := hnx.below.size
      have hnx2 : KeepT n₀ Bt Bm W W2 := hnx.trans (KeepT.of_below hg2 (by omega) hbtr.lt hbmr.lt)
      have htm : W2.cell? ⟨Bm, 0, none⟩ = some (.int .i64 (team : Nat)) := (hg2.block hbmr).cell 0
      have hpc := hf2.cell
      have HHAS := Lib.hid (fun w0 => has_any team k w0 ht (by omega))
      have hlen : (memTo c.people team k).length < c.people.length := Nat.lt_of_le_of_lt (memTo_len _ _ _) hlt
      have hny := memTo_yes (team := team) HX.out
      have hnn := memTo_no (P := c.people) (team := team) (k := k)
      obtain ⟨hb, hhb⟩ : ∃ z, hasN team k = z := ⟨_, rfl⟩
      rw [hhb] at HHAS hny hnn
      obtain ⟨fn, tmps, assign, body, hy, hR⟩ := hY _ ⟨(k, x), HX.out⟩ W2 hJ2 hlen
      dsimp only at hy
      rw [hpa]
      clear hhb hcx hpx hY hbmr hbtr
      subst hW2
      cases hb with
      | false =>
        gi_wp2_with (gi_at_call 60; refine (callsIn_wide.2 (HHAS.out _)).mono ?_; rintro e w' ⟨rfl, rfl⟩)
        refine ⟨fun _ h => (by cases h), ?_⟩
        gi_wp2
        go_roundw
        case rel => exact ⟨k + 1, by omega, by simp, by rw [hnn (by first | rfl | trivial)]; exact hJ2, hnx2⟩
        case measure => simp [intOf]; omega
      | true =>
        gi_wp2_with (gi_at_call 60; refine (callsIn_wide.2 (HHAS.out _)).mono ?_; rintro e w' ⟨rfl, rfl⟩)
        refine hR.mono ?_
        rintro e W3 (⟨rfl, hJ3, hk3⟩ | ⟨rfl, hJx3⟩)
        · gi_wp2
          go_roundw
          case rel => exact ⟨k + 1, by omega, by simp, by rw [hny (by first | rfl | trivial)]; exact hJ3, hnx2.trans hk3⟩
          case measure => simp [intOf]; omega
        · gi_wp2
          refine bodyPost_ret (results_none rfl _ _ _) rfl ?_
          exact ⟨⟨_, rfl⟩, .inr ⟨_, ⟨k + 1, by omega, (hny (by first | rfl | trivial)).symm⟩, hJx3⟩⟩
    · obtain rfl : k = c.people.length := by omega
      gi_wp2
      go_end0
      exact ⟨⟨_, rfl⟩, .inl ⟨_, rfl, hJs⟩⟩

/-- all members of the team, in ascending order; or a part of them, where a round has said 'no more' -/
theorem members_stops (n : Nat) (hn : 1 ≤ n) (Bt Bm n₀ : Nat) (c : CrewR) (j : JobD) (lw : LawD) (bA : Option Addr) (bc : Nat) (team : Nat) (ht : team < 1000000) (hl : c.people.length ≤ 40) (w : World) (hBt : BlockIs w Bt 63 (cellsT c j lw bA bc)) (hBm : BlockIs w Bm 3 #[.int .i64 (team : Nat)]) (hP : People w n₀ c.pa c.people) (hn0 : n₀ ≤ w.heap.size) :
    SeqStopsK Fence.wide n Try.prog 64 #[.pointer (some ⟨Bt, 0, none⟩), .pointer (some ⟨Bm, 0, none⟩)] (fun x : Mem c.people => #[.int .i64 (x.1.1 : Nat), personV x.1.2]) (KeepT n₀ Bt Bm) (fun ys => ys = membersL c.people team) (fun pre => ∃ k, k ≤ c.people.length ∧ pre = memTo c.people team k) c.people.length w := fun l J Jx W hW hJ _ hY h0 =>
  members1_in n hn l Bt Bm n₀ c j lw bA bc team ht hl J Jx hY (fun s A o hs => hJ s A _ none hs (Grow.alloc A o).grown (fun r e => by cases e)) W (hBt.below hW hBt.lt) (hBm.below hW hBm.lt) (hP.below (Below.mono hW hn0)) (Nat.le_trans hn0 hW.size) h0

end Go.Proofs.Yticeekkfdkfcgaa
