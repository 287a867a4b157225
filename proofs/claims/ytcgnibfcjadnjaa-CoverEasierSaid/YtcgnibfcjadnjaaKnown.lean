/- Known: the map of the watches that are known: how its keys are compared, what a look-up finds, what an update does. -/
import Derived.Test.YtcgnibfcjadnjaaAfter
import Derived.MapKept
namespace Go.Proofs.Ytcgnibfcjadnjaa
open Go.RowKit
open Go.ChangeMaps (setBlock)

set_option maxRecDepth 100000
theorem eqI (a b : Int) (n : Nat) (w : World) : (Op.equalIn (n + 1) 3 (.int .i64 a) (.int .i64 b)).run Try.prog w = .ok (a == b) w := by
  simp [go_sem]
theorem partI (xs : Array Value) (i : Nat) (v : Int) (w : World) (h : xs[i]? = some (.int .i64 v)) : (part 3 xs i).run Try.prog w = .ok (.int .i64 v) w := by
  have ha : (isAgg 3).run Try.prog w = .ok false w := by
    unfold isAgg
    rw [Sem.run_bind, run_underlying Try.underlying3 w]
    rfl
  simp [Sem.run_bind, part, ha, h, Result.andThen]
theorem sizeI (w : World) : (sizeOf 3).run Try.prog w = .ok 1 w := by
  obtain ⟨i0, hi0, hz0, hz1, hz2⟩ := info_parts Try.infoInt2
  simp [sizeOf, typeInfo, Sem.run_bind, hi0, hz1, Result.andThen]
abbrev agg8 (a0 a1 a2 a3 a4 a5 a6 a7 : Int) : Array Value := #[.int .i64 a0, .int .i64 a1, .int .i64 a2, .int .i64 a3, .int .i64 a4, .int .i64 a5, .int .i64 a6, .int .i64 a7]
set_option maxHeartbeats 4000000 in
theorem eqA (n : Nat) (a0 a1 a2 a3 a4 a5 a6 a7 b0 b1 b2 b3 b4 b5 b6 b7 : Int) (w : World) :
    (Op.equalIn (n + 2) 110 (.agg (agg8 a0 a1 a2 a3 a4 a5 a6 a7)) (.agg (agg8 b0 b1 b2 b3 b4 b5 b6 b7))).run Try.prog w = .ok (a0 == b0 && (a1 == b1 && (a2 == b2 && (a3 == b3 && (a4 == b4 && (a5 == b5 && (a6 == b6 && a7 == b7))))))) w := by
  have p0 := fun W => partI (agg8 a0 a1 a2 a3 a4 a5 a6 a7) 0 a0 W rfl
  have p1 := fun W => partI (agg8 a0 a1 a2 a3 a4 a5 a6 a7) 1 a1 W rfl
  have p2 := fun W => partI (agg8 a0 a1 a2 a3 a4 a5 a6 a7) 2 a2 W rfl
  have p3 := fun W => partI (agg8 a0 a1 a2 a3 a4 a5 a6 a7) 3 a3 W rfl
  have p4 := fun W => partI (agg8 a0 a1 a2 a3 a4 a5 a6 a7) 4 a4 W rfl
  have p5 := fun W => partI (agg8 a0 a1 a2 a3 a4 a5 a6 a7) 5 a5 W rfl
  have p6 := fun W => partI (agg8 a0 a1 a2 a3 a4 a5 a6 a7) 6 a6 W rfl
  have p7 := fun W => partI (agg8 a0 a1 a2 a3 a4 a5 a6 a7) 7 a7 W rfl
  have q0 := fun W => partI (agg8 b0 b1 b2 b3 b4 b5 b6 b7) 0 b0 W rfl
  have q1 := fun W => partI (agg8 b0 b1 b2 b3 b4 b5 b6 b7) 1 b1 W rfl
  have q2 := fun W => partI (agg8 b0 b1 b2 b3 b4 b5 b6 b7) 2 b2 W rfl
  have q3 := fun W => partI (agg8 b0 b1 b2 b3 b4 b5 b6 b7) 3 b3 W rfl
  have q4 := fun W => partI (agg8 b0 b1 b2 b3 b4 b5 b6 b7) 4 b4 W rfl
  have q5 := fun W => partI (agg8 b0 b1 b2 b3 b4 b5 b6 b7) 5 b5 W rfl
  have q6 := fun W => partI (agg8 b0 b1 b2 b3 b4 b5 b6 b7) 6 b6 W rfl
  have q7 := fun W => partI (agg8 b0 b1 b2 b3 b4 b5 b6 b7) 7 b7 W rfl
  have e0 := eqI a0 b0 n
  have e1 := eqI a1 b1 n
  have e2 := eqI a2 b2 n
  have e3 := eqI a3 b3 n
  have e4 := eqI a4 b4 n
  have e5 := eqI a5 b5 n
  have e6 := eqI a6 b6 n
  have e7 := eqI a7 b7 n
  generalize agg8 a0 a1 a2 a3 a4 a5 a6 a7 = A at *
  generalize agg8 b0 b1 b2 b3 b4 b5 b6 b7 = B at *
  generalize (a0 == b0) = z0 at *
  generalize (a1 == b1) = z1 at *
  generalize (a2 == b2) = z2 at *
  generalize (a3 == b3) = z3 at *
  generalize (a4 == b4) = z4 at *
  generalize (a5 == b5) = z5 at *
  generalize (a6 == b6) = z6 at *
  generalize (a7 == b7) = z7 at *
  unfold Op.equalIn
  simp only [Sem.run_bind, run_underlying Try.underlying110, Result.andThen]
  simp only [sizeI]
  simp only [Std.Legacy.Range.forIn_eq_forIn_range']
  cases z0
  · simp [List.range', List.forIn_cons, Sem.run_bind, p0, q0, e0, Result.andThen]
  cases z1
  · simp [List.range', List.forIn_cons, Sem.run_bind, p0, q0, e0, p1, q1, e1, Result.andThen]
  cases z2
  · simp [List.range', List.forIn_cons, Sem.run_bind, p0, q0, e0, p1, q1, e1, p2, q2, e2, Result.andThen]
  cases z3
  · simp [List.range', List.forIn_cons, Sem.run_bind, p0, q0, e0, p1, q1, e1, p2, q2, e2, p3, q3, e3, Result.andThen]
  cases z4
  · simp [List.range', List.forIn_cons, Sem.run_bind, p0, q0, e0, p1, q1, e1, p2, q2, e2, p3, q3, e3, p4, q4, e4, Result.andThen]
  cases z5
  · simp [List.range', List.forIn_cons, Sem.run_bind, p0, q0, e0, p1, q1, e1, p2, q2, e2, p3, q3, e3, p4, q4, e4, p5, q5, e5, Result.andThen]
  cases z6
  · simp [List.range', List.forIn_cons, Sem.run_bind, p0, q0, e0, p1, q1, e1, p2, q2, e2, p3, q3, e3, p4, q4, e4, p5, q5, e5, p6, q6, e6, Result.andThen]
  cases z7
  all_goals simp [List.range', List.forIn_cons, Sem.run_bind, p0, q0, e0, p1, q1, e1, p2, q2, e2, p3, q3, e3, p4, q4, e4, p5, q5, e5, p6, q6, e6, p7, q7, e7, Result.andThen]
theorem beqN (a b : Nat) : ((a : Int) == (b : Int)) = decide (a = b) := by
  by_cases h : a = b
  · subst h; simp
  · rw [decide_eq_false h, beq_eq_false_iff_ne]; omega
set_option maxHeartbeats 4000000 in
theorem run_eqR (s c : Nat) (f g : Nat → Nat) (w : World) : (Op.equal 112 (restV s f) (restV c g)).run Try.prog w = .ok (decide (s = c ∧ toL f = toL g)) w := by
  have e : ∀ x y, Op.equal 112 x y = Op.equalIn 10000 112 x y := fun _ _ => rfl
  have ha := eqA 9997 (f 0 : Nat) (f 1 : Nat) (f 2 : Nat) (f 3 : Nat) (f 4 : Nat) (f 5 : Nat) (f 6 : Nat) (f 7 : Nat) (g 0 : Nat) (g 1 : Nat) (g 2 : Nat) (g 3 : Nat) (g 4 : Nat) (g 5 : Nat) (g 6 : Nat) (g 7 : Nat)
  simp only [beqN] at ha
  have hd : (decide (f 0 = g 0) && (decide (f 1 = g 1) && (decide (f 2 = g 2) && (decide (f 3 = g 3) && (decide (f 4 = g 4) && (decide (f 5 = g 5) && (decide (f 6 = g 6) && decide (f 7 = g 7)))))))) = decide (toL f = toL g) := by
    rw [Bool.eq_iff_iff]
    unfold toL
    simp
  rw [hd] at ha
  show (Op.equal 112 (.agg #[.int .i64 (s : Nat), .int .i64 (f 0 : Nat), .int .i64 (f 1 : Nat), .int .i64 (f 2 : Nat), .int .i64 (f 3 : Nat), .int .i64 (f 4 : Nat), .int .i64 (f 5 : Nat), .int .i64 (f 6 : Nat), .int .i64 (f 7 : Nat)]) (.agg #[.int .i64 (c : Nat), .int .i64 (g 0 : Nat), .int .i64 (g 1 : Nat), .int .i64 (g 2 : Nat), .int .i64 (g 3 : Nat), .int .i64 (g 4 : Nat), .int .i64 (g 5 : Nat), .int .i64 (g 6 : Nat), .int .i64 (g 7 : Nat)])).run Try.prog w = _
  rw [e]
  by_cases hs : s = c
  · subst hs
    have hz : decide (s = s ∧ toL f = toL g) = decide (toL f = toL g) := by simp
    rw [hz]
    generalize decide (toL f = toL g) = q at ha
    cases q <;> simp [go_sem, ha]
  · have hz : decide (s = c ∧ toL f = toL g) = false := decide_eq_false fun h => hs h.1
    rw [hz]
    have hs' : ¬ (s : Int) = (c : Int) := by omega
    simp [go_sem, hs']

/-! ### the map -/
def gAt (s : Nat) (l : List Nat) (i : Nat) : Nat := if i < s then 0 else l.getD (i - s) 0
abbrev zeroPl : Array Value := #[.int .i64 0, .int .i64 0, .int .i64 0, .int .i64 0, .int .i64 0, .int .i64 0, .int .i64 0, .bool false]
abbrev somePl (s c : Nat) (l : List Nat) : Array Value := #[.int .i64 (gAt s l 0 : Nat), .int .i64 (gAt s l 1 : Nat), .int .i64 (gAt s l 2 : Nat), .int .i64 (gAt s l 3 : Nat), .int .i64 (gAt s l 4 : Nat), .int .i64 (gAt s l 5 : Nat), .int .i64 (c : Nat), .bool true]
/-- a plan for the slots from s on, as it lies in memory -/
def planC (s : Nat) : PlanD → Array Value
  | none => zeroPl
  | some x => somePl s x.1 x.2
/-- what is known: a slot, what is left, and the plan -/
structure KnR where
  s : Nat
  f : Nat → Nat
  v : PlanD
def entK (x : KnR × Nat) : MapEntry := { key := restV x.1.s x.1.f, val := .agg (planC x.1.s x.1.v), born := x.2 }
def entsK (L : List KnR) : Array MapEntry := (L.zipIdx.map entK).toArray
def KnownAt (w : World) (m : Nat) (L : List KnR) : Prop := w.heap[m]? = some (.map (entsK L) L.length)
theorem KnownAt.grow {w w' : World} {m : Nat} {L : List KnR} (h : KnownAt w m L) (g : Grow w w') : KnownAt w' m L := (Below.block g m (Array.getElem?_eq_some_iff.1 h).1).trans h
def findK (s : Nat) (f : Nat → Nat) : List KnR → Option (Nat × KnR)
  | [] => none
  | y :: L => if s = y.s ∧ toL f = toL y.f then some (0, y) else (findK s f L).map fun p => (p.1 + 1, p.2)
theorem findK_some {s : Nat} {f : Nat → Nat} : ∀ {L : List KnR} {j : Nat} {y : KnR}, findK s f L = some (j, y) → y ∈ L ∧ s = y.s ∧ toL f = toL y.f
  | [], _, _, h => by cases h
  | z :: L, j, y, h => by
    unfold findK at h
    by_cases e : s = z.s ∧ toL f = toL z.f
    · rw [if_pos e] at h
      injection h with h
      injection h with h1 h2
      subst h1 h2
      exact ⟨by simp, e⟩
    · rw [if_neg e] at h
      cases hf : findK s f L with
      | none => rw [hf] at h; cases h
      | some p =>
        obtain ⟨i, x⟩ := p
        rw [hf] at h
        injection h with h
        injection h with h1 h2
        subst h1 h2
        exact ⟨by simp [(findK_some hf).1], (findK_some hf).2⟩
theorem run_checkR (e : Bool) (s : Nat) (f : Nat → Nat) (w : World) : (Instr.checkKey e 10000 112 (restV s f)).run Try.prog w = .ok () w := by
  kernel_rfl
theorem run_askK (s : Nat) (f : Nat → Nat) (w : World) : ∀ (L : List KnR) (k i : Nat), (Instr.findAsking 112 (restV s f) ((L.zipIdx k).map entK) i).run Try.prog w = .ok ((findK s f L).map fun p => (i + p.1, .agg (planC p.2.s p.2.v))) w
  | [], _, _ => rfl
  | y :: L, k, i => by
    have ih := run_askK s f w L (k + 1) (i + 1)
    have he := run_eqR s y.s f y.f w
    simp only [List.zipIdx_cons, List.map_cons, Instr.findAsking, Sem.run_bind, entK, he, Result.andThen]
    by_cases h : s = y.s ∧ toL f = toL y.f
    · rw [decide_eq_true h]
      unfold findK
      rw [if_pos h]
      rfl
    · rw [decide_eq_false h]
      unfold findK
      rw [if_neg h, Option.map_map]
      refine (show _ = (Instr.findAsking 112 (restV s f) ((L.zipIdx (k + 1)).map entK) (i + 1)).run Try.prog w from rfl).trans (ih.trans ?_)
      congr 1
      cases findK s f L with
      | none => rfl
      | some p => exact congrArg (fun q => some (q, Value.agg (planC p.2.s p.2.v))) (by show i + 1 + p.1 = i + (p.1 + 1); omega)
theorem run_findK (s : Nat) (f : Nat → Nat) (w : World) (L : List KnR) : (Instr.findKey 112 (restV s f) (L.zipIdx.map entK)).run Try.prog w = .ok ((findK s f L).map fun p => (p.1, .agg (planC p.2.s p.2.v))) w := by
  have ha := run_askK s f w L 0 0
  simp only [Nat.zero_add] at ha
  cases L with
  | nil => simp [Instr.findKey, run_underlying Try.underlying112, Instr.findNow, findK, Result.andThen]
  | cons y L =>
    simp only [List.zipIdx_cons, List.map_cons] at ha ⊢
    simp only [Instr.findKey, Sem.run_bind, run_underlying Try.underlying112, Result.andThen, Instr.findNow, Instr.sameNow, entK] at ha ⊢
    exact ha
theorem zeroValuePl (w : World) : (zeroValue 89).run Try.prog w = .ok (.agg zeroPl) w := by kernel_rfl
theorem run_lookupYes {w : World} {m : Nat} {L : List KnR} (h : KnownAt w m L) {s : Nat} {f : Nat → Nat} {j : Nat} {y : KnR} (hy : findK s f L = some (j, y)) :
    (Instr.lookup 106 (.map (some m)) (restV s f) true).run Try.prog w = .ok (.tuple #[.agg (planC y.s y.v), .bool true]) w := by
  have hf := run_findK s f w L
  have hc := fun e => run_checkR e s f w
  rw [hy] at hf
  simp only [Instr.lookup, Sem.run_bind, run_underlying Try.underlying106, Result.andThen, MapKept.run_getObj_map h, entsK]
  simp [hc, hf]
theorem run_lookupNo {w : World} {m : Nat} {L : List KnR} (h : KnownAt w m L) {s : Nat} {f : Nat → Nat} (hy : findK s f L = none) :
    (Instr.lookup 106 (.map (some m)) (restV s f) true).run Try.prog w = .ok (.tuple #[.agg zeroPl, .bool false]) w := by
  have hf := run_findK s f w L
  have hc := fun e => run_checkR e s f w
  have hz := zeroValuePl w
  rw [hy] at hf
  simp only [Instr.lookup, Sem.run_bind, run_underlying Try.underlying106, Result.andThen, MapKept.run_getObj_map h, entsK]
  simp [hc, hf, hz, Result.andThen]
theorem entsK_push (L : List KnR) (y : KnR) : (entsK L).push (entK (y, L.length)) = entsK (L ++ [y]) := by
  simp [entsK, List.zipIdx_append]
theorem run_updateNew {w : World} {m : Nat} {L : List KnR} (h : KnownAt w m L) {s : Nat} {f : Nat → Nat} (hy : findK s f L = none) (v : PlanD) :
    (Instr.mapUpdate 106 (.map (some m)) (restV s f) (.agg (planC s v))).run Try.prog w = .ok () (setBlock w m (.map (entsK (L ++ [⟨s, f, v⟩])) (L.length + 1))) := by
  have hf := run_findK s f w L
  rw [hy] at hf
  have hf' : (Instr.findKey 112 (restV s f) (entsK L).toList).run Try.prog w = .ok none w := by
    simpa [entsK] using hf
  have hs : ∀ o, (setObj m o).run Try.prog w = .ok () (setBlock w m o) := fun o => MapKept.run_setObj_map o h
  have hp : (entsK L).push { key := restV s f, val := .agg (planC s v), born := L.length } = entsK (L ++ [⟨s, f, v⟩]) := entsK_push L ⟨s, f, v⟩
  simp only [Instr.mapUpdate, Sem.run_bind, run_underlying Try.underlying106, Result.andThen, MapKept.run_getObj_map h, run_checkR, hf', hp, hs]
theorem setBlock_at {w : World} {r : Nat} {o o' : Obj} (h : w.heap[r]? = some o) : (setBlock w r o').heap[r]? = some o' := by
  have hlt : r < w.heap.size := (Array.getElem?_eq_some_iff.1 h).1
  simp [setBlock, hlt]
theorem KnownAt.push {w : World} {m : Nat} {L : List KnR} (h : KnownAt w m L) (y : KnR) : KnownAt (setBlock w m (.map (entsK (L ++ [y])) (L.length + 1))) m (L ++ [y]) := by
  unfold KnownAt
  rw [setBlock_at h]
  simp
/-- all blocks but the map stay -/
structure KeepX (m : Nat) (A B : World) : Prop where
  os : A.os = B.os
  tape : A.tape = B.tape
  output : A.output = B.output
  size : A.heap.size ≤ B.heap.size
  block : ∀ k, k < A.heap.size → k ≠ m → B.heap[k]? = A.heap[k]?
theorem KeepX.refl (m : Nat) (A : World) : KeepX m A A := ⟨rfl, rfl, rfl, Nat.le_refl _, fun _ _ _ => rfl⟩
theorem KeepX.trans {m : Nat} {A B C : World} (h : KeepX m A B) (k : KeepX m B C) : KeepX m A C := ⟨h.os.trans k.os, h.tape.trans k.tape, h.output.trans k.output, Nat.le_trans h.size k.size, fun i hi hn => (k.block i (Nat.lt_of_lt_of_le hi h.size) hn).trans (h.block i hi hn)⟩
theorem KeepX.set (m : Nat) (A : World) (o : Obj) : KeepX m A (setBlock A m o) := ⟨rfl, rfl, rfl, by simp [setBlock], fun k _ hne => by
  simp [setBlock, Array.getElem?_setIfInBounds_ne (Ne.symm hne)]⟩

end Go.Proofs.Ytcgnibfcjadnjaa
