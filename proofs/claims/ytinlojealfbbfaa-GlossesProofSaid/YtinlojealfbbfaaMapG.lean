/- MapG: a map of rows of glosses by author and stamp. -/
import Derived.Test.YtinlojealfbbfaaRowsG
import Derived.Maps.AppendAt
import Derived.MapKept
namespace Go.Proofs.Ytinlojealfbbfaa
open Go.RowKit
open Go.ChangeMaps (setBlock)

/-- a group of messages of one author and one stamp, and where it lies -/
structure GrpR where
  au : Int
  st : Int
  A : Option Addr
  c : Nat
  l : List GlossD
abbrev keyV (a b : Int) : Value := .agg #[.int .i64 a, .int .i64 b]
abbrev grpV (y : GrpR) : Value := .slice y.A y.l.length y.c
def entG (p : GrpR × Nat) : MapEntry := { key := keyV p.1.au p.1.st, val := grpV p.1, born := p.2 }
def entsG (L : List GrpR) : Array MapEntry := (L.zipIdx.map entG).toArray
/-- block m is a map that holds just the groups L, in the order in which they came -/
def GrpsAt (w : World) (m : Nat) (L : List GrpR) : Prop := w.heap[m]? = some (.map (entsG L) L.length)
theorem GrpsAt.lt {w : World} {m : Nat} {L : List GrpR} (h : GrpsAt w m L) : m < w.heap.size := by
  rcases Nat.lt_or_ge m w.heap.size with hlt | hge
  · exact hlt
  · unfold GrpsAt at h; rw [Array.getElem?_eq_none hge] at h; cases h
theorem GrpsAt.grow {w w' : World} {m : Nat} {L : List GrpR} (h : GrpsAt w m L) (g : Grow w w') : GrpsAt w' m L := (Below.block g m h.lt).trans h

theorem run_eqK (a b c d : Int) (w : World) : (Op.equal 95 (keyV a b) (keyV c d)).run Try.prog w = .ok (decide (a = c ∧ b = d)) w := by
  have e : Op.equal 95 (keyV a b) (keyV c d) = Op.equalIn 10000 95 (keyV a b) (keyV c d) := rfl
  rw [e]
  by_cases h1 : a = c
  · by_cases h2 : b = d
    · subst h1 h2; simp [go_sem]
    · subst h1; simp [go_sem, h2]
  · simp [go_sem, h1]
theorem run_checkK (e : Bool) (a b : Int) (w : World) : (Instr.checkKey e 10000 95 (keyV a b)).run Try.prog w = .ok () w := by
  kernel_rfl
theorem run_staysK (a b : Int) (w : World) : (Instr.keyThatStays (keyV a b) (keyV a b)).run Try.prog w = .ok (keyV a b) w := by
  have h : Instr.sameBits 10000 (keyV a b) (keyV a b) = true := by simp [Instr.sameBits]
  simp [Instr.keyThatStays, h]

/-- the place of a group, and the group -/
def findG : List GrpR → Int → Int → Option (Nat × GrpR)
  | [], _, _ => none
  | y :: L, a, b => if y.au = a ∧ y.st = b then some (0, y) else (findG L a b).map fun p => (p.1 + 1, p.2)
theorem findG_some : ∀ {L : List GrpR} {a b : Int} {j : Nat} {y : GrpR}, findG L a b = some (j, y) → L[j]? = some y ∧ y.au = a ∧ y.st = b
  | [], _, _, _, _, h => by cases h
  | z :: L, a, b, j, y, h => by
    unfold findG at h
    by_cases e : z.au = a ∧ z.st = b
    · rw [if_pos e] at h
      injection h with h
      injection h with h1 h2
      subst h1 h2
      exact ⟨rfl, e⟩
    · rw [if_neg e] at h
      cases hf : findG L a b with
      | none => rw [hf] at h; cases h
      | some p =>
        obtain ⟨i, x⟩ := p
        rw [hf] at h
        injection h with h
        injection h with h1 h2
        subst h1 h2
        exact ⟨(findG_some hf).1, (findG_some hf).2⟩
theorem findG_none : ∀ {L : List GrpR} {a b : Int}, findG L a b = none → ∀ y ∈ L, ¬ (y.au = a ∧ y.st = b)
  | [], _, _, _, y, hy => by cases hy
  | z :: L, a, b, h, y, hy => by
    unfold findG at h
    by_cases e : z.au = a ∧ z.st = b
    · rw [if_pos e] at h; cases h
    · rw [if_neg e] at h
      rcases List.mem_cons.1 hy with rfl | hy
      · exact e
      · cases hf : findG L a b with
        | none => exact findG_none hf y hy
        | some p => rw [hf] at h; cases h
set_option maxRecDepth 100000 in
theorem run_askG (a b : Int) (w : World) : ∀ (L : List GrpR) (s i : Nat), (Instr.findAsking 95 (keyV a b) ((L.zipIdx s).map entG) i).run Try.prog w = .ok ((findG L a b).map fun p => (i + p.1, grpV p.2)) w
  | [], s, i => rfl
  | y :: L, s, i => by
    have ih := run_askG a b w L (s + 1) (i + 1)
    have he := run_eqK a b y.au y.st w
    simp only [List.zipIdx_cons, List.map_cons, Instr.findAsking, Sem.run_bind, entG, he, Result.andThen]
    by_cases h : a = y.au ∧ b = y.st
    · have h' : y.au = a ∧ y.st = b := ⟨h.1.symm, h.2.symm⟩
      rw [decide_eq_true h]
      unfold findG
      rw [if_pos h']
      rfl
    · have h' : ¬ (y.au = a ∧ y.st = b) := fun q => h ⟨q.1.symm, q.2.symm⟩
      rw [decide_eq_false h]
      unfold findG
      rw [if_neg h', Option.map_map]
      refine (show _ = (Instr.findAsking 95 (keyV a b) ((L.zipIdx (s + 1)).map entG) (i + 1)).run Try.prog w from rfl).trans (ih.trans ?_)
      congr 1
      cases findG L a b with
      | none => rfl
      | some p => exact congrArg (fun q => some (q, grpV p.2)) (by show i + 1 + p.1 = i + (p.1 + 1); omega)
theorem run_findG (a b : Int) (w : World) (L : List GrpR) : (Instr.findKey 95 (keyV a b) (L.zipIdx.map entG)).run Try.prog w = .ok ((findG L a b).map fun p => (p.1, grpV p.2)) w := by
  have ha := run_askG a b w L 0 0
  simp only [Nat.zero_add] at ha
  cases L with
  | nil => simp [Instr.findKey, run_underlying Try.underlying95, Instr.findNow, findG, Result.andThen]
  | cons y L =>
    simp only [List.zipIdx_cons, List.map_cons] at ha ⊢
    simp only [Instr.findKey, Sem.run_bind, run_underlying Try.underlying95, Result.andThen, Instr.findNow, Instr.sameNow, entG] at ha ⊢
    exact ha
/-- what a look-up finds -/
def foundG (L : List GrpR) (a b : Int) : Value := match findG L a b with
  | some p => grpV p.2
  | none => .slice none 0 0
theorem run_lookupG {w : World} {m : Nat} {L : List GrpR} (h : GrpsAt w m L) (a b : Int) :
    (Instr.lookup 93 (.map (some m)) (keyV a b) false).run Try.prog w = .ok (foundG L a b) w := by
  have hf := run_findG a b w L
  have hc := fun e => run_checkK e a b w
  have hz : (zeroValue 25).run Try.prog w = .ok (.slice none 0 0) w := by kernel_rfl
  simp only [Instr.lookup, Sem.run_bind, run_underlying Try.underlying93, Result.andThen, MapKept.run_getObj_map h, entsG]
  cases hy : findG L a b with
  | none => rw [hy] at hf; simp [hc, hf, hy, foundG, hz]
  | some p => rw [hy] at hf; simp [hc, hf, hy, foundG]

theorem setBlock_at {w : World} {r : Nat} {o o' : Obj} (h : w.heap[r]? = some o) : (setBlock w r o').heap[r]? = some o' := by
  have hlt : r < w.heap.size := (Array.getElem?_eq_some_iff.1 h).1
  simp [setBlock, hlt]
theorem setBlock_grown (w : World) (r : Nat) (o : Obj) : w.grownBy (setBlock w r o) (some r) :=
  ⟨rfl, rfl, rfl, by simp [setBlock], fun k _ hne => by
    have h : r ≠ k := fun e => hne (by rw [e])
    simp [setBlock, Array.getElem?_setIfInBounds_ne h]⟩
theorem entsG_at {L : List GrpR} {j : Nat} {y : GrpR} (h : L[j]? = some y) : (entsG L)[j]? = some (entG (y, j)) := by
  simp [entsG, h]
theorem entsG_push (L : List GrpR) (y : GrpR) : (entsG L).push (entG (y, L.length)) = entsG (L ++ [y]) := by
  simp [entsG, List.zipIdx_append]
theorem entsG_size (L : List GrpR) : (entsG L).size = L.length := by simp [entsG]
/-- the entry of a key: a new one -/
theorem run_entryNew {w : World} {m : Nat} {L : List GrpR} (h : GrpsAt w m L) {a b : Int} (hn : findG L a b = none) :
    (Instr.mapEntry 93 (.map (some m)) (keyV a b)).run Try.prog w = .ok (.tuple #[.slice none 0 0, goInt L.length]) (setBlock w m (.map (entsG (L ++ [⟨a, b, none, 0, []⟩])) (L.length + 1))) := by
  have hf := run_findG a b w L
  rw [hn] at hf
  have hf' : (Instr.findKey 95 (keyV a b) (entsG L).toList).run Try.prog w = .ok none w := by
    simpa [entsG] using hf
  have hz : (zeroValue 25).run Try.prog w = .ok (.slice none 0 0) w := by kernel_rfl
  have hs : ∀ o, (setObj m o).run Try.prog w = .ok () (setBlock w m o) := fun o => MapKept.run_setObj_map o h
  have hp : (entsG L).push { key := keyV a b, val := .slice none 0 0, born := L.length } = entsG (L ++ [⟨a, b, none, 0, []⟩]) := entsG_push L ⟨a, b, none, 0, []⟩
  simp only [Instr.mapEntry, Sem.run_bind, run_underlying Try.underlying93, Result.andThen, MapKept.run_getObj_map h, run_checkK, hf', hz, hp, hs]
  rfl
/-- the entry of a key: one that is there -/
theorem run_entryOld {w : World} {m : Nat} {L : List GrpR} (h : GrpsAt w m L) {a b : Int} {j : Nat} {y : GrpR} (hn : findG L a b = some (j, y)) :
    (Instr.mapEntry 93 (.map (some m)) (keyV a b)).run Try.prog w = .ok (.tuple #[grpV y, goInt j]) (setBlock w m (.map (entsG L) L.length)) := by
  have hf := run_findG a b w L
  rw [hn] at hf
  obtain ⟨h1, h2, h3⟩ := findG_some hn
  subst h2 h3
  have hs : ∀ o, (setObj m o).run Try.prog w = .ok () (setBlock w m o) := fun o => MapKept.run_setObj_map o h
  have hj := entsG_at h1
  have hm : (entsG L).modify j (fun e => { e with key := keyV y.au y.st }) = entsG L := by
    refine Array.ext_getElem? fun i => ?_
    rw [Array.getElem?_modify]
    by_cases e : j = i
    · subst e
      rw [if_pos rfl, hj]
      rfl
    · rw [if_neg e]
  have hf' : (Instr.findKey 95 (keyV y.au y.st) (entsG L).toList).run Try.prog w = .ok (some (j, grpV y)) w := by
    simpa [entsG] using hf
  simp only [Instr.mapEntry, Sem.run_bind, run_underlying Try.underlying93, Result.andThen, MapKept.run_getObj_map h, run_checkK, hf', hj, Option.map_some, Option.getD_some, entG, run_staysK, hs, hm]
  rfl
theorem born_at (L : List GrpR) {j : Nat} (hj : j < L.length) : (entsG L).findIdx? (fun e => (e.born : Int) == (j : Int)) = some j := by
  rw [Array.findIdx?_eq_some_iff_getElem]
  refine ⟨by rw [entsG_size]; exact hj, ?_, fun i hi => ?_⟩
  · simp [entsG, entG]
  · simp [entsG, entG]
    omega
/-- the store at the entry j -/
theorem run_storeG {w : World} {m : Nat} {L : List GrpR} (h : GrpsAt w m L) {j : Nat} {y : GrpR} (hj : L[j]? = some y) (A : Option Addr) (c n : Nat) (l : List GlossD) (hn : n = l.length) :
    (Instr.entryStore 93 (.map (some m)) (goInt j) (.slice A n c)).run Try.prog w = .ok () (setBlock w m (.map (entsG (L.set j ⟨y.au, y.st, A, c, l⟩)) L.length)) := by
  subst hn
  have hlt := lt_of_at hj
  have hs : ∀ o, (setObj m o).run Try.prog w = .ok () (setBlock w m o) := fun o => MapKept.run_setObj_map o h
  have hb := born_at L hlt
  have hm : (entsG L).modify j (fun e => { e with val := .slice A l.length c }) = entsG (L.set j ⟨y.au, y.st, A, c, l⟩) := by
    refine Array.ext_getElem? fun i => ?_
    rw [Array.getElem?_modify]
    by_cases e : j = i
    · subst e
      rw [if_pos rfl, entsG_at hj, entsG_at (y := ⟨y.au, y.st, A, c, l⟩) (by rw [List.getElem?_set_self hlt])]
      rfl
    · rw [if_neg e]
      simp [entsG, List.getElem?_set_ne e]
  simp only [Instr.entryStore, Sem.run_bind, Result.andThen, MapKept.run_getObj_map h, asInt, asIntOf, goInt, Sem.run_pure, hb, hm, hs]

end Go.Proofs.Ytinlojealfbbfaa
