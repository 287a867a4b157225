/- The book as a map by Ids: what a lookup, an update, add do to it. -/
import Derived.Test.YtjpnblflenlnaaaGreatEntry
import Derived.Maps.RangeRun
namespace Go.Proofs.YtjpnblflenlnaaaGreat
open Go.RowKit
open Go.ChangeMaps (setBlock)

def entM (p : EntryR × Nat) : MapEntry := { key := .int .i64 p.1.d.id, val := entryV p.1, born := p.2 }
def entsM (l : List EntryR) : Array MapEntry := (l.zipIdx.map entM).toArray
/-- block m is a map by Ids that holds just the entries l, in the order in which they came -/
def BookAt (w : World) (m : Nat) (l : List EntryR) : Prop := w.heap[m]? = some (.map (entsM l) l.length)
theorem BookAt.lt {w : World} {m : Nat} {l : List EntryR} (h : BookAt w m l) : m < w.heap.size := by
  rcases Nat.lt_or_ge m w.heap.size with hlt | hge
  · exact hlt
  · unfold BookAt at h; rw [Array.getElem?_eq_none hge] at h; cases h
theorem BookAt.grow {w w' : World} {m : Nat} {l : List EntryR} (h : BookAt w m l) (g : Grow w w') : BookAt w' m l := (Below.block g m h.lt).trans h
theorem BookAt.setCell {w : World} {m : Nat} {l : List EntryR} (h : BookAt w m l) {p : Addr} (hp : m ≠ p.block) (u : Value) : BookAt (w.setCell p u) m l := (Below.heap_setCell w p u m hp).trans h

def findE (l : List EntryR) (id : Int) : Option EntryR := l.find? fun y => y.d.id == id
theorem findNow_book (id : Int) : ∀ (l : List EntryR) (s i : Nat), ∃ k, Instr.findNow (.int .i64) (.int .i64 id) ((l.zipIdx s).map entM) i = some ((findE l id).map fun y => (k, entryV y))
  | [], s, i => ⟨0, rfl⟩
  | y :: l, s, i => by
    simp only [List.zipIdx_cons, List.map_cons, Instr.findNow, entM, Instr.sameNow, if_true, findE, List.find?_cons]
    by_cases h : y.d.id = id
    · subst h
      exact ⟨i, by simp⟩
    · have h1 : (id == y.d.id) = false := by simp; omega
      have h2 : (y.d.id == id) = false := by simp; omega
      obtain ⟨k, hk⟩ := findNow_book id l (s + 1) (i + 1)
      exact ⟨k, by rw [h1, h2]; exact hk⟩

abbrev zeroE : Array Value := #[.int .i64 0, .int .i64 0, .int .i64 0, .int .i64 0, .int .i64 0, .int .i64 0, .int .i64 0, .int .i64 0, .slice none 0 0, .int .i64 0, .int .i64 0]
theorem zeroValueE (w : World) : (zeroValue 62).run Tryz.prog w = .ok (.agg zeroE) w := by kernel_rfl

def foundV (l : List EntryR) (id : Int) : Value := match findE l id with
  | some y => entryV y
  | none => .agg zeroE
theorem run_lookup_book {w : World} {m : Nat} {l : List EntryR} (h : BookAt w m l) (id : Int) :
    (Instr.lookup 82 (.map (some m)) (.int .i64 id) true).run Tryz.prog w = .ok (.tuple #[foundV l id, .bool (findE l id).isSome]) w := by
  obtain ⟨k, hk⟩ := findNow_book id l 0 0
  have hf : (Instr.findKey 3 (.int .i64 id) ((l.zipIdx).map entM)).run Tryz.prog w = .ok ((findE l id).map fun y => (k, entryV y)) w := MapKept.run_findKey Tryz.underlying3 hk
  have hc : ∀ e, (Instr.checkKey e 10000 3 (.int .i64 id)).run Tryz.prog w = .ok () w := fun e => MapKept.run_checkKey Tryz.underlying3 (by simp [MapKept.IsKey]) e 9999
  simp only [Instr.lookup, Sem.run_bind, run_underlying Tryz.underlying82, Result.andThen, MapKept.run_getObj_map h, hc, entsM, hf]
  cases hy : findE l id with
  | none => rw [hy] at hf; simp [hc, hf, hy, foundV, zeroValueE, Result.andThen]
  | some y => rw [hy] at hf; simp [hc, hf, hy, foundV]

theorem setBlock_at {w : World} {r : Nat} {o o' : Obj} (h : w.heap[r]? = some o) : (setBlock w r o').heap[r]? = some o' := by
  have hlt : r < w.heap.size := (Array.getElem?_eq_some_iff.1 h).1
  simp [setBlock, hlt]
theorem setBlock_grown (w : World) (r : Nat) (o : Obj) : w.grownBy (setBlock w r o) (some r) :=
  ⟨rfl, rfl, rfl, by simp [setBlock], fun k _ hne => by
    have h : r ≠ k := fun e => hne (by rw [e])
    simp [setBlock, Array.getElem?_setIfInBounds_ne h]⟩
theorem entsM_push (l : List EntryR) (x : EntryR) : (entsM l).push { key := .int .i64 x.d.id, val := entryV x, born := l.length } = entsM (l ++ [x]) := by
  simp [entsM, List.zipIdx_append, entM]
theorem run_update_book {w : World} {m : Nat} {l : List EntryR} (h : BookAt w m l) (x : EntryR) (hn : findE l x.d.id = none) :
    (Instr.mapUpdate 82 (.map (some m)) (.int .i64 x.d.id) (entryV x)).run Tryz.prog w = .ok () (setBlock w m (.map (entsM (l ++ [x])) (l.length + 1))) := by
  obtain ⟨k, hk⟩ := findNow_book x.d.id l 0 0
  have hf : (Instr.findKey 3 (.int .i64 x.d.id) ((l.zipIdx).map entM)).run Tryz.prog w = .ok ((findE l x.d.id).map fun y => (k, entryV y)) w := MapKept.run_findKey Tryz.underlying3 hk
  have hc : ∀ e, (Instr.checkKey e 10000 3 (.int .i64 x.d.id)).run Tryz.prog w = .ok () w := fun e => MapKept.run_checkKey Tryz.underlying3 (by simp [MapKept.IsKey]) e 9999
  rw [hn] at hf
  have hs : ∀ o, (setObj m o).run Tryz.prog w = .ok () (setBlock w m o) := fun o => MapKept.run_setObj_map o h
  have hp := entsM_push l x
  unfold entsM at hp
  simp only [Instr.mapUpdate, Sem.run_bind, run_underlying Tryz.underlying82, Result.andThen, MapKept.run_getObj_map h, hc, entsM, hf, Option.map_none, hs, hp]
theorem BookAt.push {w : World} {m : Nat} {l : List EntryR} (h : BookAt w m l) (x : EntryR) : BookAt (setBlock w m (.map (entsM (l ++ [x])) (l.length + 1))) m (l ++ [x]) := by
  unfold BookAt
  rw [setBlock_at h]
  simp

/-- are two entries alike? (their forms are canons) -/
def alikeC (x y : EntryD) : Bool := (x.sign == y.sign) && ((x.regions == y.regions) && (decide (x.low = y.low ∧ x.high = y.high) && (cmpF x.form y.form == 0)))
def addOk (l : List EntryR) (x : EntryR) : Bool := match findE l x.d.id with
  | some y => alikeC x.d y.d
  | none => true
def addL (l : List EntryR) (x : EntryR) : List EntryR := match findE l x.d.id with
  | some _ => l
  | none => l ++ [x]

set_option maxRecDepth 100000 in
set_option maxHeartbeats 2000000 in
theorem add_new (m : Nat) (l : List EntryR) (x : EntryR) (w : World) (hb : BookAt w m l) (hn : findE l x.d.id = none) :
    Calls Tryz.prog 71 #[.map (some m), entryV x] w fun e w' => e = .returned (.bool true) ∧ BookAt w' m (l ++ [x]) ∧ w.grownBy w' (some m) := by
  have hfv : foundV l x.d.id = .agg zeroE := by simp [foundV, hn]
  have hl := fun W (h : BookAt W m l) => run_lookup_book h x.d.id
  rw [hfv, hn] at hl
  go_enter Tryz.func71, Tryz.ntmps71
  have hlk := hl (w.alloc (.cells (cellsE x) 62)) (hb.grow (Grow.alloc _ _))
  have hup := fun o => run_update_book (hb.grow ((Grow.alloc w (.cells (cellsE x) 62)).trans (Grow.alloc _ o))) x hn
  have HB := Lib.hid hb
  clear hl hb hn hfv
  simp only [Option.isSome_none] at hlk
  go_wp2
  all_goals go_ret
  have hbw := (HB.out.grow ((Grow.alloc w (.cells (cellsE x) 62)).trans (Grow.alloc _ (.cells zeroE 62))))
  refine ⟨rfl, hbw.push x, ?_⟩
  have h1 : Grow w ((w.alloc (.cells (cellsE x) 62)).alloc (.cells zeroE 62)) := (Grow.alloc _ _).trans (Grow.alloc _ _)
  exact ⟨h1.os, h1.tape, h1.output, Nat.le_trans h1.size (setBlock_grown _ m _).size, fun k hk hne => ((setBlock_grown _ m _).block k (Nat.lt_of_lt_of_le hk h1.size) hne).trans (Below.block h1 k hk)⟩

set_option maxRecDepth 100000 in
set_option maxHeartbeats 2000000 in
theorem add_old (m : Nat) (l : List EntryR) (x y : EntryR) (B : Nat) (w : World) (hb : BookAt w m l) (hn : findE l x.d.id = some y) (hx : MovesAt w B x) (hy : MovesAt w B y) (hB : B ≤ w.heap.size) (hxl : x.d.form.moves.length ≤ 6) (hyl : y.d.form.moves.length ≤ 6) :
    Calls Tryz.prog 71 #[.map (some m), entryV x] w fun e w' => e = .returned (.bool (alikeC x.d y.d)) ∧ Below w.heap.size w w' := by
  have hfv : foundV l x.d.id = entryV y := by simp [foundV, hn]
  have hl := fun W (h : BookAt W m l) => run_lookup_book h x.d.id
  rw [hfv, hn] at hl
  have hlk := hl (w.alloc (.cells (cellsE x) 62)) (hb.grow (Grow.alloc _ _))
  have hgw : Grow w ((w.alloc (.cells (cellsE x) 62)).alloc (.cells (cellsE y) 62)) := (Grow.alloc _ _).trans (Grow.alloc _ _)
  have HC := Lib.hid (compareForms_any x.d.form y.d.form x.A y.A x.cap y.cap _ ((hx.1.more hB).below hgw |>.more hgw.size) ((hy.1.more hB).below hgw |>.more hgw.size) (by omega) (by omega))
  have HGW := Lib.hid hgw
  clear hl hb hn hfv hx hy hgw
  simp only [Option.isSome_some] at hlk
  go_enter Tryz.func71, Tryz.ntmps71
  go_wp2_with (first | (go_at_call 52; refine HC.out.mono ?_; rintro e w3 ⟨rfl, hb3⟩; have HB3 := Lib.hid hb3; clear hb3))
  all_goals go_ret
  all_goals refine ⟨ret_bool ?_, ?_⟩
  all_goals first
    | exact HGW.out.trans HB3.out
    | exact HGW.out
    | (simp [alikeC, *]; done)
    | trace_state

end Go.Proofs.YtjpnblflenlnaaaGreat
