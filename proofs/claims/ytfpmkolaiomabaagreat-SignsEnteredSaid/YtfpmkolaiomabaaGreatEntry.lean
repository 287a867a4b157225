/- Entries and books in memory; which are valid. The book as a map by Ids: what a lookup, an update, add do to it. signs.read: the book that a slice of entries stands for, or its first error. The book as a set: what read leaves depends on no order, no repetition, no mirror form. The closures that order entries. Entries that show the same: the program's. -/
import Derived.Test.YtfpmkolaiomabaaGreatValid
import Derived.Test.YtfpmkolaiomabaaGreatCanon
import Derived.Maps.RangeRun
import Derived.Test.YtfpmkolaiomabaaGreatPlain
import Derived.Deep.DeepCutAuto
import Derived.Test.YtfpmkolaiomabaaGreatForms
namespace Go.Proofs.YtfpmkolaiomabaaGreat
open Go.RowKit

structure EntryD where
  id : Int
  sign : Int
  regions : Int
  form : FormD
  low : Int
  high : Int
  deriving DecidableEq
def okEntry (x : EntryD) : Bool :=
  inB x.id 0 99 && (inB x.sign 0 999 && (inB x.regions 1 255 && (decide (0 ≤ x.low) && (decide (x.low ≤ x.high) && (decide (x.high ≤ 120) && okForm x.form)))))
/-- an entry with the place of its moves -/
structure EntryR where
  d : EntryD
  A : Option Addr
  cap : Nat
abbrev cellsE (x : EntryR) : Array Value := #[.int .i64 x.d.id, .int .i64 x.d.sign, .int .i64 x.d.regions, .int .i64 x.d.form.right, .int .i64 x.d.form.left, .int .i64 x.d.form.column, .int .i64 x.d.form.row, .int .i64 x.d.form.face,
  .slice x.A x.d.form.moves.length x.cap, .int .i64 x.d.low, .int .i64 x.d.high]
abbrev entryV (x : EntryR) : Value := .agg (cellsE x)
/-- the moves of an entry lie where it says -/
def MovesAt (w : World) (B : Nat) (x : EntryR) : Prop := Ints w B x.A x.d.form.moves ∧ x.d.form.moves.length ≤ 1000000
theorem MovesAt.below {w w' : World} {B : Nat} {x : EntryR} (h : MovesAt w B x) (hb : Below B w w') : MovesAt w' B x := ⟨h.1.below hb, h.2⟩
theorem MovesAt.more {w : World} {B B' : Nat} {x : EntryR} (h : MovesAt w B x) (hb : B ≤ B') : MovesAt w B' x := ⟨h.1.more hb, h.2⟩
/-- the entries l lie at A, in blocks below B -/
def Ents (w : World) (B : Nat) (A : Option Addr) (l : List EntryR) : Prop :=
  (l = [] ∨ ∃ b off, A = some ⟨b, off, none⟩ ∧ b < B ∧ ∀ i x, l[i]? = some x → ∀ j, j < 11 → w.cell? ⟨b, off + i * 11 + j, none⟩ = (cellsE x)[j]?) ∧ ∀ x, x ∈ l → MovesAt w B x
theorem Ents.below {w w' : World} {B : Nat} {A : Option Addr} {l : List EntryR} (h : Ents w B A l) (hb : Below B w w') : Ents w' B A l := by
  refine ⟨?_, fun x hx => (h.2 x hx).below hb⟩
  rcases h.1 with rfl | ⟨b, off, rfl, hl, hc⟩
  · exact .inl rfl
  · exact .inr ⟨b, off, rfl, hl, fun i x hi j hj => (hb.cell (p := ⟨b, off + i * 11 + j, none⟩) hl).trans (hc i x hi j hj)⟩
theorem Ents.more {w : World} {B B' : Nat} {A : Option Addr} {l : List EntryR} (h : Ents w B A l) (hb : B ≤ B') : Ents w B' A l := by
  refine ⟨?_, fun x hx => (h.2 x hx).more hb⟩
  rcases h.1 with rfl | ⟨b, off, rfl, hl, hc⟩
  · exact .inl rfl
  · exact .inr ⟨b, off, rfl, by omega, hc⟩
theorem Ents.at_ {w : World} {B : Nat} {A : Option Addr} {l : List EntryR} (h : Ents w B A l) {k : Nat} (hk : k < l.length) :
    ∃ b off x, A = some ⟨b, off, none⟩ ∧ b < B ∧ (∀ j, j < 11 → w.cell? ⟨b, off + k * 11 + j, none⟩ = (cellsE x)[j]?) ∧ MovesAt w B x ∧ Hid (l[k]? = some x) := by
  rcases h.1 with rfl | ⟨b, off, rfl, hb, hc⟩
  · simp at hk
  · exact ⟨b, off, l[k], rfl, hb, hc k _ (List.getElem?_eq_getElem hk), h.2 _ (List.getElem_mem hk), List.getElem?_eq_getElem hk⟩

set_option maxHeartbeats 400000 in
theorem validSpan_any (lo hi : Int) (w : World) :
    Calls Tryz.prog 107 #[.agg #[.int .i64 lo, .int .i64 hi]] w fun e w' => e = .returned (.bool (decide (lo ≤ hi))) ∧ Below w.heap.size w w' := by
  go_enter Tryz.func107, Tryz.ntmps107
  go_wp2
  go_ret
  exact ⟨rfl, by (repeat (first | (with_reducible exact Below.refl _ _) | (with_reducible assumption) | (with_reducible refine Below.drewN_ ?_ _) | (with_reducible refine Below.drew ?_) | (with_reducible refine Below.alloc ?_ (by first | omega | (simp <;> omega)) _) | (with_reducible refine Below.setCell ?_ (by first | omega | (simp <;> omega)) _)))⟩

set_option maxRecDepth 100000 in
set_option maxHeartbeats 2000000 in
theorem validEntry_any (x : EntryR) (B : Nat) (w : World) (hm : MovesAt w B x) (hB : B ≤ w.heap.size) :
    Calls Tryz.prog 88 #[entryV x] w fun e w' => e = .returned (.bool (okEntry x.d)) ∧ Below w.heap.size w w' := by
  obtain ⟨⟨id, sign, regions, f, low, high⟩, A, cap⟩ := x
  obtain ⟨hA, hl⟩ := hm
  dsimp only at *
  have HA := Lib.hid (hA.more hB)
  clear hA
  go_enter Tryz.func88, Tryz.ntmps88
  go_wp2_with fail
  obtain ⟨W, hW, hg, hf, hsz⟩ := one_block w 62 (cellsE ⟨⟨id, sign, regions, f, low, high⟩, A, cap⟩)
  rw [hW]
  clear hW
  have hfc := hf.cell
  have HV := Lib.hid (fun w0 (h : Grow W w0) => validForm_any f A cap w.heap.size w0 (HA.out.below (hg.trans h)) hl (hg.trans h).size)
  have HS := Lib.hid (fun w0 (_ : Grow W w0) => validSpan_any low high w0)
  have HF := Lib.hid hf
  have HG := Lib.hid hg
  clear hf hg
  refine (within_any _ _ _ _).mono ?_
  rintro e w' ⟨rfl, rfl⟩
  go_wp2_with (first
    | (go_at_call 81; refine (within_any _ _ _ _).mono ?_; rintro e w' ⟨rfl, rfl⟩)
    | (go_at_call 107; refine (HS.out _ (Grow.refl _)).mono ?_; rintro e w2 ⟨rfl, hb2⟩; have hfc2 := (Grow.block hb2 HF.out).cell; have HB2 : Hid (Grow W w2) := hb2; clear hb2)
    | (go_at_call 49; first
        | (refine (HV.out _ HB2.out).mono ?_; rintro e w3 ⟨rfl, hb3⟩; have HB3 : Hid (Grow W w3) := Grow.trans HB2.out hb3; clear hb3)
        | (refine (HV.out _ (Grow.refl _)).mono ?_; rintro e w3 ⟨rfl, hb3⟩; have HB3 : Hid (Grow W w3) := hb3; clear hb3)))
  all_goals go_ret
  all_goals refine ⟨ret_bool ?_, ?_⟩
  all_goals first
    | exact HG.out.trans HB3.out
    | exact HG.out.trans HB2.out
    | exact HG.out
    | (simp [okEntry, *]; done)
    | (simp [okEntry, inB, *]; done)
    | (simp [okEntry, inB, *] at *; omega)

set_option maxRecDepth 100000 in
set_option maxHeartbeats 2000000 in
theorem indexFuncEntry_any (A : Option Addr) (cap B : Nat) (l : List EntryR) (w : World) (hA : Ents w B A l) (hl : l.length ≤ 1000000) (hB : B ≤ w.heap.size) (c : Value) (q : EntryD → Bool)
    (hp : ∀ x w', x ∈ l → Grow w w' → Calls Tryz.prog 106 #[entryV x, c] w' fun e w'' => e = .returned (.bool (q x.d)) ∧ Below w'.heap.size w' w'') :
    Calls Tryz.prog 127 #[.slice A l.length cap, .func (.func 106) #[] #[c]] w (IndexPostB ((l.map (·.d)).any q) w) := by
  have HP := Lib.hid hp
  clear hp
  go_enter Tryz.func127, Tryz.ntmps127
  go_wp2
  go_loopw [8] (fun i wr => ∃ k : Nat, k ≤ l.length ∧ i = .int .i64 k ∧ ((l.take k).map (·.d)).any q = false ∧ Grow w wr) (fun i _ => l.length - (intOf i).toNat)
  case atStart => exact ⟨0, Nat.zero_le _, rfl, rfl, Grow.refl _⟩
  case round =>
    obtain ⟨k, hk, rfl, hor, hg⟩ := hrel
    by_cases hlt : k < l.length
    · obtain ⟨b, off, x, rfl, hb, hc, hm, HX⟩ := (hA.below (Below.mono hg hB)).at_ hlt
      have HT : Hid (((l.take (k + 1)).map (·.d)).any q = q x.d) := by
        rw [Hid, take_snoc HX.out, List.map_append, List.any_append, hor]; simp
      have HG := Lib.hid hg
      have HM := Lib.hid hm
      have hmem : x ∈ l := List.mem_of_getElem? HX.out
      have hcx := fun j (hj : j < 11) => hc j hj
      have e0 := hc 0 (by omega); have e1 := hc 1 (by omega); have e2 := hc 2 (by omega); have e3 := hc 3 (by omega); have e4 := hc 4 (by omega); have e5 := hc 5 (by omega)
      have e6 := hc 6 (by omega); have e7 := hc 7 (by omega); have e8 := hc 8 (by omega); have e9 := hc 9 (by omega); have e10 := hc 10 (by omega)
      rw [Nat.add_zero] at e0
      clear hA hor hg hm hc hcx
      go_wp2_with fail
      refine (HP.out x wr hmem HG.out).mono ?_
      rintro e w2 ⟨rfl, hb2⟩
      have HG2 := Lib.hid (HG.out.trans hb2)
      clear hb2
      go_wp2
      · go_ret
        refine ⟨k, ?_, rfl, HG2.out⟩
        have : (l.map (·.d)).any q = true := by
          have h1 : ((l.take (k + 1)).map (·.d)).any q = true := by rw [HT.out]; assumption
          rw [List.map_take] at h1
          exact any_of_take q h1
        rw [this]; simp
      · go_roundw
        case rel => exact ⟨k + 1, by omega, by go_num, by rw [HT.out]; assumption, HG2.out⟩
        case measure => simp [intOf]; omega
    · obtain rfl : k = l.length := by omega
      have HO := Lib.hid hor
      clear hor hA
      go_wp2
      go_ret
      exact ⟨-1, by have := HO.out; rw [List.take_length] at this; rw [this]; rfl, rfl, hg⟩

set_option maxHeartbeats 400000 in
theorem containsFuncEntry_any (A : Option Addr) (cap B : Nat) (l : List EntryR) (w : World) (hA : Ents w B A l) (hl : l.length ≤ 1000000) (hB : B ≤ w.heap.size) (c : Value) (q : EntryD → Bool)
    (hp : ∀ x w', x ∈ l → Grow w w' → Calls Tryz.prog 106 #[entryV x, c] w' fun e w'' => e = .returned (.bool (q x.d)) ∧ Below w'.heap.size w' w'') :
    Calls Tryz.prog 105 #[.slice A l.length cap, .func (.func 106) #[] #[c]] w fun e w' => e = .returned (.bool ((l.map (·.d)).any q)) ∧ Below w.heap.size w w' := by
  have HI := Lib.hid (indexFuncEntry_any A cap B l w hA hl hB c q hp)
  clear hp hA
  go_enter Tryz.func105, Tryz.ntmps105
  go_wp2_with fail
  refine HI.out.mono ?_
  rintro e w' ⟨n, hn, rfl, hb⟩
  have HN := Lib.hid hn
  have HB := Lib.hid hb
  clear hn hb
  go_wp2
  go_ret
  exact ⟨ret_bool HN.out, HB.out⟩

set_option maxHeartbeats 400000 in
theorem allOfEntry1_any (x : EntryR) (b : Nat) (g : Nat) (q : EntryD → Bool) (w : World) (hc : w.cell? ⟨b, 0, none⟩ = some (.func (.func g) #[] #[]))
    (eg : ∀ args w, (callFunc g args).run Tryz.prog w = .ok (.enter g args) w)
    (hq : ∀ w', Grow w w' → Calls Tryz.prog g #[entryV x] w' fun e w'' => e = .returned (.bool (q x.d)) ∧ Below w'.heap.size w' w'') :
    Calls Tryz.prog 106 #[entryV x, .pointer (some ⟨b, 0, none⟩)] w fun e w' => e = .returned (.bool (!q x.d)) ∧ Below w.heap.size w w' := by
  have HQ := Lib.hid hq
  have hca : ∀ o, (w.alloc o).cell? ⟨b, 0, none⟩ = some (.func (.func g) #[] #[]) := fun o => (Grow.alloc w o).cell hc
  clear hq hc
  go_enter Tryz.func106, Tryz.ntmps106
  go_wp2_with (first | (refine (HQ.out _ (Grow.alloc _ _)).mono ?_; rintro e w' ⟨rfl, hb⟩; have HB := Lib.hid hb; clear hb))
  go_ret
  exact ⟨rfl, (Grow.alloc w _).trans HB.out⟩

set_option maxHeartbeats 400000 in
theorem allOfEntry_any (A : Option Addr) (cap B : Nat) (l : List EntryR) (m : Int) (w : World) (hA : Ents w B A l) (hl : l.length ≤ 1000000) (hB : B ≤ w.heap.size) (g : Nat) (q : EntryD → Bool)
    (eg : ∀ args w, (callFunc g args).run Tryz.prog w = .ok (.enter g args) w)
    (hq : ∀ x w', x ∈ l → Grow w w' → Calls Tryz.prog g #[entryV x] w' fun e w'' => e = .returned (.bool (q x.d)) ∧ Below w'.heap.size w' w'') :
    Calls Tryz.prog 87 #[.slice A l.length cap, .int .i64 m, .func (.func g) #[] #[]] w fun e w' => e = .returned (.bool (decide ((l.length : Int) ≤ m) && (l.map (·.d)).all q)) ∧ Below w.heap.size w w' := by
  have hg : Grow w (w.alloc (.cells #[.func (.func g) #[] #[]] 98)) := Grow.alloc _ _
  have hcell : (w.alloc (.cells #[.func (.func g) #[] #[]] 98)).cell? ⟨w.heap.size, 0, none⟩ = some (.func (.func g) #[] #[]) := by simp
  have hC := containsFuncEntry_any A cap w.heap.size l _ ((hA.more hB).below hg) hl hg.size (.pointer (some ⟨w.heap.size, 0, none⟩)) (fun x => !q x)
    (fun x w' hx hw => allOfEntry1_any x w.heap.size g q w' (hw.cell hcell) eg (fun w'' hw' => hq x w'' hx (hg.trans (hw.trans hw'))))
  have HC := Lib.hid hC
  have HGG := Lib.hid hg
  clear hC hA hq hg hcell
  go_enter Tryz.func87, Tryz.ntmps87
  go_wp2_with (first | (go_at_call 105; refine HC.out.mono ?_; rintro e w' ⟨rfl, hb⟩; have HB := Lib.hid hb; clear hb))
  all_goals go_ret
  · refine ⟨ret_bool ?_, HGG.out.trans HB.out⟩
    simp [List.not_any_eq_all_not, *]
    rfl
  · refine ⟨ret_bool ?_, HGG.out⟩
    have h : decide ((l.length : Int) ≤ m) = false := by simp; omega
    rw [h]; rfl

end Go.Proofs.YtfpmkolaiomabaaGreat

namespace Go.Proofs.YtfpmkolaiomabaaGreat
open Go.RowKit
open Go.ChangeMaps (setBlock)

def entM (p : EntryR × Nat) : MapEntry := { key := .int .i64 p.1.d.id, val := entryV p.1, born := p.2 }
def entsM (l : List EntryR) : Array MapEntry := (l.zipIdx.map entM).toArray
/-- block m is a map by Ids that holds just the entries l, in the order in which they came -/
def BookAt (w : World) (m : Nat) (l : List EntryR) : Prop := w.heap[m]? = some (.map (entsM l) l.length)
theorem BookAt.lt {w : World} {m : Nat} {l : List EntryR} (h : BookAt w m l) : m < w.heap.size := by
  rcases Nat.lt_or_ge m w.heap.size with hlt | hge
  · exact hlt
  · unfold BookAt at h; rw [Array.getElem?_eq_none hge] at h; cases h
theorem BookAt.grow {w w' : World} {m : Nat} {l : List EntryR} (h : BookAt w m l) (g : Grow w w') : BookAt w' m l := (Below.block g m h.lt).trans h
theorem BookAt.setCell {w : World} {m : Nat} {l : List EntryR} (h : BookAt w m l) {p : Addr} (hp : m ≠ p.block) (u : Value) : BookAt (w.setCell p u) m l := (Below.heap_setCell w p u m hp).trans h

def findE (l : List EntryR) (id : Int) : Option EntryR := l.find? fun y => y.d.id == id
theorem findNow_book (id : Int) : ∀ (l : List EntryR) (s i : Nat), ∃ k, Instr.findNow (.int .i64) (.int .i64 id) ((l.zipIdx s).map entM) i = some ((findE l id).map fun y => (k, entryV y))
  | [], s, i => ⟨0, rfl⟩
  | y :: l, s, i => by
    simp only [List.zipIdx_cons, List.map_cons, Instr.findNow, entM, Instr.sameNow, if_true, findE, List.find?_cons]
    by_cases h : y.d.id = id
    · subst h
      exact ⟨i, by simp⟩
    · have h1 : (id == y.d.id) = false := by simp; omega
      have h2 : (y.d.id == id) = false := by simp; omega
      obtain ⟨k, hk⟩ := findNow_book id l (s + 1) (i + 1)
      exact ⟨k, by rw [h1, h2]; exact hk⟩

abbrev zeroE : Array Value := #[.int .i64 0, .int .i64 0, .int .i64 0, .int .i64 0, .int .i64 0, .int .i64 0, .int .i64 0, .int .i64 0, .slice none 0 0, .int .i64 0, .int .i64 0]
theorem zeroValueE (w : World) : (zeroValue 62).run Tryz.prog w = .ok (.agg zeroE) w := by kernel_rfl

def foundV (l : List EntryR) (id : Int) : Value := match findE l id with
  | some y => entryV y
  | none => .agg zeroE
theorem run_lookup_book {w : World} {m : Nat} {l : List EntryR} (h : BookAt w m l) (id : Int) :
    (Instr.lookup 82 (.map (some m)) (.int .i64 id) true).run Tryz.prog w = .ok (.tuple #[foundV l id, .bool (findE l id).isSome]) w := by
  obtain ⟨k, hk⟩ := findNow_book id l 0 0
  have hf : (Instr.findKey 3 (.int .i64 id) ((l.zipIdx).map entM)).run Tryz.prog w = .ok ((findE l id).map fun y => (k, entryV y)) w := MapKept.run_findKey Tryz.underlying3 hk
  have hc : ∀ e, (Instr.checkKey e 10000 3 (.int .i64 id)).run Tryz.prog w = .ok () w := fun e => MapKept.run_checkKey Tryz.underlying3 (by simp [MapKept.IsKey]) e 9999
  simp only [Instr.lookup, Sem.run_bind, run_underlying Tryz.underlying82, Result.andThen, MapKept.run_getObj_map h, entsM]
  cases hy : findE l id with
  | none => rw [hy] at hf; simp [hc, hf, hy, foundV, Result.andThen]
  | some y => rw [hy] at hf; simp [hc, hf, hy, foundV]

theorem setBlock_at {w : World} {r : Nat} {o o' : Obj} (h : w.heap[r]? = some o) : (setBlock w r o').heap[r]? = some o' := by
  have hlt : r < w.heap.size := (Array.getElem?_eq_some_iff.1 h).1
  simp [setBlock, hlt]
theorem setBlock_grown (w : World) (r : Nat) (o : Obj) : w.grownBy (setBlock w r o) (some r) :=
  ⟨rfl, rfl, rfl, by simp [setBlock], fun k _ hne => by
    have h : r ≠ k := fun e => hne (by rw [e])
    simp [setBlock, Array.getElem?_setIfInBounds_ne h]⟩
theorem entsM_push (l : List EntryR) (x : EntryR) : (entsM l).push { key := .int .i64 x.d.id, val := entryV x, born := l.length } = entsM (l ++ [x]) := by
  simp [entsM, List.zipIdx_append, entM]
theorem run_update_book {w : World} {m : Nat} {l : List EntryR} (h : BookAt w m l) (x : EntryR) (hn : findE l x.d.id = none) :
    (Instr.mapUpdate 82 (.map (some m)) (.int .i64 x.d.id) (entryV x)).run Tryz.prog w = .ok () (setBlock w m (.map (entsM (l ++ [x])) (l.length + 1))) := by
  obtain ⟨k, hk⟩ := findNow_book x.d.id l 0 0
  have hf : (Instr.findKey 3 (.int .i64 x.d.id) ((l.zipIdx).map entM)).run Tryz.prog w = .ok ((findE l x.d.id).map fun y => (k, entryV y)) w := MapKept.run_findKey Tryz.underlying3 hk
  have hc : ∀ e, (Instr.checkKey e 10000 3 (.int .i64 x.d.id)).run Tryz.prog w = .ok () w := fun e => MapKept.run_checkKey Tryz.underlying3 (by simp [MapKept.IsKey]) e 9999
  rw [hn] at hf
  have hs : ∀ o, (setObj m o).run Tryz.prog w = .ok () (setBlock w m o) := fun o => MapKept.run_setObj_map o h
  have hp := entsM_push l x
  unfold entsM at hp
  simp only [Instr.mapUpdate, Sem.run_bind, run_underlying Tryz.underlying82, Result.andThen, MapKept.run_getObj_map h, hc, entsM, hf, Option.map_none, hs, hp]
theorem BookAt.push {w : World} {m : Nat} {l : List EntryR} (h : BookAt w m l) (x : EntryR) : BookAt (setBlock w m (.map (entsM (l ++ [x])) (l.length + 1))) m (l ++ [x]) := by
  unfold BookAt
  rw [setBlock_at h]
  simp

/-- are two entries alike? (their forms are canons) -/
def alikeC (x y : EntryD) : Bool := (x.sign == y.sign) && ((x.regions == y.regions) && (decide (x.low = y.low ∧ x.high = y.high) && (cmpF x.form y.form == 0)))
def addOk (l : List EntryR) (x : EntryR) : Bool := match findE l x.d.id with
  | some y => alikeC x.d y.d
  | none => true
def addL (l : List EntryR) (x : EntryR) : List EntryR := match findE l x.d.id with
  | some _ => l
  | none => l ++ [x]

set_option maxRecDepth 100000 in
set_option maxHeartbeats 2000000 in
theorem add_new (m : Nat) (l : List EntryR) (x : EntryR) (w : World) (hb : BookAt w m l) (hn : findE l x.d.id = none) :
    Calls Tryz.prog 71 #[.map (some m), entryV x] w fun e w' => e = .returned (.bool true) ∧ BookAt w' m (l ++ [x]) ∧ w.grownBy w' (some m) := by
  have hfv : foundV l x.d.id = .agg zeroE := by simp [foundV, hn]
  have hl := fun W (h : BookAt W m l) => run_lookup_book h x.d.id
  rw [hfv, hn] at hl
  go_enter Tryz.func71, Tryz.ntmps71
  have hlk := hl (w.alloc (.cells (cellsE x) 62)) (hb.grow (Grow.alloc _ _))
  have hup := fun o => run_update_book (hb.grow ((Grow.alloc w (.cells (cellsE x) 62)).trans (Grow.alloc _ o))) x hn
  have HB := Lib.hid hb
  clear hl hb hn hfv
  simp only [Option.isSome_none] at hlk
  go_wp2
  all_goals go_ret
  have hbw := (HB.out.grow ((Grow.alloc w (.cells (cellsE x) 62)).trans (Grow.alloc _ (.cells zeroE 62))))
  refine ⟨rfl, hbw.push x, ?_⟩
  have h1 : Grow w ((w.alloc (.cells (cellsE x) 62)).alloc (.cells zeroE 62)) := (Grow.alloc _ _).trans (Grow.alloc _ _)
  exact ⟨h1.os, h1.tape, h1.output, Nat.le_trans h1.size (setBlock_grown _ m _).size, fun k hk hne => ((setBlock_grown _ m _).block k (Nat.lt_of_lt_of_le hk h1.size) hne).trans (Below.block h1 k hk)⟩

set_option maxRecDepth 100000 in
set_option maxHeartbeats 2000000 in
theorem add_old (m : Nat) (l : List EntryR) (x y : EntryR) (B : Nat) (w : World) (hb : BookAt w m l) (hn : findE l x.d.id = some y) (hx : MovesAt w B x) (hy : MovesAt w B y) (hB : B ≤ w.heap.size) (hxl : x.d.form.moves.length ≤ 6) (hyl : y.d.form.moves.length ≤ 6) :
    Calls Tryz.prog 71 #[.map (some m), entryV x] w fun e w' => e = .returned (.bool (alikeC x.d y.d)) ∧ Below w.heap.size w w' := by
  have hfv : foundV l x.d.id = entryV y := by simp [foundV, hn]
  have hl := fun W (h : BookAt W m l) => run_lookup_book h x.d.id
  rw [hfv, hn] at hl
  have hlk := hl (w.alloc (.cells (cellsE x) 62)) (hb.grow (Grow.alloc _ _))
  have hgw : Grow w ((w.alloc (.cells (cellsE x) 62)).alloc (.cells (cellsE y) 62)) := (Grow.alloc _ _).trans (Grow.alloc _ _)
  have HC := Lib.hid (compareForms_any x.d.form y.d.form x.A y.A x.cap y.cap _ ((hx.1.more hB).below hgw |>.more hgw.size) ((hy.1.more hB).below hgw |>.more hgw.size) (by omega) (by omega))
  have HGW := Lib.hid hgw
  clear hl hb hn hfv hx hy hgw
  simp only [Option.isSome_some] at hlk
  go_enter Tryz.func71, Tryz.ntmps71
  go_wp2_with (first | (go_at_call 52; refine HC.out.mono ?_; rintro e w3 ⟨rfl, hb3⟩; have HB3 := Lib.hid hb3; clear hb3))
  all_goals go_ret
  all_goals refine ⟨ret_bool ?_, ?_⟩
  all_goals first
    | exact HGW.out.trans HB3.out
    | exact HGW.out
    | (simp [alikeC, *]; done)
    | trace_state

end Go.Proofs.YtfpmkolaiomabaaGreat

namespace Go.Proofs.YtfpmkolaiomabaaGreat
open Go.RowKit
open Go.ChangeMaps (setBlock)

def canonE (x : EntryD) : EntryD := { x with form := canonD x.form }
/-- one more entry, a canon already -/
def addD (b : List EntryD) (x : EntryD) : Option (List EntryD) := match b.find? fun y => y.id == x.id with
  | some y => if alikeC x y = true then some b else none
  | none => some (b ++ [x])
def readD : List EntryD → List EntryD → Option (List EntryD)
  | b, [] => some b
  | b, x :: l => match addD b (canonE x) with
    | some b' => readD b' l
    | none => none
/-- the first error of a book: 0 if there is none -/
def bookErr (l : List EntryD) : Int := if (decide (l.length ≤ 40) && l.all okEntry) = true then (if (readD [] l).isSome = true then 0 else 12) else 11
theorem readD_append (b : List EntryD) (l l' : List EntryD) : readD b (l ++ l') = match readD b l with
    | some b' => readD b' l'
    | none => none := by
  induction l generalizing b with
  | nil => rfl
  | cons x l ih =>
    simp only [List.cons_append, readD]
    cases addD b (canonE x) with
    | none => rfl
    | some b' => exact ih b'
theorem readD_snoc {b b' : List EntryD} {l : List EntryD} (h : readD b l = some b') (x : EntryD) : readD b (l ++ [x]) = addD b' (canonE x) := by
  rw [readD_append, h]
  simp only [readD]
  cases addD b' (canonE x) <;> rfl
theorem readD_none {b : List EntryD} {l : List EntryD} {k : Nat} (h : readD b (l.take k) = none) : readD b l = none := by
  have := readD_append b (l.take k) (l.drop k)
  rw [List.take_append_drop, h] at this
  exact this
theorem findE_map (l : List EntryR) (id : Int) : (l.map (·.d)).find? (fun y => y.id == id) = (findE l id).map (·.d) := by
  unfold findE
  rw [List.find?_map]
  rfl

/-- all the moves of a book's entries lie where they say, and are few -/
def MovesAll (w : World) (bk : List EntryR) : Prop := ∀ x, x ∈ bk → MovesAt w w.heap.size x ∧ x.d.form.moves.length ≤ 6
theorem MovesAt.grow {w w' : World} {x : EntryR} (h : MovesAt w w.heap.size x) (g : Grow w w') : MovesAt w' w'.heap.size x := (h.below g).more g.size
theorem MovesAll.grow {w w' : World} {bk : List EntryR} (h : MovesAll w bk) (g : Grow w w') : MovesAll w' bk := fun x hx => ⟨(h x hx).1.grow g, (h x hx).2⟩
theorem Ints.pastBook {w w' : World} {B m : Nat} {bk : List EntryR} {A : Option Addr} {xs : List Int} (h : Ints w B A xs) (hb : BookAt w m bk) (hg : w.grownBy w' (some m)) (hB : B ≤ w.heap.size) : Ints w' B A xs := by
  rcases h with rfl | ⟨b, off, rfl, hl, hc⟩
  · exact .inl rfl
  · refine .inr ⟨b, off, rfl, hl, fun j x hj => ?_⟩
    have h0 := hc j x hj
    have hne : b ≠ m := fun e => by
      subst e
      unfold BookAt at hb
      simp [World.cell?, hb] at h0
    exact (World.cell?_of_block (w := w) (a := ⟨b, off + j, none⟩) (hg.block b (by omega) (by simpa using hne))).trans h0
theorem MovesAll.pastBook {w w' : World} {m : Nat} {bk bk' : List EntryR} (h : MovesAll w bk') (hb : BookAt w m bk) (hg : w.grownBy w' (some m)) : MovesAll w' bk' :=
  fun x hx => ⟨⟨((h x hx).1.1.pastBook hb hg (Nat.le_refl _)).more hg.size, (h x hx).1.2⟩, (h x hx).2⟩

/-- the list xs at A lies in blocks from lo on -/
def FarA (lo : Nat) (A : Option Addr) (xs : List Int) : Prop := xs = [] ∨ ∃ b off, A = some ⟨b, off, none⟩ ∧ lo ≤ b
theorem IntsF.far {w : World} {lo lo' : Nat} {A : Option Addr} {xs : List Int} (h : IntsF w lo A xs) (hl : lo' ≤ lo) : FarA lo' A xs := by
  rcases h with h | ⟨b, off, h, h1, _⟩
  · exact .inl h
  · exact .inr ⟨b, off, h, Nat.le_trans hl h1⟩
def FarAll (lo : Nat) (bk : List EntryR) : Prop := ∀ x, x ∈ bk → FarA lo x.A x.d.form.moves
theorem FarAll.mono {lo lo' : Nat} {bk : List EntryR} (h : FarAll lo bk) (hl : lo' ≤ lo) : FarAll lo' bk := fun x hx => by
  rcases h x hx with h | ⟨b, off, h, h1⟩
  · exact .inl h
  · exact .inr ⟨b, off, h, Nat.le_trans hl h1⟩
theorem Ints.farCell {w : World} {B lo : Nat} {A : Option Addr} {xs : List Int} (h : Ints w B A xs) (hf : FarA lo A xs) {p : Addr} (hp : p.block < lo) (u : Value) : Ints (w.setCell p u) B A xs := by
  rcases h with h | ⟨b, off, rfl, hl, hc⟩
  · exact .inl h
  · rcases hf with h | ⟨b', off', he, h1⟩
    · exact .inl h
    · have : b' = b := by injection he with he; injection he with e1 _ _; exact e1.symm
      subst this
      refine .inr ⟨b', off, rfl, hl, fun j x hj => ?_⟩
      rw [World.cell?_setCell_other w p ⟨b', off + j, none⟩ u (fun e => by subst e; simp at hp; omega)]
      exact hc j x hj
theorem MovesAll.farCell {w : World} {lo : Nat} {bk : List EntryR} (h : MovesAll w bk) (hf : FarAll lo bk) {p : Addr} (hp : p.block < lo) (u : Value) : MovesAll (w.setCell p u) bk := fun x hx => by
  obtain ⟨⟨h1, h2⟩, h3⟩ := h x hx
  refine ⟨⟨(h1.farCell (hf x hx) hp u).more (by simp [World.setCell]), h2⟩, h3⟩

/-- what read leaves -/
def ReadPost (l : List EntryD) (w : World) (e : Ending) (w' : World) : Prop :=
  Below w.heap.size w w' ∧ ((bookErr l ≠ 0 ∧ e = .returned (.tuple #[.map none, .int .i64 (bookErr l)])) ∨
    (bookErr l = 0 ∧ ∃ m bk, e = .returned (.tuple #[.map (some m), .int .i64 0]) ∧ w.heap.size ≤ m ∧ BookAt w' m bk ∧ MovesAll w' bk ∧ FarAll w.heap.size bk ∧ readD [] l = some (bk.map (·.d))))

set_option maxRecDepth 100000 in
set_option maxHeartbeats 2000000 in
theorem read_any (A : Option Addr) (cap B : Nat) (l : List EntryR) (w : World) (hA : Ents w B A l) (hl : l.length ≤ 1000000) (hB : B ≤ w.heap.size) :
    Calls Tryz.prog 55 #[.slice A l.length cap] w (ReadPost (l.map (·.d)) w) := by
  have hAm := hA.more hB
  have HV := Lib.hid (allOfEntry_any A cap w.heap.size l 40 w hAm hl (Nat.le_refl _) 88 okEntry (fun _ _ => by kernel_rfl) (fun x w' hx hw => validEntry_any x w.heap.size w' ((hAm.2 x hx).below hw) hw.size))
  have HA := Lib.hid hAm
  clear hA hAm hB
  have hmm := @run_makeMap Tryz.prog
  go_enter Tryz.func55, Tryz.ntmps55
  go_wp2_with fail
  refine HV.out.mono ?_
  rintro e w1 ⟨rfl, hb1⟩
  cases hok : (decide ((l.length : Int) ≤ 40) && (l.map (·.d)).all okEntry) with
  | false =>
    have HOK := Lib.hid hok
    have HB1 := Lib.hid hb1
    clear hok hb1 hmm
    go_wp2
    go_ret2
    have he : bookErr (l.map (·.d)) = 11 := by
      have := HOK.out
      unfold bookErr
      rw [if_neg]
      rw [List.length_map]
      intro h
      rw [Bool.and_eq_true] at h
      rw [h.2] at this
      simp at this h
      omega
    exact ⟨HB1.out, .inl ⟨by rw [he]; decide, by rw [he]; rfl⟩⟩
  | true =>
    have HOK := Lib.hid hok
    have HB1 : Hid (Grow w w1) := hb1
    clear hok hb1
    go_wp2
    obtain ⟨W, hW, hgW, hbk, hsz⟩ : ∃ W, w1.alloc (.map #[] 0) = W ∧ Grow w1 W ∧ BookAt W w1.heap.size [] ∧ w1.heap.size < W.heap.size := ⟨_, rfl, Grow.alloc _ _, heap_alloc_new _ _, by simp⟩
    rw [hW]
    have hgm : Grow w W := HB1.out.trans hgW
    have hwm : w.heap.size ≤ w1.heap.size := HB1.out.size
    clear hW hmm hgW
    generalize w1.heap.size = m at *
    go_loopw [13] (fun i wr => ∃ (k : Nat) (bk : List EntryR), k ≤ l.length ∧ i = .int .i64 k ∧ readD [] ((l.map (·.d)).take k) = some (bk.map (·.d)) ∧ BookAt wr m bk ∧ MovesAll wr bk ∧ FarAll w.heap.size bk ∧ Below w.heap.size w wr) (fun i _ => l.length - (intOf i).toNat)
    case atStart => exact ⟨0, [], Nat.zero_le _, rfl, rfl, hbk, fun _ h => (by cases h), fun _ h => (by cases h), hgm⟩
    case round =>
      obtain ⟨k, bk, hk, rfl, hrd, hbk, hmv, hfar, hbw⟩ := hrel
      have HFAR := Lib.hid hfar
      clear hfar
      by_cases hlt : k < l.length
      · obtain ⟨b, off, x, rfl, hb, hc, hm, HX⟩ := (HA.out.below hbw).at_ hlt
        have e0 := hc 0 (by omega); have e1 := hc 1 (by omega); have e2 := hc 2 (by omega); have e3 := hc 3 (by omega); have e4 := hc 4 (by omega); have e5 := hc 5 (by omega)
        have e6 := hc 6 (by omega); have e7 := hc 7 (by omega); have e8 := hc 8 (by omega); have e9 := hc 9 (by omega); have e10 := hc 10 (by omega)
        rw [Nat.add_zero] at e0
        have hokx : okEntry x.d = true := by
          have h := HOK.out
          rw [Bool.and_eq_true, List.all_eq_true] at h
          exact h.2 _ (List.mem_map.2 ⟨x, List.mem_of_getElem? HX.out, rfl⟩)
        have hokf : okForm x.d.form = true := by
          simp only [okEntry, Bool.and_eq_true] at hokx
          exact hokx.2.2.2.2.2.2
        have HRD := Lib.hid hrd
        have HBK := Lib.hid hbk
        have HMV := Lib.hid hmv
        have HM := Lib.hid hm
        have HOKF := Lib.hid hokf
        have HBW := Lib.hid hbw
        clear hc hm hokx hrd hbk hmv hokf hbw hgm
        go_wp2_with fail
        obtain ⟨W2, hW2, hg2, hx2, hsz2⟩ := one_block wr 62 (cellsE x)
        rw [hW2]
        clear hW2 e0 e1 e2 e3 e4 e5 e6 e7 e8 e9 e10
        have hmx := (HM.out.more HBW.out.size).grow hg2
        refine (canon_any x.d.form x.A x.cap W2.heap.size W2 hmx.1 (Nat.le_refl _) HOKF.out).mono ?_
        rintro e w3 ⟨A3, cap3, rfl, hi3, hb3⟩
        have hx3 := hx2.below hb3 hsz2
        have hxc := hx3.cell
        have hxf := hx3.frozen
        have HI3 := Lib.hid hi3
        have HG3 : Hid (Grow wr w3) := hg2.trans hb3
        have HX3 := Lib.hid hx3
        have HZ2 := Lib.hid hsz2
        clear hi3 hb3 hg2 hx2 hmx hx3
        go_wp2_with fail
        obtain ⟨w4, hw4, hg4, hi4⟩ : ∃ w4, ((((((w3.setCell ⟨wr.heap.size, 3, none⟩ (.int .i64 (canonD x.d.form).right)).setCell ⟨wr.heap.size, 4, none⟩ (.int .i64 (canonD x.d.form).left)).setCell
            ⟨wr.heap.size, 5, none⟩ (.int .i64 (canonD x.d.form).column)).setCell ⟨wr.heap.size, 6, none⟩ (.int .i64 (canonD x.d.form).row)).setCell ⟨wr.heap.size, 7, none⟩ (.int .i64 (canonD x.d.form).face)).setCell
            ⟨wr.heap.size, 8, none⟩ (.slice A3 (canonD x.d.form).moves.length cap3)) = w4 ∧ Grow wr w4 ∧ IntsF w4 W2.heap.size A3 (canonD x.d.form).moves := by
          have hz := HZ2.out
          exact ⟨_, rfl, (((((((HG3.out.setC (by simp) _).setC (by simp) _).setC (by simp) _).setC (by simp) _).setC (by simp) _).setC (by simp) _)),
            ((((((HI3.out.setCell (by simp; omega) _).setCell (by simp; omega) _).setCell (by simp; omega) _).setCell (by simp; omega) _).setCell (by simp; omega) _).setCell (by simp; omega) _)⟩
        rw [hw4]
        clear hw4 hxc hxf
        obtain ⟨x', hx'⟩ : ∃ x' : EntryR, x' = ⟨canonE x.d, A3, cap3⟩ := ⟨_, rfl⟩
        have hxd : x'.d = canonE x.d := by rw [hx']
        have hlen6 : x'.d.form.moves.length ≤ 6 := by rw [hx']; exact okForm_len (okForm_canon HOKF.out)
        have hmx' : MovesAt w4 w4.heap.size x' := by rw [hx']; exact ⟨hi4.ints, by have := okForm_len (okForm_canon HOKF.out); simp [canonE]; omega⟩
        have hfx' : FarA w.heap.size x'.A x'.d.form.moves := by rw [hx']; exact hi4.far (by have := HBW.out.size; have := HZ2.out; omega)
        have hbk4 := HBK.out.grow hg4
        have hmv4 := HMV.out.grow hg4
        have hb4 : Below w.heap.size w w4 := HBW.out.trans (Below.mono (show Below wr.heap.size wr w4 from hg4) HBW.out.size)
        have hread : readD [] ((l.map (·.d)).take (k + 1)) = addD (bk.map (·.d)) x'.d := by
          have : (l.map (·.d))[k]? = some x.d := by rw [List.getElem?_map, HX.out]; rfl
          rw [take_snoc this, hxd]
          exact readD_snoc HRD.out x.d
        have hargs : (#[Value.map (some m), Value.agg #[.int .i64 x.d.id, .int .i64 x.d.sign, .int .i64 x.d.regions, .int .i64 (canonD x.d.form).right, .int .i64 (canonD x.d.form).left, .int .i64 (canonD x.d.form).column,
            .int .i64 (canonD x.d.form).row, .int .i64 (canonD x.d.form).face, .slice A3 (canonD x.d.form).moves.length cap3, .int .i64 x.d.low, .int .i64 x.d.high]] : Array Value) = #[.map (some m), entryV x'] := by rw [hx']; rfl
        rw [hargs]
        clear hargs
        unfold addD at hread
        rw [findE_map] at hread
        cases hfe : findE bk x'.d.id with
        | none =>
          rw [hfe] at hread
          have HR := Lib.hid hread
          refine (add_new m bk x' w4 hbk4 hfe).mono ?_
          rintro e w5 ⟨rfl, hbk5, hg5⟩
          have hmv5 : MovesAll w5 (bk ++ [x']) := (MovesAll.pastBook (bk' := bk ++ [x']) (fun y hy => by
            rcases List.mem_append.1 hy with h | h
            · exact hmv4 y h
            · have : y = x' := by simpa using h
              subst this
              exact ⟨hmx', hlen6⟩) hbk4 hg5)
          have hb5 : Below w.heap.size w w5 := hb4.grown hg5 hb4.size (fun q hq => by injection hq with hq; omega)
          have HBK5 := Lib.hid hbk5
          have HMV5 := Lib.hid hmv5
          have HB5 := Lib.hid hb5
          have HF5 : Hid (FarAll w.heap.size (bk ++ [x'])) := fun y hy => by
            rcases List.mem_append.1 hy with h | h
            · exact HFAR.out y h
            · have : y = x' := by simpa using h
              rw [this]
              exact hfx'
          clear hread hfe hbk5 hmv5 hb5 hg5 hbk4 hmv4 hb4 hmx' hlen6 hxd hx' hi4 hg4 hfx'
          go_wp2
          go_roundw
          case rel => exact ⟨k + 1, bk ++ [x'], by omega, by go_num, by rw [HR.out]; simp, HBK5.out, HMV5.out, HF5.out, HB5.out⟩
          case measure => simp [intOf]; omega
        | some y =>
          rw [hfe] at hread
          have hmem : y ∈ bk := List.mem_of_find?_eq_some hfe
          have HR := Lib.hid hread
          refine (add_old m bk x' y w4.heap.size w4 hbk4 hfe hmx' (hmv4 y hmem).1 (Nat.le_refl _) hlen6 (hmv4 y hmem).2).mono ?_
          rintro e w5 ⟨rfl, hb5⟩
          have HBK5 := Lib.hid (hbk4.grow hb5)
          have HMV5 := Lib.hid (hmv4.grow hb5)
          have HB5 := Lib.hid (hb4.trans (Below.mono hb5 hb4.size))
          clear hread hfe hb5 hbk4 hmv4 hb4 hmx' hlen6 hxd hx' hi4 hg4 hmem hfx'
          cases hal : alikeC x'.d y.d with
          | true =>
            have HAL := Lib.hid hal
            go_wp2
            go_roundw
            case rel => exact ⟨k + 1, bk, by omega, by go_num, by rw [HR.out]; simp [HAL.out], HBK5.out, HMV5.out, HFAR.out, HB5.out⟩
            case measure => simp [intOf]; omega
          | false =>
            have HAL := Lib.hid hal
            go_wp2
            go_ret2
            have hn : readD [] (l.map (·.d)) = none := readD_none (k := k + 1) (by rw [HR.out]; simp [HAL.out])
            have he : bookErr (l.map (·.d)) = 12 := by
              unfold bookErr
              rw [if_pos, hn]
              · rfl
              · have := HOK.out
                rw [Bool.and_eq_true] at this ⊢
                exact ⟨by have h := this.1; simp at h ⊢; omega, this.2⟩
            exact ⟨HB5.out, .inl ⟨by rw [he]; decide, by rw [he]; rfl⟩⟩
      · obtain rfl : k = l.length := by omega
        have HRD := Lib.hid hrd
        have HBK := Lib.hid hbk
        have HMV := Lib.hid hmv
        have HBW := Lib.hid hbw
        clear hrd hbk hmv hbw
        go_wp2
        go_ret2
        have hrd := HRD.out
        rw [List.take_of_length_le (by simp)] at hrd
        have he : bookErr (l.map (·.d)) = 0 := by
          unfold bookErr
          rw [if_pos, hrd]
          · rfl
          · have := HOK.out
            rw [Bool.and_eq_true] at this ⊢
            exact ⟨by have h := this.1; simp at h ⊢; omega, this.2⟩
        exact ⟨HBW.out, .inr ⟨he, m, bk, rfl, hwm, HBK.out, HMV.out, HFAR.out, hrd⟩⟩

end Go.Proofs.YtfpmkolaiomabaaGreat

namespace Go.Proofs.YtfpmkolaiomabaaGreat

theorem alikeC_eq {x y : EntryD} (hid : x.id = y.id) : alikeC x y = true ↔ x = y := by
  obtain ⟨i, s, r, f, lo, hi⟩ := x
  obtain ⟨i', s', r', f', lo', hi'⟩ := y
  dsimp only at hid
  subst hid
  simp only [alikeC, Bool.and_eq_true, beq_iff_eq, decide_eq_true_eq, EntryD.mk.injEq, true_and]
  constructor
  · rintro ⟨h1, h2, ⟨h3, h4⟩, h5⟩
    exact ⟨h1, h2, cmpF_eq0 h5, h3, h4⟩
  · rintro ⟨h1, h2, h3, h4, h5⟩
    exact ⟨h1, h2, ⟨h4, h5⟩, by rw [h3]; exact cmpF_self _⟩
/-- no Id twice -/
def Once (b : List EntryD) : Prop := (b.map (·.id)).Nodup
theorem Once.inj {b : List EntryD} (h : Once b) {x y : EntryD} (hx : x ∈ b) (hy : y ∈ b) (hid : x.id = y.id) : x = y := by
  induction b with
  | nil => cases hx
  | cons z b ih =>
    simp only [Once, List.map_cons, List.nodup_cons, List.mem_map, not_exists, not_and] at h
    rcases List.mem_cons.1 hx with e | hx'
    · rcases List.mem_cons.1 hy with e' | hy'
      · rw [e, e']
      · exact absurd (e ▸ hid.symm) (h.1 y hy')
    · rcases List.mem_cons.1 hy with e' | hy'
      · exact absurd (e' ▸ hid) (h.1 x hx')
      · exact ih h.2 hx' hy'
theorem addD_some {b b' : List EntryD} {x : EntryD} (h : addD b x = some b') : (∀ y, y ∈ b' ↔ y ∈ b ∨ x = y) ∧ (Once b → Once b') := by
  unfold addD at h
  cases hf : b.find? fun y => y.id == x.id with
  | none =>
    rw [hf] at h
    simp only [Option.some.injEq] at h
    subst h
    refine ⟨fun y => by rw [List.mem_append]; simp [eq_comm], fun ho => ?_⟩
    rw [List.find?_eq_none] at hf
    unfold Once at *
    rw [List.map_append, List.nodup_append]
    refine ⟨ho, by simp, fun i hi j hj => ?_⟩
    obtain ⟨y, hy, rfl⟩ := List.mem_map.1 hi
    have : j = x.id := by simpa using hj
    subst this
    simpa using hf y hy
  | some y =>
    rw [hf] at h
    dsimp only at h
    have hid : y.id = x.id := by simpa using List.find?_some hf
    split at h
    · rename_i hal
      obtain rfl := Option.some.inj h
      have hxy : x = y := (alikeC_eq hid.symm).1 hal
      subst hxy
      exact ⟨fun z => ⟨.inl, fun hz => hz.elim id fun e => e ▸ List.mem_of_find?_eq_some hf⟩, id⟩
    · cases h
theorem addD_none {b : List EntryD} {x : EntryD} (h : addD b x = none) : ∃ y ∈ b, y.id = x.id ∧ x ≠ y := by
  unfold addD at h
  cases hf : b.find? fun y => y.id == x.id with
  | none => rw [hf] at h; cases h
  | some y =>
    rw [hf] at h
    dsimp only at h
    have hid : y.id = x.id := by simpa using List.find?_some hf
    refine ⟨y, List.mem_of_find?_eq_some hf, hid, fun e => ?_⟩
    rw [if_pos ((alikeC_eq hid.symm).2 e)] at h
    cases h
theorem readD_some : ∀ {l b b' : List EntryD}, readD b l = some b' → (∀ y, y ∈ b' ↔ y ∈ b ∨ ∃ x ∈ l, canonE x = y) ∧ (Once b → Once b')
  | [], b, b', h => by
    obtain rfl := Option.some.inj h
    exact ⟨fun y => by simp, id⟩
  | x :: l, b, b', h => by
    simp only [readD] at h
    cases ha : addD b (canonE x) with
    | none => rw [ha] at h; cases h
    | some b1 =>
      rw [ha] at h
      obtain ⟨h1, h2⟩ := addD_some ha
      obtain ⟨h3, h4⟩ := readD_some h
      refine ⟨fun y => ?_, fun ho => h4 (h2 ho)⟩
      rw [h3, h1]
      simp only [List.mem_cons, exists_eq_or_imp]
      exact or_assoc
theorem readD_clash : ∀ {l b : List EntryD}, readD b l = none → ∃ y z, (y ∈ b ∨ ∃ x ∈ l, canonE x = y) ∧ (z ∈ b ∨ ∃ x ∈ l, canonE x = z) ∧ y.id = z.id ∧ y ≠ z
  | [], b, h => by cases h
  | x :: l, b, h => by
    simp only [readD] at h
    cases ha : addD b (canonE x) with
    | none =>
      obtain ⟨y, hy, hid, hne⟩ := addD_none ha
      exact ⟨y, canonE x, .inl hy, .inr ⟨x, List.mem_cons_self, rfl⟩, hid, fun e => hne e.symm⟩
    | some b1 =>
      rw [ha] at h
      obtain ⟨h1, _⟩ := addD_some ha
      obtain ⟨y, z, hy, hz, h3⟩ := readD_clash h
      have hup : ∀ y, (y ∈ b1 ∨ ∃ x ∈ l, canonE x = y) → y ∈ b ∨ ∃ w ∈ x :: l, canonE w = y := fun y hy => by
        rcases hy with hy | ⟨w, hw, e⟩
        · rcases (h1 y).1 hy with hy | e
          · exact .inl hy
          · exact .inr ⟨x, List.mem_cons_self, e⟩
        · exact .inr ⟨w, List.mem_cons_of_mem _ hw, e⟩
      exact ⟨y, z, hup y hy, hup z hz, h3⟩
/-- entries agree where their Ids are the same -/
def Agreed (l : List EntryD) : Prop := ∀ x ∈ l, ∀ y ∈ l, x.id = y.id → canonE x = canonE y
theorem readD_isSome {l : List EntryD} : (readD [] l).isSome = true ↔ Agreed l := by
  constructor
  · intro h x hx y hy hid
    obtain ⟨b, hb⟩ := Option.isSome_iff_exists.1 h
    obtain ⟨h1, h2⟩ := readD_some hb
    exact Once.inj (h2 (by simp [Once])) ((h1 _).2 (.inr ⟨x, hx, rfl⟩)) ((h1 _).2 (.inr ⟨y, hy, rfl⟩)) hid
  · intro h
    cases hr : readD [] l with
    | some b => rfl
    | none =>
      obtain ⟨y, z, hy, hz, hid, hne⟩ := readD_clash hr
      rcases hy with hy | ⟨x, hx, rfl⟩
      · cases hy
      · rcases hz with hz | ⟨w, hw, rfl⟩
        · cases hz
        · exact absurd (h x hx w hw hid) hne
/-- bk is the book of l -/
structure IsBookOf (l bk : List EntryD) : Prop where
  mem : ∀ y, y ∈ bk ↔ ∃ x ∈ l, canonE x = y
  once : Once bk
theorem readD_book {l bk : List EntryD} (h : readD [] l = some bk) : IsBookOf l bk := by
  obtain ⟨h1, h2⟩ := readD_some h
  exact ⟨fun y => by rw [h1]; simp, h2 (by simp [Once])⟩
theorem nodup_length : ∀ {a b : List Int}, a.Nodup → (∀ x ∈ a, x ∈ b) → a.length ≤ b.length
  | [], _, _, _ => Nat.zero_le _
  | x :: a, b, hn, hm => by
    obtain ⟨h1, h2⟩ := List.nodup_cons.1 hn
    have hx := hm x List.mem_cons_self
    have := nodup_length (b := b.erase x) h2 fun y hy => (List.mem_erase_of_ne (show y ≠ x from fun e => h1 (by rw [← e]; exact hy))).2 (hm y (List.mem_cons_of_mem _ hy))
    have := List.length_erase_of_mem hx
    have := List.length_pos_of_mem hx
    simp only [List.length_cons]
    omega
/-- a book has no more entries than came -/
theorem IsBookOf.length {l bk : List EntryD} (h : IsBookOf l bk) : bk.length ≤ l.length := by
  have := nodup_length (a := bk.map fun y : EntryD => y.id) (b := l.map fun y : EntryD => y.id) h.once fun i hi => by
    obtain ⟨y, hy, rfl⟩ := List.mem_map.1 hi
    obtain ⟨x, hx, e⟩ := (h.mem y).1 hy
    exact List.mem_map.2 ⟨x, hx, by rw [← e]; rfl⟩
  simpa using this

end Go.Proofs.YtfpmkolaiomabaaGreat

namespace Go.Proofs.YtfpmkolaiomabaaGreat
open Go.RowKit

/-- the order of the dictionary -/
def cmpE (x y : EntryD) : Int := orL [cmpF x.form y.form, cmpI x.sign y.sign, cmpI x.id y.id]
theorem cmpE_then : cmpE = thenC (fun x y => cmpF x.form y.form) (thenC (fun x y => cmpI x.sign y.sign) (fun x y => cmpI x.id y.id)) := by
  funext x y
  simp only [cmpE, orL, thenC]
  repeat' split
  all_goals simp_all
theorem cmp_cmpE : Cmp cmpE := by
  rw [cmpE_then]
  exact (cmp_cmpF.on EntryD.form).then_ ((cmp_cmpI.on EntryD.sign).then_ (cmp_cmpI.on EntryD.id))
/-- two of the same Id alone are equal in it -/
theorem cmpE_eq0 {x y : EntryD} (h : cmpE x y = 0) : x.id = y.id := by
  rw [cmpE_then] at h
  simp only [thenC] at h
  by_cases h1 : cmpF x.form y.form = 0
  · rw [if_pos h1] at h
    by_cases h2 : cmpI x.sign y.sign = 0
    · rw [if_pos h2] at h; exact cmpI_eq0 h
    · rw [if_neg h2] at h; exact absurd h h2
  · rw [if_neg h1] at h; exact absurd h h1

set_option maxRecDepth 100000 in
set_option maxHeartbeats 2000000 in
theorem order1_any (x y : EntryR) (w : World) (hx : MovesAt w w.heap.size x) (hy : MovesAt w w.heap.size y) (hxl : x.d.form.moves.length ≤ 6) (hyl : y.d.form.moves.length ≤ 6) :
    Calls Tryz.prog 57 #[entryV x, entryV y] w fun e w' => e = .returned (.int .i64 (cmpE x.d y.d)) ∧ Grew w w' := by
  have HX := Lib.hid hx
  have HY := Lib.hid hy
  clear hx hy
  go_enter Tryz.func57, Tryz.ntmps57
  go_upto_region 1 with fail
  obtain ⟨W, hW, hWd, hg, hf, hf', hsz⟩ : ∃ W, (w.alloc (.cells (cellsE x) 62)).alloc (.cells (cellsE y) 62) = W ∧ w.drawn = W.drawn ∧ Grow w W ∧ BlockIs W w.heap.size 62 (cellsE x) ∧ BlockIs W (w.heap.size + 1) 62 (cellsE y) ∧ w.heap.size + 1 < W.heap.size := by
    obtain ⟨W, h1, h2⟩ := two_blocks w 62 62 (cellsE x) (cellsE y)
    exact ⟨W, h1, by rw [← h1]; rfl, h2⟩
  rw [hW]
  clear hW
  have HC := Lib.hid (fun w1 (h : Grow w w1) => compareForms_grew x.d.form y.d.form x.A y.A x.cap y.cap w1 ((HX.out.1.below h).more h.size) ((HY.out.1.below h).more h.size) (by omega) (by omega))
  refine wp_region_lit 15 [[], [(0, 5)], [], [(2, 7)], [(1, 6), (3, 8)], [], [(5, 10)], [], [(7, 12)], [(6, 11), (8, 13)], [], [(10, 15)], [], [(12, 17)], [(11, 16), (13, 18)]] Grew (fun i v _ => match i with
      | 0 => v = .pointer (some ⟨w.heap.size, 3, none⟩) | 1 => v = formV x.d.form x.A x.cap | 2 => v = .pointer (some ⟨w.heap.size + 1, 3, none⟩) | 3 => v = formV y.d.form y.A y.cap | 4 => v = .int .i64 (cmpF x.d.form y.d.form)
      | 5 => v = .pointer (some ⟨w.heap.size, 1, none⟩) | 6 => v = .int .i64 x.d.sign | 7 => v = .pointer (some ⟨w.heap.size + 1, 1, none⟩) | 8 => v = .int .i64 y.d.sign | 9 => v = .int .i64 (cmpI x.d.sign y.d.sign)
      | 10 => v = .pointer (some ⟨w.heap.size, 0, none⟩) | 11 => v = .int .i64 x.d.id | 12 => v = .pointer (some ⟨w.heap.size + 1, 0, none⟩) | 13 => v = .int .i64 y.d.id | 14 => v = .int .i64 (cmpI x.d.id y.d.id)
      | _ => False) (by kernel_rfl) (by kernel_rfl) (fun _ _ _ => Grew.trans) Grew.refl (fun _ _ _ _ h _ => h) ?_ ?_
  · simp only [StepsLit, List.take_succ_cons, List.take_zero]
    refine ⟨?_, ?_, ?_, ?_, ?_, ?_, ?_, ?_, ?_, ?_, ?_, ?_, ?_, ?_, ?_, trivial⟩
    all_goals
      intro w1 hR
      have hfc := (hR.1.of_drew.block hf).cell
      have hgc := (hR.1.of_drew.block hf').cell
      have hbw : Grow w w1 := hg.trans hR.1.of_drew
      have HBW := Lib.hid hbw
      clear hbw
      simp only [depV, Region.wanted, cond_true]
      repeat (rintro _ rfl)
      go_simp
    all_goals first
      | exact Grew.refl _
      | (refine (cmpCompare_any _ _ _).mono ?_; rintro e w' ⟨rfl, rfl⟩; go_simp; exact Grew.refl _)
      | (refine (HC.out _ HBW.out).mono ?_; rintro e w' ⟨rfl, hgr⟩; go_simp; try exact hgr)
  · intro w2 hR2
    have hd2 : w.drawn ≤ w2.drawn := by rw [hWd]; exact hR2.of_drew.2
    have HG : Hid (Grew w w2) := ⟨hg.trans hR2.1.of_drew, hd2⟩
    clear hf hf' hg hR2 hWd hd2
    simp only [finVC, List.take_succ_cons, List.take_zero, List.drop_succ_cons, List.drop_zero]
    repeat (rintro _ rfl)
    simp only [Act.put, List.setIfInBounds_toArray, List.set_cons_succ, List.set_cons_zero]
    have hn : Ints (w2.alloc (.cells #[.int .i64 (cmpF x.d.form y.d.form), .int .i64 (cmpI x.d.sign y.d.sign), .int .i64 (cmpI x.d.id y.d.id)] 3)) (w2.heap.size + 1) (some ⟨w2.heap.size, 0, none⟩)
        [cmpF x.d.form y.d.form, cmpI x.d.sign y.d.sign, cmpI x.d.id y.d.id] := by
      have := ints_block (xs := [cmpF x.d.form y.d.form, cmpI x.d.sign y.d.sign, cmpI x.d.id y.d.id]) (BlockIs.new w2 3 #[.int .i64 (cmpF x.d.form y.d.form), .int .i64 (cmpI x.d.sign y.d.sign), .int .i64 (cmpI x.d.id y.d.id)])
      simpa using this
    have HOR := Lib.hid (cmpOr_any (some ⟨w2.heap.size, 0, none⟩) 3 _ _ _ hn (by simp))
    clear hn
    go_wp2_with (first | (go_at_call 58; refine HOR.out.mono ?_; rintro e w' ⟨rfl, rfl⟩))
    go_ret
    exact ⟨rfl, HG.out.trans (Grew.alloc _ _)⟩

set_option maxHeartbeats 2000000 in
theorem merge1_any (x y : EntryR) (w : World) :
    Calls Tryz.prog 72 #[entryV x, entryV y] w fun e w' => e = .returned (.int .i64 (cmpI x.d.id y.d.id)) ∧ Grew w w' := by
  go_enter Tryz.func72, Tryz.ntmps72
  go_wp2_with (first | (go_at_call 59; refine (cmpCompare_any _ _ _).mono ?_; rintro e w' ⟨rfl, rfl⟩))
  go_ret
  exact ⟨rfl, (Grew.alloc _ _).trans (Grew.alloc _ _)⟩

end Go.Proofs.YtfpmkolaiomabaaGreat

namespace Go.Proofs.YtfpmkolaiomabaaGreat
open Go.RowKit

def shownD (x y : EntryD) : Bool := (cmpF x.form y.form == 0) && ((bits .and .i64 x.regions y.regions != 0) && meetD x.low x.high y.low y.high)

set_option maxRecDepth 100000 in
set_option maxHeartbeats 2000000 in
theorem sameShown_any (x y : EntryR) (w : World) (hx : MovesAt w w.heap.size x) (hy : MovesAt w w.heap.size y) (hxl : x.d.form.moves.length ≤ 6) (hyl : y.d.form.moves.length ≤ 6) :
    Calls Tryz.prog 64 #[entryV x, entryV y] w fun e w' => e = .returned (.bool (shownD x.d y.d)) ∧ Below w.heap.size w w' := by
  have HC := Lib.hid (fun w1 (h : Grow w w1) => compareForms_any x.d.form y.d.form x.A y.A x.cap y.cap w1 ((hx.1.below h).more h.size) ((hy.1.below h).more h.size) (by omega) (by omega))
  clear hx hy
  have HO : Hid (shownD x.d y.d = ((cmpF x.d.form y.d.form == 0) && ((bits .and .i64 x.d.regions y.d.regions != 0) && meetD x.d.low x.d.high y.d.low y.d.high))) := rfl
  generalize shownD x.d y.d = res at HO ⊢
  generalize cmpF x.d.form y.d.form = c at HC HO
  have HM := Lib.hid (fun w0 => meet_any x.d.low x.d.high y.d.low y.d.high w0)
  generalize meetD x.d.low x.d.high y.d.low y.d.high = m at HM HO
  generalize hz : bits .and .i64 x.d.regions y.d.regions = z at HO
  have HZ := Lib.hid hz
  go_enter Tryz.func64, Tryz.ntmps64
  go_upto_region 1 with fail
  obtain ⟨W, hW, hg, hf, hf', hsz⟩ := two_blocks w 62 62 (cellsE x) (cellsE y)
  rw [hW]
  clear hW
  have HG := Lib.hid hg
  have HF := Lib.hid hf
  have HF' := Lib.hid hf'
  have hfc := hf.cell
  have hfc' := hf'.cell
  clear hg hf hf'
  go_wp2_with fail
  refine (HC.out _ HG.out).mono ?_
  rintro e w2 ⟨rfl, hb2⟩
  have HG2 : Hid (Grow W w2) := hb2
  have hgc := (Grow.block hb2 HF.out).cell
  have hgc' := (Grow.block hb2 HF'.out).cell
  clear hb2 hfc hfc'
  cases hc0 : (c == 0) with
  | false =>
    have HC0 := Lib.hid hc0
    go_wp2
    all_goals first
      | (go_ret; exact ⟨by rw [HO.out, HC0.out]; rfl, HG.out.trans HG2.out⟩)
  | true =>
    have HC0 := Lib.hid hc0
    cases hz0 : (z != 0) with
    | false =>
      have HZ0 := Lib.hid hz0
      go_wp2
      all_goals first
        | (go_ret; exact ⟨by rw [HO.out, HC0.out, HZ0.out]; rfl, HG.out.trans HG2.out⟩)
    | true =>
      have HZ0 := Lib.hid hz0
      go_wp2_with (first | (go_at_call 94; refine (HM.out _).mono ?_; rintro e w3 ⟨rfl, hb3⟩; have HG3 : Hid (Grow w2 w3) := hb3; clear hb3))
      all_goals first
        | (go_ret; exact ⟨by rw [HO.out, HC0.out, HZ0.out]; rfl, (HG.out.trans HG2.out).trans HG3.out⟩)

end Go.Proofs.YtfpmkolaiomabaaGreat

