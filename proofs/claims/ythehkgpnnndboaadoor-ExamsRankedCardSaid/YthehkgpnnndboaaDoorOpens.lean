/- Opens: the arguments of chapter 9's laws opened, and a law's last step. Opens2: further arguments of chapter 9's laws opened. -/
import Derived.Test.YthehkgpnnndboaaDoorRows
import Derived.Test.YthehkgpnnndboaaDoorPaper
import Derived.ProofKit
import Derived.Lib.SmallJoins
import Derived.ChangeSame
namespace Go.Proofs.YthehkgpnnndboaaDoor
open Go.RowKit Go.ChangeShapes Go.WideShapes Go.ChangeAt Go.Joins Go.Deep

theorem own : ownKnob Tryd.prog.godebug = none := by kernel_rfl
theorem laidOut : laidOutB Tryd.prog = true := by kernel_rfl
theorem cellsInt : Tryd.prog.cellsOf 3 = 1 := by kernel_rfl
theorem cellsMoves : Tryd.prog.cellsOf 24 = 1 := by kernel_rfl
theorem cellsBool : Tryd.prog.cellsOf 4 = 1 := by kernel_rfl
theorem cellsSpan : Tryd.prog.cellsOf 33 = 2 := by kernel_rfl
theorem cellsItem : Tryd.prog.cellsOf 78 = 2 := by kernel_rfl
theorem cellsItems : Tryd.prog.cellsOf 22 = 1 := by kernel_rfl
theorem cellsJudge : Tryd.prog.cellsOf 60 = 4 := by kernel_rfl
theorem cellsJudges : Tryd.prog.cellsOf 23 = 1 := by kernel_rfl
theorem cellsPaper : Tryd.prog.cellsOf 26 = 4 := by kernel_rfl

section
variable {H : Type} {enc : TypeId × Value → H} {w : World} {base : Nat} {spare : Nat → Bool} {held : Bool}

/-- integers -/
theorem ints_open {n : Nat} {v : Value} {y : DataW H × List MemPlace} (h : DataW.trod enc Tryd.prog w base spare held n 24 [v] = some y) :
    ∃ A cap xs, v = .slice A xs.length cap ∧ Ints w w.heap.size A xs := by
  rcases open_ints Tryd.underlying24 Tryd.underlying3 cellsInt h with ⟨hcs, _⟩ | ⟨a, len, cap, zs, hcs, _, hl, _, hz, _, hcell, _⟩
  · obtain rfl : v = .slice none 0 0 := by simpa using hcs
    exact ⟨none, 0, [], rfl, .inl rfl⟩
  · obtain rfl : v = .slice (some a) len cap := by simpa using hcs
    have hlen : (zs.take len).length = len := by
      rw [List.length_take]
      split at hz <;> omega
    refine ⟨some a, cap, zs.take len, by rw [hlen], ?_⟩
    by_cases h0 : len = 0
    · exact .inl (by rw [h0]; rfl)
    · have hzl : len ≤ zs.length := by split at hz <;> omega
      obtain ⟨b, off, spot⟩ := a
      have c0 := hcell 0 (by omega)
      have hspot : spot = none := by simpa [Addr.add] using World.cell?_spot c0
      subst hspot
      have hb : b < w.heap.size := by
        have := World.block_lt_of_cell? w _ c0
        simpa [Addr.add] using this
      refine .inr ⟨b, off, rfl, hb, fun j x hj => ?_⟩
      have hjl : j < len := by have := (List.getElem?_eq_some_iff.1 hj).1; omega
      have c := hcell j (by omega)
      rw [add_plain] at c
      rw [c]
      rw [List.getElem?_take_of_lt hjl] at hj
      simp [List.getD, hj]
end

section
variable {H : Type} {enc : TypeId × Value → H} {P : Program}
/-- the last step of a law that leaves new blocks behind it -/
theorem post_of_below {f : Func} {s : ChangeSpec} {apart fresh handsOn again : Bool} {W W' : World} {args : Array Value} {v : Value} {ds gs : List (DataW H)} {before pa pv : List MemPlace}
    (hW : DataW.Whole enc P f.params.toList s.vars apart W args.toList ds gs before)
    (hres : ∀ (b : Nat) (sp : Nat → Bool) (hd : Bool), DataW.TrodAll enc P W' b sp hd f.resultTypes.toList (v.resultList f.resultTypes.size) (s.fn H (ds ++ gs)).results [])
    (hargs : ∀ sp : Nat → Bool, (∀ p ∈ before, sp p.block = true) → DataW.TrodAll enc P W' 0 sp true f.params.toList args.toList (s.fn H (ds ++ gs)).args pa)
    (hvars : ∀ sp : Nat → Bool, (∀ p ∈ before, sp p.block = true) → DataW.TrodVars enc P W' sp s.vars (s.fn H (ds ++ gs)).vars pv)
    (hps : before = pa ++ pv) (hb : Below W.heap.size W W')
    (hok : ∀ (j : Nat) (t : TypeId) (r : Value), f.resultTypes[j]? = some t → (v.resultList f.resultTypes.size)[j]? = some r → Value.okWide P W' .any 0 t r) :
    s.post enc P f apart fresh handsOn again W args v W' := by
  have hlt : ∀ p ∈ before, p.block < W.heap.size := fun p hp => hW.lt p hp
  have hold : ∀ p ∈ before, (fun b => decide (b < W.heap.size)) p.block = true := fun p hp => by simpa using hlt p hp
  refine ⟨ds, gs, before, [], pa, pv, hW, hres _ _ _, hargs _ hold, hvars _ hold, World.keptBut_mono (fun p hp => ⟨hp, ?_⟩) (hb.frame (· ∈ before)), fun _ => ?_⟩
  · rw [hps, List.mem_append] at hp
    exact Or.inr hp
  · obtain ⟨_, _, _, _, _, hz, hn⟩ := hW
    refine ⟨hok, _, _, ([] ++ pa) ++ pv, ⟨[] ++ pa, pv, trodAll_append (hargs _ (fun _ _ => rfl)) (hres _ _ _), hvars _ (fun _ _ => rfl), rfl, ?_, ?_⟩, ?_⟩
    · intro b off hp
      have hin : MemPlace.cell b off ∈ before := by rw [hps]; simpa using hp
      rw [hb.frozen (hlt _ hin)]
      exact hz b off hin
    · intro ha
      have := hn ha
      rw [hps] at this
      simpa using this
    · intro p hp _
      rw [hps]
      simpa using hp

/-- an argument reads behind the call as it read before -/
theorem stays {t : TypeId} {W W' : World} {v : Value} {d : DataW H} {ps : List MemPlace} {sp : Nat → Bool} (hl : laidOutB P = true) (hr : P.readableRec t = true) (hrow : t < P.types.size)
    (h : DataW.Trod enc P W 0 (fun _ => true) true t v d ps) (hb : Below W.heap.size W W') (hlt : ∀ x ∈ ps, x.block < W.heap.size) (hs : ∀ p ∈ ps, sp p.block = true) :
    DataW.Trod enc P W' 0 sp true t v d ps :=
  WideElems.Trod_stays hl hr hrow h (fun x hx => hb.same (hlt x hx)) hs
end

theorem list_of {α : Type} {P : Nat → α → Prop} : ∀ n, (∀ i, i < n → ∃ x, P i x) → ∃ l : List α, l.length = n ∧ ∀ i x, l[i]? = some x → P i x
  | 0, _ => ⟨[], rfl, fun i x h => by simp at h⟩
  | n + 1, h => by
    obtain ⟨l, hl, hp⟩ := list_of n fun i hi => h i (by omega)
    obtain ⟨x, hx⟩ := h n (by omega)
    refine ⟨l ++ [x], by simp [hl], fun i y hy => ?_⟩
    by_cases hi : i < n
    · rw [List.getElem?_append_left (by omega)] at hy
      exact hp i y hy
    · have hlen := (List.getElem?_eq_some_iff.1 hy).1
      simp only [List.length_append, List.length_cons, List.length_nil] at hlen
      obtain rfl : i = n := by omega
      rw [List.getElem?_append_right (by omega)] at hy
      simp only [hl, Nat.sub_self, List.getElem?_cons_zero, Option.some.injEq] at hy
      subst hy
      exact hx

section
variable {H : Type} {enc : TypeId × Value → H} {w : World} {base : Nat} {spare : Nat → Bool} {held : Bool}

theorem int_open {n : Nat} {v : Value} {o : Option (DataW H × List MemPlace)} (h : DataW.trod enc Tryd.prog w base spare held n 3 [v] = o) (ho : o.isSome = true) : ∃ z, v = .int .i64 z ∧ Lit.wf (.int .i64 z) = true := by
  obtain ⟨y, rfl⟩ := Option.isSome_iff_exists.1 ho
  obtain ⟨z, e, _, hz⟩ := DataW.trod_int Tryd.underlying3 h
  exact ⟨z, by simpa using e, hz⟩

/-- integers, with their room -/
theorem ints_open_cap {n : Nat} {v : Value} {y : DataW H × List MemPlace} (h : DataW.trod enc Tryd.prog w base spare held n 24 [v] = some y) :
    ∃ A cap xs, v = .slice A xs.length cap ∧ Ints w w.heap.size A xs ∧ xs.length ≤ cap := by
  have hc : ∃ A len cap, v = .slice A len cap ∧ len ≤ cap := by
    rcases open_ints Tryd.underlying24 Tryd.underlying3 cellsInt h with ⟨hcs, _⟩ | ⟨a, len, cap, zs, hcs, _, hl, _⟩
    · exact ⟨none, 0, 0, by simpa using hcs, Nat.le_refl _⟩
    · exact ⟨some a, len, cap, by simpa using hcs, hl⟩
  obtain ⟨A, cap, xs, rfl, hi⟩ := ints_open h
  obtain ⟨A', len, cap', e, hl⟩ := hc
  injection e with e1 e2 e3
  exact ⟨A, cap, xs, rfl, hi, by omega⟩

theorem isSome_of {α : Type} {l : List α} {n i : Nat} (hl : l.length = n) (hi : i < n) : l[i]?.isSome = true := by
  rw [List.getElem?_eq_getElem (by omega)]; rfl

theorem trod_field {cs : List Value} {fs : Array Field} {n : Nat} {xs : List (DataW H × List MemPlace)}
    (hg : ∀ (i : Nat) (f : Field), fs[i]? = some f → DataW.trod enc Tryd.prog w base spare held n f.type ((cs.drop f.offset).take (Tryd.prog.cellsOf f.type)) = xs[i]?) (i : Nat) (t off k : Nat) (f : Field) (hf : fs[i]? = some f)
    (ht : f.type = t) (ho : f.offset = off) (hk : Tryd.prog.cellsOf t = k) : DataW.trod enc Tryd.prog w base spare held n t ((cs.drop off).take k) = xs[i]? := by
  subst ht; subst ho; subst hk
  exact hg i f hf

set_option maxRecDepth 100000 in
/-- the cells of an item -/
theorem item_cells {n : Nat} {cs : List Value} {o : Option (DataW H × List MemPlace)} (h : DataW.trod enc Tryd.prog w base spare held n 78 cs = o) (ho : o.isSome = true) :
    ∃ x : ItemI, cs = (cellsI x).toList := by
  obtain ⟨y, rfl⟩ := Option.isSome_iff_exists.1 ho
  obtain ⟨xs, m, _, _, hc, hlen, hg⟩ := DataW.trod_struct Tryd.underlying78 h
  match cs, hc.trans cellsItem with
  | [c0, c1], _ =>
    have hl : xs.length = 2 := hlen
    have h0 := trod_field hg 0 3 0 _ _ rfl rfl rfl cellsInt
    have h1 := trod_field hg 1 3 1 _ _ rfl rfl rfl cellsInt
    simp only [List.drop_succ_cons, List.drop_zero, List.take_succ_cons, List.take_zero] at h0 h1
    obtain ⟨n0, rfl, _⟩ := int_open h0 (isSome_of hl (by omega))
    obtain ⟨n1, rfl, _⟩ := int_open h1 (isSome_of hl (by omega))
    exact ⟨⟨n0, n1⟩, rfl⟩
set_option maxRecDepth 100000 in
/-- the cells of a span -/
theorem span_cells {n : Nat} {cs : List Value} {o : Option (DataW H × List MemPlace)} (h : DataW.trod enc Tryd.prog w base spare held n 33 cs = o) (ho : o.isSome = true) :
    ∃ a b : Int, cs = [.int .i64 a, .int .i64 b] := by
  obtain ⟨y, rfl⟩ := Option.isSome_iff_exists.1 ho
  obtain ⟨xs, m, _, _, hc, hlen, hg⟩ := DataW.trod_struct Tryd.underlying33 h
  match cs, hc.trans cellsSpan with
  | [c0, c1], _ =>
    have hl : xs.length = 2 := hlen
    have h0 := trod_field hg 0 3 0 _ _ rfl rfl rfl cellsInt
    have h1 := trod_field hg 1 3 1 _ _ rfl rfl rfl cellsInt
    simp only [List.drop_succ_cons, List.drop_zero, List.take_succ_cons, List.take_zero] at h0 h1
    obtain ⟨n0, rfl, _⟩ := int_open h0 (isSome_of hl (by omega))
    obtain ⟨n1, rfl, _⟩ := int_open h1 (isSome_of hl (by omega))
    exact ⟨n0, n1, rfl⟩
set_option maxRecDepth 100000 in
/-- the cells of a judge -/
theorem judge_cells {n : Nat} {cs : List Value} {o : Option (DataW H × List MemPlace)} (h : DataW.trod enc Tryd.prog w base spare held n 60 cs = o) (ho : o.isSome = true) :
    ∃ x : JudgeR, cs = (cellsJ x).toList ∧ Ints w w.heap.size x.a x.d.marks := by
  obtain ⟨y, rfl⟩ := Option.isSome_iff_exists.1 ho
  obtain ⟨xs, m, _, _, hc, hlen, hg⟩ := DataW.trod_struct Tryd.underlying60 h
  match cs, hc.trans cellsJudge with
  | [c0, c1, c2, c3], _ =>
    have hl : xs.length = 3 := hlen
    have h0 := trod_field hg 0 33 0 _ _ rfl rfl rfl cellsSpan
    have h1 := trod_field hg 1 3 2 _ _ rfl rfl rfl cellsInt
    have h2 := trod_field hg 2 24 3 _ _ rfl rfl rfl cellsMoves
    simp only [List.drop_succ_cons, List.drop_zero, List.take_succ_cons, List.take_zero] at h0 h1 h2
    obtain ⟨a, b, e⟩ := span_cells h0 (isSome_of hl (by omega))
    simp only [List.cons.injEq, and_true] at e
    obtain ⟨rfl, rfl⟩ := e
    obtain ⟨n1, rfl, _⟩ := int_open h1 (isSome_of hl (by omega))
    rw [List.getElem?_eq_getElem (by omega)] at h2
    obtain ⟨A, ca, la, rfl, hA⟩ := ints_open h2
    exact ⟨⟨⟨a, b, n1, la⟩, A, ca⟩, rfl, hA⟩
set_option maxRecDepth 100000 in
/-- a slice of items -/
theorem items_open {n : Nat} {v : Value} {y : DataW H × List MemPlace} (hf : DataW.trod enc Tryd.prog w base spare held n 22 [v] = some y) :
    ∃ A cap l, v = .slice A (List.length l) cap ∧ Flats cellsI 2 w w.heap.size A l := by
  rcases open_slice Tryd.underlying22 hf with ⟨hcs, _⟩ | ⟨a, len, cap, m, n, D, Pl, hcs, _, hl, hm, hmm, _, hi⟩
  · obtain rfl : v = .slice none 0 0 := by simpa using hcs
    exact ⟨none, 0, [], rfl, .inl rfl⟩
  · obtain rfl : v = .slice (some a) len cap := by simpa using hcs
    have hlm : len ≤ m := by rw [hmm]; split <;> omega
    rw [cellsItem] at hi
    obtain ⟨l, hll, hp⟩ := list_of (P := fun i (x : ItemI) => (∀ j, j < 2 → w.cell? (a.add (i * 2 + j)) = (cellsI x)[j]?)) len fun i hil => by
      obtain ⟨cs', hc, ht⟩ := hi i (by omega)
      obtain ⟨x, rfl⟩ := item_cells ht rfl
      obtain ⟨_, _, hat⟩ := World.cells?_some hc
      refine ⟨x, fun j hj => ?_⟩
      rw [← Go.Deep.add_add, hat j hj]
      simp
    refine ⟨some a, cap, l, by rw [hll], ?_⟩
    by_cases h0 : len = 0
    · exact .inl (List.eq_nil_of_length_eq_zero (hll.trans h0))
    · obtain ⟨b, off, spot⟩ := a
      have c0 := hp 0 _ (List.getElem?_eq_getElem (by omega)) 0 (by omega)
      have c0' : w.cell? ((⟨b, off, spot⟩ : Addr).add (0 * 2 + 0)) = some (.int .i64 (l[0]'(by omega)).w) := c0
      have hspot : spot = none := by simpa [Addr.add] using World.cell?_spot c0'
      subst hspot
      have hb : b < w.heap.size := by
        have := World.block_lt_of_cell? w _ c0'
        simpa [Addr.add] using this
      refine .inr ⟨b, off, rfl, hb, fun i x hx j hj => ?_⟩
      have := hp i x hx j hj
      rw [add_plain] at this
      rw [← this, Nat.add_assoc]
set_option maxRecDepth 100000 in
/-- a slice of judges -/
theorem judges_open {n : Nat} {v : Value} {y : DataW H × List MemPlace} (hf : DataW.trod enc Tryd.prog w base spare held n 23 [v] = some y) :
    ∃ A cap l, v = .slice A (List.length l) cap ∧ Flats cellsJ 4 w w.heap.size A l ∧ ∀ x ∈ l, Ints w w.heap.size x.a x.d.marks := by
  rcases open_slice Tryd.underlying23 hf with ⟨hcs, _⟩ | ⟨a, len, cap, m, n, D, Pl, hcs, _, hl, hm, hmm, _, hi⟩
  · obtain rfl : v = .slice none 0 0 := by simpa using hcs
    exact ⟨none, 0, [], rfl, ⟨.inl rfl, fun x hx => by simp at hx⟩⟩
  · obtain rfl : v = .slice (some a) len cap := by simpa using hcs
    have hlm : len ≤ m := by rw [hmm]; split <;> omega
    rw [cellsJudge] at hi
    obtain ⟨l, hll, hp⟩ := list_of (P := fun i (x : JudgeR) => (∀ j, j < 4 → w.cell? (a.add (i * 4 + j)) = (cellsJ x)[j]?) ∧ Ints w w.heap.size x.a x.d.marks) len fun i hil => by
      obtain ⟨cs', hc, ht⟩ := hi i (by omega)
      obtain ⟨x, rfl, hx⟩ := judge_cells ht rfl
      obtain ⟨_, _, hat⟩ := World.cells?_some hc
      refine ⟨x, fun j hj => ?_, hx⟩
      rw [← Go.Deep.add_add, hat j hj]
      simp
    refine ⟨some a, cap, l, by rw [hll], ⟨?_, fun x hx => by obtain ⟨i, hi'⟩ := List.getElem?_of_mem hx; exact (hp i x hi').2⟩⟩
    by_cases h0 : len = 0
    · exact .inl (List.eq_nil_of_length_eq_zero (hll.trans h0))
    · obtain ⟨b, off, spot⟩ := a
      have c0 := (hp 0 _ (List.getElem?_eq_getElem (by omega))).1 0 (by omega)
      have c0' : w.cell? ((⟨b, off, spot⟩ : Addr).add (0 * 4 + 0)) = some (.int .i64 (l[0]'(by omega)).d.lo) := c0
      have hspot : spot = none := by simpa [Addr.add] using World.cell?_spot c0'
      subst hspot
      have hb : b < w.heap.size := by
        have := World.block_lt_of_cell? w _ c0'
        simpa [Addr.add] using this
      refine .inr ⟨b, off, rfl, hb, fun i x hx j hj => ?_⟩
      have := (hp i x hx).1 j hj
      rw [add_plain] at this
      rw [← this, Nat.add_assoc]
set_option maxRecDepth 100000 in
/-- a paper -/
theorem paper_open {r : Reach} {b0 : Nat} {v : Value} {d : DataW H} {p : List MemPlace} (hv : Value.okWide Tryd.prog w r b0 26 v) (h : DataW.Trod enc Tryd.prog w base spare held 26 v d p) :
    ∃ c : PaperR, v = paperV c ∧ PaperAt w w.heap.size c := by
  obtain ⟨cs, rfl, hsz⟩ := okWide_struct Tryd.underlying26 hv
  obtain ⟨l⟩ := cs
  match l, hsz.trans cellsPaper with
  | [c0, c1, c2, c3], _ =>
    obtain ⟨fuel, hf⟩ := h
    obtain ⟨xs, m, _, _, _, hlen, hg⟩ := DataW.trod_struct Tryd.underlying26 hf
    have h0 := trod_field hg 0 22 0 _ _ rfl rfl rfl cellsItems
    have h1 := trod_field hg 1 23 1 _ _ rfl rfl rfl cellsJudges
    have h2 := trod_field hg 2 3 2 _ _ rfl rfl rfl cellsInt
    have h3 := trod_field hg 3 24 3 _ _ rfl rfl rfl cellsMoves
    simp only [Value.cells, List.drop_succ_cons, List.drop_zero, List.take_succ_cons, List.take_zero] at h0 h1 h2 h3
    have hl : xs.length = 4 := hlen
    obtain ⟨n2, rfl, _⟩ := int_open h2 (isSome_of hl (by omega))
    rw [List.getElem?_eq_getElem (by omega)] at h0 h1 h3
    obtain ⟨A, ca, is, rfl, hA⟩ := items_open h0
    obtain ⟨B, cb, js, rfl, hB, hM⟩ := judges_open h1
    obtain ⟨C, cc, gs, rfl, hC⟩ := ints_open h3
    exact ⟨⟨is, js, n2, gs, A, ca, B, cb, C, cc⟩, rfl, hA, hB, hM, hC⟩
set_option maxRecDepth 100000 in
/-- an integer, as an argument -/
theorem intArg_open {r : Reach} {b0 : Nat} {v : Value} {d : DataW H} {p : List MemPlace} (hv : Value.okWide Tryd.prog w r b0 3 v) (h : DataW.Trod enc Tryd.prog w base spare held 3 v d p) :
    ∃ z, v = .int .i64 z ∧ Lit.wf (.int .i64 z) = true := by
  obtain ⟨z, rfl⟩ := okWide_int Tryd.underlying3 hv
  obtain ⟨fuel, hf⟩ := h
  obtain ⟨z', e, hw⟩ := int_open (n := fuel) (v := .int .i64 z) (o := some (d, p)) (by simpa [Value.cells] using hf) rfl
  injection e with _ e
  subst e
  exact ⟨z, rfl, hw⟩
end

end Go.Proofs.YthehkgpnnndboaaDoor

namespace Go.Proofs.YthehkgpnnndboaaDoor
open Go.RowKit Go.ChangeShapes Go.WideShapes Go.ChangeAt Go.Joins Go.Deep

theorem cellsMark : Tryd.prog.cellsOf 67 = 4 := by kernel_rfl
section
variable {H : Type} {enc : TypeId × Value → H} {w : World} {base : Nat} {spare : Nat → Bool} {held : Bool}
set_option maxRecDepth 100000 in
/-- two truths, a mark and an error -/
theorem mark_open {r : Reach} {b0 : Nat} {v : Value} {d : DataW H} {p : List MemPlace} (hv : Value.okWide Tryd.prog w r b0 67 v) (h : DataW.Trod enc Tryd.prog w base spare held 67 v d p) :
    ∃ A ca xs B cb ys mk er, v = .agg #[.slice A (List.length xs) ca, .slice B (List.length ys) cb, .int .i64 mk, .int .i64 er] ∧ Ints w w.heap.size A xs ∧ Ints w w.heap.size B ys ∧ Lit.wf (.int .i64 mk) = true := by
  obtain ⟨cs, rfl, hsz⟩ := okWide_struct Tryd.underlying67 hv
  obtain ⟨l⟩ := cs
  match l, hsz.trans cellsMark with
  | [c0, c1, c2, c3], _ =>
    obtain ⟨fuel, hf⟩ := h
    obtain ⟨xs, m, _, _, _, hlen, hg⟩ := DataW.trod_struct Tryd.underlying67 hf
    have h0 := trod_field hg 0 24 0 _ _ rfl rfl rfl cellsMoves
    have h1 := trod_field hg 1 24 1 _ _ rfl rfl rfl cellsMoves
    have h2 := trod_field hg 2 3 2 _ _ rfl rfl rfl cellsInt
    have h3 := trod_field hg 3 3 3 _ _ rfl rfl rfl cellsInt
    simp only [Value.cells, List.drop_succ_cons, List.drop_zero, List.take_succ_cons, List.take_zero] at h0 h1 h2 h3
    have hl : xs.length = 4 := hlen
    obtain ⟨n2, rfl, hw⟩ := int_open h2 (isSome_of hl (by omega))
    obtain ⟨n3, rfl, _⟩ := int_open h3 (isSome_of hl (by omega))
    rw [List.getElem?_eq_getElem (by omega)] at h0 h1
    obtain ⟨A, ca, l1, rfl, hA⟩ := ints_open h0
    obtain ⟨B, cb, l2, rfl, hB⟩ := ints_open h1
    exact ⟨A, ca, l1, B, cb, l2, n2, n3, rfl, hA, hB, hw⟩
theorem wf_i64 {z : Int} (h : Lit.wf (.int .i64 z) = true) : -9223372036854775808 ≤ z ∧ z ≤ 9223372036854775807 := by
  simp [Lit.wf, IntKind.min, IntKind.max, IntKind.bits, IntKind.signed] at h
  omega
set_option maxRecDepth 100000 in
/-- integers, as an argument -/
theorem intsArg_open {r : Reach} {b0 : Nat} {v : Value} {d : DataW H} {p : List MemPlace} (hv : Value.okWide Tryd.prog w r b0 24 v) (h : DataW.Trod enc Tryd.prog w base spare held 24 v d p) :
    ∃ A cap xs, v = .slice A (List.length xs) cap ∧ Ints w w.heap.size A xs := by
  obtain ⟨a0, len, cap, rfl⟩ := okWide_slice Tryd.underlying24 hv
  obtain ⟨fuel, hf⟩ := h
  exact ints_open (by simpa [Value.cells] using hf)
theorem cellsEase : Tryd.prog.cellsOf 62 = 8 := by kernel_rfl
set_option maxRecDepth 100000 in
/-- one more judge, and what a paper's judges are eased by -/
theorem ease_open {r : Reach} {b0 : Nat} {v : Value} {d : DataW H} {p : List MemPlace} (hv : Value.okWide Tryd.prog w r b0 62 v) (h : DataW.Trod enc Tryd.prog w base spare held 62 v d p) :
    ∃ lo hi err ma mc marks wr wh xe wi, v = .agg #[.int .i64 lo, .int .i64 hi, .int .i64 err, .slice ma (List.length marks) mc, .int .i64 wr, .int .i64 wh, .int .i64 xe, .int .i64 wi] ∧ Ints w w.heap.size ma marks ∧ Lit.wf (.int .i64 wh) = true := by
  obtain ⟨cs, rfl, hsz⟩ := okWide_struct Tryd.underlying62 hv
  obtain ⟨l⟩ := cs
  match l, hsz.trans cellsEase with
  | [c0, c1, c2, c3, c4, c5, c6, c7], _ =>
    obtain ⟨fuel, hf⟩ := h
    obtain ⟨xs, m, _, _, _, hlen, hg⟩ := DataW.trod_struct Tryd.underlying62 hf
    have h0 := trod_field hg 0 60 0 _ _ rfl rfl rfl cellsJudge
    have h1 := trod_field hg 1 3 4 _ _ rfl rfl rfl cellsInt
    have h2 := trod_field hg 2 3 5 _ _ rfl rfl rfl cellsInt
    have h3 := trod_field hg 3 3 6 _ _ rfl rfl rfl cellsInt
    have h4 := trod_field hg 4 3 7 _ _ rfl rfl rfl cellsInt
    simp only [Value.cells, List.drop_succ_cons, List.drop_zero, List.take_succ_cons, List.take_zero] at h0 h1 h2 h3 h4
    have hl : xs.length = 5 := hlen
    obtain ⟨n4, rfl, _⟩ := int_open h1 (isSome_of hl (by omega))
    obtain ⟨n5, rfl, hw⟩ := int_open h2 (isSome_of hl (by omega))
    obtain ⟨n6, rfl, _⟩ := int_open h3 (isSome_of hl (by omega))
    obtain ⟨n7, rfl, _⟩ := int_open h4 (isSome_of hl (by omega))
    obtain ⟨y, hy⟩ := Option.isSome_iff_exists.1 (isSome_of (l := xs) (n := 5) (i := 0) hl (by omega))
    rw [hy] at h0
    obtain ⟨ys, m2, _, _, _, hlen2, hg2⟩ := DataW.trod_struct Tryd.underlying60 h0
    have k0 := trod_field hg2 0 33 0 _ _ rfl rfl rfl cellsSpan
    have k1 := trod_field hg2 1 3 2 _ _ rfl rfl rfl cellsInt
    have k2 := trod_field hg2 2 24 3 _ _ rfl rfl rfl cellsMoves
    simp only [List.drop_succ_cons, List.drop_zero, List.take_succ_cons, List.take_zero] at k0 k1 k2
    have hl2 : ys.length = 3 := hlen2
    obtain ⟨a, b, e⟩ := span_cells k0 (isSome_of hl2 (by omega))
    obtain ⟨n2, rfl, _⟩ := int_open k1 (isSome_of hl2 (by omega))
    rw [List.getElem?_eq_getElem (by omega)] at k2
    obtain ⟨A, ca, l3, rfl, hA⟩ := ints_open k2
    simp only [List.cons.injEq, and_true] at e
    obtain ⟨rfl, rfl⟩ := e
    exact ⟨a, b, n2, A, ca, l3, n4, n5, n6, n7, rfl, hA, hw⟩
end

end Go.Proofs.YthehkgpnnndboaaDoor

