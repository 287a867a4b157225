/- Opens: the arguments of chapter 10's laws opened, and a law's last step. -/
import Derived.Test.YtcgnibfcjadnjaaRows
import Derived.Test.YtcgnibfcjadnjaaFolk
import Derived.Test.YtcgnibfcjadnjaaOkWatch
import Derived.ProofKit
import Derived.Lib.SmallJoins
import Derived.ChangeSame
namespace Go.Proofs.Ytcgnibfcjadnjaa
open Go.RowKit Go.ChangeShapes Go.WideShapes Go.ChangeAt Go.Joins Go.Deep

theorem own : ownKnob Try.prog.godebug = none := by kernel_rfl
theorem laidOut : laidOutB Try.prog = true := by kernel_rfl
theorem cellsInt : Try.prog.cellsOf 3 = 1 := by kernel_rfl
theorem cellsInts : Try.prog.cellsOf 26 = 1 := by kernel_rfl
theorem cellsFolk : Try.prog.cellsOf 62 = 3 := by kernel_rfl
theorem cellsFolks : Try.prog.cellsOf 22 = 1 := by kernel_rfl
theorem cellsRows : Try.prog.cellsOf 23 = 1 := by kernel_rfl
theorem cellsPool : Try.prog.cellsOf 25 = 4 := by kernel_rfl
theorem wf_range {z : Int} (h : Lit.wf (.int .i64 z) = true) : -9223372036854775808 ≤ z ∧ z < 9223372036854775808 := by
  simp only [Lit.wf, Bool.and_eq_true, decide_eq_true_eq] at h
  have e : IntKind.max .i64 = 9223372036854775807 := by decide +kernel
  have e2 : IntKind.min .i64 = -9223372036854775808 := by decide +kernel
  omega

section
variable {H : Type} {enc : TypeId × Value → H} {P : Program}
/-- the last step of a law that leaves new blocks behind it -/
theorem post_of_below {f : Func} {s : ChangeSpec} {apart fresh handsOn again : Bool} {W W' : World} {args : Array Value} {v : Value} {ds gs : List (DataW H)} {before pa pv : List MemPlace}
    (hW : DataW.Whole enc P f.params.toList s.vars apart W args.toList ds gs before)
    (hres : ∀ (b : Nat) (sp : Nat → Bool) (hd : Bool), DataW.TrodAll enc P W' b sp hd f.resultTypes.toList (v.resultList f.resultTypes.size) (s.fn H (ds ++ gs)).results [])
    (hargs : ∀ sp : Nat → Bool, (∀ p ∈ before, sp p.block = true) → DataW.TrodAll enc P W' 0 sp true f.params.toList args.toList (s.fn H (ds ++ gs)).args pa)
    (hvars : ∀ sp : Nat → Bool, (∀ p ∈ before, sp p.block = true) → DataW.TrodVars enc P W' sp s.vars (s.fn H (ds ++ gs)).vars pv)
    (hps : before = pa ++ pv) (hb : Below W.heap.size W W')
    (hok : ∀ (j : Nat) (t : TypeId) (r : Value), f.resultTypes[j]? = some t → (v.resultList f.resultTypes.size)[j]? = some r → Value.okWide P W' .any 0 t r) :
    s.post enc P f apart fresh handsOn again W args v W' := by
  have hlt : ∀ p ∈ before, p.block < W.heap.size := fun p hp => hW.lt p hp
  have hold : ∀ p ∈ before, (fun b => decide (b < W.heap.size)) p.block = true := fun p hp => by simpa using hlt p hp
  refine ⟨ds, gs, before, [], pa, pv, hW, hres _ _ _, hargs _ hold, hvars _ hold, World.keptBut_mono (fun p hp => ⟨hp, ?_⟩) (hb.frame (· ∈ before)), fun _ => ?_⟩
  · rw [hps, List.mem_append] at hp
    exact Or.inr hp
  · obtain ⟨_, _, _, _, _, hz, hn⟩ := hW
    refine ⟨hok, _, _, ([] ++ pa) ++ pv, ⟨[] ++ pa, pv, trodAll_append (hargs _ (fun _ _ => rfl)) (hres _ _ _), hvars _ (fun _ _ => rfl), rfl, ?_, ?_⟩, ?_⟩
    · intro b off hp
      have hin : MemPlace.cell b off ∈ before := by rw [hps]; simpa using hp
      rw [hb.frozen (hlt _ hin)]
      exact hz b off hin
    · intro ha
      have := hn ha
      rw [hps] at this
      simpa using this
    · intro p hp _
      rw [hps]
      simpa using hp

/-- an argument reads behind the call as it read before -/
theorem stays {t : TypeId} {W W' : World} {v : Value} {d : DataW H} {ps : List MemPlace} {sp : Nat → Bool} (hl : laidOutB P = true) (hr : P.readableRec t = true) (hrow : t < P.types.size)
    (h : DataW.Trod enc P W 0 (fun _ => true) true t v d ps) (hb : Below W.heap.size W W') (hlt : ∀ x ∈ ps, x.block < W.heap.size) (hs : ∀ p ∈ ps, sp p.block = true) :
    DataW.Trod enc P W' 0 sp true t v d ps :=
  WideElems.Trod_stays hl hr hrow h (fun x hx => hb.same (hlt x hx)) hs
end

theorem list_of {α : Type} {P : Nat → α → Prop} : ∀ n, (∀ i, i < n → ∃ x, P i x) → ∃ l : List α, l.length = n ∧ ∀ i x, l[i]? = some x → P i x
  | 0, _ => ⟨[], rfl, fun i x h => by simp at h⟩
  | n + 1, h => by
    obtain ⟨l, hl, hp⟩ := list_of n fun i hi => h i (by omega)
    obtain ⟨x, hx⟩ := h n (by omega)
    refine ⟨l ++ [x], by simp [hl], fun i y hy => ?_⟩
    by_cases hi : i < n
    · rw [List.getElem?_append_left (by omega)] at hy
      exact hp i y hy
    · have hlen := (List.getElem?_eq_some_iff.1 hy).1
      simp only [List.length_append, List.length_cons, List.length_nil] at hlen
      obtain rfl : i = n := by omega
      rw [List.getElem?_append_right (by omega)] at hy
      simp only [hl, Nat.sub_self, List.getElem?_cons_zero, Option.some.injEq] at hy
      subst hy
      exact hx

section
variable {H : Type} {enc : TypeId × Value → H} {w : World} {base : Nat} {spare : Nat → Bool} {held : Bool}

theorem int_open {n : Nat} {v : Value} {o : Option (DataW H × List MemPlace)} (h : DataW.trod enc Try.prog w base spare held n 3 [v] = o) (ho : o.isSome = true) : ∃ z, v = .int .i64 z ∧ Lit.wf (.int .i64 z) = true := by
  obtain ⟨y, rfl⟩ := Option.isSome_iff_exists.1 ho
  obtain ⟨z, e, _, hz⟩ := DataW.trod_int Try.underlying3 h
  exact ⟨z, by simpa using e, hz⟩

theorem isSome_of {α : Type} {l : List α} {n i : Nat} (hl : l.length = n) (hi : i < n) : l[i]?.isSome = true := by
  rw [List.getElem?_eq_getElem (by omega)]; rfl

theorem trod_field {cs : List Value} {fs : Array Field} {n : Nat} {xs : List (DataW H × List MemPlace)}
    (hg : ∀ (i : Nat) (f : Field), fs[i]? = some f → DataW.trod enc Try.prog w base spare held n f.type ((cs.drop f.offset).take (Try.prog.cellsOf f.type)) = xs[i]?) (i : Nat) (t off k : Nat) (f : Field) (hf : fs[i]? = some f)
    (ht : f.type = t) (ho : f.offset = off) (hk : Try.prog.cellsOf t = k) : DataW.trod enc Try.prog w base spare held n t ((cs.drop off).take k) = xs[i]? := by
  subst ht; subst ho; subst hk
  exact hg i f hf

theorem int_cells {n : Nat} {cs : List Value} {o : Option (DataW H × List MemPlace)} (h : DataW.trod enc Try.prog w base spare held n 3 cs = o) (ho : o.isSome = true) : ∃ z, cs = [.int .i64 z] ∧ Lit.wf (.int .i64 z) = true := by
  obtain ⟨y, rfl⟩ := Option.isSome_iff_exists.1 ho
  obtain ⟨z, e, _, hz⟩ := DataW.trod_int Try.underlying3 h
  exact ⟨z, e, hz⟩
set_option maxRecDepth 100000 in
/-- integers -/
theorem ints_open {n : Nat} {v : Value} {y : DataW H × List MemPlace} (hf : DataW.trod enc Try.prog w base spare held n 26 [v] = some y) :
    ∃ A cap xs, v = .slice A (List.length xs) cap ∧ Ints w w.heap.size A xs ∧ Wf xs := by
  rcases open_slice Try.underlying26 hf with ⟨hcs, _⟩ | ⟨a, len, cap, m, n, D, Pl, hcs, _, hl, hm, hmm, _, hi⟩
  · obtain rfl : v = .slice none 0 0 := by simpa using hcs
    exact ⟨none, 0, [], rfl, .inl rfl, fun x hx => by cases hx⟩
  · obtain rfl : v = .slice (some a) len cap := by simpa using hcs
    have hlm : len ≤ m := by rw [hmm]; split <;> omega
    rw [cellsInt] at hi
    obtain ⟨l, hll, hp⟩ := list_of (P := fun i (x : Int) => w.cell? (a.add (i * 1 + 0)) = some (.int .i64 x) ∧ Lit.wf (.int .i64 x) = true) len fun i hil => by
      obtain ⟨cs', hc, ht⟩ := hi i (by omega)
      obtain ⟨x, rfl, hx⟩ := int_cells ht rfl
      obtain ⟨_, _, hat⟩ := World.cells?_some hc
      refine ⟨x, ?_, hx⟩
      rw [← Go.Deep.add_add, hat 0 (by omega)]
      simp
    refine ⟨some a, cap, l, by rw [hll], ?_, fun x hx => by obtain ⟨i, hi'⟩ := List.getElem?_of_mem hx; exact wf_range (hp i x hi').2⟩
    by_cases h0 : len = 0
    · exact .inl (List.eq_nil_of_length_eq_zero (hll.trans h0))
    · obtain ⟨b, off, spot⟩ := a
      have c0 := (hp 0 _ (List.getElem?_eq_getElem (by omega))).1
      have hspot : spot = none := by simpa [Addr.add] using World.cell?_spot c0
      subst hspot
      have hb : b < w.heap.size := by
        have := World.block_lt_of_cell? w _ c0
        simpa [Addr.add] using this
      refine .inr ⟨b, off, rfl, hb, fun j x hj => ?_⟩
      have c := (hp j x hj).1
      rw [add_plain] at c
      rwa [Nat.mul_one, Nat.add_zero] at c
set_option maxRecDepth 100000 in
/-- the cells of a person -/
theorem folk_cells {n : Nat} {cs : List Value} {o : Option (DataW H × List MemPlace)} (h : DataW.trod enc Try.prog w base spare held n 62 cs = o) (ho : o.isSome = true) :
    ∃ x : FolkI, cs = (cellsF x).toList := by
  obtain ⟨y, rfl⟩ := Option.isSome_iff_exists.1 ho
  obtain ⟨xs, m, _, _, hc, hlen, hg⟩ := DataW.trod_struct Try.underlying62 h
  match cs, hc.trans cellsFolk with
  | [c0, c1, c2], _ =>
    have hl : xs.length = 3 := hlen
    have h0 := trod_field hg 0 3 0 _ _ rfl rfl rfl cellsInt
    have h1 := trod_field hg 1 3 1 _ _ rfl rfl rfl cellsInt
    have h2 := trod_field hg 2 3 2 _ _ rfl rfl rfl cellsInt
    simp only [List.drop_succ_cons, List.drop_zero, List.take_succ_cons, List.take_zero] at h0 h1 h2
    obtain ⟨n0, rfl, _⟩ := int_open h0 (isSome_of hl (by omega))
    obtain ⟨n1, rfl, _⟩ := int_open h1 (isSome_of hl (by omega))
    obtain ⟨n2, rfl, _⟩ := int_open h2 (isSome_of hl (by omega))
    exact ⟨⟨n0, n1, n2⟩, rfl⟩
set_option maxRecDepth 100000 in
/-- a slice of persons -/
theorem folks_open {n : Nat} {v : Value} {y : DataW H × List MemPlace} (hf : DataW.trod enc Try.prog w base spare held n 22 [v] = some y) :
    ∃ A cap l, v = .slice A (List.length l) cap ∧ Folks w w.heap.size A l := by
  rcases open_slice Try.underlying22 hf with ⟨hcs, _⟩ | ⟨a, len, cap, m, n, D, Pl, hcs, _, hl, hm, hmm, _, hi⟩
  · obtain rfl : v = .slice none 0 0 := by simpa using hcs
    exact ⟨none, 0, [], rfl, .inl rfl⟩
  · obtain rfl : v = .slice (some a) len cap := by simpa using hcs
    have hlm : len ≤ m := by rw [hmm]; split <;> omega
    rw [cellsFolk] at hi
    obtain ⟨l, hll, hp⟩ := list_of (P := fun i (x : FolkI) => (∀ j, j < 3 → w.cell? (a.add (i * 3 + j)) = (cellsF x)[j]?)) len fun i hil => by
      obtain ⟨cs', hc, ht⟩ := hi i (by omega)
      obtain ⟨x, rfl⟩ := folk_cells ht rfl
      obtain ⟨_, _, hat⟩ := World.cells?_some hc
      refine ⟨x, fun j hj => ?_⟩
      rw [← Go.Deep.add_add, hat j hj]
      simp
    refine ⟨some a, cap, l, by rw [hll], ?_⟩
    by_cases h0 : len = 0
    · exact .inl (List.eq_nil_of_length_eq_zero (hll.trans h0))
    · obtain ⟨b, off, spot⟩ := a
      have c0 := hp 0 _ (List.getElem?_eq_getElem (by omega)) 0 (by omega)
      have c0' : w.cell? ((⟨b, off, spot⟩ : Addr).add (0 * 3 + 0)) = some (.int .i64 (l[0]'(by omega)).t) := c0
      have hspot : spot = none := by simpa [Addr.add] using World.cell?_spot c0'
      subst hspot
      have hb : b < w.heap.size := by
        have := World.block_lt_of_cell? w _ c0'
        simpa [Addr.add] using this
      refine .inr ⟨b, off, rfl, hb, fun i x hx j hj => ?_⟩
      have := hp i x hx j hj
      rw [add_plain] at this
      rw [← this, Nat.add_assoc]
set_option maxRecDepth 100000 in
/-- a slice of rows -/
theorem rows_open {n : Nat} {v : Value} {y : DataW H × List MemPlace} (hf : DataW.trod enc Try.prog w base spare held n 23 [v] = some y) :
    ∃ A cap l, v = .slice A (List.length l) cap ∧ Rows w w.heap.size A l := by
  rcases open_slice Try.underlying23 hf with ⟨hcs, _⟩ | ⟨a, len, cap, m, n, D, Pl, hcs, _, hl, hm, hmm, _, hi⟩
  · obtain rfl : v = .slice none 0 0 := by simpa using hcs
    exact ⟨none, 0, [], rfl, .inl rfl⟩
  · obtain rfl : v = .slice (some a) len cap := by simpa using hcs
    have hlm : len ≤ m := by rw [hmm]; split <;> omega
    rw [cellsInts] at hi
    obtain ⟨l, hll, hp⟩ := list_of (P := fun i (x : List Int) => ∃ A c, w.cell? (a.add (i * 1 + 0)) = some (.slice A x.length c) ∧ Ints w w.heap.size A x) len fun i hil => by
      obtain ⟨cs', hc, ht⟩ := hi i (by omega)
      obtain ⟨hlc, _, hat⟩ := World.cells?_some hc
      match cs', hlc with
      | [c0], _ =>
        obtain ⟨A, c, xs, rfl, hx, _⟩ := ints_open ht
        refine ⟨xs, A, c, ?_, hx⟩
        rw [← Go.Deep.add_add, hat 0 (by omega)]
        simp
    refine ⟨some a, cap, l, by rw [hll], ?_⟩
    by_cases h0 : len = 0
    · exact .inl (List.eq_nil_of_length_eq_zero (hll.trans h0))
    · obtain ⟨b, off, spot⟩ := a
      obtain ⟨A0, k0, c0, _⟩ := hp 0 _ (List.getElem?_eq_getElem (by omega))
      have hspot : spot = none := by simpa [Addr.add] using World.cell?_spot c0
      subst hspot
      have hb : b < w.heap.size := by
        have := World.block_lt_of_cell? w _ c0
        simpa [Addr.add] using this
      refine .inr ⟨b, off, rfl, hb, fun j x hj => ?_⟩
      obtain ⟨A1, k1, c, hx⟩ := hp j x hj
      rw [add_plain] at c
      rw [Nat.mul_one, Nat.add_zero] at c
      exact ⟨A1, k1, c, hx⟩
set_option maxRecDepth 100000 in
/-- a pool -/
theorem pool_open {r : Reach} {b0 : Nat} {v : Value} {d : DataW H} {p : List MemPlace} (hv : Value.okWide Try.prog w r b0 25 v) (h : DataW.Trod enc Try.prog w base spare held 25 v d p) :
    ∃ (c : PoolI) (k : PoolH), v = poolV k c ∧ PoolAt w w.heap.size k c := by
  obtain ⟨cs, rfl, hsz⟩ := okWide_struct Try.underlying25 hv
  obtain ⟨l⟩ := cs
  match l, hsz.trans cellsPool with
  | [c0, c1, c2, c3], _ =>
    obtain ⟨fuel, hf⟩ := h
    obtain ⟨xs, m, _, _, _, hlen, hg⟩ := DataW.trod_struct Try.underlying25 hf
    have h0 := trod_field hg 0 22 0 _ _ rfl rfl rfl cellsFolks
    have h1 := trod_field hg 1 23 1 _ _ rfl rfl rfl cellsRows
    have h2 := trod_field hg 2 3 2 _ _ rfl rfl rfl cellsInt
    have h3 := trod_field hg 3 3 3 _ _ rfl rfl rfl cellsInt
    simp only [Value.cells, List.drop_succ_cons, List.drop_zero, List.take_succ_cons, List.take_zero] at h0 h1 h2 h3
    have hl : xs.length = 4 := hlen
    obtain ⟨n2, rfl, _⟩ := int_open h2 (isSome_of hl (by omega))
    obtain ⟨n3, rfl, _⟩ := int_open h3 (isSome_of hl (by omega))
    rw [List.getElem?_eq_getElem (by omega)] at h0 h1
    obtain ⟨A, ca, fs, rfl, hA⟩ := folks_open h0
    obtain ⟨B, cb, rs, rfl, hB⟩ := rows_open h1
    exact ⟨⟨fs, rs, n2, n3⟩, ⟨A, ca, B, cb⟩, rfl, hA, hB⟩
set_option maxRecDepth 100000 in
/-- integers, as an argument -/
theorem intsArg_open {r : Reach} {b0 : Nat} {v : Value} {d : DataW H} {p : List MemPlace} (hv : Value.okWide Try.prog w r b0 26 v) (h : DataW.Trod enc Try.prog w base spare held 26 v d p) :
    ∃ A cap xs, v = .slice A (List.length xs) cap ∧ Ints w w.heap.size A xs ∧ Wf xs := by
  obtain ⟨a0, len, cap, rfl⟩ := okWide_slice Try.underlying26 hv
  obtain ⟨fuel, hf⟩ := h
  exact ints_open (by simpa [Value.cells] using hf)
set_option maxRecDepth 100000 in
/-- an integer, as an argument -/
theorem intArg_open {r : Reach} {b0 : Nat} {v : Value} {d : DataW H} {p : List MemPlace} (hv : Value.okWide Try.prog w r b0 3 v) (h : DataW.Trod enc Try.prog w base spare held 3 v d p) :
    ∃ z, v = .int .i64 z ∧ Lit.wf (.int .i64 z) = true := by
  obtain ⟨z, rfl⟩ := okWide_int Try.underlying3 hv
  obtain ⟨fuel, hf⟩ := h
  obtain ⟨z', e, hw⟩ := int_open (n := fuel) (v := .int .i64 z) (o := some (d, p)) (by simpa [Value.cells] using hf) rfl
  injection e with _ e
  subst e
  exact ⟨z, rfl, hw⟩
end

end Go.Proofs.Ytcgnibfcjadnjaa
