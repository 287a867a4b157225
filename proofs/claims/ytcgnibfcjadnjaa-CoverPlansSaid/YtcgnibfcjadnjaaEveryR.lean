/- EveryR: what may turn in memory while the specification lists all safe watches: the place n of rows of integers, to x; written by wip/tools/everyr10.py. -/
import Derived.Test.YtcgnibfcjadnjaaRSlot
namespace Go.Proofs.Ytcgnibfcjadnjaa
open Go.RowKit

set_option maxRecDepth 100000 in
/-- an append of one integer onto an own row of integers: what it leaves, and what it writes -/
theorem append_intI {w : World} {base n cap q : Nat} {A : Option Addr} {xs : List Value} {u : Value} (hown : w.ownsRow base 3 1 (.slice A n cap) n xs) (hu : BlockIs w q 3 #[u]) (hone : u.oneCell' = true) (hb : base ≤ w.heap.size) (hn : n ≤ 100) :
    ∃ A' c' w', (Builtin.append_ #[26, 26] 26 #[.slice A n cap, .slice (some ⟨q, 0, none⟩) 1 1]).run Try.prog w = .ok (.slice A' (n + 1) c') w' ∧ w'.ownsRow base 3 1 (.slice A' (n + 1) c') (n + 1) (xs ++ [u]) ∧ (A' = A ∨ ∃ b, A' = some ⟨b, 0, none⟩ ∧ w.heap.size ≤ b) ∧
      w'.os = w.os ∧ w'.tape = w.tape ∧ w'.output = w.output ∧ w.heap.size ≤ w'.heap.size ∧ (∀ k, k < w.heap.size → (∀ g, A = some ⟨g, 0, none⟩ → k ≠ g) → w'.heap[k]? = w.heap[k]?) ∧
      (∀ g cs, A = some ⟨g, 0, none⟩ → BlockIs w g 3 cs → ∃ cs', BlockIs w' g 3 cs' ∧ cs'.size = cs.size ∧ (∀ i, i ≠ n → cs'[i]? = cs[i]?) ∧ (cs'[n]? = cs[n]? ∨ cs'[n]? = some u)) := by
  obtain ⟨i, hi, hz, hsz, hby⟩ := info_parts Try.infoInt
  have hnews : ∀ j v, [u][j]? = some v → w.cell? ((⟨q, 0, none⟩ : Addr).add j) = some v := news_one hu
  have hfit : ∀ k o : Nat, o < k → k ≤ 1000 → Builtin.nextslicecap k o * i.bytes ≤ 281474976710656 := fun k o h1 h2 => growslice_fits h1 (by rw [hby]; omega)
  have hone' : ∀ v ∈ [u], v.oneCell' = true := by simpa using hone
  obtain ⟨v', w', hrun, hown', _, _⟩ := run_append_own (P := Try.prog) w base 26 26 3 i (.int .i64 0) 1 8 Try.underlying26 hi hz hsz hby rfl (by omega) (.slice A n cap) n _ hown ⟨q, 0, none⟩ 1 1 [u] rfl hnews hone' (by unfold maxLen; omega) (by omega) hb
  obtain ⟨A', c', rfl⟩ := own_form hown'
  refine ⟨A', c', w', hrun, hown', ?_⟩
  rcases hown.2 with ⟨hv, rfl⟩ | ⟨g, cap', cur, hv, hbg, hg, hnc, hcm, hcs, htake⟩
  · injection hv with h1 _ h3
    subst h1 h3
    have e := run_append_nil (P := Try.prog) w 26 26 3 i (.int .i64 0) Try.underlying26 hi hz ⟨q, 0, none⟩ 1 1 [u] (by simp [hsz]) hnews (by omega) (by omega) (by rw [hby]; omega)
    rw [e] at hrun
    injection hrun with h1 h2
    subst h2
    injection h1 with h3 _ _
    exact ⟨.inr ⟨_, h3.symm, Nat.le_refl _⟩, rfl, rfl, rfl, by simp, fun k hk _ => Below.heap_alloc w.drew _ k hk, fun g cs hA => by cases hA⟩
  · injection hv with h1 _ h3
    subst h1 h3
    have hcs' : cur.size = cap := by omega
    by_cases hroom : n + 1 ≤ cap
    · have e := run_append_room (P := Try.prog) w 26 26 3 i Try.underlying26 hi g n cap cur hg ⟨q, 0, none⟩ 1 1 [u] (by simp [hsz]) hnews hone' hroom (by simp [hsz]; omega)
      rw [e] at hrun
      injection hrun with h1 h2
      subst h2
      injection h1 with h3 _ _
      refine ⟨.inl h3.symm, rfl, rfl, rfl, by simp, fun k hk hne => setRow_other w g k _ (hne g rfl), fun g' cs hA hcs2 => ?_⟩
      injection hA with hA
      injection hA with hA
      subst hA
      have hcur : cs = cur := by
        have := hcs2.symm.trans hg
        simpa using this
      subst hcur
      refine ⟨_, setRow_heap w g cs _ 3 _ hg, ?_, fun j hj => ?_, .inr ?_⟩
      · simp [hsz]
        omega
      · rw [hsz, Nat.mul_one]
        simp only [List.getElem?_toArray, List.append_assoc]
        by_cases hlt : j < n
        · rw [List.getElem?_append_left (by simp; omega), List.getElem?_take_of_lt hlt, Array.getElem?_toList]
        · rw [List.getElem?_append_right (by simp; omega)]
          simp only [List.length_take, Array.length_toList]
          rw [show j - min n cs.size = (j - n - 1) + 1 by omega]
          simp only [List.singleton_append, List.getElem?_cons_succ, List.getElem?_drop, List.length_singleton]
          rw [show n + 1 + (j - n - 1) = j by omega, Array.getElem?_toList]
      · rw [hsz, Nat.mul_one]
        simp only [List.getElem?_toArray, List.append_assoc]
        rw [List.getElem?_append_right (by simp; omega)]
        simp
        rw [show n - min n cs.size = 0 by omega]
        rfl
    · have holds : ∀ j v, xs[j]? = some v → w.cell? ((⟨g, 0, none⟩ : Addr).add j) = some v := hown.cells (g := g) rfl
      have e := run_append_grow (P := Try.prog) w 26 26 3 i (.int .i64 0) Try.underlying26 hi hz ⟨g, 0, none⟩ n cap xs (by rw [hsz]; exact hown.1) holds ⟨q, 0, none⟩ 1 1 [u] (by simp [hsz]) hnews (by omega) (by omega) (hfit _ _ (by omega) (by omega))
      rw [e] at hrun
      injection hrun with h1 h2
      subst h2
      injection h1 with h3 _ _
      refine ⟨.inr ⟨_, h3.symm, Nat.le_refl _⟩, rfl, rfl, rfl, by simp, fun k hk _ => Below.heap_alloc w.drew _ k hk, fun g' cs hA hcs2 => ⟨cs, ?_, rfl, fun _ _ => rfl, .inl rfl⟩⟩
      exact (Below.heap_alloc w.drew _ g' hcs2.lt).trans hcs2


/-- from lo on only the place n of rows of integers may have turned, to x -/
structure StepE (n : Nat) (x : Int) (lo : Nat) (A B : World) : Prop where
  os : B.os = A.os
  tape : B.tape = A.tape
  output : B.output = A.output
  size : A.heap.size ≤ B.heap.size
  low : ∀ k, k < A.heap.size → k < lo → B.heap[k]? = A.heap[k]?
  other : ∀ b t cs, t ≠ 3 → BlockIs A b t cs → BlockIs B b t cs
  ints : ∀ b cs, BlockIs A b 3 cs → ∃ cs', BlockIs B b 3 cs' ∧ cs'.size = cs.size ∧ (∀ i, i ≠ n → cs'[i]? = cs[i]?) ∧ (cs'[n]? = cs[n]? ∨ cs'[n]? = some (.int .i64 x))
theorem StepE.refl (n : Nat) (x : Int) (lo : Nat) (A : World) : StepE n x lo A A := ⟨rfl, rfl, rfl, Nat.le_refl _, fun _ _ _ => rfl, fun _ _ _ _ h => h, fun _ cs h => ⟨cs, h, rfl, fun _ _ => rfl, .inl rfl⟩⟩
theorem StepE.trans {n : Nat} {x : Int} {lo : Nat} {A B C : World} (h : StepE n x lo A B) (k : StepE n x lo B C) : StepE n x lo A C := by
  refine ⟨k.os.trans h.os, k.tape.trans h.tape, k.output.trans h.output, Nat.le_trans h.size k.size, fun i hi hl => (k.low i (Nat.lt_of_lt_of_le hi h.size) hl).trans (h.low i hi hl), fun b t cs ht hb => k.other b t cs ht (h.other b t cs ht hb), fun b cs hb => ?_⟩
  obtain ⟨c1, a1, a2, a3, a4⟩ := h.ints b cs hb
  obtain ⟨c2, b1, b2, b3, b4⟩ := k.ints b c1 a1
  refine ⟨c2, b1, b2.trans a2, fun i hi => (b3 i hi).trans (a3 i hi), ?_⟩
  rcases b4 with b4 | b4
  · rcases a4 with a4 | a4
    · exact .inl (b4.trans a4)
    · exact .inr (b4.trans a4)
  · exact .inr b4
theorem StepE.of_grow {n : Nat} {x : Int} {lo : Nat} {A B : World} (h : Grow A B) : StepE n x lo A B := ⟨h.os, h.tape, h.output, h.size, fun k hk _ => Below.block h k hk, fun _ _ _ _ hb => h.block hb, fun _ cs hb => ⟨cs, h.block hb, rfl, fun _ _ => rfl, .inl rfl⟩⟩
theorem StepE.of_drew {n : Nat} {x : Int} {lo : Nat} {A B : World} (h : StepE n x lo A.drew B) : StepE n x lo A B := ⟨h.os, h.tape, h.output, h.size, h.low, h.other, h.ints⟩
theorem StepE.below {n : Nat} {x : Int} {lo : Nat} {A B : World} (h : StepE n x lo A B) (hl : lo ≤ A.heap.size) : Below lo A B := ⟨h.os, h.tape, h.output, h.size, fun k hk => h.low k (by omega) hk⟩
theorem IntT.step {n : Nat} {x : Int} {lo lo' : Nat} {A B : World} {a : Option Addr} {xs : List Int} (h : IntT A lo' a xs) (r : StepE n x lo A B) (hx : ∀ y, xs[n]? = some y → y = x) : IntT B lo' a xs := by
  rcases h with e | ⟨b, cs, e, h1, hb, hc⟩
  · exact .inl e
  · obtain ⟨cs', b1, _, b3, b4⟩ := r.ints b cs hb
    refine .inr ⟨b, cs', e, h1, b1, fun i y hy => ?_⟩
    by_cases hi : i = n
    · subst hi
      rcases b4 with b4 | b4
      · rw [b4]; exact hc i y hy
      · rw [b4, hx y hy]
    · rw [b3 i hi]; exact hc i y hy
theorem ElemI.step {n : Nat} {x : Int} {lo lo' : Nat} {A B : World} {xs : List Int} {u : Value} (h : ElemI A lo' xs u) (r : StepE n x lo A B) (hx : ∀ y, xs[n]? = some y → y = x) : ElemI B lo' xs u := by
  obtain ⟨a, c, rfl, hh⟩ := h
  exact ⟨a, c, rfl, hh.step r hx⟩
/-- a row of integers of the call's own -/
def OwnQ (lo n : Nat) (xs : List Value) (v : Value) (w : World) : Prop := ∃ A c, v = .slice A n c ∧ w.ownsRow lo 3 1 (.slice A n c) n xs
theorem own_step {n : Nat} {x : Int} {lo lo' c : Nat} {A B : World} {a : Option Addr} {xs : List Value} (h : A.ownsRow lo' 3 1 (.slice a n c) n xs) (r : StepE n x lo A B) : B.ownsRow lo' 3 1 (.slice a n c) n xs := by
  refine ⟨h.1, ?_⟩
  rcases h.2 with h2 | ⟨g, c', cur, hv, hge, hh, h3, h4, h5, h6⟩
  · exact .inl h2
  · obtain ⟨cs', b1, b2, b3, _⟩ := r.ints g cur hh
    refine .inr ⟨g, c', cs', hv, hge, b1, h3, h4, by rw [b2]; exact h5, ?_⟩
    rw [← h6, Nat.mul_one]
    refine List.ext_getElem? fun i => ?_
    by_cases hi : i < n
    · rw [List.getElem?_take_of_lt hi, List.getElem?_take_of_lt hi, Array.getElem?_toList, Array.getElem?_toList, b3 i (by omega)]
    · rw [List.getElem?_take_eq_none (by omega), List.getElem?_take_eq_none (by omega)]
theorem OwnQ.step {n : Nat} {x : Int} {lo lo' : Nat} {A B : World} {xs : List Value} {v : Value} (h : OwnQ lo' n xs v A) (r : StepE n x lo A B) : OwnQ lo' n xs v B := by
  obtain ⟨a, c, e, hh⟩ := h
  exact ⟨a, c, e, own_step hh r⟩
theorem NilI.step {n : Nat} {x : Int} {lo lo' : Nat} {A B : World} {v : Value} (h : NilI lo' v A) (r : StepE n x lo A B) : NilI lo' v B := by
  obtain ⟨g, e, h1, h2⟩ := h
  obtain ⟨cs', b1, b2, _, _⟩ := r.ints g _ h2
  refine ⟨g, e, h1, ?_⟩
  rw [show cs' = #[] from Array.eq_empty_of_size_eq_zero b2] at b1
  exact b1
/-- one integer in a new block -/
def OneE (lo : Nat) (x : Int) (v : Value) (w : World) : Prop := ∃ b, v = .slice (some ⟨b, 0, none⟩) 1 1 ∧ lo ≤ b ∧ BlockIs w b 3 #[.int .i64 x]
theorem OneE.step {n : Nat} {x y : Int} {lo lo' : Nat} {A B : World} {v : Value} (h : OneE lo' y v A) (r : StepE n x lo A B) (hy : n = 0 → y = x) : OneE lo' y v B := by
  obtain ⟨b, e, h1, h2⟩ := h
  obtain ⟨cs', b1, b2, b3, b4⟩ := r.ints b _ h2
  refine ⟨b, e, h1, ?_⟩
  have hz : cs'.size = 1 := b2
  have h0 : cs'[0]? = some (.int .i64 y) := by
    by_cases hn : n = 0
    · subst hn
      rcases b4 with b4 | b4
      · rw [b4]; rfl
      · rw [b4, hy rfl]
    · rw [b3 0 (Ne.symm hn)]; rfl
  have e2 : cs' = #[.int .i64 y] := by
    refine Array.ext_getElem? fun i => ?_
    cases i with
    | zero => rw [h0]; rfl
    | succ i => rw [Array.getElem?_eq_none (by omega), Array.getElem?_eq_none (by simp)]
  rw [e2] at b1
  exact b1
/-- rows of sets, in memory -/
def RowsE (w : World) (A : Option Addr) (E : List (List Nat)) : Prop := (A = none ∧ E = []) ∨ ∃ b cs, A = some ⟨b, 0, none⟩ ∧ BlockIs w b 26 cs ∧ ∀ (i : Nat) (xs : List Nat), E[i]? = some xs → ∃ u, cs[i]? = some u ∧ ElemI w 0 (natsL xs) u
theorem RowsE.grow {w w' : World} {A : Option Addr} {E : List (List Nat)} (h : RowsE w A E) (g : Grow w w') : RowsE w' A E := by
  rcases h with e | ⟨b, cs, e, hb, hc⟩
  · exact .inl e
  · refine .inr ⟨b, cs, e, g.block hb, fun i xs hi => ?_⟩
    obtain ⟨u, h1, h2⟩ := hc i xs hi
    exact ⟨u, h1, h2.grow g⟩
theorem RowsE.step {n : Nat} {x : Int} {lo : Nat} {A B : World} {a : Option Addr} {E : List (List Nat)} (h : RowsE A a E) (r : StepE n x lo A B) (hx : ∀ xs, xs ∈ E → ∀ y, (natsL xs)[n]? = some y → y = x) : RowsE B a E := by
  rcases h with e | ⟨b, cs, e, hb, hc⟩
  · exact .inl e
  · refine .inr ⟨b, cs, e, r.other b _ cs (by decide) hb, fun i xs hi => ?_⟩
    obtain ⟨u, h1, h2⟩ := hc i xs hi
    exact ⟨u, h1, h2.step r (hx xs (List.mem_of_getElem? hi))⟩
/-- rows of sets, as a value -/
def RowsV (E : List (List Nat)) (v : Value) (w : World) : Prop := ∃ A c, v = .slice A E.length c ∧ RowsE w A E
/-- what the append of one integer leaves -/
theorem append_step {w : World} {lo n c q : Nat} {a : Option Addr} {xs : List Value} {x : Int} (hown : w.ownsRow lo 3 1 (.slice a n c) n xs) (hq : BlockIs w q 3 #[.int .i64 x]) (hlo : lo ≤ w.heap.size) (hn : n ≤ 100) :
    ∃ a' c' w', (Builtin.append_ #[26, 26] 26 #[.slice a n c, .slice (some ⟨q, 0, none⟩) 1 1]).run Try.prog w = .ok (.slice a' (n + 1) c') w' ∧ w'.ownsRow lo 3 1 (.slice a' (n + 1) c') (n + 1) (xs ++ [.int .i64 x]) ∧ StepE n x lo w w' := by
  obtain ⟨A', c', w', hrun, hown', _, h1, h2, h3, h4, h5, h6⟩ := append_intI hown hq rfl hlo hn
  refine ⟨A', c', w', hrun, hown', h1, h2, h3, h4, fun k hk hl => h5 k hk fun g e => ?_, fun b t cs ht hb => ?_, fun b cs hb => ?_⟩
  · rcases hown.2 with ⟨hv, _⟩ | ⟨g', c2, cur, hv, hge, _⟩
    · injection hv with e1
      rw [e1] at e
      cases e
    · injection hv with e1
      rw [e1] at e
      injection e with e
      injection e with e
      omega
  · refine (h5 b hb.lt fun g e => ?_).trans hb
    rintro rfl
    rcases hown.2 with ⟨hv, _⟩ | ⟨g', c2, cur, hv, hge, hh, _⟩
    · injection hv with e1
      rw [e1] at e
      cases e
    · injection hv with e1
      rw [e1] at e
      injection e with e
      injection e with e
      subst e
      have := hb.symm.trans hh
      simp at this
      exact ht this.2
  · by_cases hg : ∃ g, a = some ⟨g, 0, none⟩ ∧ b = g
    · obtain ⟨g, e, rfl⟩ := hg
      exact h6 b cs e hb
    · exact ⟨cs, (h5 b hb.lt fun g e he => hg ⟨g, e, he⟩).trans hb, rfl, fun _ _ => rfl, .inl rfl⟩

theorem ElemI.keepT {lo : Nat} {A B : World} {xs : List Int} {u : Value} (h : ElemI A lo xs u) (k : ∀ b cs, BlockIs A b 3 cs → BlockIs B b 3 cs) : ElemI B lo xs u := by
  obtain ⟨a, c, rfl, hh⟩ := h
  refine ⟨a, c, rfl, ?_⟩
  rcases hh with e | ⟨b, cs, e, h1, hb, hc⟩
  · exact .inl e
  · exact .inr ⟨b, cs, e, h1, k b cs hb, hc⟩
theorem own_rowsE {w : World} {base n c : Nat} {A : Option Addr} {us : List Value} {E : List (List Nat)} (h : w.ownsRow base 26 1 (.slice A n c) n us) (hn : n = E.length) (he : ∀ (i : Nat) (xs : List Nat), E[i]? = some xs → ∃ u, us[i]? = some u ∧ ElemI w 0 (natsL xs) u) : RowsE w A E := by
  subst hn
  have h' := h
  rcases h.2 with ⟨hv, h0⟩ | ⟨g, c2, cur, hv, hg, hh, h2, h3, h4, h5⟩
  · injection hv with e
    exact .inl ⟨e, List.eq_nil_of_length_eq_zero h0⟩
  · injection hv with e1 e2 e3
    subst e1 e3
    have hB : BlockIs w g 26 cur := hh
    refine .inr ⟨g, cur, rfl, hB, fun i xs hi => ?_⟩
    obtain ⟨u, hu, hel⟩ := he i xs hi
    refine ⟨u, ?_, hel⟩
    have hc := World.ownsRow.cells (g := g) h' rfl i u hu
    rwa [show (⟨g, 0, none⟩ : Addr).add i = ⟨g, i, none⟩ by (simp [Addr.add]; try omega), hB.cell] at hc
/-- an append of rows of sets onto an own row of such rows -/
theorem wpList_append_rowsE {w : World} {ops : Array Oper} {rest : List Oper} {o : Oper} {a : Act} {Q : Exit → Act → World → Prop} (hgd : o.guard = none) (s x : Operand)
    (ho : o.op = .call { callee := .builtin .append, args := #[s, x], argTypes := #[23, 23] })
    (base n c : Nat) (A : Option Addr) (us : List Value) (hs : a.eval s = .slice A n c) (hown : w.ownsRow base 26 1 (.slice A n c) n us)
    (A7 : Option Addr) (c7 : Nat) (E : List (List Nat)) (hx : a.eval x = .slice A7 E.length c7) (hr : RowsE w A7 E) (hbd : n + E.length ≤ 1000000) (hbase : base ≤ w.heap.size)
    (h : ∀ A' c' w' news, w'.ownsRow base 26 1 (.slice A' (n + E.length) c') (n + E.length) (us ++ news) → (∀ (i : Nat) (xs : List Nat), E[i]? = some xs → ∃ u, news[i]? = some u ∧ ElemI w' 0 (natsL xs) u) →
      (∀ b cs, BlockIs w b 3 cs → BlockIs w' b 3 cs) → Below base w w' → wpList Try.prog ops Q rest (a.put o.dst (.slice A' (n + E.length) c')) w') : wpList Try.prog ops Q (o :: rest) a w := by
  obtain ⟨i0, hi, hz0, hz1, hz2⟩ := info_parts Try.infoRowI
  rcases hr with ⟨rfl, rfl⟩ | ⟨b, cs, rfl, hb, hc⟩
  · refine wpList_plain hgd fun K hK => ?_
    have hrun := run_append_nothing (P := Try.prog) w base 23 o.type 26 i0 1 Try.underlying23 hi (.slice A n c) n us hown c7
    have h1 := hK _ _ (h A c w [] (by simpa using hown) (fun i xs hi => by simp at hi) (fun _ _ h => h) (Below.refl _ _))
    unfold Oper.wp
    simp at hx
    simp [execOp, ho, resolve, invoke, builtin, hs, hx, hrun, Result.andThen]
    exact h1
  · have hlen : E.length ≤ cs.size := by
      rcases Nat.lt_or_ge cs.size E.length with q | q
      · obtain ⟨u, h1, _⟩ := hc (E.length - 1) _ (List.getElem?_eq_getElem (by omega))
        have := (Array.getElem?_eq_some_iff.1 h1).1
        omega
      · exact q
    have hel : ∀ (i : Nat) (xs : List Nat), E[i]? = some xs → ∃ u, (cs.toList.take E.length)[i]? = some u ∧ ElemI w 0 (natsL xs) u := fun i xs hi => by
      obtain ⟨u, h1, h2⟩ := hc i xs hi
      exact ⟨u, by rw [List.getElem?_take_of_lt (List.getElem?_eq_some_iff.1 hi).1, Array.getElem?_toList]; exact h1, h2⟩
    refine wpList_append_own w hgd s x 23 ho base 26 i0 (.slice none 0 0) 1 24 Try.underlying23 hi hz0 hz1 hz2 rfl (by omega) _ n us hs hown ⟨b, 0, none⟩ E.length c7 (cs.toList.take E.length) hx (by simp; omega) (fun j u hu => ?_) (fun u hu => ?_) (by unfold maxLen; omega) (by omega) hbase (fun v' w' h2 h3 _ => ?_)
    · have hj : j < E.length := by have := (List.getElem?_eq_some_iff.1 hu).1; simp at this; omega
      rw [List.getElem?_take_of_lt hj, Array.getElem?_toList] at hu
      rw [show (⟨b, 0, none⟩ : Addr).add j = ⟨b, j, none⟩ by (simp [Addr.add]; try omega), hb.cell]
      exact hu
    · obtain ⟨j, hj⟩ := List.getElem?_of_mem hu
      have hjl : j < E.length := by have := (List.getElem?_eq_some_iff.1 hj).1; simp at this; omega
      obtain ⟨u', h1, h2⟩ := hel j _ (List.getElem?_eq_getElem hjl)
      rw [hj] at h1
      obtain rfl := Option.some.inj h1
      obtain ⟨_, _, rfl, _⟩ := h2
      rfl
    · obtain ⟨A', c', rfl⟩ := own_form h2
      have hk : ∀ b cs, BlockIs w b 3 cs → BlockIs w' b 3 cs := fun b cs hq => hq.grown h3 (own_block_ne hown hq (by decide))
      refine h A' c' w' _ h2 (fun i xs hi => ?_) hk (below_grown (Below.refl _ _) hown h3 hbase)
      obtain ⟨u, h4, h5⟩ := hel i xs hi
      exact ⟨u, h4, h5.keepT hk⟩
/-- a row of the call's own that is not empty lies in a block -/
theorem own_block1 {w : World} {base n c : Nat} {A : Option Addr} {xs : List Value} (h : w.ownsRow base 3 1 (.slice A n c) n xs) (hn : 0 < n) : ∃ b cs, A = some ⟨b, 0, none⟩ ∧ base ≤ b ∧ BlockIs w b 3 cs ∧ ∀ (i : Nat) (y : Value), xs[i]? = some y → cs[i]? = some y := by
  have h' := h
  rcases h.2 with ⟨_, h0⟩ | ⟨g, c2, cur, hv, hg, hh, h2, h3, h4, h5⟩
  · omega
  · injection hv with e1 e2 e3
    subst e1 e3
    have hB : BlockIs w g 3 cur := hh
    refine ⟨g, cur, rfl, hg, hB, fun i y hi => ?_⟩
    have hc := World.ownsRow.cells (g := g) h' rfl i y hi
    rwa [show (⟨g, 0, none⟩ : Addr).add i = ⟨g, i, none⟩ by (simp [Addr.add]; try omega), hB.cell] at hc

end Go.Proofs.Ytcgnibfcjadnjaa
