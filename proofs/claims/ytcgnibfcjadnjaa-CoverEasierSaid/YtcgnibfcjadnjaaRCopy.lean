/- RowsI: rows of rows of integers: an append of one row of integers onto a row of such rows of the call's own, in a region that draws its order; written by wip/tools/rowsi10.py. RCopy: the specification's Copy: an equal pool in new memory; written by wip/tools/rcopy10.py. -/
import Derived.Test.YtcgnibfcjadnjaaPlanP
import Derived.ArgAppend
namespace Go.Proofs.Ytcgnibfcjadnjaa
open Go.RowKit

/-- integers in a block of groups from lo on -/
def IntT (w : World) (lo : Nat) (A : Option Addr) (xs : List Int) : Prop := xs = [] ∨ ∃ b cs, A = some ⟨b, 0, none⟩ ∧ lo ≤ b ∧ BlockIs w b 3 cs ∧ ∀ (i : Nat) (x : Int), xs[i]? = some x → cs[i]? = some (Value.int .i64 x)
theorem IntT.ints {w : World} {lo : Nat} {A : Option Addr} {xs : List Int} (h : IntT w lo A xs) : Ints w w.heap.size A xs := by
  rcases h with rfl | ⟨b, cs, rfl, _, hb, hc⟩
  · exact .inl rfl
  · exact .inr ⟨b, 0, rfl, hb.lt, fun j x hj => by rw [Nat.zero_add, hb.cell]; exact hc j x hj⟩
theorem IntT.mono {w : World} {lo lo' : Nat} {A : Option Addr} {xs : List Int} (h : IntT w lo A xs) (hl : lo' ≤ lo) : IntT w lo' A xs := by
  rcases h with rfl | ⟨b, cs, rfl, h1, hb, hc⟩
  · exact .inl rfl
  · exact .inr ⟨b, cs, rfl, by omega, hb, hc⟩
theorem IntT.grow {w w' : World} {lo : Nat} {A : Option Addr} {xs : List Int} (h : IntT w lo A xs) (g : Grow w w') : IntT w' lo A xs := by
  rcases h with rfl | ⟨b, cs, rfl, h1, hb, hc⟩
  · exact .inl rfl
  · exact .inr ⟨b, cs, rfl, h1, g.block hb, hc⟩
theorem own_intT {w : World} {base n cap : Nat} {A : Option Addr} {xs : List Int} (h : w.ownsRow base 3 1 (.slice A n cap) n (xs.map (Value.int .i64))) (hn : n = xs.length) : IntT w base A xs := by
  subst hn
  have h' := h
  rcases h.2 with ⟨e, e2⟩ | ⟨g, c, cur, hv, hg, hh, h2, h3, h4, h5⟩
  · exact .inl (List.eq_nil_of_length_eq_zero e2)
  · injection hv with e1 e2 e3
    subst e1 e3
    have hB : BlockIs w g 3 cur := hh
    refine .inr ⟨g, cur, rfl, hg, hB, fun i x hi => ?_⟩
    have hc := World.ownsRow.cells (g := g) h' rfl i (.int .i64 x) (by rw [List.getElem?_map, hi]; rfl)
    rwa [show (⟨g, 0, none⟩ : Addr).add i = ⟨g, i, none⟩ by (simp [Addr.add]; try omega), hB.cell] at hc
theorem Try.infoRowI : (Try.prog.info? 26).map (fun i => (i.zero, i.size, i.bytes)) = some (some (Value.slice none 0 0), 1, 24) := by kernel_rfl
set_option maxRecDepth 100000 in
/-- an append of one slice onto an own row of slices: what it leaves, and what it writes -/
theorem append_slotI {w : World} {base n cap q : Nat} {A : Option Addr} {xs : List Value} {u : Value} (hown : w.ownsRow base 26 1 (.slice A n cap) n xs) (hu : BlockIs w q 26 #[u]) (hone : u.oneCell' = true) (hb : base ≤ w.heap.size) (hn : n ≤ 100) :
    ∃ A' c' w', (Builtin.append_ #[23, 23] 23 #[.slice A n cap, .slice (some ⟨q, 0, none⟩) 1 1]).run Try.prog w = .ok (.slice A' (n + 1) c') w' ∧ w'.ownsRow base 26 1 (.slice A' (n + 1) c') (n + 1) (xs ++ [u]) ∧ (A' = A ∨ ∃ b, A' = some ⟨b, 0, none⟩ ∧ w.heap.size ≤ b) ∧
      w'.os = w.os ∧ w'.tape = w.tape ∧ w'.output = w.output ∧ w.heap.size ≤ w'.heap.size ∧ (∀ k, k < w.heap.size → (∀ g, A = some ⟨g, 0, none⟩ → k ≠ g) → w'.heap[k]? = w.heap[k]?) ∧
      (∀ g cs, A = some ⟨g, 0, none⟩ → BlockIs w g 26 cs → ∃ cs', BlockIs w' g 26 cs' ∧ cs'.size = cs.size ∧ (∀ i, i < n → cs'[i]? = cs[i]?) ∧ (cs'[n]? = cs[n]? ∨ cs'[n]? = some u)) := by
  obtain ⟨i, hi, hz, hsz, hby⟩ := info_parts Try.infoRowI
  have hnews : ∀ j v, [u][j]? = some v → w.cell? ((⟨q, 0, none⟩ : Addr).add j) = some v := news_one hu
  have hfit : ∀ k o : Nat, o < k → k ≤ 1000 → Builtin.nextslicecap k o * i.bytes ≤ 281474976710656 := fun k o h1 h2 => growslice_fits h1 (by rw [hby]; omega)
  have hone' : ∀ v ∈ [u], v.oneCell' = true := by simpa using hone
  obtain ⟨v', w', hrun, hown', _, _⟩ := run_append_own (P := Try.prog) w base 23 23 26 i (.slice none 0 0) 1 24 Try.underlying23 hi hz hsz hby rfl (by omega) (.slice A n cap) n _ hown ⟨q, 0, none⟩ 1 1 [u] rfl hnews hone' (by unfold maxLen; omega) (by omega) hb
  obtain ⟨A', c', rfl⟩ := own_form hown'
  refine ⟨A', c', w', hrun, hown', ?_⟩
  rcases hown.2 with ⟨hv, rfl⟩ | ⟨g, cap', cur, hv, hbg, hg, hnc, hcm, hcs, htake⟩
  · injection hv with h1 _ h3
    subst h1 h3
    have e := run_append_nil (P := Try.prog) w 23 23 26 i (.slice none 0 0) Try.underlying23 hi hz ⟨q, 0, none⟩ 1 1 [u] (by simp [hsz]) hnews (by omega) (by omega) (by rw [hby]; omega)
    rw [e] at hrun
    injection hrun with h1 h2
    subst h2
    injection h1 with h3 _ _
    exact ⟨.inr ⟨_, h3.symm, Nat.le_refl _⟩, rfl, rfl, rfl, by simp, fun k hk _ => Below.heap_alloc w.drew _ k hk, fun g cs hA => by cases hA⟩
  · injection hv with h1 _ h3
    subst h1 h3
    have hcs' : cur.size = cap := by omega
    by_cases hroom : n + 1 ≤ cap
    · have e := run_append_room (P := Try.prog) w 23 23 26 i Try.underlying23 hi g n cap cur hg ⟨q, 0, none⟩ 1 1 [u] (by simp [hsz]) hnews hone' hroom (by simp [hsz]; omega)
      rw [e] at hrun
      injection hrun with h1 h2
      subst h2
      injection h1 with h3 _ _
      refine ⟨.inl h3.symm, rfl, rfl, rfl, by simp, fun k hk hne => setRow_other w g k _ (hne g rfl), fun g' cs hA hcs2 => ?_⟩
      injection hA with hA
      injection hA with hA
      subst hA
      have hcur : cs = cur := by
        have := hcs2.symm.trans hg
        simpa using this
      subst hcur
      refine ⟨_, setRow_heap w g cs _ 26 _ hg, ?_, fun j hj => ?_, .inr ?_⟩
      · simp [hsz]
        omega
      · rw [hsz, Nat.mul_one]
        simp only [List.getElem?_toArray, List.append_assoc]
        rw [List.getElem?_append_left (by simp; omega), List.getElem?_take_of_lt hj, Array.getElem?_toList]
      · rw [hsz, Nat.mul_one]
        simp only [List.getElem?_toArray, List.append_assoc]
        rw [List.getElem?_append_right (by simp; omega)]
        simp
        rw [show n - min n cs.size = 0 by omega]
        rfl
    · have holds : ∀ j v, xs[j]? = some v → w.cell? ((⟨g, 0, none⟩ : Addr).add j) = some v := hown.cells (g := g) rfl
      have e := run_append_grow (P := Try.prog) w 23 23 26 i (.slice none 0 0) Try.underlying23 hi hz ⟨g, 0, none⟩ n cap xs (by rw [hsz]; exact hown.1) holds ⟨q, 0, none⟩ 1 1 [u] (by simp [hsz]) hnews (by omega) (by omega) (hfit _ _ (by omega) (by omega))
      rw [e] at hrun
      injection hrun with h1 h2
      subst h2
      injection h1 with h3 _ _
      refine ⟨.inr ⟨_, h3.symm, Nat.le_refl _⟩, rfl, rfl, rfl, by simp, fun k hk _ => Below.heap_alloc w.drew _ k hk, fun g' cs hA hcs2 => ⟨cs, ?_, rfl, fun _ _ => rfl, .inl rfl⟩⟩
      exact (Below.heap_alloc w.drew _ g' hcs2.lt).trans hcs2

/-- a slice of the groups worth trying, in memory from lo on -/
def ElemI (w : World) (lo : Nat) (xs : List Int) (u : Value) : Prop := ∃ a c, u = .slice a xs.length c ∧ IntT w lo a xs
theorem ElemI.grow {w w' : World} {lo : Nat} {xs : List Int} {u : Value} (h : ElemI w lo xs u) (g : Grow w w') : ElemI w' lo xs u := by
  obtain ⟨a, c, rfl, hh⟩ := h
  exact ⟨a, c, rfl, hh.grow g⟩
theorem ElemI.mono {w : World} {lo lo' : Nat} {xs : List Int} {u : Value} (h : ElemI w lo xs u) (hl : lo' ≤ lo) : ElemI w lo' xs u := by
  obtain ⟨a, c, rfl, hh⟩ := h
  exact ⟨a, c, rfl, hh.mono hl⟩
/-- the row of slices in block g alone may have turned, at the place n, to such a slice -/
structure TurnI (g n lo : Nat) (xs : List Int) (A B : World) : Prop where
  os : B.os = A.os
  tape : B.tape = A.tape
  output : B.output = A.output
  size : A.heap.size ≤ B.heap.size
  block : ∀ k, k < A.heap.size → (k ≠ g ∨ lo ≤ k) → B.heap[k]? = A.heap[k]?
  own : g < lo → ∀ cs, BlockIs A g 26 cs → ∃ cs', BlockIs B g 26 cs' ∧ cs'.size = cs.size ∧ (∀ i, i < n → cs'[i]? = cs[i]?) ∧ (cs'[n]? = cs[n]? ∨ ∃ u, cs'[n]? = some u ∧ ElemI B lo xs u)
theorem ElemI.turn {g n lo : Nat} {xs ys : List Int} {A B : World} {u : Value} (h : ElemI A lo ys u) (r : TurnI g n lo xs A B) : ElemI B lo ys u := by
  obtain ⟨a, c, rfl, hh⟩ := h
  refine ⟨a, c, rfl, ?_⟩
  rcases hh with e | ⟨b, cs, e, h1, hb, hc⟩
  · exact .inl e
  · exact .inr ⟨b, cs, e, h1, (r.block b hb.lt (.inr h1)).trans hb, hc⟩
theorem TurnI.refl (g n lo : Nat) (xs : List Int) (A : World) : TurnI g n lo xs A A := ⟨rfl, rfl, rfl, Nat.le_refl _, fun _ _ _ => rfl, fun _ cs h => ⟨cs, h, rfl, fun _ _ => rfl, .inl rfl⟩⟩
theorem TurnI.trans {g n lo : Nat} {xs : List Int} {A B C : World} (h : TurnI g n lo xs A B) (k : TurnI g n lo xs B C) : TurnI g n lo xs A C := by
  refine ⟨k.os.trans h.os, k.tape.trans h.tape, k.output.trans h.output, Nat.le_trans h.size k.size, fun i hi hn => (k.block i (Nat.lt_of_lt_of_le hi h.size) hn).trans (h.block i hi hn), fun hg cs hb => ?_⟩
  obtain ⟨c1, a1, a2, a3, a4⟩ := h.own hg cs hb
  obtain ⟨c2, b1, b2, b3, b4⟩ := k.own hg c1 a1
  refine ⟨c2, b1, b2.trans a2, fun i hi => (b3 i hi).trans (a3 i hi), ?_⟩
  rcases b4 with b4 | b4
  · rcases a4 with a4 | ⟨u, a4, a5⟩
    · exact .inl (b4.trans a4)
    · exact .inr ⟨u, b4.trans a4, a5.turn k⟩
  · exact .inr b4
theorem TurnI.of_grow {g n lo : Nat} {xs : List Int} {A B : World} (h : Grow A B) : TurnI g n lo xs A B := ⟨h.os, h.tape, h.output, h.size, fun k hk _ => Below.block h k hk, fun _ cs hb => ⟨cs, h.block hb, rfl, fun _ _ => rfl, .inl rfl⟩⟩
theorem TurnI.of_drew {g n lo : Nat} {xs : List Int} {A B : World} (h : TurnI g n lo xs A.drew B) : TurnI g n lo xs A B := ⟨h.os, h.tape, h.output, h.size, h.block, h.own⟩
theorem TurnI.blk {g n lo : Nat} {xs : List Int} {A B : World} (h : TurnI g n lo xs A B) {b : Nat} {t : TypeId} {cs : Array Value} (hb : BlockIs A b t cs) (hn : b ≠ g ∨ lo ≤ b) : BlockIs B b t cs := (h.block b hb.lt hn).trans hb
theorem TurnI.below {g n lo B0 : Nat} {xs : List Int} {A B : World} (h : TurnI g n lo xs A B) (hg : B0 ≤ g) (hb : B0 ≤ A.heap.size) : Below B0 A B := ⟨h.os, h.tape, h.output, h.size, fun k hk => h.block k (by omega) (.inl (by omega))⟩
theorem own_turnI {g k n lo base cap : Nat} {A : Option Addr} {us : List Value} {xs : List Int} {w w' : World} (h : w.ownsRow base 26 1 (.slice A k cap) k us) (r : TurnI g n lo xs w w') (hA : RowG A g lo) (hn : n = k) : w'.ownsRow base 26 1 (.slice A k cap) k us := by
  subst hn
  refine ⟨h.1, ?_⟩
  rcases h.2 with h2 | ⟨g', c, cur, hv, hge, hh, h3, h4, h5, h6⟩
  · exact .inl h2
  · injection hv with e1 e2 e3
    subst e1 e3
    rcases hA with ⟨e, hl⟩ | ⟨e, _⟩
    · injection e with e
      injection e with e
      subst e
      obtain ⟨cs', b1, b2, b3, _⟩ := r.own hl cur hh
      refine .inr ⟨g', cap, cs', rfl, hge, b1, h3, h4, by rw [b2]; exact h5, ?_⟩
      rw [← h6, Nat.mul_one]
      refine List.ext_getElem? fun i => ?_
      by_cases hi : i < n
      · rw [List.getElem?_take_of_lt hi, List.getElem?_take_of_lt hi, Array.getElem?_toList, Array.getElem?_toList, b3 i hi]
      · rw [List.getElem?_take_eq_none (by omega), List.getElem?_take_eq_none (by omega)]
    · cases e
/-- the row with one slice more -/
def OwnSI (g lo base k : Nat) (us : List Value) (xs : List Int) (v : Value) (w : World) : Prop := ∃ b c cs, v = .slice (some ⟨b, 0, none⟩) (k + 1) c ∧ base ≤ b ∧ ((b = g ∧ g < lo) ∨ lo ≤ b) ∧ BlockIs w b 26 cs ∧ k + 1 ≤ c ∧ c ≤ maxLen ∧ cs.size = c ∧ (∀ i, i < k → cs[i]? = us[i]?) ∧ ∃ u, cs[k]? = some u ∧ ElemI w lo xs u
theorem OwnSI.turn {g lo base k : Nat} {us : List Value} {xs : List Int} {v : Value} {w w' : World} (h : OwnSI g lo base k us xs v w) (r : TurnI g k lo xs w w') : OwnSI g lo base k us xs v w' := by
  obtain ⟨b, c, cs, rfl, h1, h2, h3, h4, h5, h6, h7, u, h8, h9⟩ := h
  rcases h2 with ⟨rfl, hl⟩ | hl
  · obtain ⟨cs', b1, b2, b3, b4⟩ := r.own hl cs h3
    refine ⟨b, c, cs', rfl, h1, .inl ⟨rfl, hl⟩, b1, h4, h5, by rw [b2]; exact h6, fun i hi => (b3 i hi).trans (h7 i hi), ?_⟩
    rcases b4 with b4 | ⟨u', b4, b5⟩
    · exact ⟨u, b4.trans h8, h9.turn r⟩
    · exact ⟨u', b4, b5⟩
  · exact ⟨b, c, cs, rfl, h1, .inr hl, r.blk h3 (.inr hl), h4, h5, h6, h7, u, h8, h9.turn r⟩
theorem OwnSI.own {g lo base k : Nat} {us : List Value} {xs : List Int} {v : Value} {w : World} (h : OwnSI g lo base k us xs v w) (hu : us.length = k) : ∃ b c u, v = .slice (some ⟨b, 0, none⟩) (k + 1) c ∧ w.ownsRow base 26 1 (.slice (some ⟨b, 0, none⟩) (k + 1) c) (k + 1) (us ++ [u]) ∧ ElemI w lo xs u := by
  obtain ⟨b, c, cs, rfl, h1, h2, h3, h4, h5, h6, h7, u, h8, h9⟩ := h
  refine ⟨b, c, u, rfl, ⟨by simp [hu], .inr ⟨b, c, cs, rfl, h1, h3, h4, h5, by omega, ?_⟩⟩, h9⟩
  rw [Nat.mul_one]
  refine List.ext_getElem? fun i => ?_
  by_cases hi : i < k
  · rw [List.getElem?_take_of_lt (by omega), Array.getElem?_toList, h7 i hi, List.getElem?_append_left (by omega)]
  · by_cases hi2 : i = k
    · subst hi2
      rw [List.getElem?_take_of_lt (by omega), Array.getElem?_toList, h8, ← hu, List.getElem?_concat_length]
    · rw [List.getElem?_take_eq_none (by omega), List.getElem?_eq_none (by simp; omega)]
/-- what the append of the region leaves -/
theorem append_turnI {w : World} {base n cap q g lo : Nat} {A : Option Addr} {us : List Value} {u : Value} {xs : List Int} (hown : w.ownsRow base 26 1 (.slice A n cap) n us) (hA : RowG A g lo) (hlo : lo ≤ w.heap.size) (hu : BlockIs w q 26 #[u]) (he : ElemI w lo xs u) (hb : base ≤ w.heap.size) (hn : n ≤ 100) :
    ∃ v' w', (Builtin.append_ #[23, 23] 23 #[.slice A n cap, .slice (some ⟨q, 0, none⟩) 1 1]).run Try.prog w = .ok v' w' ∧ TurnI g n lo xs w w' ∧ OwnSI g lo base n us xs v' w' := by
  have hone : u.oneCell' = true := by
    obtain ⟨a, c, rfl, _⟩ := he
    rfl
  obtain ⟨A', c', w', hrun, hown', hwhere, h1, h2, h3, h4, h5, h6⟩ := append_slotI hown hu hone hb hn
  have hne : ∀ k, (k ≠ g ∨ lo ≤ k) → ∀ g', A = some ⟨g', 0, none⟩ → k ≠ g' := by
    intro k hk g' e
    rcases hA with ⟨e2, hl⟩ | ⟨e2, _⟩
    · rw [e2] at e
      injection e with e
      injection e with e
      omega
    · rw [e2] at e
      cases e
  have heW : ElemI w' lo xs u := by
    obtain ⟨a, c, rfl, hh⟩ := he
    refine ⟨a, c, rfl, ?_⟩
    rcases hh with e | ⟨b, cs, e, hh1, hb, hc⟩
    · exact .inl e
    · exact .inr ⟨b, cs, e, hh1, (h5 b hb.lt (hne b (.inr hh1))).trans hb, hc⟩
  have hT : TurnI g n lo xs w w' := by
    refine ⟨h1, h2, h3, h4, fun k hk hk2 => h5 k hk (hne k hk2), fun hg cs hcs => ?_⟩
    rcases hA with ⟨e2, hl⟩ | ⟨_, e3⟩
    · obtain ⟨cs', a1, a2, a3, a4⟩ := h6 g cs e2 hcs
      exact ⟨cs', a1, a2, a3, a4.imp id fun a4 => ⟨u, a4, heW⟩⟩
    · omega
  refine ⟨_, w', hrun, hT, ?_⟩
  have hlen : us.length = n := by have := hown.1; omega
  rcases hown'.2 with ⟨hv, hz⟩ | ⟨b, c, cur, hv, hbg, hg, hnc, hcm, hcs, htake⟩
  · omega
  · injection hv with e1 e2 e3
    subst e1 e3
    refine ⟨b, c', cur, rfl, hbg, ?_, hg, hnc, hcm, by omega, fun i hi => ?_, u, ?_, heW⟩
    · rcases hwhere with e | ⟨b', e, hb'⟩
      · rcases hA with ⟨e2, hl⟩ | ⟨e2, _⟩
        · rw [e2] at e
          injection e with e
          injection e with e
          exact .inl ⟨e, hl⟩
        · rw [e2] at e
          cases e
      · injection e with e
        injection e with e
        exact .inr (by omega)
    · have := congrArg (fun l => l[i]?) htake
      simp only [Nat.mul_one] at this
      rw [List.getElem?_take_of_lt (by omega), Array.getElem?_toList, List.getElem?_append_left (by omega)] at this
      exact this
    · have := congrArg (fun l => l[n]?) htake
      simp only [Nat.mul_one] at this
      rw [List.getElem?_take_of_lt (by omega), Array.getElem?_toList, ← hlen, List.getElem?_concat_length, hlen] at this
      exact this
theorem append_headSI {a : Act} {o : Oper} {s x : Operand} {w w' : World} {v u v' : Value} (ho : o.op = .call { callee := .builtin .append, args := #[s, x], argTypes := #[23, 23] }) (ht : o.type = 23) (hs : a.eval s = v) (hx : a.eval x = u)
    (hrun : (Builtin.append_ #[23, 23] 23 #[v, u]).run Try.prog w = .ok v' w') : (execOp a.eval o).run Try.prog w = .ok (.value v') w' := by
  unfold execOp
  simp only [ho, ht, resolve, invoke, builtin, Sem.run_bind, Sem.run_pure, Result.andThen_ok, List.map_toArray, List.map_cons, List.map_nil, hs, hx, hrun]
theorem wp_append_headSI {a : Act} {o : Oper} {s x : Operand} {w w' : World} {v u v' : Value} {next : Act → World → Prop} {Q : Exit → Act → World → Prop} (ho : o.op = .call { callee := .builtin .append, args := #[s, x], argTypes := #[23, 23] }) (ht : o.type = 23) (hs : a.eval s = v) (hx : a.eval x = u)
    (hrun : (Builtin.append_ #[23, 23] 23 #[v, u]).run Try.prog w = .ok v' w') (hn : next (a.put o.dst v') w') : o.wp Try.prog a w next Q := by
  unfold Oper.wp
  rw [append_headSI ho ht hs hx hrun]
  exact hn

theorem ElemI.setC {w : World} {lo : Nat} {xs : List Int} {u : Value} {p : Addr} (h : ElemI w lo xs u) (hp : p.block < lo) (v : Value) : ElemI (w.setCell p v) lo xs u := by
  obtain ⟨a, c, rfl, hh⟩ := h
  refine ⟨a, c, rfl, ?_⟩
  rcases hh with e | ⟨b, cs, e, h1, hb, hc⟩
  · exact .inl e
  · exact .inr ⟨b, cs, e, h1, (Below.heap_setCell w p v b (by omega)).trans hb, hc⟩
theorem row_gI {w : World} {base k cap : Nat} {A : Option Addr} {us : List Value} (h : w.ownsRow base 26 1 (.slice A k cap) k us) (hb : base ≤ w.heap.size) : ∃ g, RowG A g w.heap.size ∧ base ≤ g := by
  rcases h.2 with ⟨hv, _⟩ | ⟨g, c, cur, hv, hge, hh, _⟩
  · injection hv with e
    exact ⟨w.heap.size, .inr ⟨e, rfl⟩, hb⟩
  · injection hv with e
    exact ⟨g, .inl ⟨e, (Array.getElem?_eq_some_iff.1 hh).1⟩, hge⟩
theorem ElemI.old {w w' : World} {base k cap g : Nat} {A : Option Addr} {us : List Value} {xs ys : List Int} {u : Value} (h : ElemI w base ys u) (r : TurnI g k w.heap.size xs w w') (hG : RowG A g w.heap.size) (ho : w.ownsRow base 26 1 (.slice A k cap) k us) : ElemI w' base ys u := by
  obtain ⟨a, c, rfl, hh⟩ := h
  refine ⟨a, c, rfl, ?_⟩
  rcases hh with e | ⟨b, cs, e, h1, hb, hc⟩
  · exact .inl e
  · have hbl := hb.lt
    refine .inr ⟨b, cs, e, h1, r.blk hb (.inl ?_), hc⟩
    rcases hG with ⟨e2, hl⟩ | ⟨e2, e3⟩
    · have hne := own_block_ne ho hb (by decide)
      rw [e2] at hne
      intro e4
      subst e4
      exact hne rfl
    · omega
/-- a slice of one slice, new -/
def NewSI (lo : Nat) (xs : List Int) (v : Value) (w : World) : Prop := ∃ b u, v = .slice (some ⟨b, 0, none⟩) 1 1 ∧ lo ≤ b ∧ BlockIs w b 26 #[u] ∧ ElemI w lo xs u
theorem NewSI.turn {g n lo : Nat} {xs : List Int} {v : Value} {w w' : World} (h : NewSI lo xs v w) (r : TurnI g n lo xs w w') : NewSI lo xs v w' := by
  obtain ⟨b, u, rfl, h1, h2, h3⟩ := h
  exact ⟨b, u, rfl, h1, r.blk h2 (.inr h1), h3.turn r⟩
end Go.Proofs.Ytcgnibfcjadnjaa

namespace Go.Proofs.Ytcgnibfcjadnjaa
open Go.RowKit

theorem own_low {w : World} {base base' e size n : Nat} {v : Value} {xs : List Value} (h : w.ownsRow base e size v n xs) (hl : base' ≤ base) : w.ownsRow base' e size v n xs := by
  obtain ⟨h1, h | ⟨g, c, cur, hv, hg, r⟩⟩ := h
  · exact ⟨h1, .inl h⟩
  · exact ⟨h1, .inr ⟨g, c, cur, hv, by omega, r⟩⟩
section
variable {α : Type} {enc : α → List Value} {k : Nat}
theorem flat_length (hk : ∀ x, (enc x).length = k) : ∀ l : List α, (l.flatMap enc).length = l.length * k
  | [] => by simp
  | x :: l => by rw [List.flatMap_cons, List.length_append, hk, flat_length hk l, List.length_cons, Nat.add_mul, Nat.one_mul, Nat.add_comm]
theorem flat_get (hk : ∀ x, (enc x).length = k) : ∀ (l : List α) (i c : Nat), c < k → (l.flatMap enc)[i * k + c]? = l[i]?.bind fun x => (enc x)[c]?
  | [], i, c, _ => by simp
  | x :: l, 0, c, hc => by
    rw [List.flatMap_cons, Nat.zero_mul, Nat.zero_add, List.getElem?_append_left (by rw [hk]; exact hc)]
    rfl
  | x :: l, i + 1, c, hc => by
    rw [List.flatMap_cons, List.getElem?_append_right (by rw [hk, Nat.add_mul]; omega), hk, show (i + 1) * k + c - k = i * k + c by rw [Nat.add_mul, Nat.one_mul]; omega, flat_get hk l i c hc]
    rfl
end

theorem own_flat {α : Type} {enc : α → List Value} {k : Nat} (hk : ∀ x, (enc x).length = k) {w : World} {base e n cap : Nat} {A : Option Addr} {ys : List α} (h : w.ownsRow base e k (.slice A n cap) n (ys.flatMap enc)) (hn : n = ys.length) : ys = [] ∨ ∃ b cs, A = some ⟨b, 0, none⟩ ∧ base ≤ b ∧ BlockIs w b e cs ∧ n ≤ cap ∧ cs.size = cap * k ∧ ∀ i x, ys[i]? = some x → ∀ j, j < k → cs[i * k + j]? = (enc x)[j]? := by
  have h' := h
  rcases h.2 with ⟨h0, h2⟩ | ⟨g, c, cur, hv, hg, hh, h2, h3, h4, h5⟩
  · exact .inl (List.eq_nil_of_length_eq_zero (by omega))
  · injection hv with e1 e2 e3
    subst e1 e3
    refine .inr ⟨g, cur, rfl, hg, hh, h2, h4, fun i x hi j hj => ?_⟩
    have hf := flat_get (enc := enc) (k := k) hk ys i j hj
    rw [hi, Option.bind_some] at hf
    have hjl : j < (enc x).length := by rw [hk]; exact hj
    have hc := World.ownsRow.cells (g := g) h' rfl (i * k + j) ((enc x)[j]) (by rw [hf]; exact List.getElem?_eq_getElem hjl)
    have hB : BlockIs w g e cur := hh
    rw [show (⟨g, 0, none⟩ : Addr).add (i * k + j) = ⟨g, i * k + j, none⟩ by (simp [Addr.add]; try omega), hB.cell] at hc
    rw [hc, ← List.getElem?_eq_getElem hjl]
section
variable {P : Program}
/-- an append of cells onto a new empty slice -/
theorem append_onto_empty {e t : TypeId} {i : TypeInfo} {z : Value} {size bytes : Nat} (ht : P.underlying t = some (.slice e)) (hi : P.info? e = some i) (hz : i.zero = some z) (hsize : i.size = size) (hby : i.bytes = bytes) (hzs : z.cells.size = size) (hsz : 0 < size)
    {w : World} {g base : Nat} (hB : BlockIs w g e #[]) (hg : base ≤ g) (hbase : base ≤ w.heap.size) (A : Option Addr) (m cp : Nat) (news : List Value) (hl : news.length = m * size) (hnews : m = 0 ∨ ∃ a, A = some a ∧ ∀ j u, news[j]? = some u → w.cell? (a.add j) = some u) (h63 : m ≤ maxLen) (hbytes : m * bytes ≤ 140737488355328) :
    ∃ v' w', (Builtin.append_ #[t, t] t #[.slice (some ⟨g, 0, none⟩) 0 0, .slice A m cp]).run P w = .ok v' w' ∧ w'.ownsRow base e size v' m news ∧ Grow w w' := by
  by_cases h0 : m = 0
  · subst h0
    have hn : news = [] := List.eq_nil_of_length_eq_zero (by omega)
    subst hn
    refine ⟨.slice (some ⟨g, 0, none⟩) 0 0, w, ?_, ⟨by simp, .inr ⟨g, 0, #[], rfl, hg, hB, Nat.le_refl _, by unfold maxLen; omega, by simp, by simp⟩⟩, Grow.refl _⟩
    cases A with
    | none => simp [Builtin.append_, run_underlying ht, Builtin.lenOf, Builtin.firstCells, sizeOf, typeInfo, hi, storeCells]
    | some ad => simp [Builtin.append_, run_underlying ht, Builtin.lenOf, Builtin.firstCells, sizeOf, typeInfo, hi, storeCells, loadCells, loadCellsFrom]
  · rcases hnews with h | ⟨a, rfl, hc⟩
    · exact absurd h h0
    · obtain ⟨v', w', hrun, hown, hgr⟩ := run_append_arg_grows (P := P) w t t e i z size bytes ht hi hz hsize hby hzs hsz ⟨g, 0, none⟩ 0 0 [] (by simp) (by simp) a m cp news hl hc (by omega) (by omega) (by simpa using hbytes)
      rw [Nat.zero_add, List.nil_append] at hown
      exact ⟨v', w', hrun, own_low hown hbase, grown_none hgr⟩
theorem append_headT {t : TypeId} {a : Act} {o : Oper} {s x : Operand} {w w' : World} {v u v' : Value} (ho : o.op = .call { callee := .builtin .append, args := #[s, x], argTypes := #[t, t] }) (ht : o.type = t) (hs : a.eval s = v) (hx : a.eval x = u)
    (hrun : (Builtin.append_ #[t, t] t #[v, u]).run P w = .ok v' w') : (execOp a.eval o).run P w = .ok (.value v') w' := by
  unfold execOp
  simp only [ho, ht, resolve, invoke, builtin, Sem.run_bind, Sem.run_pure, Result.andThen_ok, List.map_toArray, List.map_cons, List.map_nil, hs, hx, hrun]
theorem wp_append_headT {t : TypeId} {a : Act} {o : Oper} {s x : Operand} {w w' : World} {v u v' : Value} {next : Act → World → Prop} {Q : Exit → Act → World → Prop} (ho : o.op = .call { callee := .builtin .append, args := #[s, x], argTypes := #[t, t] }) (ht : o.type = t) (hs : a.eval s = v) (hx : a.eval x = u)
    (hrun : (Builtin.append_ #[t, t] t #[v, u]).run P w = .ok v' w') (hn : next (a.put o.dst v') w') : o.wp P a w next Q := by
  unfold Oper.wp
  rw [append_headT ho ht hs hx hrun]
  exact hn
theorem wpList_append_arg {w : World} {ops : Array Oper} {rest : List Oper} {o : Oper} {a : Act} {Q : Exit → Act → World → Prop} (hgd : o.guard = none) (s x : Operand) (t : TypeId)
    (ho : o.op = .call { callee := .builtin .append, args := #[s, x], argTypes := #[t, t] }) (hot : o.type = t)
    (base : Nat) (e : TypeId) (i : TypeInfo) (z : Value) (size bytes : Nat) (ht : P.underlying t = some (.slice e)) (hi : P.info? e = some i) (hz : i.zero = some z)
    (hsize : i.size = size) (hby : i.bytes = bytes) (hzs : z.cells.size = size) (hsz : 0 < size)
    (g : Nat) (hs : a.eval s = .slice (some ⟨g, 0, none⟩) 0 0) (hB : BlockIs w g e #[]) (hg : base ≤ g) (hbase : base ≤ w.heap.size)
    (A : Option Addr) (m c : Nat) (news : List Value) (hx : a.eval x = .slice A m c) (hl : news.length = m * size) (hnews : m = 0 ∨ ∃ a, A = some a ∧ ∀ j u, news[j]? = some u → w.cell? (a.add j) = some u)
    (h63 : m ≤ maxLen) (hbytes : m * bytes ≤ 140737488355328)
    (h : ∀ v' w', w'.ownsRow base e size v' m news → Grow w w' → wpList P ops Q rest (a.put o.dst v') w') : wpList P ops Q (o :: rest) a w := by
  obtain ⟨v', w', hrun, hown, hgr⟩ := append_onto_empty (P := P) ht hi hz hsize hby hzs hsz hB hg hbase A m c news hl hnews h63 hbytes
  refine wpList_plain hgd fun K hK => ?_
  exact wp_append_headT ho hot hs hx hrun (hK _ _ (h v' w' hown hgr))
end

theorem Try.infoFolk : (Try.prog.info? 62).map (fun i => (i.zero, i.size, i.bytes)) = some (some (.agg #[.int .i64 0, .int .i64 0, .int .i64 0]), 3, 24) := by kernel_rfl
def cellsFL (x : FolkI) : List Value := (cellsF x).toList
theorem folk_src {w : World} {B : Nat} {A : Option Addr} {l : List FolkI} (h : Folks w B A l) : l.length = 0 ∨ ∃ a, A = some a ∧ ∀ j u, (l.flatMap cellsFL)[j]? = some u → w.cell? (a.add j) = some u := by
  rcases h with rfl | ⟨b, off, rfl, _, h2⟩
  · exact .inl rfl
  · refine .inr ⟨_, rfl, fun j u hu => ?_⟩
    have e : j / 3 * 3 + j % 3 = j := by omega
    have hf := flat_get (enc := cellsFL) (k := 3) (fun _ => rfl) l (j / 3) (j % 3) (by omega)
    rw [e, hu] at hf
    cases hy : l[j / 3]? with
    | none => rw [hy] at hf; cases hf
    | some y =>
      rw [hy, Option.bind_some] at hf
      have h3 := h2 _ y hy (j % 3) (by omega)
      rw [show (⟨b, off, none⟩ : Addr).add j = ⟨b, off + j / 3 * 3 + j % 3, none⟩ by (rw [Nat.add_assoc, e]; simp [Addr.add]), h3]
      exact Array.getElem?_toList.symm.trans hf.symm
theorem ints_src {w : World} {B : Nat} {A : Option Addr} {ys : List Int} (h : Ints w B A ys) : ys.length = 0 ∨ ∃ a, A = some a ∧ ∀ j u, (ys.map (Value.int .i64))[j]? = some u → w.cell? (a.add j) = some u := by
  rcases h with rfl | ⟨b, off, rfl, _, h2⟩
  · exact .inl rfl
  · refine .inr ⟨_, rfl, fun j u hu => ?_⟩
    rw [List.getElem?_map] at hu
    cases hy : ys[j]? with
    | none => rw [hy] at hu; cases hu
    | some y =>
      rw [hy] at hu
      have hu : Value.int .i64 y = u := by simpa using hu
      subst hu
      have := h2 j y hy
      rw [show (⟨b, off, none⟩ : Addr).add j = ⟨b, off + j, none⟩ by simp [Addr.add]]
      exact this
/-- of two rows that have integers no block is the same -/
def SepV (ns : List (List Int)) (us : List Value) : Prop := ∀ (i j : Nat) (xs ys : List Int) (u v : Value), i < j → ns[i]? = some xs → ns[j]? = some ys → xs ≠ [] → ys ≠ [] → us[i]? = some u → us[j]? = some v → u.ownBlock ≠ v.ownBlock
/-- a pool in new memory from lo on -/
structure NewPool (w : World) (lo : Nat) (h : PoolH) (d : PoolI) : Prop where
  folk : w.ownsRow lo 62 3 (.slice h.fa d.folk.length h.fc) d.folk.length (d.folk.flatMap cellsFL)
  needs : ∃ us : List Value, w.ownsRow lo 26 1 (.slice h.na d.needs.length h.nc) d.needs.length us ∧ (∀ (i : Nat) (xs : List Int), d.needs[i]? = some xs → ∃ u, us[i]? = some u ∧ ElemI w lo xs u) ∧ SepV d.needs us
theorem NewPool.at_ {w : World} {lo : Nat} {h : PoolH} {d : PoolI} (k : NewPool w lo h d) : PoolAt w w.heap.size h d := by
  obtain ⟨fa, fc, na, nc⟩ := h
  constructor
  · rcases own_flat (enc := cellsFL) (fun _ => rfl) k.folk rfl with e | ⟨b, cs, e, _, hB, _, _, hc⟩
    · exact .inl e
    · exact .inr ⟨b, 0, e, hB.lt, fun i x hi j hj => by rw [hB.cell, Nat.zero_add, hc i x hi j hj]; exact Array.getElem?_toList⟩
  · obtain ⟨us, h1, h2, _⟩ := k.needs
    have h' := h1
    rcases h1.2 with ⟨e, e2⟩ | ⟨g, c, cur, hv, hg, hh, _⟩
    · exact .inl (List.eq_nil_of_length_eq_zero e2)
    · injection hv with e1 e2 e3
      dsimp only at e1 e3 h' ⊢
      subst e1 e3
      have hB : BlockIs w g 26 cur := hh
      refine .inr ⟨g, 0, rfl, hB.lt, fun i xs hi => ?_⟩
      obtain ⟨u, hu, a, cc, rfl, hh⟩ := h2 i xs hi
      refine ⟨a, cc, ?_, hh.ints⟩
      have hc := World.ownsRow.cells (g := g) h' rfl i _ hu
      rwa [show (⟨g, 0, none⟩ : Addr).add i = ⟨g, 0 + i, none⟩ by (simp [Addr.add]; try omega)] at hc
/-- a new empty row of integers -/
def NilI (lo : Nat) (v : Value) (w : World) : Prop := ∃ g, v = .slice (some ⟨g, 0, none⟩) 0 0 ∧ lo ≤ g ∧ BlockIs w g 3 #[]
theorem NilI.turn {g n lo : Nat} {xs : List Int} {v : Value} {w w' : World} (h : NilI lo v w) (r : TurnI g n lo xs w w') : NilI lo v w' := by
  obtain ⟨b, rfl, h1, h2⟩ := h
  exact ⟨b, rfl, h1, r.blk h2 (.inr h1)⟩
abbrev zeroPo : Array Value := #[.slice none 0 0, .slice none 0 0, .int .i64 0, .int .i64 0]
theorem four_stores {w : World} {b : Nat} {t : TypeId} {c0 c1 c2 c3 : Value} (h : BlockIs w b t #[c0, c1, c2, c3]) (v0 v1 v2 v3 : Value) :
    BlockIs ((((w.setCell ⟨b, 0, none⟩ v0).setCell ⟨b, 1, none⟩ v1).setCell ⟨b, 2, none⟩ v2).setCell ⟨b, 3, none⟩ v3) b t #[v0, v1, v2, v3] := (((h.near 0 v0).near 1 v1).near 2 v2).near 3 v3
theorem four_far {w : World} {b q : Nat} {t : TypeId} {cs : Array Value} (h : BlockIs w q t cs) (hn : q ≠ b) (v0 v1 v2 v3 : Value) : BlockIs ((((w.setCell ⟨b, 0, none⟩ v0).setCell ⟨b, 1, none⟩ v1).setCell ⟨b, 2, none⟩ v2).setCell ⟨b, 3, none⟩ v3) q t cs :=
  (((h.far (p := ⟨b, 0, none⟩) hn v0).far (p := ⟨b, 1, none⟩) hn v1).far (p := ⟨b, 2, none⟩) hn v2).far (p := ⟨b, 3, none⟩) hn v3
theorem four_below {w : World} {B b : Nat} (hb : B ≤ b) (v0 v1 v2 v3 : Value) : Below B w ((((w.setCell ⟨b, 0, none⟩ v0).setCell ⟨b, 1, none⟩ v1).setCell ⟨b, 2, none⟩ v2).setCell ⟨b, 3, none⟩ v3) :=
  ((((Below.refl B w).setCell (p := ⟨b, 0, none⟩) hb v0).setCell (p := ⟨b, 1, none⟩) hb v1).setCell (p := ⟨b, 2, none⟩) hb v2).setCell (p := ⟨b, 3, none⟩) hb v3
theorem results_poolC {fn : Func} (h : fn.results = #[.cell 2 25]) (t : Array Value) (W : World) (b : Nat) (v0 v1 v2 v3 : Value)
    (hb : BlockIs W b 25 #[v0, v1, v2, v3]) (ht : t.getD 2 undef = .pointer (some ⟨b, 0, none⟩)) :
    (results fn t).run Try.prog W = .ok (.agg #[v0, v1, v2, v3]) W := by
  have hc := hb.cell
  simp only [results, h]
  simp at ht
  simp [go_sem, ht, hc]
/-- one cell stored -/
theorem own_far {w : World} {base e size n : Nat} {v : Value} {xs : List Value} {p : Addr} (h : w.ownsRow base e size v n xs) {t : TypeId} {cs : Array Value} (hb : BlockIs w p.block t cs) (ht : t ≠ e) (u : Value) : (w.setCell p u).ownsRow base e size v n xs := by
  have hne := own_block_ne h hb ht
  refine ⟨h.1, ?_⟩
  rcases h.2 with h2 | ⟨g, c, cur, hv, hge, hh, r⟩
  · exact .inl h2
  · refine .inr ⟨g, c, cur, hv, hge, ?_, r⟩
    subst hv
    have hh : BlockIs w g e cur := hh
    exact hh.far (p := p) (fun q => hne (by simp [Value.ownBlock, q])) u
theorem IntT.far {w : World} {lo : Nat} {A : Option Addr} {xs : List Int} {p : Addr} (h : IntT w lo A xs) {t : TypeId} {cs : Array Value} (hb : BlockIs w p.block t cs) (ht : t ≠ 3) (v : Value) : IntT (w.setCell p v) lo A xs := by
  rcases h with e | ⟨b, cs, e, h1, h2, hc⟩
  · exact .inl e
  · refine .inr ⟨b, cs, e, h1, h2.far (p := p) (fun q => ?_) v, hc⟩
    subst q
    have := hb.symm.trans h2
    simp at this
    exact ht this.2
theorem ElemI.far {w : World} {lo : Nat} {xs : List Int} {u : Value} {p : Addr} (h : ElemI w lo xs u) {t : TypeId} {cs : Array Value} (hb : BlockIs w p.block t cs) (ht : t ≠ 3) (v : Value) : ElemI (w.setCell p v) lo xs u := by
  obtain ⟨a, c, rfl, hh⟩ := h
  exact ⟨a, c, rfl, hh.far hb ht v⟩
theorem own_four {w : World} {base e size n b : Nat} {v : Value} {xs : List Value} (h : w.ownsRow base e size v n xs) {t : TypeId} {c0 c1 c2 c3 : Value} (hb : BlockIs w b t #[c0, c1, c2, c3]) (ht : t ≠ e) (v0 v1 v2 v3 : Value) :
    ((((w.setCell ⟨b, 0, none⟩ v0).setCell ⟨b, 1, none⟩ v1).setCell ⟨b, 2, none⟩ v2).setCell ⟨b, 3, none⟩ v3).ownsRow base e size v n xs :=
  own_far (p := ⟨b, 3, none⟩) (own_far (p := ⟨b, 2, none⟩) (own_far (p := ⟨b, 1, none⟩) (own_far (p := ⟨b, 0, none⟩) h hb ht v0) (hb.near 0 v0) ht v1) ((hb.near 0 v0).near 1 v1) ht v2) (((hb.near 0 v0).near 1 v1).near 2 v2) ht v3
theorem ElemI.four {w : World} {lo b : Nat} {xs : List Int} {u : Value} (h : ElemI w lo xs u) {t : TypeId} {c0 c1 c2 c3 : Value} (hb : BlockIs w b t #[c0, c1, c2, c3]) (ht : t ≠ 3) (v0 v1 v2 v3 : Value) :
    ElemI ((((w.setCell ⟨b, 0, none⟩ v0).setCell ⟨b, 1, none⟩ v1).setCell ⟨b, 2, none⟩ v2).setCell ⟨b, 3, none⟩ v3) lo xs u :=
  ElemI.far (p := ⟨b, 3, none⟩) (ElemI.far (p := ⟨b, 2, none⟩) (ElemI.far (p := ⟨b, 1, none⟩) (ElemI.far (p := ⟨b, 0, none⟩) h hb ht v0) (hb.near 0 v0) ht v1) ((hb.near 0 v0).near 1 v1) ht v2) (((hb.near 0 v0).near 1 v1).near 2 v2) ht v3
/-- a row of another type stays -/
theorem own_turnF {w w' : World} {base base' e size n k cap g : Nat} {A : Option Addr} {v : Value} {xs : List Value} {us : List Value} {row : List Int} (h : w.ownsRow base e size v n xs) (r : TurnI g k w.heap.size row w w') (hG : RowG A g w.heap.size) (ho : w.ownsRow base' 26 1 (.slice A k cap) k us) (he : e ≠ 26) : w'.ownsRow base e size v n xs := by
  refine ⟨h.1, ?_⟩
  rcases h.2 with h2 | ⟨g', c, cur, hv, hge, hh, hr⟩
  · exact .inl h2
  · refine .inr ⟨g', c, cur, hv, hge, ?_, hr⟩
    have hb : BlockIs w g' e cur := hh
    have hbl := hb.lt
    refine r.blk hb (.inl ?_)
    rcases hG with ⟨e2, hl⟩ | ⟨e2, e3⟩
    · have hne := own_block_ne ho hb he
      rw [e2] at hne
      intro e4
      subst e4
      exact hne rfl
    · omega
theorem row_gI0 {w : World} {base k cap lo : Nat} {A : Option Addr} {us : List Value} (h : w.ownsRow base 26 1 (.slice A k cap) k us) (hb : base ≤ w.heap.size) (hl : w.heap.size = lo) : ∃ g, RowG A g lo ∧ base ≤ g := by
  subst hl
  exact row_gI h hb
theorem sep_snoc {w : World} {lo base k : Nat} {us : List Value} {u : Value} {ns : List (List Int)} {row : List Int} (hl : us.length = k) (h : SepV ns us) (he : ∀ i, i < k → ∃ ys v, ns[i]? = some ys ∧ us[i]? = some v ∧ ElemI w base ys v) (hw : w.heap.size = lo) (hk : ns[k]? = some row) {w' : World} (hu : ElemI w' lo row u) : SepV ns (us ++ [u]) := by
  intro i j xs ys x y hij hi hj hx hy hui huj
  have hjl := (List.getElem?_eq_some_iff.1 huj).1
  rw [List.length_append, List.length_singleton, hl] at hjl
  rw [List.getElem?_append_left (by omega)] at hui
  by_cases hjk : j < k
  · rw [List.getElem?_append_left (by omega)] at huj
    exact h i j xs ys x y hij hi hj hx hy hui huj
  · obtain rfl : j = k := by omega
    rw [← hl, List.getElem?_concat_length] at huj
    obtain rfl := Option.some.inj huj
    rw [hk] at hj
    obtain rfl := Option.some.inj hj
    obtain ⟨zs, z, h1, h2, a, c, rfl, h3⟩ := he i hij
    rw [hi] at h1
    obtain rfl := Option.some.inj h1
    rw [hui] at h2
    obtain rfl := Option.some.inj h2
    obtain ⟨a', c', rfl, h4⟩ := hu
    rcases h3 with e | ⟨b, cs, rfl, _, hb, _⟩
    · exact absurd e hx
    rcases h4 with e | ⟨b', cs', rfl, hb', _, _⟩
    · exact absurd e hy
    have := hb.lt
    intro e
    simp [Value.ownBlock] at e
    omega

set_option maxRecDepth 100000 in
set_option maxHeartbeats 16000000 in
theorem rCopy_any (h : PoolH) (d : PoolI) (n : Nat) (w : World) (hA : PoolAt w n h d) (hn : n ≤ w.heap.size) (hs1 : d.folk.length ≤ 20) (hs2 : d.needs.length ≤ 20) (hs3 : ∀ x ∈ d.needs, x.length ≤ 20) :
    Calls Try.prog 23 #[poolV h d] w fun e w' => ∃ h' : PoolH, e = .returned (poolV h' d) ∧ NewPool w' w.heap.size h' d ∧ Below w.heap.size w w' := by
  obtain ⟨i0, hi, hz0, hz1, hz2⟩ := info_parts Try.infoInt
  obtain ⟨l0, hlw, hlz0, hlz1, hlz2⟩ := info_parts Try.infoFolk
  have HFK := Lib.hid (fun (w0 : World) (hw : Grow w w0) => (hA.1.more hn).below hw)
  have HRS := Lib.hid (fun (w0 : World) (hw : Grow w w0) => (hA.2.more hn).below hw)
  have HS3 := Lib.hid hs3
  obtain ⟨PO, hPO⟩ : ∃ z : Ending → World → Prop, (fun e w' => ∃ h' : PoolH, e = Ending.returned (poolV h' d) ∧ NewPool w' w.heap.size h' d ∧ Below w.heap.size w w') = z := ⟨_, rfl⟩
  have HPO : Hid (∀ (fa na : Option Addr) (fc nc : Nat) (w' : World), NewPool w' w.heap.size ⟨fa, fc, na, nc⟩ d → Below w.heap.size w w' → PO (Ending.returned (.agg #[.slice fa d.folk.length fc, .slice na d.needs.length nc, .int .i64 d.ill, .int .i64 d.most])) w') := Lib.hid (fun fa na fc nc w' h1 h2 => by rw [← hPO]; exact ⟨_, rfl, h1, h2⟩)
  rw [hPO]
  clear hA hn hs3 hPO
  obtain ⟨fa, fc, na, nc⟩ := h
  go_enter Try.func23, Try.ntmps23
  go_upto_region 1 with fail
  obtain ⟨W, hW, hg, hfr, hs1', hsz⟩ := two_blocks w 25 25 (cellsP ⟨fa, fc, na, nc⟩ d) zeroPo
  rw [hW]
  clear hW
  have hfc := hfr.cell
  have HGW := Lib.hid hg
  have HBX := Lib.hid hfr
  have HRE := Lib.hid hs1'
  clear hg hfr hs1'
  go_upto_region 2 with fail
  obtain ⟨o, ho⟩ : ∃ z, W.heap.size = z := ⟨_, rfl⟩
  obtain ⟨w1, hw1⟩ : ∃ w1, W.alloc (.cells #[.slice fa d.folk.length fc, .slice na d.needs.length nc, .int .i64 d.ill, .int .i64 d.most] 25) = w1 := ⟨_, rfl⟩
  have hga : Grow W w1 := by rw [← hw1]; exact Grow.alloc _ _
  have HO1 : Hid (BlockIs w1 o 25 #[.slice fa d.folk.length fc, .slice na d.needs.length nc, .int .i64 d.ill, .int .i64 d.most]) := Lib.hid (by rw [← hw1, ← ho]; exact BlockIs.new _ _ _)
  have HG1 : Hid (Grow w w1) := Lib.hid (HGW.out.trans hga)
  have HX1 := Lib.hid (hga.block HBX.out)
  have HR1 := Lib.hid (hga.block HRE.out)
  have hoz : o < w1.heap.size := HO1.out.lt
  have hwz : w.heap.size < w1.heap.size := HX1.out.lt
  rw [hw1, ho]
  clear hw1 hga HBX HRE HGW hfc
  have hwo : w.heap.size + 1 < o := by omega
  clear ho hsz W
  have hfc := HX1.out.cell
  go_wp2_with (at_builtin; trace_state; go_loud (refine wpList_append_arg rfl _ _ 22 rfl rfl w1.heap.size 62 l0 (.agg #[.int .i64 0, .int .i64 0, .int .i64 0]) 3 24 Try.underlying22 hlw hlz0 hlz1 hlz2 rfl (by omega) w1.heap.size rfl ?c0 (Nat.le_refl _) ?c1 fa d.folk.length fc (d.folk.flatMap cellsFL) rfl (flat_length (enc := cellsFL) (k := 3) (fun _ => rfl) _) (folk_src (HFK.out _ (HG1.out.trans (Grow.alloc _ _)))) ?c4 ?c5 ?_))
  case c0 => exact BlockIs.new _ _ _
  case c4 => unfold maxLen; omega
  case c5 => omega
  intro v' w2 hrow hgr
  obtain ⟨A2, c2, rfl⟩ := own_form hrow
  have hg2 : Grow w1 w2 := (Grow.alloc _ _).trans hgr
  have HO2 := Lib.hid (hg2.block HO1.out)
  have HX2 := Lib.hid (hg2.block HX1.out)
  have HR2 := Lib.hid (hg2.block HR1.out)
  have HG2 := Lib.hid (HG1.out.trans hg2)
  have HF2 := Lib.hid (own_low hrow HG1.out.size)
  clear hrow hgr hfc hg2 HO1 HX1 HR1 HG1 hoz
  have hoc := HO2.out.cell
  have hof := HO2.out.frozen
  have hoz : o < w2.heap.size := HO2.out.lt
  go_upto_region 5 with fail
  obtain ⟨w3, hw3⟩ : ∃ w3, (w2.setCell ⟨o, 0, none⟩ (.slice A2 d.folk.length c2)).setCell ⟨o, 1, none⟩ (.slice none 0 0) = w3 := ⟨_, rfl⟩
  have HO3 : Hid (BlockIs w3 o 25 #[.slice A2 d.folk.length c2, .slice none 0 0, .int .i64 d.ill, .int .i64 d.most]) := Lib.hid (by rw [← hw3]; exact (HO2.out.near 0 _).near 1 _)
  have HX3 : Hid (BlockIs w3 w.heap.size 25 (cellsP ⟨fa, fc, na, nc⟩ d)) := Lib.hid (by rw [← hw3]; exact (HX2.out.far (p := ⟨o, 0, none⟩) (by simp; omega) _).far (p := ⟨o, 1, none⟩) (by simp; omega) _)
  have HR3 : Hid (BlockIs w3 (w.heap.size + 1) 25 zeroPo) := Lib.hid (by rw [← hw3]; exact (HR2.out.far (p := ⟨o, 0, none⟩) (by simp; omega) _).far (p := ⟨o, 1, none⟩) (by simp; omega) _)
  have HF3 : Hid (w3.ownsRow w.heap.size 62 3 (.slice A2 d.folk.length c2) d.folk.length (d.folk.flatMap cellsFL)) := Lib.hid (by rw [← hw3]; exact own_far (p := ⟨o, 1, none⟩) (own_far (p := ⟨o, 0, none⟩) HF2.out HO2.out (by decide) _) (HO2.out.near 0 _) (by decide) _)
  have HG3 : Hid (Grow w w3) := Lib.hid (by rw [← hw3]; exact (HG2.out.setCell (p := ⟨o, 0, none⟩) (by simp; omega) _).setCell (p := ⟨o, 1, none⟩) (by simp; omega) _)
  have hoz3 : o < w3.heap.size := HO3.out.lt
  rw [hw3]
  clear hw3 HO2 HX2 HR2 HF2 HG2 hoc hof hoz
  obtain ⟨B, hB⟩ : ∃ z, w3.heap.size = z := ⟨_, rfl⟩
  have HBZ := Lib.hid hB
  rw [hB] at hoz3
  have hwb : w.heap.size ≤ B := by omega
  clear hB
  go_loopw [4] (fun iv wr => ∃ (k : Nat) (A : Option Addr) (cap : Nat) (us : List Value), k ≤ d.needs.length ∧ iv = .int .i64 (k : Nat) ∧ Hid (BlockIs wr o 25 #[.slice A2 d.folk.length c2, .slice A k cap, .int .i64 d.ill, .int .i64 d.most]) ∧ Hid (BlockIs wr w.heap.size 25 (cellsP ⟨fa, fc, na, nc⟩ d)) ∧ Hid (BlockIs wr (w.heap.size + 1) 25 zeroPo) ∧ Hid (wr.ownsRow w.heap.size 62 3 (.slice A2 d.folk.length c2) d.folk.length (d.folk.flatMap cellsFL)) ∧
    Hid (wr.ownsRow B 26 1 (.slice A k cap) k us) ∧ Hid (∀ i, i < k → ∃ xs u, d.needs[i]? = some xs ∧ us[i]? = some u ∧ ElemI wr B xs u) ∧ Hid (SepV d.needs us) ∧ Hid (Grow w wr) ∧ Hid (B ≤ wr.heap.size)) (fun iv _ => d.needs.length - (intOf iv).toNat)
  case atStart => exact ⟨0, none, 0, [], Nat.zero_le _, rfl, HO3, HX3, HR3, HF3, Lib.hid ⟨rfl, .inl ⟨rfl, rfl⟩⟩, Lib.hid (fun i hi => by omega), Lib.hid (fun i j xs ys u v _ _ _ _ _ h => by simp at h), HG3, Lib.hid (by rw [HBZ.out]; exact Nat.le_refl _)⟩
  case round =>
    obtain ⟨k, A, cap, us, hk, rfl, HOB, HXB, HRB, HFB, HOW, HEL, HSP, HGR, HZR⟩ := hrel
    rename World => wr
    clear HO3 HX3 HR3 HF3 HG3 HBZ
    have hfc := HXB.out.cell
    by_cases hlt : k < d.needs.length
    · have hd : decide ((k : Int) < (d.needs.length : Int)) = true := decide_eq_true (by omega)
      have hk0 : (0 : Int) ≤ (k : Int) := by omega
      have hk1 : (k : Int) < (d.needs.length : Int) := by omega
      have HUL : Hid (us.length = k) := Lib.hid (by have := HOW.out.1; omega)
      obtain ⟨lo, hlo⟩ : ∃ q, wr.heap.size = q := ⟨_, rfl⟩
      have HLO := Lib.hid hlo
      obtain ⟨gg, hRG, hgg⟩ := row_gI0 HOW.out HZR.out hlo
      have HRG := Lib.hid hRG
      have HGG := Lib.hid hgg
      obtain ⟨nb, noff, row, xa, xc, hna, hnb, hcc, hix, hrow⟩ := (HRS.out wr HGR.out).at_ hlt
      subst hna
      have HNB := Lib.hid hnb
      have HCC := Lib.hid hcc
      have HIX := Lib.hid hix
      have HROW := Lib.hid hrow
      have HRL : Hid (row.length ≤ 20) := Lib.hid (HS3.out row (List.mem_of_getElem? hrow))
      clear hRG hgg hnb hcc hix hrow
      go_upto_region 7 with fail
      clear hd hfc
      refine wp_region_lit 12 [[], [(0, 19)], [], [], [(3, 22)], [], [(4, 23), (5, 24)], [(6, 25)], [(2, 21), (7, 26)], [(8, 27)], [(1, 20), (9, 28)], []] (TurnI gg k lo row) (fun qi v w' => match qi with
          | 0 => v = .pointer (some ⟨o, 1, none⟩)
          | 1 => v = .slice A k cap
          | 2 => NilI lo v w'
          | 3 => v = .pointer (some ⟨w.heap.size, 1, none⟩)
          | 4 => v = .slice (some ⟨nb, noff, none⟩) d.needs.length nc
          | 5 => v = .int .i64 (k : Nat)
          | 6 => v = .pointer (some ⟨nb, noff + k, none⟩)
          | 7 => v = .slice xa row.length xc
          | 8 => ElemI w' lo row v
          | 9 => NewSI lo row v w'
          | 10 => OwnSI gg lo B k us row v w'
          | 11 => v = .pointer (some ⟨o, 1, none⟩)
          | _ => False) (by kernel_rfl) (by kernel_rfl) (fun _ _ _ => TurnI.trans) (TurnI.refl _ _ _ _) ?_ ?_ ?_
      · intro i v y y' h k
        match i, h with
        | 2, h => exact h.turn k
        | 8, h => exact h.turn k
        | 9, h => exact h.turn k
        | 10, h => exact h.turn k
        | 0, h | 1, h | 3, h | 4, h | 5, h | 6, h | 7, h | 11, h => exact h
      · simp only [StepsLit, List.take_succ_cons, List.take_zero]
        refine ⟨?_, ?_, ?_, ?_, ?_, ?_, ?_, ?_, ?_, ?_, ?_, ?_, trivial⟩
        · intro w5 hR
          have hGw : (TurnI gg k lo row) wr w5 := hR.of_drew
          have HGW := Lib.hid hGw
          have hz5 : lo ≤ w5.heap.size := by rw [← HLO.out]; exact hGw.size
          have hb5 : Below B wr w5 := hGw.below HGG.out HZR.out
          have hoc := (HOB.out.below hb5 (by omega)).cell
          have hfc := (HXB.out.below hb5 (by omega)).cell
          have hbw : Below w.heap.size wr w5 := hb5.mono hwb
          have hcc : w5.cell? ⟨nb, noff + k, none⟩ = some (.slice xa row.length xc) := (hbw.cell (p := ⟨nb, noff + k, none⟩) HNB.out).trans HCC.out
          clear hR hGw
          simp only [depV]
          try go_simp
          all_goals first
            | (with_reducible exact (TurnI.refl _ _ _ _) _)
            | (with_reducible exact ⟨(TurnI.refl _ _ _ _) _, rfl⟩)
        · intro w5 hR
          have hGw : (TurnI gg k lo row) wr w5 := hR.of_drew
          have HGW := Lib.hid hGw
          have hz5 : lo ≤ w5.heap.size := by rw [← HLO.out]; exact hGw.size
          have hb5 : Below B wr w5 := hGw.below HGG.out HZR.out
          have hoc := (HOB.out.below hb5 (by omega)).cell
          have hfc := (HXB.out.below hb5 (by omega)).cell
          have hbw : Below w.heap.size wr w5 := hb5.mono hwb
          have hcc : w5.cell? ⟨nb, noff + k, none⟩ = some (.slice xa row.length xc) := (hbw.cell (p := ⟨nb, noff + k, none⟩) HNB.out).trans HCC.out
          clear hR hGw
          simp only [depV]
          rintro _ rfl
          try go_simp
          all_goals first
            | (with_reducible exact (TurnI.refl _ _ _ _) _)
            | (with_reducible exact ⟨(TurnI.refl _ _ _ _) _, rfl⟩)
        · intro w5 hR
          have hGw : (TurnI gg k lo row) wr w5 := hR.of_drew
          have HGW := Lib.hid hGw
          have hz5 : lo ≤ w5.heap.size := by rw [← HLO.out]; exact hGw.size
          have hb5 : Below B wr w5 := hGw.below HGG.out HZR.out
          have hoc := (HOB.out.below hb5 (by omega)).cell
          have hfc := (HXB.out.below hb5 (by omega)).cell
          have hbw : Below w.heap.size wr w5 := hb5.mono hwb
          have hcc : w5.cell? ⟨nb, noff + k, none⟩ = some (.slice xa row.length xc) := (hbw.cell (p := ⟨nb, noff + k, none⟩) HNB.out).trans HCC.out
          clear hR hGw
          simp only [depV]
          try go_simp
          exact ⟨TurnI.of_grow (Grow.alloc _ _), _, rfl, hz5, BlockIs.new _ _ _⟩
        · intro w5 hR
          have hGw : (TurnI gg k lo row) wr w5 := hR.of_drew
          have HGW := Lib.hid hGw
          have hz5 : lo ≤ w5.heap.size := by rw [← HLO.out]; exact hGw.size
          have hb5 : Below B wr w5 := hGw.below HGG.out HZR.out
          have hoc := (HOB.out.below hb5 (by omega)).cell
          have hfc := (HXB.out.below hb5 (by omega)).cell
          have hbw : Below w.heap.size wr w5 := hb5.mono hwb
          have hcc : w5.cell? ⟨nb, noff + k, none⟩ = some (.slice xa row.length xc) := (hbw.cell (p := ⟨nb, noff + k, none⟩) HNB.out).trans HCC.out
          clear hR hGw
          simp only [depV]
          try go_simp
          all_goals first
            | (with_reducible exact (TurnI.refl _ _ _ _) _)
            | (with_reducible exact ⟨(TurnI.refl _ _ _ _) _, rfl⟩)
        · intro w5 hR
          have hGw : (TurnI gg k lo row) wr w5 := hR.of_drew
          have HGW := Lib.hid hGw
          have hz5 : lo ≤ w5.heap.size := by rw [← HLO.out]; exact hGw.size
          have hb5 : Below B wr w5 := hGw.below HGG.out HZR.out
          have hoc := (HOB.out.below hb5 (by omega)).cell
          have hfc := (HXB.out.below hb5 (by omega)).cell
          have hbw : Below w.heap.size wr w5 := hb5.mono hwb
          have hcc : w5.cell? ⟨nb, noff + k, none⟩ = some (.slice xa row.length xc) := (hbw.cell (p := ⟨nb, noff + k, none⟩) HNB.out).trans HCC.out
          clear hR hGw
          simp only [depV]
          rintro _ rfl
          try go_simp
          all_goals first
            | (with_reducible exact (TurnI.refl _ _ _ _) _)
            | (with_reducible exact ⟨(TurnI.refl _ _ _ _) _, rfl⟩)
        · intro w5 hR
          have hGw : (TurnI gg k lo row) wr w5 := hR.of_drew
          have HGW := Lib.hid hGw
          have hz5 : lo ≤ w5.heap.size := by rw [← HLO.out]; exact hGw.size
          have hb5 : Below B wr w5 := hGw.below HGG.out HZR.out
          have hoc := (HOB.out.below hb5 (by omega)).cell
          have hfc := (HXB.out.below hb5 (by omega)).cell
          have hbw : Below w.heap.size wr w5 := hb5.mono hwb
          have hcc : w5.cell? ⟨nb, noff + k, none⟩ = some (.slice xa row.length xc) := (hbw.cell (p := ⟨nb, noff + k, none⟩) HNB.out).trans HCC.out
          clear hR hGw
          simp only [depV]
          try go_simp
          all_goals first
            | (with_reducible exact (TurnI.refl _ _ _ _) _)
            | (with_reducible exact ⟨(TurnI.refl _ _ _ _) _, rfl⟩)
        · intro w5 hR
          have hGw : (TurnI gg k lo row) wr w5 := hR.of_drew
          have HGW := Lib.hid hGw
          have hz5 : lo ≤ w5.heap.size := by rw [← HLO.out]; exact hGw.size
          have hb5 : Below B wr w5 := hGw.below HGG.out HZR.out
          have hoc := (HOB.out.below hb5 (by omega)).cell
          have hfc := (HXB.out.below hb5 (by omega)).cell
          have hbw : Below w.heap.size wr w5 := hb5.mono hwb
          have hcc : w5.cell? ⟨nb, noff + k, none⟩ = some (.slice xa row.length xc) := (hbw.cell (p := ⟨nb, noff + k, none⟩) HNB.out).trans HCC.out
          clear hR hGw
          simp only [depV]
          rintro _ rfl
          rintro _ rfl
          try go_simp
          all_goals first
            | (with_reducible exact (TurnI.refl _ _ _ _) _)
            | (with_reducible exact ⟨(TurnI.refl _ _ _ _) _, rfl⟩)
        · intro w5 hR
          have hGw : (TurnI gg k lo row) wr w5 := hR.of_drew
          have HGW := Lib.hid hGw
          have hz5 : lo ≤ w5.heap.size := by rw [← HLO.out]; exact hGw.size
          have hb5 : Below B wr w5 := hGw.below HGG.out HZR.out
          have hoc := (HOB.out.below hb5 (by omega)).cell
          have hfc := (HXB.out.below hb5 (by omega)).cell
          have hbw : Below w.heap.size wr w5 := hb5.mono hwb
          have hcc : w5.cell? ⟨nb, noff + k, none⟩ = some (.slice xa row.length xc) := (hbw.cell (p := ⟨nb, noff + k, none⟩) HNB.out).trans HCC.out
          clear hR hGw
          simp only [depV]
          rintro _ rfl
          try go_simp
          all_goals first
            | (with_reducible exact (TurnI.refl _ _ _ _) _)
            | (with_reducible exact ⟨(TurnI.refl _ _ _ _) _, rfl⟩)
        · intro w5 hR
          have hGw : (TurnI gg k lo row) wr w5 := hR.of_drew
          have HGW := Lib.hid hGw
          have hz5 : lo ≤ w5.heap.size := by rw [← HLO.out]; exact hGw.size
          have hb5 : Below B wr w5 := hGw.below HGG.out HZR.out
          have hoc := (HOB.out.below hb5 (by omega)).cell
          have hfc := (HXB.out.below hb5 (by omega)).cell
          have hbw : Below w.heap.size wr w5 := hb5.mono hwb
          have hcc : w5.cell? ⟨nb, noff + k, none⟩ = some (.slice xa row.length xc) := (hbw.cell (p := ⟨nb, noff + k, none⟩) HNB.out).trans HCC.out
          clear hR hGw
          simp only [depV]
          intro v2 hv2
          rintro _ rfl
          obtain ⟨gq, rfl, hgq, hBq⟩ := hv2
          have hrl := HRL.out
          obtain ⟨v', w', hrun, hrow, hgx⟩ := append_onto_empty (P := Try.prog) Try.underlying26 hi hz0 hz1 hz2 rfl (by omega) hBq hgq hz5 xa row.length xc (row.map (Value.int .i64)) (by simp) (ints_src (HIX.out.below hbw)) (by unfold maxLen; omega) (by omega)
          obtain ⟨A', c', rfl⟩ := own_form hrow
          refine wp_append_headT (s := .tmp 21) (x := .tmp 26) rfl rfl rfl rfl hrun ?_
          exact ⟨rfl, TurnI.of_grow hgx, A', c', rfl, own_intT hrow rfl⟩
        · intro w5 hR
          have hGw : (TurnI gg k lo row) wr w5 := hR.of_drew
          have HGW := Lib.hid hGw
          have hz5 : lo ≤ w5.heap.size := by rw [← HLO.out]; exact hGw.size
          have hb5 : Below B wr w5 := hGw.below HGG.out HZR.out
          have hoc := (HOB.out.below hb5 (by omega)).cell
          have hfc := (HXB.out.below hb5 (by omega)).cell
          have hbw : Below w.heap.size wr w5 := hb5.mono hwb
          have hcc : w5.cell? ⟨nb, noff + k, none⟩ = some (.slice xa row.length xc) := (hbw.cell (p := ⟨nb, noff + k, none⟩) HNB.out).trans HCC.out
          clear hR hGw
          simp only [depV]
          intro v8 hv8
          obtain ⟨a4, c4, rfl, h4⟩ := hv8
          try go_simp
          exact ⟨TurnI.of_grow (Grow.alloc _ _), _, _, rfl, hz5, BlockIs.new _ _ _, ElemI.grow (w := w5) ⟨a4, c4, rfl, h4⟩ (Grow.alloc _ _)⟩
        · intro w5 hR
          have hGw : (TurnI gg k lo row) wr w5 := hR.of_drew
          have HGW := Lib.hid hGw
          have hz5 : lo ≤ w5.heap.size := by rw [← HLO.out]; exact hGw.size
          have hb5 : Below B wr w5 := hGw.below HGG.out HZR.out
          have hoc := (HOB.out.below hb5 (by omega)).cell
          have hfc := (HXB.out.below hb5 (by omega)).cell
          have hbw : Below w.heap.size wr w5 := hb5.mono hwb
          have hcc : w5.cell? ⟨nb, noff + k, none⟩ = some (.slice xa row.length xc) := (hbw.cell (p := ⟨nb, noff + k, none⟩) HNB.out).trans HCC.out
          clear hR hGw
          simp only [depV]
          rintro _ rfl
          intro v9 hv9
          obtain ⟨b5, u5, rfl, hb5', hB5, he5⟩ := hv9
          obtain ⟨v', w', hrun, hT, hO⟩ := append_turnI (own_turnI HOW.out HGW.out HRG.out rfl) HRG.out hz5 hB5 he5 (by have := HZR.out; have := HGW.out.size; omega) (by omega)
          refine wp_append_headSI (s := .tmp 20) (x := .tmp 28) rfl rfl rfl rfl hrun ?_
          exact ⟨rfl, hT, hO⟩
        · intro w5 hR
          have hGw : (TurnI gg k lo row) wr w5 := hR.of_drew
          have HGW := Lib.hid hGw
          have hz5 : lo ≤ w5.heap.size := by rw [← HLO.out]; exact hGw.size
          have hb5 : Below B wr w5 := hGw.below HGG.out HZR.out
          have hoc := (HOB.out.below hb5 (by omega)).cell
          have hfc := (HXB.out.below hb5 (by omega)).cell
          have hbw : Below w.heap.size wr w5 := hb5.mono hwb
          have hcc : w5.cell? ⟨nb, noff + k, none⟩ = some (.slice xa row.length xc) := (hbw.cell (p := ⟨nb, noff + k, none⟩) HNB.out).trans HCC.out
          clear hR hGw
          simp only [depV]
          try go_simp
          all_goals first
            | (with_reducible exact (TurnI.refl _ _ _ _) _)
            | (with_reducible exact ⟨(TurnI.refl _ _ _ _) _, rfl⟩)
      · intro w5 hR
        have HG5 : Hid ((TurnI gg k lo row) wr w5) := Lib.hid hR.of_drew
        clear hR
        simp only [finVC, List.take_succ_cons, List.take_zero, List.drop_succ_cons, List.drop_zero]
        rintro _ rfl
        rintro _ rfl
        intro v2 hv2
        rintro _ rfl
        rintro _ rfl
        rintro _ rfl
        rintro _ rfl
        rintro _ rfl
        intro v8 hv8
        intro v9 hv9
        intro v10 hv10
        rintro _ rfl
        simp only [Act.put, List.setIfInBounds_toArray, List.set_cons_succ, List.set_cons_zero]
        obtain ⟨b6, c6, u6, rfl, hown6, he6⟩ := hv10.own HUL.out
        have hb5 : Below B wr w5 := HG5.out.below HGG.out HZR.out
        have hBlo : B ≤ lo := by rw [← HLO.out]; exact HZR.out
        have HX5 := Lib.hid (HXB.out.below hb5 (by omega))
        have HR5 := Lib.hid (HRB.out.below hb5 (by omega))
        have HO5 := Lib.hid (HOB.out.below hb5 (by omega))
        have hoc := HO5.out.cell
        have hof := HO5.out.frozen
        have HON : Hid (BlockIs (w5.setCell ⟨o, 1, none⟩ (.slice (some ⟨b6, 0, none⟩) (k + 1) c6)) o 25 #[.slice A2 d.folk.length c2, .slice (some ⟨b6, 0, none⟩) (k + 1) c6, .int .i64 d.ill, .int .i64 d.most]) := Lib.hid (HO5.out.near 1 _)
        have HXN := Lib.hid (HX5.out.far (p := ⟨o, 1, none⟩) (by simp; omega) (.slice (some ⟨b6, 0, none⟩) (k + 1) c6))
        have HRN := Lib.hid (HR5.out.far (p := ⟨o, 1, none⟩) (by simp; omega) (.slice (some ⟨b6, 0, none⟩) (k + 1) c6))
        have HFN := Lib.hid (own_far (p := ⟨o, 1, none⟩) (own_turnF HFB.out (by rw [HLO.out]; exact HG5.out) (by rw [HLO.out]; exact HRG.out) HOW.out (by decide)) HO5.out (by decide) (.slice (some ⟨b6, 0, none⟩) (k + 1) c6))
        have HWN := Lib.hid (own_far (p := ⟨o, 1, none⟩) hown6 HO5.out (by decide) (.slice (some ⟨b6, 0, none⟩) (k + 1) c6))
        have HEN : Hid (∀ i, i < k + 1 → ∃ xs u, d.needs[i]? = some xs ∧ (us ++ [u6])[i]? = some u ∧ ElemI (w5.setCell ⟨o, 1, none⟩ (.slice (some ⟨b6, 0, none⟩) (k + 1) c6)) B xs u) := Lib.hid (by
          intro i hi
          by_cases h1 : i < k
          · obtain ⟨xs, u, e1, e2, e3⟩ := HEL.out i h1
            exact ⟨xs, u, e1, by rw [List.getElem?_append_left (by rw [HUL.out]; exact h1)]; exact e2, (e3.old (by rw [HLO.out]; exact HG5.out) (by rw [HLO.out]; exact HRG.out) HOW.out).far (p := ⟨o, 1, none⟩) HO5.out (by decide) _⟩
          · obtain rfl : i = k := by omega
            exact ⟨row, u6, HROW.out, by rw [← HUL.out, List.getElem?_concat_length], (he6.mono hBlo).far (p := ⟨o, 1, none⟩) HO5.out (by decide) _⟩)
        have HSN := Lib.hid (sep_snoc HUL.out HSP.out HEL.out HLO.out HROW.out he6)
        have HGN : Hid (Grow w (w5.setCell ⟨o, 1, none⟩ (.slice (some ⟨b6, 0, none⟩) (k + 1) c6))) := Lib.hid ((HGR.out.trans' (hb5.mono hwb)).setCell (p := ⟨o, 1, none⟩) (by simp; omega) _)
        have HZN : Hid (B ≤ (w5.setCell ⟨o, 1, none⟩ (.slice (some ⟨b6, 0, none⟩) (k + 1) c6)).heap.size) := Lib.hid (by have h1 := HZR.out; have h2 := hb5.size; simp; omega)
        clear hv2 hv8 hv9 hv10 hown6 he6 hb5 HG5
        go_wp2_with fail
        go_roundw
        case rel => exact ⟨k + 1, some ⟨b6, 0, none⟩, c6, us ++ [u6], by omega, by go_num, HON, HXN, HRN, HFN, HWN, HEN, HSN, HGN, HZN⟩
        case measure => simp [intOf]; omega
    · obtain rfl : k = d.needs.length := by omega
      have hd : decide ((d.needs.length : Int) < (d.needs.length : Int)) = false := decide_eq_false (by omega)
      have hoc := HOB.out.cell
      have hrc := HRB.out.cell
      have hrf := HRB.out.frozen
      have H8 := Lib.hid (four_stores HRB.out (.slice A2 d.folk.length c2) (.slice A d.needs.length cap) (.int .i64 d.ill) (.int .i64 d.most))
      have HB8 := Lib.hid (HGR.out.trans' (four_below (w := wr) (B := w.heap.size) (b := w.heap.size + 1) (by omega) (.slice A2 d.folk.length c2) (.slice A d.needs.length cap) (.int .i64 d.ill) (.int .i64 d.most)))
      have HN8 : Hid (NewPool ((((wr.setCell ⟨w.heap.size + 1, 0, none⟩ (.slice A2 d.folk.length c2)).setCell ⟨w.heap.size + 1, 1, none⟩ (.slice A d.needs.length cap)).setCell ⟨w.heap.size + 1, 2, none⟩ (.int .i64 d.ill)).setCell ⟨w.heap.size + 1, 3, none⟩ (.int .i64 d.most)) w.heap.size ⟨A2, c2, A, cap⟩ d) := Lib.hid ⟨own_four HFB.out HRB.out (by decide) _ _ _ _, us, own_four (own_low HOW.out hwb) HRB.out (by decide) _ _ _ _, fun i xs hi => by
        obtain ⟨ys, u, h1, h2, h3⟩ := HEL.out i (List.getElem?_eq_some_iff.1 hi).1
        rw [hi] at h1
        obtain rfl := Option.some.inj h1
        exact ⟨u, h2, (h3.mono hwb).four HRB.out (by decide) _ _ _ _⟩, HSP.out⟩
      clear HOW HEL HSP HFB HOB
      go_wp2
      exact bodyPost_ret (results_poolC Try.results23 _ _ (w.heap.size + 1) _ _ _ _ H8.out rfl) rfl (HPO.out _ _ _ _ _ HN8.out HB8.out)
end Go.Proofs.Ytcgnibfcjadnjaa

