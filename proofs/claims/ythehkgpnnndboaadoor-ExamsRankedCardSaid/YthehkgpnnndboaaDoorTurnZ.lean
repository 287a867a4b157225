/- TurnZ: an integer appended to an own row in a drawn region; written by wip/tools/turnz9.py out of chapter 10's text. -/
import Derived.Test.YthehkgpnnndboaaDoorRanksApi
import Derived.Test.YthehkgpnnndboaaDoorBlame
namespace Go.Proofs.YthehkgpnnndboaaDoor
open Go.RowKit

set_option maxRecDepth 100000 in
/-- an append of one slice onto an own row of slices: what it leaves, and what it writes -/
theorem append_slotIZ {w : World} {base n cap q : Nat} {A : Option Addr} {xs : List Value} {u : Value} (hown : w.ownsRow base 3 1 (.slice A n cap) n xs) (hu : BlockIs w q 3 #[u]) (hone : u.oneCell' = true) (hb : base ≤ w.heap.size) (hn : n ≤ 100) :
    ∃ A' c' w', (Builtin.append_ #[24, 24] 24 #[.slice A n cap, .slice (some ⟨q, 0, none⟩) 1 1]).run Tryd.prog w = .ok (.slice A' (n + 1) c') w' ∧ w'.ownsRow base 3 1 (.slice A' (n + 1) c') (n + 1) (xs ++ [u]) ∧ (A' = A ∨ ∃ b, A' = some ⟨b, 0, none⟩ ∧ w.heap.size ≤ b) ∧
      w'.os = w.os ∧ w'.tape = w.tape ∧ w'.output = w.output ∧ w.heap.size ≤ w'.heap.size ∧ (∀ k, k < w.heap.size → (∀ g, A = some ⟨g, 0, none⟩ → k ≠ g) → w'.heap[k]? = w.heap[k]?) ∧
      (∀ g cs, A = some ⟨g, 0, none⟩ → BlockIs w g 3 cs → ∃ cs', BlockIs w' g 3 cs' ∧ cs'.size = cs.size ∧ (∀ i, i < n → cs'[i]? = cs[i]?) ∧ (cs'[n]? = cs[n]? ∨ cs'[n]? = some u)) := by
  obtain ⟨i, hi, hz, hsz, hby⟩ := info_parts Tryd.infoInt
  have hnews : ∀ j v, [u][j]? = some v → w.cell? ((⟨q, 0, none⟩ : Addr).add j) = some v := news_one hu
  have hfit : ∀ k o : Nat, o < k → k ≤ 1000 → Builtin.nextslicecap k o * i.bytes ≤ 281474976710656 := fun k o h1 h2 => growslice_fits h1 (by rw [hby]; omega)
  have hone' : ∀ v ∈ [u], v.oneCell' = true := by simpa using hone
  obtain ⟨v', w', hrun, hown', _, _⟩ := run_append_own (P := Tryd.prog) w base 24 24 3 i (.int .i64 0) 1 8 Tryd.underlying24 hi hz hsz hby rfl (by omega) (.slice A n cap) n _ hown ⟨q, 0, none⟩ 1 1 [u] rfl hnews hone' (by unfold maxLen; omega) (by omega) hb
  obtain ⟨A', c', rfl⟩ := own_form hown'
  refine ⟨A', c', w', hrun, hown', ?_⟩
  rcases hown.2 with ⟨hv, rfl⟩ | ⟨g, cap', cur, hv, hbg, hg, hnc, hcm, hcs, htake⟩
  · injection hv with h1 _ h3
    subst h1 h3
    have e := run_append_nil (P := Tryd.prog) w 24 24 3 i (.int .i64 0) Tryd.underlying24 hi hz ⟨q, 0, none⟩ 1 1 [u] (by simp [hsz]) hnews (by omega) (by omega) (by rw [hby]; omega)
    rw [e] at hrun
    injection hrun with h1 h2
    subst h2
    injection h1 with h3 _ _
    exact ⟨.inr ⟨_, h3.symm, Nat.le_refl _⟩, rfl, rfl, rfl, by simp, fun k hk _ => Below.heap_alloc w.drew _ k hk, fun g cs hA => by cases hA⟩
  · injection hv with h1 _ h3
    subst h1 h3
    have hcs' : cur.size = cap := by omega
    by_cases hroom : n + 1 ≤ cap
    · have e := run_append_room (P := Tryd.prog) w 24 24 3 i Tryd.underlying24 hi g n cap cur hg ⟨q, 0, none⟩ 1 1 [u] (by simp [hsz]) hnews hone' hroom (by simp [hsz]; omega)
      rw [e] at hrun
      injection hrun with h1 h2
      subst h2
      injection h1 with h3 _ _
      refine ⟨.inl h3.symm, rfl, rfl, rfl, by simp, fun k hk hne => setRow_other w g k _ (hne g rfl), fun g' cs hA hcs2 => ?_⟩
      injection hA with hA
      injection hA with hA
      subst hA
      have hcur : cs = cur := by
        have := hcs2.symm.trans hg
        simpa using this
      subst hcur
      refine ⟨_, setRow_heap w g cs _ 3 _ hg, ?_, fun j hj => ?_, .inr ?_⟩
      · simp [hsz]
        omega
      · rw [hsz, Nat.mul_one]
        simp only [List.getElem?_toArray, List.append_assoc]
        rw [List.getElem?_append_left (by simp; omega), List.getElem?_take_of_lt hj, Array.getElem?_toList]
      · rw [hsz, Nat.mul_one]
        simp only [List.getElem?_toArray, List.append_assoc]
        rw [List.getElem?_append_right (by simp; omega)]
        simp
        rw [show n - min n cs.size = 0 by omega]
        rfl
    · have holds : ∀ j v, xs[j]? = some v → w.cell? ((⟨g, 0, none⟩ : Addr).add j) = some v := hown.cells (g := g) rfl
      have e := run_append_grow (P := Tryd.prog) w 24 24 3 i (.int .i64 0) Tryd.underlying24 hi hz ⟨g, 0, none⟩ n cap xs (by rw [hsz]; exact hown.1) holds ⟨q, 0, none⟩ 1 1 [u] (by simp [hsz]) hnews (by omega) (by omega) (hfit _ _ (by omega) (by omega))
      rw [e] at hrun
      injection hrun with h1 h2
      subst h2
      injection h1 with h3 _ _
      refine ⟨.inr ⟨_, h3.symm, Nat.le_refl _⟩, rfl, rfl, rfl, by simp, fun k hk _ => Below.heap_alloc w.drew _ k hk, fun g' cs hA hcs2 => ⟨cs, ?_, rfl, fun _ _ => rfl, .inl rfl⟩⟩
      exact (Below.heap_alloc w.drew _ g' hcs2.lt).trans hcs2

/-- an element: this integer -/
def ElemIZ (_ : World) (_ : Nat) (r : Int) (u : Value) : Prop := u = .int .i64 r
def RowGZ (A : Option Addr) (g lo : Nat) : Prop := (A = some ⟨g, 0, none⟩ ∧ g < lo) ∨ (A = none ∧ g = lo)
/-- the row of slices in block g alone may have turned, at the place n, to such a slice -/
structure TurnIZ (g n lo : Nat) (r : Int) (A B : World) : Prop where
  os : B.os = A.os
  tape : B.tape = A.tape
  output : B.output = A.output
  size : A.heap.size ≤ B.heap.size
  block : ∀ k, k < A.heap.size → (k ≠ g ∨ lo ≤ k) → B.heap[k]? = A.heap[k]?
  own : g < lo → ∀ cs, BlockIs A g 3 cs → ∃ cs', BlockIs B g 3 cs' ∧ cs'.size = cs.size ∧ (∀ i, i < n → cs'[i]? = cs[i]?) ∧ (cs'[n]? = cs[n]? ∨ ∃ u, cs'[n]? = some u ∧ ElemIZ B lo r u)
theorem ElemIZ.turn {g n lo : Nat} {r z : Int} {A B : World} {u : Value} (h : ElemIZ A lo z u) (_ : TurnIZ g n lo r A B) : ElemIZ B lo z u := h
theorem TurnIZ.refl (g n lo : Nat) (r : Int) (A : World) : TurnIZ g n lo r A A := ⟨rfl, rfl, rfl, Nat.le_refl _, fun _ _ _ => rfl, fun _ cs h => ⟨cs, h, rfl, fun _ _ => rfl, .inl rfl⟩⟩
theorem TurnIZ.trans {g n lo : Nat} {r : Int} {A B C : World} (h : TurnIZ g n lo r A B) (k : TurnIZ g n lo r B C) : TurnIZ g n lo r A C := by
  refine ⟨k.os.trans h.os, k.tape.trans h.tape, k.output.trans h.output, Nat.le_trans h.size k.size, fun i hi hn => (k.block i (Nat.lt_of_lt_of_le hi h.size) hn).trans (h.block i hi hn), fun hg cs hb => ?_⟩
  obtain ⟨c1, a1, a2, a3, a4⟩ := h.own hg cs hb
  obtain ⟨c2, b1, b2, b3, b4⟩ := k.own hg c1 a1
  refine ⟨c2, b1, b2.trans a2, fun i hi => (b3 i hi).trans (a3 i hi), ?_⟩
  rcases b4 with b4 | b4
  · rcases a4 with a4 | ⟨u, a4, a5⟩
    · exact .inl (b4.trans a4)
    · exact .inr ⟨u, b4.trans a4, a5.turn k⟩
  · exact .inr b4
theorem TurnIZ.of_grow {g n lo : Nat} {r : Int} {A B : World} (h : Grow A B) : TurnIZ g n lo r A B := ⟨h.os, h.tape, h.output, h.size, fun k hk _ => Below.block h k hk, fun _ cs hb => ⟨cs, h.block hb, rfl, fun _ _ => rfl, .inl rfl⟩⟩
theorem TurnIZ.of_drew {g n lo : Nat} {r : Int} {A B : World} (h : TurnIZ g n lo r A.drew B) : TurnIZ g n lo r A B := ⟨h.os, h.tape, h.output, h.size, h.block, h.own⟩
theorem TurnIZ.blk {g n lo : Nat} {r : Int} {A B : World} (h : TurnIZ g n lo r A B) {b : Nat} {t : TypeId} {cs : Array Value} (hb : BlockIs A b t cs) (hn : b ≠ g ∨ lo ≤ b) : BlockIs B b t cs := (h.block b hb.lt hn).trans hb
theorem TurnIZ.below {g n lo B0 : Nat} {r : Int} {A B : World} (h : TurnIZ g n lo r A B) (hg : B0 ≤ g) (hb : B0 ≤ A.heap.size) : Below B0 A B := ⟨h.os, h.tape, h.output, h.size, fun k hk => h.block k (by omega) (.inl (by omega))⟩
theorem own_turnIZ {g k n lo base cap : Nat} {A : Option Addr} {us : List Value} {r : Int} {w w' : World} (h : w.ownsRow base 3 1 (.slice A k cap) k us) (hr : TurnIZ g n lo r w w') (hA : RowGZ A g lo) (hn : n = k) : w'.ownsRow base 3 1 (.slice A k cap) k us := by
  subst hn
  refine ⟨h.1, ?_⟩
  rcases h.2 with h2 | ⟨g', c, cur, hv, hge, hh, h3, h4, h5, h6⟩
  · exact .inl h2
  · injection hv with e1 e2 e3
    subst e1 e3
    rcases hA with ⟨e, hl⟩ | ⟨e, _⟩
    · injection e with e
      injection e with e
      subst e
      obtain ⟨cs', b1, b2, b3, _⟩ := hr.own hl cur hh
      refine .inr ⟨g', cap, cs', rfl, hge, b1, h3, h4, by rw [b2]; exact h5, ?_⟩
      rw [← h6, Nat.mul_one]
      refine List.ext_getElem? fun i => ?_
      by_cases hi : i < n
      · rw [List.getElem?_take_of_lt hi, List.getElem?_take_of_lt hi, Array.getElem?_toList, Array.getElem?_toList, b3 i hi]
      · rw [List.getElem?_take_eq_none (by omega), List.getElem?_take_eq_none (by omega)]
    · cases e
/-- the row with one slice more -/
def OwnSIZ (g lo base k : Nat) (us : List Value) (r : Int) (v : Value) (w : World) : Prop := ∃ b c cs, v = .slice (some ⟨b, 0, none⟩) (k + 1) c ∧ base ≤ b ∧ ((b = g ∧ g < lo) ∨ lo ≤ b) ∧ BlockIs w b 3 cs ∧ k + 1 ≤ c ∧ c ≤ maxLen ∧ cs.size = c ∧ (∀ i, i < k → cs[i]? = us[i]?) ∧ ∃ u, cs[k]? = some u ∧ ElemIZ w lo r u
theorem OwnSIZ.turn {g lo base k : Nat} {us : List Value} {r : Int} {v : Value} {w w' : World} (h : OwnSIZ g lo base k us r v w) (hr : TurnIZ g k lo r w w') : OwnSIZ g lo base k us r v w' := by
  obtain ⟨b, c, cs, rfl, h1, h2, h3, h4, h5, h6, h7, u, h8, h9⟩ := h
  rcases h2 with ⟨rfl, hl⟩ | hl
  · obtain ⟨cs', b1, b2, b3, b4⟩ := hr.own hl cs h3
    refine ⟨b, c, cs', rfl, h1, .inl ⟨rfl, hl⟩, b1, h4, h5, by rw [b2]; exact h6, fun i hi => (b3 i hi).trans (h7 i hi), ?_⟩
    rcases b4 with b4 | ⟨u', b4, b5⟩
    · exact ⟨u, b4.trans h8, h9.turn hr⟩
    · exact ⟨u', b4, b5⟩
  · exact ⟨b, c, cs, rfl, h1, .inr hl, hr.blk h3 (.inr hl), h4, h5, h6, h7, u, h8, h9.turn hr⟩
theorem OwnSIZ.own {g lo base k : Nat} {us : List Value} {r : Int} {v : Value} {w : World} (h : OwnSIZ g lo base k us r v w) (hu : us.length = k) : ∃ b c u, v = .slice (some ⟨b, 0, none⟩) (k + 1) c ∧ w.ownsRow base 3 1 (.slice (some ⟨b, 0, none⟩) (k + 1) c) (k + 1) (us ++ [u]) ∧ ElemIZ w lo r u := by
  obtain ⟨b, c, cs, rfl, h1, h2, h3, h4, h5, h6, h7, u, h8, h9⟩ := h
  refine ⟨b, c, u, rfl, ⟨by simp [hu], .inr ⟨b, c, cs, rfl, h1, h3, h4, h5, by omega, ?_⟩⟩, h9⟩
  rw [Nat.mul_one]
  refine List.ext_getElem? fun i => ?_
  by_cases hi : i < k
  · rw [List.getElem?_take_of_lt (by omega), Array.getElem?_toList, h7 i hi, List.getElem?_append_left (by omega)]
  · by_cases hi2 : i = k
    · subst hi2
      rw [List.getElem?_take_of_lt (by omega), Array.getElem?_toList, h8, ← hu, List.getElem?_concat_length]
    · rw [List.getElem?_take_eq_none (by omega), List.getElem?_eq_none (by simp; omega)]
/-- what the append of the region leaves -/
theorem append_turnIZ {w : World} {base n cap q g lo : Nat} {A : Option Addr} {us : List Value} {u : Value} {r : Int} (hown : w.ownsRow base 3 1 (.slice A n cap) n us) (hA : RowGZ A g lo) (hlo : lo ≤ w.heap.size) (hu : BlockIs w q 3 #[u]) (he : ElemIZ w lo r u) (hb : base ≤ w.heap.size) (hn : n ≤ 100) :
    ∃ v' w', (Builtin.append_ #[24, 24] 24 #[.slice A n cap, .slice (some ⟨q, 0, none⟩) 1 1]).run Tryd.prog w = .ok v' w' ∧ TurnIZ g n lo r w w' ∧ OwnSIZ g lo base n us r v' w' := by
  have hone : u.oneCell' = true := by
    rw [show u = .int .i64 r from he]
    rfl
  obtain ⟨A', c', w', hrun, hown', hwhere, h1, h2, h3, h4, h5, h6⟩ := append_slotIZ hown hu hone hb hn
  have hne : ∀ k, (k ≠ g ∨ lo ≤ k) → ∀ g', A = some ⟨g', 0, none⟩ → k ≠ g' := by
    intro k hk g' e
    rcases hA with ⟨e2, hl⟩ | ⟨e2, _⟩
    · rw [e2] at e
      injection e with e
      injection e with e
      omega
    · rw [e2] at e
      cases e
  have heW : ElemIZ w' lo r u := he
  have hT : TurnIZ g n lo r w w' := by
    refine ⟨h1, h2, h3, h4, fun k hk hk2 => h5 k hk (hne k hk2), fun hg cs hcs => ?_⟩
    rcases hA with ⟨e2, hl⟩ | ⟨_, e3⟩
    · obtain ⟨cs', a1, a2, a3, a4⟩ := h6 g cs e2 hcs
      exact ⟨cs', a1, a2, a3, a4.imp id fun a4 => ⟨u, a4, heW⟩⟩
    · omega
  refine ⟨_, w', hrun, hT, ?_⟩
  have hlen : us.length = n := by have := hown.1; omega
  rcases hown'.2 with ⟨hv, hz⟩ | ⟨b, c, cur, hv, hbg, hg, hnc, hcm, hcs, htake⟩
  · omega
  · injection hv with e1 e2 e3
    subst e1 e3
    refine ⟨b, c', cur, rfl, hbg, ?_, hg, hnc, hcm, by omega, fun i hi => ?_, u, ?_, heW⟩
    · rcases hwhere with e | ⟨b', e, hb'⟩
      · rcases hA with ⟨e2, hl⟩ | ⟨e2, _⟩
        · rw [e2] at e
          injection e with e
          injection e with e
          exact .inl ⟨e, hl⟩
        · rw [e2] at e
          cases e
      · injection e with e
        injection e with e
        exact .inr (by omega)
    · have := congrArg (fun l => l[i]?) htake
      simp only [Nat.mul_one] at this
      rw [List.getElem?_take_of_lt (by omega), Array.getElem?_toList, List.getElem?_append_left (by omega)] at this
      exact this
    · have := congrArg (fun l => l[n]?) htake
      simp only [Nat.mul_one] at this
      rw [List.getElem?_take_of_lt (by omega), Array.getElem?_toList, ← hlen, List.getElem?_concat_length, hlen] at this
      exact this
theorem append_headSIZ {a : Act} {o : Oper} {s x : Operand} {w w' : World} {v u v' : Value} (ho : o.op = .call { callee := .builtin .append, args := #[s, x], argTypes := #[24, 24] }) (ht : o.type = 24) (hs : a.eval s = v) (hx : a.eval x = u)
    (hrun : (Builtin.append_ #[24, 24] 24 #[v, u]).run Tryd.prog w = .ok v' w') : (execOp a.eval o).run Tryd.prog w = .ok (.value v') w' := by
  unfold execOp
  simp only [ho, ht, resolve, invoke, builtin, Sem.run_bind, Sem.run_pure, Result.andThen_ok, List.map_toArray, List.map_cons, List.map_nil, hs, hx, hrun]
theorem wp_append_headSIZ {a : Act} {o : Oper} {s x : Operand} {w w' : World} {v u v' : Value} {next : Act → World → Prop} {Q : Exit → Act → World → Prop} (ho : o.op = .call { callee := .builtin .append, args := #[s, x], argTypes := #[24, 24] }) (ht : o.type = 24) (hs : a.eval s = v) (hx : a.eval x = u)
    (hrun : (Builtin.append_ #[24, 24] 24 #[v, u]).run Tryd.prog w = .ok v' w') (hn : next (a.put o.dst v') w') : o.wp Tryd.prog a w next Q := by
  unfold Oper.wp
  rw [append_headSIZ ho ht hs hx hrun]
  exact hn

theorem row_gIZ {w : World} {base k cap : Nat} {A : Option Addr} {us : List Value} (h : w.ownsRow base 3 1 (.slice A k cap) k us) (hb : base ≤ w.heap.size) : ∃ g, RowGZ A g w.heap.size ∧ base ≤ g := by
  rcases h.2 with ⟨hv, _⟩ | ⟨g, c, cur, hv, hge, hh, _⟩
  · injection hv with e
    exact ⟨w.heap.size, .inr ⟨e, rfl⟩, hb⟩
  · injection hv with e
    exact ⟨g, .inl ⟨e, (Array.getElem?_eq_some_iff.1 hh).1⟩, hge⟩

end Go.Proofs.YthehkgpnnndboaaDoor
