/- CopyM: rows of structs of a call's own; a crew in new memory. RCopy: the specification's Copy: an equal crew in new memory; written by wip/tools/rcopy3.py. -/
import Derived.Test.YticeekkfdkfcgaaRefs2
import Derived.Test.YticeekkfdkfcgaaMayApi
import Derived.ArgAppend
namespace Go.Proofs.Yticeekkfdkfcgaa
open Go.RowKit

section
variable {α : Type} {enc : α → List Value} {k : Nat}
theorem flat_length (hk : ∀ x, (enc x).length = k) : ∀ l : List α, (l.flatMap enc).length = l.length * k
  | [] => by simp
  | x :: l => by rw [List.flatMap_cons, List.length_append, hk, flat_length hk l, List.length_cons, Nat.add_mul, Nat.one_mul, Nat.add_comm]
theorem flat_get (hk : ∀ x, (enc x).length = k) : ∀ (l : List α) (i c : Nat), c < k → (l.flatMap enc)[i * k + c]? = l[i]?.bind fun x => (enc x)[c]?
  | [], i, c, _ => by simp
  | x :: l, 0, c, hc => by
    rw [List.flatMap_cons, Nat.zero_mul, Nat.zero_add, List.getElem?_append_left (by rw [hk]; exact hc)]
    rfl
  | x :: l, i + 1, c, hc => by
    rw [List.flatMap_cons, List.getElem?_append_right (by rw [hk, Nat.add_mul]; omega), hk, show (i + 1) * k + c - k = i * k + c by rw [Nat.add_mul, Nat.one_mul]; omega, flat_get hk l i c hc]
    rfl
end

/-- blocks of a type stay as they are -/
def KeepTy (t : TypeId) (w w' : World) : Prop := ∀ (g : Nat) (cs : Array Value), BlockIs w g t cs → BlockIs w' g t cs
theorem KeepTy.of_grow {t : TypeId} {w w' : World} (h : Grow w w') : KeepTy t w w' := fun _ _ hb => h.block hb
theorem KeepTy.refl (t : TypeId) (w : World) : KeepTy t w w := fun _ _ h => h
theorem KeepTy.trans {t : TypeId} {a b c : World} (h : KeepTy t a b) (k : KeepTy t b c) : KeepTy t a c := fun g cs hb => k g cs (h g cs hb)
theorem block_ne {w : World} {a b : Nat} {s t : TypeId} {x y : Array Value} (ha : BlockIs w a s x) (hb : BlockIs w b t y) (h : s ≠ t) : a ≠ b := by
  rintro rfl
  have := ha.symm.trans hb
  simp at this
  exact h this.2
theorem KeepTy.store {t s : TypeId} {w : World} {b : Nat} {cs : Array Value} (hb : BlockIs w b s cs) (hn : t ≠ s) (j : Nat) (v : Value) : KeepTy t w (w.setCell ⟨b, j, none⟩ v) := fun _ _ hg => hg.far (p := ⟨b, j, none⟩) (block_ne hg hb hn) v
theorem own_block {w : World} {base e size n : Nat} {v : Value} {xs : List Value} (h : w.ownsRow base e size v n xs) {b : Nat} {t : TypeId} {cs : Array Value} (hb : BlockIs w b t cs) (ht : t ≠ e) : some b ≠ v.ownBlock := by
  rcases h.2 with ⟨rfl, _⟩ | ⟨g, c, cur, hv, hg, hh, _⟩
  · simp [Value.ownBlock]
  · subst hv
    intro hq
    simp [Value.ownBlock] at hq
    exact block_ne hb hh ht hq
theorem KeepTy.grown {t e base size n : Nat} {w w' : World} {v : Value} {xs : List Value} (h : w.ownsRow base e size v n xs) (hg : w.grownBy w' v.ownBlock) (hn : t ≠ e) : KeepTy t w w' := fun _ _ hb => hb.grown hg (own_block h hb hn)
theorem own_keep {w w' : World} {base e size n : Nat} {v : Value} {xs : List Value} (h : w.ownsRow base e size v n xs) (k : KeepTy e w w') : w'.ownsRow base e size v n xs := by
  refine ⟨h.1, ?_⟩
  rcases h.2 with h2 | ⟨g, c, cur, hv, hg, hh, r⟩
  · exact .inl h2
  · exact .inr ⟨g, c, cur, hv, hg, k g cur hh, r⟩
theorem own_mono {w : World} {base base' e size n : Nat} {v : Value} {xs : List Value} (h : w.ownsRow base e size v n xs) (hl : base' ≤ base) : w.ownsRow base' e size v n xs := by
  obtain ⟨h1, h | ⟨g, c, cur, hv, hg, r⟩⟩ := h
  · exact ⟨h1, .inl h⟩
  · exact ⟨h1, .inr ⟨g, c, cur, hv, by omega, r⟩⟩
theorem own_lt {w : World} {base e size n : Nat} {v : Value} {xs : List Value} (h : w.ownsRow base e size v n xs) (q : Nat) (hq : v.ownBlock = some q) : q < w.heap.size := by
  obtain ⟨h1, ⟨rfl, _⟩ | ⟨g, c, cur, hv, hg, hh, r⟩⟩ := h
  · simp [Value.ownBlock] at hq
  · subst hv
    simp [Value.ownBlock] at hq
    subst hq
    exact (Array.getElem?_eq_some_iff.1 hh).1
theorem own_empty {T : TypeId} {s : Nat} (W : World) (b : Nat) (hb : b = W.heap.size) : (W.alloc (.cells #[] T)).ownsRow b T s (.slice (some ⟨b, 0, none⟩) 0 0) 0 [] := by
  subst hb
  exact ⟨by simp, .inr ⟨W.heap.size, 0, #[], rfl, Nat.le_refl _, heap_alloc_new W _, Nat.le_refl _, by unfold maxLen; omega, by simp, by simp⟩⟩

/-- integers of the call's own, in a block from lo on and below hi -/
def OwnI (w : World) (lo hi : Nat) (A : Option Addr) (cap : Nat) (xs : List Int) : Prop := w.ownsRow lo 3 1 (.slice A xs.length cap) xs.length (xs.map (Value.int .i64)) ∧ ∀ a, A = some a → a.block < hi
theorem OwnI.keep {w w' : World} {lo hi cap : Nat} {A : Option Addr} {xs : List Int} (h : OwnI w lo hi A cap xs) (k : KeepTy 3 w w') : OwnI w' lo hi A cap xs := ⟨own_keep h.1 k, h.2⟩
theorem OwnI.mono {w : World} {lo lo' hi hi' cap : Nat} {A : Option Addr} {xs : List Int} (h : OwnI w lo hi A cap xs) (hl : lo' ≤ lo) (hh : hi ≤ hi') : OwnI w lo' hi' A cap xs := ⟨own_mono h.1 hl, fun a ha => Nat.lt_of_lt_of_le (h.2 a ha) hh⟩
theorem OwnI.ints {w : World} {lo hi cap : Nat} {A : Option Addr} {xs : List Int} (h : OwnI w lo hi A cap xs) : Ints w w.heap.size A xs := (own_ints h.1).1
theorem OwnI.of_own {w : World} {lo cap : Nat} {A : Option Addr} {xs : List Int} (h : w.ownsRow lo 3 1 (.slice A xs.length cap) xs.length (xs.map (Value.int .i64))) : OwnI w lo w.heap.size A cap xs :=
  ⟨h, fun a ha => own_lt h a.block (by subst ha; rfl)⟩
def NewP (w : World) (lo hi : Nat) (x : PersonR) : Prop := ∃ m, lo ≤ m ∧ m ≤ hi ∧ OwnI w lo m x.la x.lc x.d.levels ∧ OwnI w m hi x.ta x.tc x.d.ties
theorem NewP.keep {w w' : World} {lo hi : Nat} {x : PersonR} (h : NewP w lo hi x) (k : KeepTy 3 w w') : NewP w' lo hi x := by
  obtain ⟨m, h1, h2, h3, h4⟩ := h
  exact ⟨m, h1, h2, h3.keep k, h4.keep k⟩
theorem NewP.at_ {w : World} {lo hi : Nat} {x : PersonR} (h : NewP w lo hi x) : PersonAt w w.heap.size x := by
  obtain ⟨m, h1, h2, h3, h4⟩ := h
  exact ⟨h3.ints, h4.ints⟩
theorem NewP.le {w : World} {lo hi : Nat} {x : PersonR} (h : NewP w lo hi x) : lo ≤ hi := by
  obtain ⟨m, h1, h2, _⟩ := h; omega
/-- people in new memory, the rows of each behind those of the one before -/
def NewPs (w : World) : Nat → Nat → List PersonR → Prop
  | lo, hi, [] => lo ≤ hi
  | lo, hi, x :: l => ∃ m, NewP w lo m x ∧ NewPs w m hi l
theorem NewPs.keep {w w' : World} (k : KeepTy 3 w w') : ∀ {l : List PersonR} {lo hi : Nat}, NewPs w lo hi l → NewPs w' lo hi l
  | [], _, _, h => h
  | _ :: _, _, _, ⟨m, h1, h2⟩ => ⟨m, h1.keep k, NewPs.keep k h2⟩
theorem NewPs.le {w : World} : ∀ {l : List PersonR} {lo hi : Nat}, NewPs w lo hi l → lo ≤ hi
  | [], _, _, h => h
  | _ :: _, _, _, ⟨_, h1, h2⟩ => Nat.le_trans h1.le (NewPs.le h2)
theorem NewPs.snoc {w : World} {x : PersonR} : ∀ {l : List PersonR} {lo m hi : Nat}, NewPs w lo m l → NewP w m hi x → NewPs w lo hi (l ++ [x])
  | [], lo, m, hi, h, hx => ⟨hi, by obtain ⟨q, h1, h2, h3, h4⟩ := hx; exact ⟨q, by have : lo ≤ m := h; omega, h2, h3.mono h (Nat.le_refl _), h4⟩, Nat.le_refl _⟩
  | _ :: _, _, _, _, ⟨m, h1, h2⟩, hx => ⟨m, h1, NewPs.snoc h2 hx⟩
theorem NewPs.mem {w : World} {x : PersonR} : ∀ {l : List PersonR} {lo hi : Nat}, NewPs w lo hi l → x ∈ l → PersonAt w w.heap.size x
  | _ :: _, _, _, ⟨m, h1, h2⟩, hx => by
    rcases List.mem_cons.1 hx with rfl | hx
    · exact h1.at_
    · exact NewPs.mem h2 hx
def cellsPL (x : PersonR) : List Value := (cellsP x).toList
def cellsLL (x : LawD) : List Value := (cellsL x).toList
theorem one_law (x : LawD) : ∀ u ∈ cellsLL x, u.oneCell' = true := fun v hv => by
  simp only [cellsLL, List.mem_cons, List.not_mem_nil, or_false] at hv
  rcases hv with rfl | rfl | rfl <;> rfl
theorem one_person (x : PersonR) : ∀ u ∈ cellsPL x, u.oneCell' = true := fun v hv => by
  simp only [cellsPL, List.mem_cons, List.not_mem_nil, or_false] at hv
  rcases hv with rfl | rfl | rfl | rfl | rfl | rfl <;> rfl
theorem own_flat {α : Type} {enc : α → List Value} {k : Nat} (hk : ∀ x, (enc x).length = k) {w : World} {base e n cap : Nat} {A : Option Addr} {ys : List α} (h : w.ownsRow base e k (.slice A n cap) n (ys.flatMap enc)) (hn : n = ys.length) : ys = [] ∨ ∃ b cs, A = some ⟨b, 0, none⟩ ∧ base ≤ b ∧ BlockIs w b e cs ∧ n ≤ cap ∧ cs.size = cap * k ∧ ∀ i x, ys[i]? = some x → ∀ j, j < k → cs[i * k + j]? = (enc x)[j]? := by
  have h' := h
  rcases h.2 with ⟨h0, h2⟩ | ⟨g, c, cur, hv, hg, hh, h2, h3, h4, h5⟩
  · exact .inl (List.eq_nil_of_length_eq_zero (by omega))
  · injection hv with e1 e2 e3
    subst e1 e3
    refine .inr ⟨g, cur, rfl, hg, hh, h2, h4, fun i x hi j hj => ?_⟩
    have hf := flat_get (enc := enc) (k := k) hk ys i j hj
    rw [hi, Option.bind_some] at hf
    have hjl : j < (enc x).length := by rw [hk]; exact hj
    have hc := World.ownsRow.cells (g := g) h' rfl (i * k + j) ((enc x)[j]) (by rw [hf]; exact List.getElem?_eq_getElem hjl)
    have hB : BlockIs w g e cur := hh
    rw [show (⟨g, 0, none⟩ : Addr).add (i * k + j) = ⟨g, i * k + j, none⟩ by (simp [Addr.add]; try omega), hB.cell] at hc
    rw [hc, ← List.getElem?_eq_getElem hjl]
/-- a crew in new memory from lo on -/
structure NewCrew (w : World) (lo : Nat) (c : CrewR) : Prop where
  people : w.ownsRow lo 52 6 (.slice c.pa c.people.length c.pc) c.people.length (c.people.flatMap cellsPL)
  laws : w.ownsRow lo 58 3 (.slice c.wa c.laws.length c.wc) c.laws.length (c.laws.flatMap cellsLL)
  rows : NewPs w lo w.heap.size c.people
theorem NewCrew.at_ {w : World} {lo : Nat} {c : CrewR} (h : NewCrew w lo c) : CrewAt w w.heap.size c := by
  refine ⟨⟨?_, fun x hx => h.rows.mem hx⟩, ?_⟩
  · rcases own_flat (enc := cellsPL) (fun _ => rfl) h.people rfl with e | ⟨b, cs, e, _, hB, _, _, hc⟩
    · exact .inl e
    · exact .inr ⟨b, 0, e, hB.lt, fun i x hi j hj => by rw [hB.cell, Nat.zero_add, hc i x hi j hj]; exact Array.getElem?_toList⟩
  · rcases own_flat (enc := cellsLL) (fun _ => rfl) h.laws rfl with e | ⟨b, cs, e, _, hB, _, _, hc⟩
    · exact .inl e
    · exact .inr ⟨b, 0, e, hB.lt, fun i x hi j hj => by rw [hB.cell, Nat.zero_add, hc i x hi j hj]; exact Array.getElem?_toList⟩
theorem NewCrew.grow {w w' : World} {lo : Nat} {c : CrewR} (h : NewCrew w lo c) (g : Grow w w') : NewCrew w' lo c :=
  ⟨own_keep h.people (.of_grow g), own_keep h.laws (.of_grow g), by
    have h1 := h.rows.keep (.of_grow g)
    have hz := g.size
    revert h1
    generalize c.people = l
    generalize lo = lo
    intro h1
    induction l generalizing lo with
    | nil => exact Nat.le_trans h1 hz
    | cons x l ih => obtain ⟨m, h2, h3⟩ := h1; exact ⟨m, h2, ih _ h3⟩⟩

section
variable {P : Program}
/-- an append of cells onto a new empty slice -/
theorem append_onto_empty {e t : TypeId} {i : TypeInfo} {z : Value} {size bytes : Nat} (ht : P.underlying t = some (.slice e)) (hi : P.info? e = some i) (hz : i.zero = some z) (hsize : i.size = size) (hby : i.bytes = bytes) (hzs : z.cells.size = size) (hsz : 0 < size)
    {w : World} {g base : Nat} (hB : BlockIs w g e #[]) (hg : base ≤ g) (hbase : base ≤ w.heap.size) (A : Option Addr) (m cp : Nat) (news : List Value) (hl : news.length = m * size) (hnews : m = 0 ∨ ∃ a, A = some a ∧ ∀ j u, news[j]? = some u → w.cell? (a.add j) = some u) (h63 : m ≤ maxLen) (hbytes : m * bytes ≤ 140737488355328) :
    ∃ v' w', (Builtin.append_ #[t, t] t #[.slice (some ⟨g, 0, none⟩) 0 0, .slice A m cp]).run P w = .ok v' w' ∧ w'.ownsRow base e size v' m news ∧ Grow w w' := by
  by_cases h0 : m = 0
  · subst h0
    have hn : news = [] := List.eq_nil_of_length_eq_zero (by omega)
    subst hn
    refine ⟨.slice (some ⟨g, 0, none⟩) 0 0, w, ?_, ⟨by simp, .inr ⟨g, 0, #[], rfl, hg, hB, Nat.le_refl _, by unfold maxLen; omega, by simp, by simp⟩⟩, Grow.refl _⟩
    cases A with
    | none => simp [Builtin.append_, run_underlying ht, Builtin.lenOf, Builtin.firstCells, sizeOf, typeInfo, hi, storeCells]
    | some ad => simp [Builtin.append_, run_underlying ht, Builtin.lenOf, Builtin.firstCells, sizeOf, typeInfo, hi, storeCells, loadCells, loadCellsFrom]
  · rcases hnews with h | ⟨a, rfl, hc⟩
    · exact absurd h h0
    · obtain ⟨v', w', hrun, hown, hgr⟩ := run_append_arg_grows (P := P) w t t e i z size bytes ht hi hz hsize hby hzs hsz ⟨g, 0, none⟩ 0 0 [] (by simp) (by simp) a m cp news hl hc (by omega) (by omega) (by simpa using hbytes)
      rw [Nat.zero_add, List.nil_append] at hown
      exact ⟨v', w', hrun, own_mono hown hbase, grown_none hgr⟩
theorem append_headT {t : TypeId} {a : Act} {o : Oper} {s x : Operand} {w w' : World} {v u v' : Value} (ho : o.op = .call { callee := .builtin .append, args := #[s, x], argTypes := #[t, t] }) (ht : o.type = t) (hs : a.eval s = v) (hx : a.eval x = u)
    (hrun : (Builtin.append_ #[t, t] t #[v, u]).run P w = .ok v' w') : (execOp a.eval o).run P w = .ok (.value v') w' := by
  unfold execOp
  simp only [ho, ht, resolve, invoke, builtin, Sem.run_bind, Sem.run_pure, Result.andThen_ok, List.map_toArray, List.map_cons, List.map_nil, hs, hx, hrun]
theorem wp_append_headT {t : TypeId} {a : Act} {o : Oper} {s x : Operand} {w w' : World} {v u v' : Value} {next : Act → World → Prop} {Q : Exit → Act → World → Prop} (ho : o.op = .call { callee := .builtin .append, args := #[s, x], argTypes := #[t, t] }) (ht : o.type = t) (hs : a.eval s = v) (hx : a.eval x = u)
    (hrun : (Builtin.append_ #[t, t] t #[v, u]).run P w = .ok v' w') (hn : next (a.put o.dst v') w') : o.wp P a w next Q := by
  unfold Oper.wp
  rw [append_headT ho ht hs hx hrun]
  exact hn
end
theorem Try.infoLaw : (Try.prog.info? 58).map (fun i => (i.zero, i.size, i.bytes)) = some (some (.agg #[.int .i64 0, .int .i64 0, .bool false]), 3, 24) := by kernel_rfl
theorem Try.infoPerson : (Try.prog.info? 52).map (fun i => (i.zero, i.size, i.bytes)) = some (some (.agg #[.slice none 0 0, .int .i64 0, .int .i64 0, .slice none 0 0, .bool false, .int .i64 0]), 6, 80) := by kernel_rfl
theorem laws_cells {w : World} {B : Nat} {A : Option Addr} {l : List LawD} (h : Laws w B A l) : l.length = 0 ∨ ∃ a, A = some a ∧ ∀ j u, (l.flatMap cellsLL)[j]? = some u → w.cell? (a.add j) = some u := by
  rcases h with rfl | ⟨b, off, rfl, _, h2⟩
  · exact .inl rfl
  · refine .inr ⟨_, rfl, fun j u hu => ?_⟩
    have e : j / 3 * 3 + j % 3 = j := by omega
    have hf := flat_get (enc := cellsLL) (k := 3) (fun _ => rfl) l (j / 3) (j % 3) (by omega)
    rw [e, hu] at hf
    cases hy : l[j / 3]? with
    | none => rw [hy] at hf; cases hf
    | some y =>
      rw [hy, Option.bind_some] at hf
      have h3 := h2 _ y hy (j % 3) (by omega)
      rw [show (⟨b, off, none⟩ : Addr).add j = ⟨b, off + j / 3 * 3 + j % 3, none⟩ by (rw [Nat.add_assoc, e]; simp [Addr.add]), h3]
      exact Array.getElem?_toList.symm.trans hf.symm
theorem news_person {w : World} {g : Nat} {x : PersonR} (h : BlockIs w g 52 (cellsP x)) : ∀ j v, (cellsPL x)[j]? = some v → w.cell? ((⟨g, 0, none⟩ : Addr).add j) = some v := fun j v hv => by
  rw [show (⟨g, 0, none⟩ : Addr).add j = ⟨g, j, none⟩ by (simp [Addr.add]; try omega), h.cell]
  exact Array.getElem?_toList.symm.trans hv

end Go.Proofs.Yticeekkfdkfcgaa

namespace Go.Proofs.Yticeekkfdkfcgaa
open Go.RowKit

/-- a new empty slice -/
def NilV (lo : Nat) (t : TypeId) (v : Value) (w : World) : Prop := ∃ g, v = .slice (some ⟨g, 0, none⟩) 0 0 ∧ lo ≤ g ∧ BlockIs w g t #[]
theorem NilV.grow {lo : Nat} {t : TypeId} {v : Value} {a b : World} (h : NilV lo t v a) (g : Grow a b) : NilV lo t v b := by
  obtain ⟨x, e, h1, h2⟩ := h
  exact ⟨x, e, h1, g.block h2⟩
def LawsV (lo : Nat) (l : List LawD) (v : Value) (w : World) : Prop := ∃ A cp, v = .slice A l.length cp ∧ w.ownsRow lo 58 3 (.slice A l.length cp) l.length (l.flatMap cellsLL)
theorem LawsV.grow {lo : Nat} {l : List LawD} {v : Value} {a b : World} (h : LawsV lo l v a) (g : Grow a b) : LawsV lo l v b := by
  obtain ⟨x, cp, e, h1⟩ := h
  exact ⟨x, cp, e, own_keep h1 (.of_grow g)⟩
def CrewV (lo : Nat) (n : Int) (l : List LawD) (v : Value) (w : World) : Prop := ∃ A cp, v = .agg #[.int .i64 n, .slice none 0 0, .slice A l.length cp] ∧ w.ownsRow lo 58 3 (.slice A l.length cp) l.length (l.flatMap cellsLL)
theorem CrewV.grow {lo : Nat} {n : Int} {l : List LawD} {v : Value} {a b : World} (h : CrewV lo n l v a) (g : Grow a b) : CrewV lo n l v b := by
  obtain ⟨x, cp, e, h1⟩ := h
  exact ⟨x, cp, e, own_keep h1 (.of_grow g)⟩
abbrev zeroC : Array Value := #[.int .i64 0, .slice none 0 0, .slice none 0 0]
def PtrV (lo : Nat) (v : Value) (w : World) : Prop := ∃ o, v = .pointer (some ⟨o, 0, none⟩) ∧ lo ≤ o ∧ BlockIs w o 25 zeroC
theorem PtrV.grow {lo : Nat} {v : Value} {a b : World} (h : PtrV lo v a) (g : Grow a b) : PtrV lo v b := by
  obtain ⟨x, e, h1, h2⟩ := h
  exact ⟨x, e, h1, g.block h2⟩
theorem three_stores {w : World} {b : Nat} {t : TypeId} {c0 c1 c2 : Value} (h : BlockIs w b t #[c0, c1, c2]) (v0 v1 v2 : Value) :
    BlockIs (((w.setCell ⟨b, 0, none⟩ v0).setCell ⟨b, 1, none⟩ v1).setCell ⟨b, 2, none⟩ v2) b t #[v0, v1, v2] := ((h.near 0 v0).near 1 v1).near 2 v2
theorem three_keep {t s : TypeId} {w : World} {b : Nat} {cs : Array Value} (hb : BlockIs w b s cs) (hn : t ≠ s) (v0 v1 v2 : Value) : KeepTy t w (((w.setCell ⟨b, 0, none⟩ v0).setCell ⟨b, 1, none⟩ v1).setCell ⟨b, 2, none⟩ v2) :=
  ((KeepTy.store hb hn 0 v0).trans (KeepTy.store (hb.near 0 v0) hn 1 v1)).trans (KeepTy.store ((hb.near 0 v0).near 1 v1) hn 2 v2)
theorem three_far {w : World} {b q : Nat} {t : TypeId} {cs : Array Value} (h : BlockIs w q t cs) (hn : q ≠ b) (v0 v1 v2 : Value) : BlockIs (((w.setCell ⟨b, 0, none⟩ v0).setCell ⟨b, 1, none⟩ v1).setCell ⟨b, 2, none⟩ v2) q t cs :=
  ((h.far (p := ⟨b, 0, none⟩) hn v0).far (p := ⟨b, 1, none⟩) hn v1).far (p := ⟨b, 2, none⟩) hn v2
theorem three_below {w : World} {B b : Nat} (hb : B ≤ b) (v0 v1 v2 : Value) : Below B w (((w.setCell ⟨b, 0, none⟩ v0).setCell ⟨b, 1, none⟩ v1).setCell ⟨b, 2, none⟩ v2) :=
  (((Below.refl B w).setCell (p := ⟨b, 0, none⟩) hb v0).setCell (p := ⟨b, 1, none⟩) hb v1).setCell (p := ⟨b, 2, none⟩) hb v2
theorem results_crew {fn : Func} (h : fn.results = #[.cell 2 25]) (t : Array Value) (W : World) (b : Nat) (v0 v1 v2 : Value)
    (hb : BlockIs W b 25 #[v0, v1, v2]) (ht : t.getD 2 undef = .pointer (some ⟨b, 0, none⟩)) :
    (results fn t).run Try.prog W = .ok (.agg #[v0, v1, v2]) W := by
  have hc := hb.cell
  simp only [results, h]
  simp at ht
  simp [go_sem, ht, hc]
/-- what stands while a crew is copied -/
structure CopyS (c : CrewR) (w wr : World) (o : Nat) (wA : Option Addr) (wc k : Nat) (ps : List PersonR) (A : Option Addr) (cap : Nat) : Prop where
  grow : Grow w wr
  box : BlockIs wr w.heap.size 25 (cellsC c)
  res : BlockIs wr (w.heap.size + 1) 25 zeroC
  obj : BlockIs wr o 25 #[.int .i64 c.languages, .slice A k cap, .slice wA c.laws.length wc]
  laws : wr.ownsRow w.heap.size 58 3 (.slice wA c.laws.length wc) c.laws.length (c.laws.flatMap cellsLL)
  row : wr.ownsRow w.heap.size 52 6 (.slice A k cap) k (ps.flatMap cellsPL)
  news : NewPs wr w.heap.size wr.heap.size ps
  same : ps.map (·.d) = (c.people.take k).map (·.d)
  gt : w.heap.size + 1 < o
theorem own_ints_own {w : World} {lo n cap : Nat} {A : Option Addr} {xs : List Int} (h : w.ownsRow lo 3 1 (.slice A n cap) n (xs.map (Value.int .i64))) : OwnI w lo w.heap.size A cap xs := by
  obtain rfl := (own_ints h).2.1
  exact OwnI.of_own h

set_option maxRecDepth 100000 in
set_option maxHeartbeats 16000000 in
theorem rCopy_any (c : CrewR) (n : Nat) (w : World) (hA : CrewAt w n c) (hn : n ≤ w.heap.size) (hs1 : c.people.length ≤ 20) (hs2 : c.laws.length ≤ 20) (hs3 : ∀ x ∈ c.people, x.d.levels.length ≤ 20 ∧ x.d.ties.length ≤ 30) :
    Calls Try.prog 12 #[crewV c] w fun e w' => ∃ c' : CrewR, e = .returned (crewV c') ∧ c'.d = c.d ∧ c'.people.length = c.people.length ∧ c'.laws.length = c.laws.length ∧ NewCrew w' w.heap.size c' ∧ Below w.heap.size w w' := by
  obtain ⟨i0, hi, hz0, hz1, hz2⟩ := info_parts Try.infoInt
  obtain ⟨l0, hlw, hlz0, hlz1, hlz2⟩ := info_parts Try.infoLaw
  obtain ⟨p0, hpi, hpz0, hpz1, hpz2⟩ := info_parts Try.infoPerson
  have HP := Lib.hid (fun (w0 : World) (hw : Grow w w0) => (hA.1.more hn).below hw)
  have HLW := Lib.hid (fun (w0 : World) (hw : Grow w w0) => (hA.2.more hn).below hw)
  have HS3 := Lib.hid hs3
  have hown0 : ∀ (W : World) (b : Nat), b = W.heap.size → (W.alloc (.cells #[] 3)).ownsRow b 3 1 (.slice (some ⟨b, 0, none⟩) 0 0) 0 [] := fun W b hb => own_empty W b hb
  obtain ⟨PO, hPO⟩ : ∃ z : Ending → World → Prop, (fun e w' => ∃ c' : CrewR, e = Ending.returned (crewV c') ∧ c'.d = c.d ∧ c'.people.length = c.people.length ∧ c'.laws.length = c.laws.length ∧ NewCrew w' w.heap.size c' ∧ Below w.heap.size w w') = z := ⟨_, rfl⟩
  have HPO : Hid (∀ (c' : CrewR) (w' : World), c'.d = c.d → c'.people.length = c.people.length → c'.laws.length = c.laws.length → NewCrew w' w.heap.size c' → Below w.heap.size w w' → PO (Ending.returned (crewV c')) w') := Lib.hid (fun c' w' h1 h2 h3 h4 h5 => by rw [← hPO]; exact ⟨c', rfl, h1, h2, h3, h4, h5⟩)
  rw [hPO]
  clear hA hn hs3 hPO
  go_enter Try.func12, Try.ntmps12
  go_upto_region 1 with fail
  obtain ⟨W, hW, hg, hfr, hs1', hsz⟩ := two_blocks w 25 25 (cellsC c) zeroC
  rw [hW]
  clear hW
  have HG := Lib.hid hg
  have HF := Lib.hid hfr
  have HR := Lib.hid hs1'
  have HZ := Lib.hid hsz
  clear hg hfr hs1' hsz
  refine wp_region_lit 8 [[], [(0, 6)], [], [], [(3, 9)], [(2, 8), (4, 10)], [(1, 7), (5, 11)], []] Grow (fun qi v w' => match qi with
      | 0 => v = .pointer (some ⟨w.heap.size, 0, none⟩)
      | 1 => v = .int .i64 c.languages
      | 2 => NilV W.heap.size 58 v w'
      | 3 => v = .pointer (some ⟨w.heap.size, 2, none⟩)
      | 4 => v = .slice c.wa c.laws.length c.wc
      | 5 => LawsV w.heap.size c.laws v w'
      | 6 => CrewV w.heap.size c.languages c.laws v w'
      | 7 => PtrV W.heap.size v w'
      | _ => False) (by kernel_rfl) (by kernel_rfl) (fun _ _ _ => Grow.trans) Grow.refl ?_ ?_ ?_
  · intro i v y y' h k
    match i, h with
    | 2, h => exact h.grow k
    | 5, h => exact h.grow k
    | 6, h => exact h.grow k
    | 7, h => exact h.grow k
    | 0, h | 1, h | 3, h | 4, h => exact h
  · simp only [StepsLit, List.take_succ_cons, List.take_zero]
    refine ⟨?_, ?_, ?_, ?_, ?_, ?_, ?_, ?_, trivial⟩
    · intro w5 hR
      have hGw : Grow W w5 := hR.of_drew
      have HGW := Lib.hid hGw
      have cC := (HGW.out.block HF.out).cell
      have hz5 : W.heap.size ≤ w5.heap.size := HGW.out.size
      clear hR hGw
      simp only [depV]
      try go_simp
      all_goals first
        | (with_reducible exact Grow.refl _)
        | (with_reducible exact ⟨Grow.refl _, rfl⟩)
    · intro w5 hR
      have hGw : Grow W w5 := hR.of_drew
      have HGW := Lib.hid hGw
      have cC := (HGW.out.block HF.out).cell
      have hz5 : W.heap.size ≤ w5.heap.size := HGW.out.size
      clear hR hGw
      simp only [depV]
      rintro _ rfl
      try go_simp
      all_goals first
        | (with_reducible exact Grow.refl _)
        | (with_reducible exact ⟨Grow.refl _, rfl⟩)
    · intro w5 hR
      have hGw : Grow W w5 := hR.of_drew
      have HGW := Lib.hid hGw
      have cC := (HGW.out.block HF.out).cell
      have hz5 : W.heap.size ≤ w5.heap.size := HGW.out.size
      clear hR hGw
      simp only [depV]
      try go_simp
      exact ⟨Grow.alloc _ _, _, rfl, hz5, BlockIs.new _ _ _⟩
    · intro w5 hR
      have hGw : Grow W w5 := hR.of_drew
      have HGW := Lib.hid hGw
      have cC := (HGW.out.block HF.out).cell
      have hz5 : W.heap.size ≤ w5.heap.size := HGW.out.size
      clear hR hGw
      simp only [depV]
      try go_simp
      all_goals first
        | (with_reducible exact Grow.refl _)
        | (with_reducible exact ⟨Grow.refl _, rfl⟩)
    · intro w5 hR
      have hGw : Grow W w5 := hR.of_drew
      have HGW := Lib.hid hGw
      have cC := (HGW.out.block HF.out).cell
      have hz5 : W.heap.size ≤ w5.heap.size := HGW.out.size
      clear hR hGw
      simp only [depV]
      rintro _ rfl
      try go_simp
      all_goals first
        | (with_reducible exact Grow.refl _)
        | (with_reducible exact ⟨Grow.refl _, rfl⟩)
    · intro w5 hR
      have hGw : Grow W w5 := hR.of_drew
      have HGW := Lib.hid hGw
      have cC := (HGW.out.block HF.out).cell
      have hz5 : W.heap.size ≤ w5.heap.size := HGW.out.size
      clear hR hGw
      simp only [depV]
      intro v2 hv2
      rintro _ rfl
      obtain ⟨gq, rfl, hgq, hB⟩ := hv2
      have hbs : w.heap.size ≤ w5.heap.size := by have := HZ.out; omega
      have hgb : w.heap.size ≤ gq := by have := HZ.out; omega
      obtain ⟨v', w', hrun, hrow, hgx⟩ := append_onto_empty (P := Try.prog) Try.underlying23 hlw hlz0 hlz1 hlz2 rfl (by omega) hB hgb hbs c.wa c.laws.length c.wc (c.laws.flatMap cellsLL) (flat_length (enc := cellsLL) (k := 3) (fun _ => rfl) _) (laws_cells (HLW.out w5 (HG.out.trans HGW.out))) (by unfold maxLen; omega) (by omega)
      obtain ⟨A', c', rfl⟩ := own_form hrow
      refine wp_append_headT (s := .tmp 8) (x := .tmp 10) rfl rfl rfl rfl hrun ?_
      exact ⟨rfl, hgx, A', c', rfl, hrow⟩
    · intro w5 hR
      have hGw : Grow W w5 := hR.of_drew
      have HGW := Lib.hid hGw
      have cC := (HGW.out.block HF.out).cell
      have hz5 : W.heap.size ≤ w5.heap.size := HGW.out.size
      clear hR hGw
      simp only [depV]
      rintro _ rfl
      intro v5 hv5
      obtain ⟨A', c', rfl, hrow⟩ := hv5
      have HRW := Lib.hid hrow
      clear hrow
      try go_simp
      exact ⟨Grow.refl _, A', c', rfl, HRW.out⟩
    · intro w5 hR
      have hGw : Grow W w5 := hR.of_drew
      have HGW := Lib.hid hGw
      have cC := (HGW.out.block HF.out).cell
      have hz5 : W.heap.size ≤ w5.heap.size := HGW.out.size
      clear hR hGw
      simp only [depV]
      try go_simp
      exact ⟨Grow.alloc _ _, _, rfl, hz5, BlockIs.new _ _ _⟩
  · intro w5 hR
    have HG5 : Hid (Grow W w5) := Lib.hid hR.of_drew
    clear hR
    simp only [finVC, List.take_succ_cons, List.take_zero, List.drop_succ_cons, List.drop_zero]
    rintro _ rfl
    rintro _ rfl
    intro v2 hv2
    rintro _ rfl
    rintro _ rfl
    intro v5 hv5
    intro v6 hv6
    intro v7 hv7
    simp only [Act.put, List.setIfInBounds_toArray, List.set_cons_succ, List.set_cons_zero]
    obtain ⟨wA, wc, rfl, hrow⟩ := hv6
    obtain ⟨o, rfl, ho, hob⟩ := hv7
    have hoc := hob.cell
    have hof := hob.frozen
    have HS5 := Lib.hid (three_stores hob (.int .i64 c.languages) (.slice none 0 0) (.slice wA c.laws.length wc))
    have HK5 := Lib.hid (three_keep (t := 58) hob (by decide) (.int .i64 c.languages) (.slice none 0 0) (.slice wA c.laws.length wc))
    have hzz := HZ.out
    have HB5 := Lib.hid ((HG.out.trans HG5.out).trans' (three_below (w := w5) (B := w.heap.size) (b := o) (by omega) (.int .i64 c.languages) (.slice none 0 0) (.slice wA c.laws.length wc)))
    have HX5 := Lib.hid (three_far (b := o) (HG5.out.block HF.out) (by omega) (.int .i64 c.languages) (.slice none 0 0) (.slice wA c.laws.length wc))
    have HR5 := Lib.hid (three_far (b := o) (HG5.out.block HR.out) (by omega) (.int .i64 c.languages) (.slice none 0 0) (.slice wA c.laws.length wc))
    have HRW := Lib.hid hrow
    have hgt : w.heap.size + 1 < o := by omega
    clear hv2 hv5 hrow hob HG5
    go_upto_region 2 with fail
    obtain ⟨w6, hw6⟩ : ∃ w6, ((w5.setCell ⟨o, 0, none⟩ (.int .i64 c.languages)).setCell ⟨o, 1, none⟩ (.slice none 0 0)).setCell ⟨o, 2, none⟩ (.slice wA c.laws.length wc) = w6 := ⟨_, rfl⟩
    rw [hw6] at HS5 HK5 HB5 HX5 HR5 ⊢
    have HST : Hid (CopyS c w w6 o wA wc 0 [] none 0) := Lib.hid ⟨HB5.out, HX5.out, HR5.out, HS5.out, own_keep HRW.out HK5.out, ⟨rfl, .inl ⟨rfl, rfl⟩⟩, HB5.out.size, rfl, hgt⟩
    clear hw6 HS5 HK5 HB5 HX5 HR5 HRW hoc hof ho hzz
    go_upto_region 3 with fail
    go_loopw [4] (fun iv wr => ∃ (k : Nat) (ps : List PersonR) (A : Option Addr) (cap : Nat), k ≤ c.people.length ∧ iv = .int .i64 k ∧ CopyS c w wr o wA wc k ps A cap) (fun v _ => c.people.length - (intOf v).toNat)
    case atStart => exact ⟨0, [], none, 0, by omega, rfl, HST.out⟩
    case round =>
      obtain ⟨k, ps, A, cap, hk, rfl, hst⟩ := hrel
      rename World => wr
      have HS := Lib.hid hst
      have hcc := hst.box.cell
      clear hst HST
      by_cases hlt : k < c.people.length
      · have hd : decide ((k : Int) < (c.people.length : Int)) = true := decide_eq_true (by omega)
        obtain ⟨pb, off, x, hpa, hbl, hcx, hpx, HX⟩ := (HP.out _ HS.out.grow).at_ hlt
        have e0 := hcx 0 (by omega); have e1 := hcx 1 (by omega); have e2 := hcx 2 (by omega); have e3 := hcx 3 (by omega); have e4 := hcx 4 (by omega); have e5 := hcx 5 (by omega)
        rw [Nat.add_zero] at e0
        have hk0 : (0 : Int) ≤ (k : Int) := by omega
        have hk1 : (k : Int) < (c.people.length : Int) := by omega
        obtain ⟨hxl, hxt⟩ := HS3.out x (List.mem_of_getElem? HX.out)
        have HPX := Lib.hid hpx
        have hzw := HS.out.grow.size
        clear hcx hpx hbl
        go_upto_region 6 with fail
        obtain ⟨W2, hW2, hg2, hp2, hz2'⟩ := one_block wr 52 (cellsP x)
        rw [hW2]
        have HG2 := Lib.hid hg2
        have HPB := Lib.hid hp2
        have hpc := hp2.cell
        have hpz : wr.heap.size < W2.heap.size := hz2'
        clear hW2 hg2 hp2 hz2' hcc e0 e1 e2 e3 e4 e5 hpa hd hk0 hk1
        go_wp2_with (at_builtin; refine wpList_append_ints rfl _ _ 33 rfl W2.heap.size 3 i0 (.int .i64 0) 8 Try.underlying33 hi hz0 hz1 hz2 rfl _ 0 [] rfl ?c0 x.la x.d.levels.length x.lc w.heap.size x.d.levels rfl rfl ?c1 ?c2 ?c3 ?c4 ?_)
        case c0 => exact hown0 _ _ rfl
        case c1 => exact HPX.out.1.below (Below.mono (HG2.out.trans (Grow.alloc _ _)) HS.out.grow.size)
        case c2 => unfold maxLen; omega
        case c3 => omega
        case c4 => simp
        intro v' w3 hown hgr
        obtain ⟨A1, c1, rfl⟩ := own_form hown
        have hO1 : OwnI w3 W2.heap.size w3.heap.size A1 c1 x.d.levels := own_ints_own (by simpa using hown)
        have hb3 : Below W2.heap.size W2 w3 := (((Below.refl _ W2).alloc (Nat.le_refl _) _)).grown hgr (by simp) (fun k hk => by simp [Value.ownBlock] at hk; omega)
        have hz3 : W2.heap.size ≤ w3.heap.size := hb3.size
        have HG3 : Hid (Grow W2 w3) := hb3
        have HO1 := Lib.hid hO1
        have HP3 := Lib.hid (HG3.out.block HPB.out)
        clear hown hgr hO1 hb3 hpc
        have hpc := HP3.out.cell
        have hpf := HP3.out.frozen
        go_upto_region 7 with fail
        obtain ⟨w4, hw4⟩ : ∃ w4, w3.setCell ⟨wr.heap.size, 0, none⟩ (.slice A1 x.d.levels.length c1) = w4 := ⟨_, rfl⟩
        have HG4 : Hid (Grow wr w4) := Lib.hid (by rw [← hw4]; exact (HG2.out.trans HG3.out).setC (p := ⟨wr.heap.size, 0, none⟩) (Nat.le_refl _) _)
        have HK4 : Hid (KeepTy 3 w3 w4) := Lib.hid (by rw [← hw4]; exact KeepTy.store HP3.out (by decide) _ _)
        have HP4 : Hid (BlockIs w4 wr.heap.size 52 (cellsP ⟨x.d, A1, c1, x.ta, x.tc⟩)) := Lib.hid (by rw [← hw4]; exact HP3.out.near 0 _)
        have hz4 : w3.heap.size ≤ w4.heap.size := by rw [← hw4]; simp
        rw [hw4]
        clear hw4 HP3 HPB hpc hpf
        have hpc := HP4.out.cell
        have hpz4 : wr.heap.size < w4.heap.size := by omega
        go_wp2_with (at_builtin; refine wpList_append_ints rfl _ _ 33 rfl w4.heap.size 3 i0 (.int .i64 0) 8 Try.underlying33 hi hz0 hz1 hz2 rfl _ 0 [] rfl ?c0 x.ta x.d.ties.length x.tc w.heap.size x.d.ties rfl rfl ?c1 ?c2 ?c3 ?c4 ?_)
        case c0 => exact hown0 _ _ rfl
        case c1 => exact HPX.out.2.below (Below.mono (HG4.out.trans (Grow.alloc _ _)) HS.out.grow.size)
        case c2 => unfold maxLen; omega
        case c3 => omega
        case c4 => simp
        intro v' w5 hown hgr
        obtain ⟨A2, c2, rfl⟩ := own_form hown
        have hO2 : OwnI w5 w4.heap.size w5.heap.size A2 c2 x.d.ties := own_ints_own (by simpa using hown)
        have hb5 : Below w4.heap.size w4 w5 := (((Below.refl _ w4).alloc (Nat.le_refl _) _)).grown hgr (by simp) (fun k hk => by simp [Value.ownBlock] at hk; omega)
        have hz5 : w4.heap.size ≤ w5.heap.size := hb5.size
        have HG5 : Hid (Grow w4 w5) := hb5
        have HO2 := Lib.hid hO2
        have HP5 := Lib.hid (HG5.out.block HP4.out)
        clear hown hgr hO2 hb5 hpc
        have hpc := HP5.out.cell
        have hpf := HP5.out.frozen
        go_upto_region 8 with fail
        obtain ⟨w6, hw6⟩ : ∃ w6, w5.setCell ⟨wr.heap.size, 3, none⟩ (.slice A2 x.d.ties.length c2) = w6 := ⟨_, rfl⟩
        have HG6 : Hid (Grow wr w6) := Lib.hid (by rw [← hw6]; exact (HG4.out.trans HG5.out).setC (p := ⟨wr.heap.size, 3, none⟩) (Nat.le_refl _) _)
        have HK6 : Hid (KeepTy 3 w5 w6) := Lib.hid (by rw [← hw6]; exact KeepTy.store HP5.out (by decide) _ _)
        have HP6 : Hid (BlockIs w6 wr.heap.size 52 (cellsP ⟨x.d, A1, c1, A2, c2⟩)) := Lib.hid (by rw [← hw6]; exact HP5.out.near 3 _)
        have hz6 : w5.heap.size ≤ w6.heap.size := by rw [← hw6]; simp
        rw [hw6]
        clear hw6 HP5 HP4 hpc hpf
        have hpc := HP6.out.cell
        have hoc := (HG6.out.block HS.out.obj).cell
        have HNP : Hid (NewP w6 wr.heap.size w6.heap.size ⟨x.d, A1, c1, A2, c2⟩) := Lib.hid ⟨w4.heap.size, by omega, by omega, ((HO1.out.mono (by omega) (by omega)).keep (HK4.out.trans ((KeepTy.of_grow HG5.out).trans HK6.out))), (HO2.out.mono (Nat.le_refl _) (by omega)).keep HK6.out⟩
        have hpz6 : wr.heap.size < w6.heap.size := by omega
        have hoz6 : o < w6.heap.size := (HG6.out.block HS.out.obj).lt
        clear HO1 HO2 HK4 HK6 HG2 HG3 HG4 HG5
        have HROW := Lib.hid (own_keep HS.out.row (.of_grow (HG6.out.trans (Grow.alloc w6 (.cells (cellsP (⟨x.d, A1, c1, A2, c2⟩ : PersonR)) 52)))))
        go_wp2_with (at_builtin; go_loud (refine wpList_append_own _ rfl _ _ 22 rfl w.heap.size 52 p0 (.agg #[.slice none 0 0, .int .i64 0, .int .i64 0, .slice none 0 0, .bool false, .int .i64 0]) 6 80 Try.underlying22 hpi hpz0 hpz1 hpz2 rfl (by omega) _ k (ps.flatMap cellsPL) rfl ?d0 ⟨w6.heap.size, 0, none⟩ 1 1 (cellsPL ⟨x.d, A1, c1, A2, c2⟩) rfl rfl ?d1 ?d2 ?d3 ?d4 ?d5 ?_))
        case d0 => exact HROW.out
        case d1 => exact news_person (BlockIs.new _ _ _)
        case d2 => exact one_person _
        case d3 => unfold maxLen; omega
        case d4 => omega
        case d5 => simp; omega
        intro v' w7 hown hgr _
        obtain ⟨A7, c7, rfl⟩ := own_form hown
        have HG7 : Hid (Grow w w7) := Lib.hid (below_grown (HS.out.grow.trans (HG6.out.trans (Grow.alloc _ _))) HROW.out hgr (by simp; omega))
        have HOW7 : Hid (w7.ownsRow w.heap.size 52 6 (.slice A7 (k + 1) c7) (k + 1) ((ps ++ [(⟨x.d, A1, c1, A2, c2⟩ : PersonR)]).flatMap cellsPL)) := Lib.hid (by rw [List.flatMap_append, List.flatMap_singleton]; exact hown)
        have hga : Grow wr (w6.alloc (.cells (cellsP (⟨x.d, A1, c1, A2, c2⟩ : PersonR)) 52)) := HG6.out.trans (Grow.alloc _ _)
        have KI := Lib.hid (KeepTy.grown (t := 3) HROW.out hgr (by decide))
        have KL := Lib.hid (KeepTy.grown (t := 58) HROW.out hgr (by decide))
        have KC := Lib.hid (KeepTy.grown (t := 25) HROW.out hgr (by decide))
        have HBX := Lib.hid (KC.out _ _ (hga.block HS.out.box))
        have HRS := Lib.hid (KC.out _ _ (hga.block HS.out.res))
        have HOB := Lib.hid (KC.out _ _ (hga.block HS.out.obj))
        have HLA := Lib.hid (own_keep HS.out.laws ((KeepTy.of_grow hga).trans KL.out))
        have hz7 := hgr.size
        have HNS : Hid (NewPs w7 w.heap.size w7.heap.size (ps ++ [⟨x.d, A1, c1, A2, c2⟩])) := Lib.hid (by
          have h1 := HS.out.news.keep ((KeepTy.of_grow hga).trans KI.out)
          have h2 := HNP.out.keep ((KeepTy.of_grow (Grow.alloc _ _)).trans KI.out)
          obtain ⟨m, q1, q2, q3, q4⟩ := h2
          exact NewPs.snoc h1 ⟨m, q1, by simp at hz7; omega, q3, q4.mono (Nat.le_refl _) (by simp at hz7; omega)⟩)
        have HSM : Hid ((ps ++ [(⟨x.d, A1, c1, A2, c2⟩ : PersonR)]).map (·.d) = (c.people.take (k + 1)).map (·.d)) := Lib.hid (by
          rw [take_snoc HX.out, List.map_append, List.map_append, HS.out.same]
          rfl)
        clear hown hgr HROW hga KI KL KC HNP hoc hpc hz7
        have hoc := HOB.out.cell
        have hof := HOB.out.frozen
        have HN8 : Hid (CopyS c w (w7.setCell ⟨o, 1, none⟩ (.slice A7 (k + 1) c7)) o wA wc (k + 1) (ps ++ [⟨x.d, A1, c1, A2, c2⟩]) A7 c7) := Lib.hid
          ⟨HG7.out.setC (p := ⟨o, 1, none⟩) (by simp; omega) _, HBX.out.far (p := ⟨o, 1, none⟩) (by simp; omega) _, HRS.out.far (p := ⟨o, 1, none⟩) (by simp; omega) _, HOB.out.near 1 _, own_keep HLA.out (KeepTy.store HOB.out (by decide) _ _), own_keep HOW7.out (KeepTy.store HOB.out (by decide) _ _), by
            have h := HNS.out.keep (KeepTy.store HOB.out (t := 3) (by decide) 1 (.slice A7 (k + 1) c7))
            simpa using h, HSM.out, hgt⟩
        clear HBX HRS HOB HLA HOW7 HNS HSM HG7
        go_wp2
        go_roundw
        case rel => exact ⟨k + 1, ps ++ [⟨x.d, A1, c1, A2, c2⟩], A7, c7, by omega, by go_num, HN8.out⟩
        case measure => simp [intOf]; omega
      · have hd : decide ((k : Int) < (c.people.length : Int)) = false := decide_eq_false (by omega)
        obtain rfl : k = c.people.length := by omega
        have hoc := HS.out.obj.cell
        have hrc := HS.out.res.cell
        have hrf := HS.out.res.frozen
        have hpl : ps.length = c.people.length := by
          have h := congrArg List.length HS.out.same
          rw [List.take_length] at h
          simpa using h
        have HR8 := Lib.hid (three_stores HS.out.res (.int .i64 c.languages) (.slice A c.people.length cap) (.slice wA c.laws.length wc))
        have HB8 := Lib.hid (HS.out.grow.trans' (three_below (w := wr) (B := w.heap.size) (b := w.heap.size + 1) (by omega) (.int .i64 c.languages) (.slice A c.people.length cap) (.slice wA c.laws.length wc)))
        have HNC : Hid (NewCrew (((wr.setCell ⟨w.heap.size + 1, 0, none⟩ (.int .i64 c.languages)).setCell ⟨w.heap.size + 1, 1, none⟩ (.slice A c.people.length cap)).setCell ⟨w.heap.size + 1, 2, none⟩ (.slice wA c.laws.length wc)) w.heap.size ⟨c.languages, ps, c.laws, A, cap, wA, wc⟩) := Lib.hid (by
          have k1 := three_keep (t := 3) HS.out.res (by decide) (.int .i64 c.languages) (.slice A c.people.length cap) (.slice wA c.laws.length wc)
          have k2 := three_keep (t := 52) HS.out.res (by decide) (.int .i64 c.languages) (.slice A c.people.length cap) (.slice wA c.laws.length wc)
          have k3 := three_keep (t := 58) HS.out.res (by decide) (.int .i64 c.languages) (.slice A c.people.length cap) (.slice wA c.laws.length wc)
          refine ⟨?_, own_keep HS.out.laws k3, ?_⟩
          · have h := own_keep HS.out.row k2
            show World.ownsRow _ _ _ _ (.slice A ps.length cap) ps.length _
            rw [hpl]
            exact h
          · have h := HS.out.news.keep k1
            simpa using h)
        have HDD : Hid ((⟨c.languages, ps, c.laws, A, cap, wA, wc⟩ : CrewR).d = c.d) := Lib.hid (by
          have h := HS.out.same
          rw [List.take_length] at h
          show (⟨c.languages, ps.map (·.d), c.laws⟩ : CrewD) = ⟨c.languages, c.people.map (·.d), c.laws⟩
          rw [h])
        have HRT := Lib.hid (HPO.out ⟨c.languages, ps, c.laws, A, cap, wA, wc⟩ _ HDD.out hpl rfl HNC.out HB8.out)
        rw [show crewV ⟨c.languages, ps, c.laws, A, cap, wA, wc⟩ = .agg #[.int .i64 c.languages, .slice A c.people.length cap, .slice wA c.laws.length wc] by (unfold crewV cellsC; dsimp only; rw [hpl])] at HRT
        clear hpl HNC HDD HB8 HPO
        go_wp2
        exact bodyPost_ret (results_crew Try.results12 _ _ (w.heap.size + 1) _ _ _ HR8.out rfl) rfl HRT.out

end Go.Proofs.Yticeekkfdkfcgaa

