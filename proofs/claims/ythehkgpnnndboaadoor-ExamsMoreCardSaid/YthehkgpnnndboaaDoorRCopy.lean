/- RCopy: rows of structs of a call's own; a paper in new memory; the specification's Copy: an equal paper in new memory; written by wip/tools/rcopy9.py. -/
import Derived.Test.YthehkgpnnndboaaDoorBlame
import Derived.Test.YthehkgpnnndboaaDoorWorks
import Derived.ArgAppend
namespace Go.Proofs.YthehkgpnnndboaaDoor
open Go.RowKit

section
variable {α : Type} {enc : α → List Value} {k : Nat}
theorem flat_length (hk : ∀ x, (enc x).length = k) : ∀ l : List α, (l.flatMap enc).length = l.length * k
  | [] => by simp
  | x :: l => by rw [List.flatMap_cons, List.length_append, hk, flat_length hk l, List.length_cons, Nat.add_mul, Nat.one_mul, Nat.add_comm]
theorem flat_get (hk : ∀ x, (enc x).length = k) : ∀ (l : List α) (i c : Nat), c < k → (l.flatMap enc)[i * k + c]? = l[i]?.bind fun x => (enc x)[c]?
  | [], i, c, _ => by simp
  | x :: l, 0, c, hc => by
    rw [List.flatMap_cons, Nat.zero_mul, Nat.zero_add, List.getElem?_append_left (by rw [hk]; exact hc)]
    rfl
  | x :: l, i + 1, c, hc => by
    rw [List.flatMap_cons, List.getElem?_append_right (by rw [hk, Nat.add_mul]; omega), hk, show (i + 1) * k + c - k = i * k + c by rw [Nat.add_mul, Nat.one_mul]; omega, flat_get hk l i c hc]
    rfl
end

/-- blocks of a type stay as they are -/
def KeepTy (t : TypeId) (w w' : World) : Prop := ∀ (g : Nat) (cs : Array Value), BlockIs w g t cs → BlockIs w' g t cs
theorem KeepTy.of_grow {t : TypeId} {w w' : World} (h : Grow w w') : KeepTy t w w' := fun _ _ hb => h.block hb
theorem KeepTy.refl (t : TypeId) (w : World) : KeepTy t w w := fun _ _ h => h
theorem KeepTy.trans {t : TypeId} {a b c : World} (h : KeepTy t a b) (k : KeepTy t b c) : KeepTy t a c := fun g cs hb => k g cs (h g cs hb)
theorem block_ne {w : World} {a b : Nat} {s t : TypeId} {x y : Array Value} (ha : BlockIs w a s x) (hb : BlockIs w b t y) (h : s ≠ t) : a ≠ b := by
  rintro rfl
  have := ha.symm.trans hb
  simp at this
  exact h this.2
theorem KeepTy.store {t s : TypeId} {w : World} {b : Nat} {cs : Array Value} (hb : BlockIs w b s cs) (hn : t ≠ s) (j : Nat) (v : Value) : KeepTy t w (w.setCell ⟨b, j, none⟩ v) := fun _ _ hg => hg.far (p := ⟨b, j, none⟩) (block_ne hg hb hn) v
theorem own_block {w : World} {base e size n : Nat} {v : Value} {xs : List Value} (h : w.ownsRow base e size v n xs) {b : Nat} {t : TypeId} {cs : Array Value} (hb : BlockIs w b t cs) (ht : t ≠ e) : some b ≠ v.ownBlock := by
  rcases h.2 with ⟨rfl, _⟩ | ⟨g, c, cur, hv, hg, hh, _⟩
  · simp [Value.ownBlock]
  · subst hv
    intro hq
    simp [Value.ownBlock] at hq
    exact block_ne hb hh ht hq
theorem KeepTy.grown {t e base size n : Nat} {w w' : World} {v : Value} {xs : List Value} (h : w.ownsRow base e size v n xs) (hg : w.grownBy w' v.ownBlock) (hn : t ≠ e) : KeepTy t w w' := fun _ _ hb => hb.grown hg (own_block h hb hn)
theorem own_keep {w w' : World} {base e size n : Nat} {v : Value} {xs : List Value} (h : w.ownsRow base e size v n xs) (k : KeepTy e w w') : w'.ownsRow base e size v n xs := by
  refine ⟨h.1, ?_⟩
  rcases h.2 with h2 | ⟨g, c, cur, hv, hg, hh, r⟩
  · exact .inl h2
  · exact .inr ⟨g, c, cur, hv, hg, k g cur hh, r⟩
theorem own_mono {w : World} {base base' e size n : Nat} {v : Value} {xs : List Value} (h : w.ownsRow base e size v n xs) (hl : base' ≤ base) : w.ownsRow base' e size v n xs := by
  obtain ⟨h1, h | ⟨g, c, cur, hv, hg, r⟩⟩ := h
  · exact ⟨h1, .inl h⟩
  · exact ⟨h1, .inr ⟨g, c, cur, hv, by omega, r⟩⟩
theorem own_lt {w : World} {base e size n : Nat} {v : Value} {xs : List Value} (h : w.ownsRow base e size v n xs) (q : Nat) (hq : v.ownBlock = some q) : q < w.heap.size := by
  obtain ⟨h1, ⟨rfl, _⟩ | ⟨g, c, cur, hv, hg, hh, r⟩⟩ := h
  · simp [Value.ownBlock] at hq
  · subst hv
    simp [Value.ownBlock] at hq
    subst hq
    exact (Array.getElem?_eq_some_iff.1 hh).1
theorem own_empty {T : TypeId} {s : Nat} (W : World) (b : Nat) (hb : b = W.heap.size) : (W.alloc (.cells #[] T)).ownsRow b T s (.slice (some ⟨b, 0, none⟩) 0 0) 0 [] := by
  subst hb
  exact ⟨by simp, .inr ⟨W.heap.size, 0, #[], rfl, Nat.le_refl _, heap_alloc_new W _, Nat.le_refl _, by unfold maxLen; omega, by simp, by simp⟩⟩

/-- integers of the call's own, in a block from lo on and below hi -/
def OwnI (w : World) (lo hi : Nat) (A : Option Addr) (cap : Nat) (xs : List Int) : Prop := w.ownsRow lo 3 1 (.slice A xs.length cap) xs.length (xs.map (Value.int .i64)) ∧ ∀ a, A = some a → a.block < hi
theorem OwnI.keep {w w' : World} {lo hi cap : Nat} {A : Option Addr} {xs : List Int} (h : OwnI w lo hi A cap xs) (k : KeepTy 3 w w') : OwnI w' lo hi A cap xs := ⟨own_keep h.1 k, h.2⟩
theorem OwnI.mono {w : World} {lo lo' hi hi' cap : Nat} {A : Option Addr} {xs : List Int} (h : OwnI w lo hi A cap xs) (hl : lo' ≤ lo) (hh : hi ≤ hi') : OwnI w lo' hi' A cap xs := ⟨own_mono h.1 hl, fun a ha => Nat.lt_of_lt_of_le (h.2 a ha) hh⟩
theorem OwnI.ints {w : World} {lo hi cap : Nat} {A : Option Addr} {xs : List Int} (h : OwnI w lo hi A cap xs) : Ints w w.heap.size A xs := (own_ints h.1).1
theorem OwnI.of_own {w : World} {lo cap : Nat} {A : Option Addr} {xs : List Int} (h : w.ownsRow lo 3 1 (.slice A xs.length cap) xs.length (xs.map (Value.int .i64))) : OwnI w lo w.heap.size A cap xs :=
  ⟨h, fun a ha => own_lt h a.block (by subst ha; rfl)⟩
def cellsIL (x : ItemI) : List Value := (cellsI x).toList
def cellsJL (x : JudgeR) : List Value := (cellsJ x).toList
theorem one_item (x : ItemI) : ∀ u ∈ cellsIL x, u.oneCell' = true := fun v hv => by
  simp only [cellsIL, List.mem_cons, List.not_mem_nil, or_false] at hv
  rcases hv with rfl | rfl <;> rfl
theorem one_judge (x : JudgeR) : ∀ u ∈ cellsJL x, u.oneCell' = true := fun v hv => by
  simp only [cellsJL, List.mem_cons, List.not_mem_nil, or_false] at hv
  rcases hv with rfl | rfl | rfl | rfl <;> rfl
/-- judges in new memory, the marks of each behind those of the one before -/
def NewJs (w : World) : Nat → Nat → List JudgeR → Prop
  | lo, hi, [] => lo ≤ hi
  | lo, hi, x :: l => ∃ m, lo ≤ m ∧ OwnI w lo m x.a x.c x.d.marks ∧ NewJs w m hi l
theorem NewJs.keep {w w' : World} (k : KeepTy 3 w w') : ∀ {l : List JudgeR} {lo hi : Nat}, NewJs w lo hi l → NewJs w' lo hi l
  | [], _, _, h => h
  | _ :: _, _, _, ⟨m, h0, h1, h2⟩ => ⟨m, h0, h1.keep k, NewJs.keep k h2⟩
theorem NewJs.le {w : World} : ∀ {l : List JudgeR} {lo hi : Nat}, NewJs w lo hi l → lo ≤ hi
  | [], _, _, h => h
  | _ :: _, _, _, ⟨_, h0, _, h2⟩ => Nat.le_trans h0 (NewJs.le h2)
theorem NewJs.up {w : World} : ∀ {l : List JudgeR} {lo hi hi' : Nat}, NewJs w lo hi l → hi ≤ hi' → NewJs w lo hi' l
  | [], _, _, _, h, e => Nat.le_trans h e
  | _ :: _, _, _, _, ⟨m, h0, h1, h2⟩, e => ⟨m, h0, h1, NewJs.up h2 e⟩
theorem NewJs.snoc {w : World} {x : JudgeR} : ∀ {l : List JudgeR} {lo m hi : Nat}, NewJs w lo m l → m ≤ hi → OwnI w m hi x.a x.c x.d.marks → NewJs w lo hi (l ++ [x])
  | [], lo, m, hi, h, e, hx => ⟨hi, by have : lo ≤ m := h; omega, hx.mono h (Nat.le_refl _), Nat.le_refl _⟩
  | _ :: _, _, _, _, ⟨m, h0, h1, h2⟩, e, hx => ⟨m, h0, h1, NewJs.snoc h2 e hx⟩
theorem NewJs.mem {w : World} {x : JudgeR} : ∀ {l : List JudgeR} {lo hi : Nat}, NewJs w lo hi l → x ∈ l → Ints w w.heap.size x.a x.d.marks
  | _ :: _, _, _, ⟨m, h0, h1, h2⟩, hx => by
    rcases List.mem_cons.1 hx with rfl | hx
    · exact h1.ints
    · exact NewJs.mem h2 hx
theorem own_flat {α : Type} {enc : α → List Value} {k : Nat} (hk : ∀ x, (enc x).length = k) {w : World} {base e n cap : Nat} {A : Option Addr} {ys : List α} (h : w.ownsRow base e k (.slice A n cap) n (ys.flatMap enc)) (hn : n = ys.length) : ys = [] ∨ ∃ b cs, A = some ⟨b, 0, none⟩ ∧ base ≤ b ∧ BlockIs w b e cs ∧ n ≤ cap ∧ cs.size = cap * k ∧ ∀ i x, ys[i]? = some x → ∀ j, j < k → cs[i * k + j]? = (enc x)[j]? := by
  have h' := h
  rcases h.2 with ⟨h0, h2⟩ | ⟨g, c, cur, hv, hg, hh, h2, h3, h4, h5⟩
  · exact .inl (List.eq_nil_of_length_eq_zero (by omega))
  · injection hv with e1 e2 e3
    subst e1 e3
    refine .inr ⟨g, cur, rfl, hg, hh, h2, h4, fun i x hi j hj => ?_⟩
    have hf := flat_get (enc := enc) (k := k) hk ys i j hj
    rw [hi, Option.bind_some] at hf
    have hjl : j < (enc x).length := by rw [hk]; exact hj
    have hc := World.ownsRow.cells (g := g) h' rfl (i * k + j) ((enc x)[j]) (by rw [hf]; exact List.getElem?_eq_getElem hjl)
    have hB : BlockIs w g e cur := hh
    rw [show (⟨g, 0, none⟩ : Addr).add (i * k + j) = ⟨g, i * k + j, none⟩ by (simp [Addr.add]; try omega), hB.cell] at hc
    rw [hc, ← List.getElem?_eq_getElem hjl]
/-- a paper in new memory from lo on -/
structure NewPaper (w : World) (lo : Nat) (p : PaperR) : Prop where
  items : w.ownsRow lo 78 2 (.slice p.ia p.items.length p.ic) p.items.length (p.items.flatMap cellsIL)
  judges : w.ownsRow lo 60 4 (.slice p.ja p.judges.length p.jc) p.judges.length (p.judges.flatMap cellsJL)
  grades : w.ownsRow lo 3 1 (.slice p.ga p.grades.length p.gc) p.grades.length (p.grades.map (Value.int .i64))
  rows : NewJs w lo w.heap.size p.judges
theorem NewPaper.at_ {w : World} {lo : Nat} {p : PaperR} (h : NewPaper w lo p) : PaperAt w w.heap.size p := by
  refine ⟨?_, ?_, fun x hx => h.rows.mem hx, (own_ints h.grades).1⟩
  · rcases own_flat (enc := cellsIL) (fun _ => rfl) h.items rfl with e | ⟨b, cs, e, _, hB, _, _, hc⟩
    · exact .inl e
    · exact .inr ⟨b, 0, e, hB.lt, fun i x hi j hj => by rw [hB.cell, Nat.zero_add, hc i x hi j hj]; exact Array.getElem?_toList⟩
  · rcases own_flat (enc := cellsJL) (fun _ => rfl) h.judges rfl with e | ⟨b, cs, e, _, hB, _, _, hc⟩
    · exact .inl e
    · exact .inr ⟨b, 0, e, hB.lt, fun i x hi j hj => by rw [hB.cell, Nat.zero_add, hc i x hi j hj]; exact Array.getElem?_toList⟩
theorem NewPaper.grow {w w' : World} {lo : Nat} {p : PaperR} (h : NewPaper w lo p) (g : Grow w w') : NewPaper w' lo p :=
  ⟨own_keep h.items (.of_grow g), own_keep h.judges (.of_grow g), own_keep h.grades (.of_grow g), (h.rows.keep (.of_grow g)).up g.size⟩

section
variable {P : Program}
/-- an append of cells onto a new empty slice -/
theorem append_onto_empty {e t : TypeId} {i : TypeInfo} {z : Value} {size bytes : Nat} (ht : P.underlying t = some (.slice e)) (hi : P.info? e = some i) (hz : i.zero = some z) (hsize : i.size = size) (hby : i.bytes = bytes) (hzs : z.cells.size = size) (hsz : 0 < size)
    {w : World} {g base : Nat} (hB : BlockIs w g e #[]) (hg : base ≤ g) (hbase : base ≤ w.heap.size) (A : Option Addr) (m cp : Nat) (news : List Value) (hl : news.length = m * size) (hnews : m = 0 ∨ ∃ a, A = some a ∧ ∀ j u, news[j]? = some u → w.cell? (a.add j) = some u) (h63 : m ≤ maxLen) (hbytes : m * bytes ≤ 140737488355328) :
    ∃ v' w', (Builtin.append_ #[t, t] t #[.slice (some ⟨g, 0, none⟩) 0 0, .slice A m cp]).run P w = .ok v' w' ∧ w'.ownsRow base e size v' m news ∧ Grow w w' := by
  by_cases h0 : m = 0
  · subst h0
    have hn : news = [] := List.eq_nil_of_length_eq_zero (by omega)
    subst hn
    refine ⟨.slice (some ⟨g, 0, none⟩) 0 0, w, ?_, ⟨by simp, .inr ⟨g, 0, #[], rfl, hg, hB, Nat.le_refl _, by unfold maxLen; omega, by simp, by simp⟩⟩, Grow.refl _⟩
    cases A with
    | none => simp [Builtin.append_, run_underlying ht, Builtin.lenOf, Builtin.firstCells, sizeOf, typeInfo, hi, storeCells]
    | some ad => simp [Builtin.append_, run_underlying ht, Builtin.lenOf, Builtin.firstCells, sizeOf, typeInfo, hi, storeCells, loadCells, loadCellsFrom]
  · rcases hnews with h | ⟨a, rfl, hc⟩
    · exact absurd h h0
    · obtain ⟨v', w', hrun, hown, hgr⟩ := run_append_arg_grows (P := P) w t t e i z size bytes ht hi hz hsize hby hzs hsz ⟨g, 0, none⟩ 0 0 [] (by simp) (by simp) a m cp news hl hc (by omega) (by omega) (by simpa using hbytes)
      rw [Nat.zero_add, List.nil_append] at hown
      exact ⟨v', w', hrun, own_mono hown hbase, grown_none hgr⟩
theorem append_headT {t : TypeId} {a : Act} {o : Oper} {s x : Operand} {w w' : World} {v u v' : Value} (ho : o.op = .call { callee := .builtin .append, args := #[s, x], argTypes := #[t, t] }) (ht : o.type = t) (hs : a.eval s = v) (hx : a.eval x = u)
    (hrun : (Builtin.append_ #[t, t] t #[v, u]).run P w = .ok v' w') : (execOp a.eval o).run P w = .ok (.value v') w' := by
  unfold execOp
  simp only [ho, ht, resolve, invoke, builtin, Sem.run_bind, Sem.run_pure, Result.andThen_ok, List.map_toArray, List.map_cons, List.map_nil, hs, hx, hrun]
theorem wp_append_headT {t : TypeId} {a : Act} {o : Oper} {s x : Operand} {w w' : World} {v u v' : Value} {next : Act → World → Prop} {Q : Exit → Act → World → Prop} (ho : o.op = .call { callee := .builtin .append, args := #[s, x], argTypes := #[t, t] }) (ht : o.type = t) (hs : a.eval s = v) (hx : a.eval x = u)
    (hrun : (Builtin.append_ #[t, t] t #[v, u]).run P w = .ok v' w') (hn : next (a.put o.dst v') w') : o.wp P a w next Q := by
  unfold Oper.wp
  rw [append_headT ho ht hs hx hrun]
  exact hn
end
theorem Tryd.infoItem : (Tryd.prog.info? 78).map (fun i => (i.zero, i.size, i.bytes)) = some (some (.agg #[.int .i64 0, .int .i64 0]), 2, 16) := by kernel_rfl
theorem Tryd.infoJudge : (Tryd.prog.info? 60).map (fun i => (i.zero, i.size, i.bytes)) = some (some (.agg #[.int .i64 0, .int .i64 0, .int .i64 0, .slice none 0 0]), 4, 48) := by kernel_rfl
theorem flats_src {α : Type} {enc : α → Array Value} {k : Nat} (hk : ∀ x, (enc x).toList.length = k) (hk0 : 0 < k) {w : World} {B : Nat} {A : Option Addr} {l : List α} (h : Flats enc k w B A l) : l.length = 0 ∨ ∃ a, A = some a ∧ ∀ j u, (l.flatMap fun x => (enc x).toList)[j]? = some u → w.cell? (a.add j) = some u := by
  rcases h with rfl | ⟨b, off, rfl, _, h2⟩
  · exact .inl rfl
  · refine .inr ⟨_, rfl, fun j u hu => ?_⟩
    have e : j / k * k + j % k = j := by rw [Nat.mul_comm]; exact Nat.div_add_mod j k
    have hf := flat_get (enc := fun x => (enc x).toList) (k := k) hk l (j / k) (j % k) (Nat.mod_lt _ hk0)
    rw [e, hu] at hf
    cases hy : l[j / k]? with
    | none => rw [hy] at hf; cases hf
    | some y =>
      rw [hy, Option.bind_some] at hf
      have h3 := h2 _ y hy (j % k) (Nat.mod_lt _ hk0)
      rw [show (⟨b, off, none⟩ : Addr).add j = ⟨b, off + j / k * k + j % k, none⟩ by (rw [Nat.add_assoc, e]; simp [Addr.add]), h3]
      exact Array.getElem?_toList.symm.trans hf.symm
theorem ints_src {w : World} {B : Nat} {A : Option Addr} {ys : List Int} (h : Ints w B A ys) : ys.length = 0 ∨ ∃ a, A = some a ∧ ∀ j u, (ys.map (Value.int .i64))[j]? = some u → w.cell? (a.add j) = some u := by
  rcases h with rfl | ⟨b, off, rfl, _, h2⟩
  · exact .inl rfl
  · refine .inr ⟨_, rfl, fun j u hu => ?_⟩
    rw [List.getElem?_map] at hu
    cases hy : ys[j]? with
    | none => rw [hy] at hu; cases hu
    | some y =>
      rw [hy] at hu
      have hu : Value.int .i64 y = u := by simpa using hu
      subst hu
      have := h2 j y hy
      rw [show (⟨b, off, none⟩ : Addr).add j = ⟨b, off + j, none⟩ by simp [Addr.add]]
      exact this
theorem news_judge {w : World} {g : Nat} {x : JudgeR} (h : BlockIs w g 60 (cellsJ x)) : ∀ j v, (cellsJL x)[j]? = some v → w.cell? ((⟨g, 0, none⟩ : Addr).add j) = some v := fun j v hv => by
  rw [show (⟨g, 0, none⟩ : Addr).add j = ⟨g, j, none⟩ by (simp [Addr.add]; try omega), h.cell]
  exact Array.getElem?_toList.symm.trans hv

/-- a new empty slice -/
def NilV (lo : Nat) (t : TypeId) (v : Value) (w : World) : Prop := ∃ g, v = .slice (some ⟨g, 0, none⟩) 0 0 ∧ lo ≤ g ∧ BlockIs w g t #[]
theorem NilV.grow {lo : Nat} {t : TypeId} {v : Value} {a b : World} (h : NilV lo t v a) (g : Grow a b) : NilV lo t v b := by
  obtain ⟨x, e, h1, h2⟩ := h
  exact ⟨x, e, h1, g.block h2⟩
def ItemsV (lo : Nat) (l : List ItemI) (v : Value) (w : World) : Prop := ∃ A cp, v = .slice A l.length cp ∧ w.ownsRow lo 78 2 (.slice A l.length cp) l.length (l.flatMap cellsIL)
theorem ItemsV.grow {lo : Nat} {l : List ItemI} {v : Value} {a b : World} (h : ItemsV lo l v a) (g : Grow a b) : ItemsV lo l v b := by
  obtain ⟨x, cp, e, h1⟩ := h
  exact ⟨x, cp, e, own_keep h1 (.of_grow g)⟩
def IntsV (lo : Nat) (l : List Int) (v : Value) (w : World) : Prop := ∃ A cp, v = .slice A l.length cp ∧ w.ownsRow lo 3 1 (.slice A l.length cp) l.length (l.map (Value.int .i64))
theorem IntsV.grow {lo : Nat} {l : List Int} {v : Value} {a b : World} (h : IntsV lo l v a) (g : Grow a b) : IntsV lo l v b := by
  obtain ⟨x, cp, e, h1⟩ := h
  exact ⟨x, cp, e, own_keep h1 (.of_grow g)⟩
def PaperV (lo : Nat) (p : PaperR) (v : Value) (w : World) : Prop := ∃ A ca C cc, v = .agg #[.slice A p.items.length ca, .slice none 0 0, .int .i64 p.wrong, .slice C p.grades.length cc] ∧ w.ownsRow lo 78 2 (.slice A p.items.length ca) p.items.length (p.items.flatMap cellsIL) ∧ w.ownsRow lo 3 1 (.slice C p.grades.length cc) p.grades.length (p.grades.map (Value.int .i64))
theorem PaperV.grow {lo : Nat} {p : PaperR} {v : Value} {a b : World} (h : PaperV lo p v a) (g : Grow a b) : PaperV lo p v b := by
  obtain ⟨A, ca, C, cc, e, h1, h2⟩ := h
  exact ⟨A, ca, C, cc, e, own_keep h1 (.of_grow g), own_keep h2 (.of_grow g)⟩
def PtrV (lo : Nat) (v : Value) (w : World) : Prop := ∃ o, v = .pointer (some ⟨o, 0, none⟩) ∧ lo ≤ o ∧ BlockIs w o 26 zeroP
theorem PtrV.grow {lo : Nat} {v : Value} {a b : World} (h : PtrV lo v a) (g : Grow a b) : PtrV lo v b := by
  obtain ⟨x, e, h1, h2⟩ := h
  exact ⟨x, e, h1, g.block h2⟩
theorem four_keep {t s : TypeId} {w : World} {b : Nat} {cs : Array Value} (hb : BlockIs w b s cs) (hn : t ≠ s) (v0 v1 v2 v3 : Value) : KeepTy t w ((((w.setCell ⟨b, 0, none⟩ v0).setCell ⟨b, 1, none⟩ v1).setCell ⟨b, 2, none⟩ v2).setCell ⟨b, 3, none⟩ v3) :=
  (((KeepTy.store hb hn 0 v0).trans (KeepTy.store (hb.near 0 v0) hn 1 v1)).trans (KeepTy.store ((hb.near 0 v0).near 1 v1) hn 2 v2)).trans (KeepTy.store (((hb.near 0 v0).near 1 v1).near 2 v2) hn 3 v3)
theorem results_paperC {fn : Func} (h : fn.results = #[.cell 2 26]) (t : Array Value) (W : World) (b : Nat) (v0 v1 v2 v3 : Value)
    (hb : BlockIs W b 26 #[v0, v1, v2, v3]) (ht : t.getD 2 undef = .pointer (some ⟨b, 0, none⟩)) :
    (results fn t).run Tryd.prog W = .ok (.agg #[v0, v1, v2, v3]) W := by
  have hc := hb.cell
  simp only [results, h]
  simp at ht
  simp [go_sem, ht, hc]
/-- what stands while a paper is copied -/
structure CopyS (p : PaperR) (w wr : World) (o : Nat) (iA : Option Addr) (ic : Nat) (gA : Option Addr) (gc k : Nat) (js : List JudgeR) (A : Option Addr) (cap : Nat) : Prop where
  grow : Grow w wr
  box : BlockIs wr w.heap.size 26 (cellsP p)
  res : BlockIs wr (w.heap.size + 1) 26 zeroP
  obj : BlockIs wr o 26 #[.slice iA p.items.length ic, .slice A k cap, .int .i64 p.wrong, .slice gA p.grades.length gc]
  items : wr.ownsRow w.heap.size 78 2 (.slice iA p.items.length ic) p.items.length (p.items.flatMap cellsIL)
  grades : wr.ownsRow w.heap.size 3 1 (.slice gA p.grades.length gc) p.grades.length (p.grades.map (Value.int .i64))
  row : wr.ownsRow w.heap.size 60 4 (.slice A k cap) k (js.flatMap cellsJL)
  news : NewJs wr w.heap.size wr.heap.size js
  same : js.map (·.d) = (p.judges.take k).map (·.d)
  gt : w.heap.size + 1 < o
theorem own_ints_own {w : World} {lo n cap : Nat} {A : Option Addr} {xs : List Int} (h : w.ownsRow lo 3 1 (.slice A n cap) n (xs.map (Value.int .i64))) : OwnI w lo w.heap.size A cap xs := by
  obtain rfl := (own_ints h).2.1
  exact OwnI.of_own h

set_option maxRecDepth 100000 in
set_option maxHeartbeats 16000000 in
theorem rCopy_any (p : PaperR) (n : Nat) (w : World) (hA : PaperAt w n p) (hn : n ≤ w.heap.size) (hs1 : p.items.length ≤ 20) (hs2 : p.judges.length ≤ 20) (hs4 : p.grades.length ≤ 20) (hs3 : ∀ x ∈ p.judges, x.d.marks.length ≤ 20) :
    Calls Tryd.prog 15 #[paperV p] w fun e w' => ∃ p' : PaperR, e = .returned (paperV p') ∧ p'.d = p.d ∧ NewPaper w' w.heap.size p' ∧ Below w.heap.size w w' := by
  obtain ⟨i0, hi, hz0, hz1, hz2⟩ := info_parts Tryd.infoInt
  obtain ⟨l0, hlw, hlz0, hlz1, hlz2⟩ := info_parts Tryd.infoItem
  obtain ⟨p0, hpi, hpz0, hpz1, hpz2⟩ := info_parts Tryd.infoJudge
  have HPA := Lib.hid (fun (w0 : World) (hw : Grow w w0) => (hA.more hn).below hw)
  have HS3 := Lib.hid hs3
  have hown0 : ∀ (W : World) (b : Nat), b = W.heap.size → (W.alloc (.cells #[] 3)).ownsRow b 3 1 (.slice (some ⟨b, 0, none⟩) 0 0) 0 [] := fun W b hb => own_empty W b hb
  obtain ⟨PO, hPO⟩ : ∃ z : Ending → World → Prop, (fun e w' => ∃ p' : PaperR, e = Ending.returned (paperV p') ∧ p'.d = p.d ∧ NewPaper w' w.heap.size p' ∧ Below w.heap.size w w') = z := ⟨_, rfl⟩
  have HPO : Hid (∀ (p' : PaperR) (w' : World), p'.d = p.d → NewPaper w' w.heap.size p' → Below w.heap.size w w' → PO (Ending.returned (paperV p')) w') := Lib.hid (fun p' w' h1 h4 h5 => by rw [← hPO]; exact ⟨p', rfl, h1, h4, h5⟩)
  rw [hPO]
  clear hA hn hs3 hPO
  go_enter Tryd.func15, Tryd.ntmps15
  go_upto_region 1 with fail
  obtain ⟨W, hW, hg, hfr, hs1', hsz⟩ := two_blocks w 26 26 (cellsP p) zeroP
  rw [hW]
  clear hW
  have HG := Lib.hid hg
  have HF := Lib.hid hfr
  have HR := Lib.hid hs1'
  have HZ := Lib.hid hsz
  clear hg hfr hs1' hsz
  refine wp_region_lit 12 [[], [], [(1, 7)], [(0, 6), (2, 8)], [], [(4, 10)], [], [], [(7, 13)], [(6, 12), (8, 14)], [(3, 9), (5, 11), (9, 15)], []] Grow (fun qi v w' => match qi with
      | 0 => NilV W.heap.size 78 v w'
      | 1 => v = .pointer (some ⟨w.heap.size, 0, none⟩)
      | 2 => v = .slice p.ia p.items.length p.ic
      | 3 => ItemsV w.heap.size p.items v w'
      | 4 => v = .pointer (some ⟨w.heap.size, 2, none⟩)
      | 5 => v = .int .i64 p.wrong
      | 6 => NilV W.heap.size 3 v w'
      | 7 => v = .pointer (some ⟨w.heap.size, 3, none⟩)
      | 8 => v = .slice p.ga p.grades.length p.gc
      | 9 => IntsV w.heap.size p.grades v w'
      | 10 => PaperV w.heap.size p v w'
      | 11 => PtrV W.heap.size v w'
      | _ => False) (by kernel_rfl) (by kernel_rfl) (fun _ _ _ => Grow.trans) Grow.refl ?_ ?_ ?_
  · intro i v y y' h k
    match i, h with
    | 0, h => exact h.grow k
    | 3, h => exact h.grow k
    | 6, h => exact h.grow k
    | 9, h => exact h.grow k
    | 10, h => exact h.grow k
    | 11, h => exact h.grow k
    | 1, h | 2, h | 4, h | 5, h | 7, h | 8, h => exact h
  · simp only [StepsLit, List.take_succ_cons, List.take_zero]
    refine ⟨?_, ?_, ?_, ?_, ?_, ?_, ?_, ?_, ?_, ?_, ?_, ?_, trivial⟩
    · intro w5 hR
      have hGw : Grow W w5 := hR.of_drew
      have HGW := Lib.hid hGw
      have cC := (HGW.out.block HF.out).cell
      have hz5 : W.heap.size ≤ w5.heap.size := HGW.out.size
      clear hR hGw
      simp only [depV]
      try go_simp
      exact ⟨Grow.alloc _ _, _, rfl, hz5, BlockIs.new _ _ _⟩
    · intro w5 hR
      have hGw : Grow W w5 := hR.of_drew
      have HGW := Lib.hid hGw
      have cC := (HGW.out.block HF.out).cell
      have hz5 : W.heap.size ≤ w5.heap.size := HGW.out.size
      clear hR hGw
      simp only [depV]
      try go_simp
      all_goals first
        | (with_reducible exact Grow.refl _)
        | (with_reducible exact ⟨Grow.refl _, rfl⟩)
    · intro w5 hR
      have hGw : Grow W w5 := hR.of_drew
      have HGW := Lib.hid hGw
      have cC := (HGW.out.block HF.out).cell
      have hz5 : W.heap.size ≤ w5.heap.size := HGW.out.size
      clear hR hGw
      simp only [depV]
      rintro _ rfl
      try go_simp
      all_goals first
        | (with_reducible exact Grow.refl _)
        | (with_reducible exact ⟨Grow.refl _, rfl⟩)
    · intro w5 hR
      have hGw : Grow W w5 := hR.of_drew
      have HGW := Lib.hid hGw
      have cC := (HGW.out.block HF.out).cell
      have hz5 : W.heap.size ≤ w5.heap.size := HGW.out.size
      clear hR hGw
      simp only [depV]
      intro v0 hv0
      rintro _ rfl
      obtain ⟨gq, rfl, hgq, hB⟩ := hv0
      have hbs : w.heap.size ≤ w5.heap.size := by have := HZ.out; omega
      have hgb : w.heap.size ≤ gq := by have := HZ.out; omega
      obtain ⟨v', w', hrun, hrow, hgx⟩ := append_onto_empty (P := Tryd.prog) Tryd.underlying22 hlw hlz0 hlz1 hlz2 rfl (by omega) hB hgb hbs p.ia p.items.length p.ic (p.items.flatMap cellsIL) (flat_length (enc := cellsIL) (k := 2) (fun _ => rfl) _) (flats_src (enc := cellsI) (fun _ => rfl) (by omega) (HPA.out w5 (HG.out.trans HGW.out)).items) (by unfold maxLen; omega) (by omega)
      obtain ⟨A', c', rfl⟩ := own_form hrow
      refine wp_append_headT (s := .tmp 6) (x := .tmp 8) rfl rfl rfl rfl hrun ?_
      exact ⟨rfl, hgx, A', c', rfl, hrow⟩
      try go_simp
      all_goals first
        | (with_reducible exact Grow.refl _)
        | (with_reducible exact ⟨Grow.refl _, rfl⟩)
    · intro w5 hR
      have hGw : Grow W w5 := hR.of_drew
      have HGW := Lib.hid hGw
      have cC := (HGW.out.block HF.out).cell
      have hz5 : W.heap.size ≤ w5.heap.size := HGW.out.size
      clear hR hGw
      simp only [depV]
      try go_simp
      all_goals first
        | (with_reducible exact Grow.refl _)
        | (with_reducible exact ⟨Grow.refl _, rfl⟩)
    · intro w5 hR
      have hGw : Grow W w5 := hR.of_drew
      have HGW := Lib.hid hGw
      have cC := (HGW.out.block HF.out).cell
      have hz5 : W.heap.size ≤ w5.heap.size := HGW.out.size
      clear hR hGw
      simp only [depV]
      rintro _ rfl
      try go_simp
      all_goals first
        | (with_reducible exact Grow.refl _)
        | (with_reducible exact ⟨Grow.refl _, rfl⟩)
    · intro w5 hR
      have hGw : Grow W w5 := hR.of_drew
      have HGW := Lib.hid hGw
      have cC := (HGW.out.block HF.out).cell
      have hz5 : W.heap.size ≤ w5.heap.size := HGW.out.size
      clear hR hGw
      simp only [depV]
      try go_simp
      exact ⟨Grow.alloc _ _, _, rfl, hz5, BlockIs.new _ _ _⟩
    · intro w5 hR
      have hGw : Grow W w5 := hR.of_drew
      have HGW := Lib.hid hGw
      have cC := (HGW.out.block HF.out).cell
      have hz5 : W.heap.size ≤ w5.heap.size := HGW.out.size
      clear hR hGw
      simp only [depV]
      try go_simp
      all_goals first
        | (with_reducible exact Grow.refl _)
        | (with_reducible exact ⟨Grow.refl _, rfl⟩)
    · intro w5 hR
      have hGw : Grow W w5 := hR.of_drew
      have HGW := Lib.hid hGw
      have cC := (HGW.out.block HF.out).cell
      have hz5 : W.heap.size ≤ w5.heap.size := HGW.out.size
      clear hR hGw
      simp only [depV]
      rintro _ rfl
      try go_simp
      all_goals first
        | (with_reducible exact Grow.refl _)
        | (with_reducible exact ⟨Grow.refl _, rfl⟩)
    · intro w5 hR
      have hGw : Grow W w5 := hR.of_drew
      have HGW := Lib.hid hGw
      have cC := (HGW.out.block HF.out).cell
      have hz5 : W.heap.size ≤ w5.heap.size := HGW.out.size
      clear hR hGw
      simp only [depV]
      intro v6 hv6
      rintro _ rfl
      obtain ⟨gq, rfl, hgq, hB⟩ := hv6
      have hbs : w.heap.size ≤ w5.heap.size := by have := HZ.out; omega
      have hgb : w.heap.size ≤ gq := by have := HZ.out; omega
      obtain ⟨v', w', hrun, hrow, hgx⟩ := append_onto_empty (P := Tryd.prog) Tryd.underlying24 hi hz0 hz1 hz2 rfl (by omega) hB hgb hbs p.ga p.grades.length p.gc (p.grades.map (Value.int .i64)) (by simp) (ints_src (HPA.out w5 (HG.out.trans HGW.out)).grades) (by unfold maxLen; omega) (by omega)
      obtain ⟨A', c', rfl⟩ := own_form hrow
      refine wp_append_headT (s := .tmp 12) (x := .tmp 14) rfl rfl rfl rfl hrun ?_
      exact ⟨rfl, hgx, A', c', rfl, hrow⟩
      try go_simp
      all_goals first
        | (with_reducible exact Grow.refl _)
        | (with_reducible exact ⟨Grow.refl _, rfl⟩)
    · intro w5 hR
      have hGw : Grow W w5 := hR.of_drew
      have HGW := Lib.hid hGw
      have cC := (HGW.out.block HF.out).cell
      have hz5 : W.heap.size ≤ w5.heap.size := HGW.out.size
      clear hR hGw
      simp only [depV]
      intro v3 hv3
      rintro _ rfl
      intro v9 hv9
      obtain ⟨A', c', rfl, hrow⟩ := hv3
      obtain ⟨C', cc', rfl, hrowg⟩ := hv9
      have HRW := Lib.hid hrow
      have HRG := Lib.hid hrowg
      clear hrow hrowg
      try go_simp
      exact ⟨Grow.refl _, A', c', C', cc', rfl, HRW.out, HRG.out⟩
    · intro w5 hR
      have hGw : Grow W w5 := hR.of_drew
      have HGW := Lib.hid hGw
      have cC := (HGW.out.block HF.out).cell
      have hz5 : W.heap.size ≤ w5.heap.size := HGW.out.size
      clear hR hGw
      simp only [depV]
      try go_simp
      exact ⟨Grow.alloc _ _, _, rfl, hz5, BlockIs.new _ _ _⟩
  · intro w5 hR
    have HG5 : Hid (Grow W w5) := Lib.hid hR.of_drew
    clear hR
    simp only [finVC, List.take_succ_cons, List.take_zero, List.drop_succ_cons, List.drop_zero]
    intro v0 hv0
    rintro _ rfl
    rintro _ rfl
    intro v3 hv3
    rintro _ rfl
    rintro _ rfl
    intro v6 hv6
    rintro _ rfl
    rintro _ rfl
    intro v9 hv9
    intro v10 hv10
    intro v11 hv11
    simp only [Act.put, List.setIfInBounds_toArray, List.set_cons_succ, List.set_cons_zero]
    obtain ⟨iA, ic, gA, gc, rfl, hrow, hrowg⟩ := hv10
    obtain ⟨o, rfl, ho, hob⟩ := hv11
    have hoc := hob.cell
    have hof := hob.frozen
    have HS5 := Lib.hid (stores4 hob (.slice iA p.items.length ic) (.slice none 0 0) (.int .i64 p.wrong) (.slice gA p.grades.length gc))
    have HK5 := Lib.hid (four_keep (t := 78) hob (by decide) (.slice iA p.items.length ic) (.slice none 0 0) (.int .i64 p.wrong) (.slice gA p.grades.length gc))
    have HKI5 := Lib.hid (four_keep (t := 3) hob (by decide) (.slice iA p.items.length ic) (.slice none 0 0) (.int .i64 p.wrong) (.slice gA p.grades.length gc))
    have hzz := HZ.out
    have HB5 := Lib.hid ((HG.out.trans HG5.out).trans' (below4 (w := w5) (B := w.heap.size) (b := o) (by omega) (.slice iA p.items.length ic) (.slice none 0 0) (.int .i64 p.wrong) (.slice gA p.grades.length gc)))
    have HX5 := Lib.hid (far4 (HG5.out.block HF.out) (b' := o) (by omega) (.slice iA p.items.length ic) (.slice none 0 0) (.int .i64 p.wrong) (.slice gA p.grades.length gc))
    have HR5 := Lib.hid (far4 (HG5.out.block HR.out) (b' := o) (by omega) (.slice iA p.items.length ic) (.slice none 0 0) (.int .i64 p.wrong) (.slice gA p.grades.length gc))
    have HRW := Lib.hid hrow
    have HRG := Lib.hid hrowg
    have hgt : w.heap.size + 1 < o := by omega
    clear hv0 hv3 hv6 hv9 hrow hrowg hob HG5
    go_upto_region 2 with fail
    obtain ⟨w6, hw6⟩ : ∃ w6, ((((w5.setCell ⟨o, 0, none⟩ (.slice iA p.items.length ic)).setCell ⟨o, 1, none⟩ (.slice none 0 0)).setCell ⟨o, 2, none⟩ (.int .i64 p.wrong)).setCell ⟨o, 3, none⟩ (.slice gA p.grades.length gc)) = w6 := ⟨_, rfl⟩
    rw [hw6] at HS5 HK5 HKI5 HB5 HX5 HR5 ⊢
    have HST : Hid (CopyS p w w6 o iA ic gA gc 0 [] none 0) := Lib.hid ⟨HB5.out, HX5.out, HR5.out, HS5.out, own_keep HRW.out HK5.out, own_keep HRG.out HKI5.out, ⟨rfl, .inl ⟨rfl, rfl⟩⟩, HB5.out.size, rfl, hgt⟩
    clear hw6 HS5 HK5 HKI5 HB5 HX5 HR5 HRW HRG hoc hof ho hzz
    go_upto_region 3 with fail
    go_loopw [4] (fun iv wr => ∃ (k : Nat) (js : List JudgeR) (A : Option Addr) (cap : Nat), k ≤ p.judges.length ∧ iv = .int .i64 k ∧ CopyS p w wr o iA ic gA gc k js A cap) (fun v _ => p.judges.length - (intOf v).toNat)
    case atStart => exact ⟨0, [], none, 0, by omega, rfl, HST.out⟩
    case round =>
      obtain ⟨k, js, A, cap, hk, rfl, hst⟩ := hrel
      rename World => wr
      have HS := Lib.hid hst
      have hcc := hst.box.cell
      clear hst HST
      by_cases hlt : k < p.judges.length
      · have hd : decide ((k : Int) < (p.judges.length : Int)) = true := decide_eq_true (by omega)
        obtain ⟨pb, off, x, hpa, hbl, e0, e1, e2, e3, HX, _⟩ := judge_at (HPA.out _ HS.out.grow) hlt
        have hk0 : (0 : Int) ≤ (k : Int) := by omega
        have hk1 : (k : Int) < (p.judges.length : Int) := by omega
        have hxl := HS3.out x (List.mem_of_getElem? HX.out)
        have HPX := Lib.hid ((HPA.out _ HS.out.grow).marks x (List.mem_of_getElem? HX.out))
        have hja1 : wr.cell? ⟨w.heap.size, 1, none⟩ = some (.slice (some ⟨pb, off, none⟩) p.judges.length p.jc) := (hcc 1).trans (by show some (Value.slice p.ja p.judges.length p.jc) = _; rw [hpa])
        have hzw := HS.out.grow.size
        clear hbl hpa hcc
        go_upto_region 6 with fail
        obtain ⟨W2, hW2, hg2, hp2, hz2'⟩ := one_block wr 60 (cellsJ x)
        rw [hW2]
        have HG2 := Lib.hid hg2
        have HPB := Lib.hid hp2
        have hpc := hp2.cell
        have hpz : wr.heap.size < W2.heap.size := hz2'
        clear hW2 hg2 hp2 hz2' e0 e1 e2 e3 hja1 hd hk0 hk1
        go_wp2_with (at_builtin; refine wpList_append_ints rfl _ _ 24 rfl W2.heap.size 3 i0 (.int .i64 0) 8 Tryd.underlying24 hi hz0 hz1 hz2 rfl _ 0 [] rfl ?c0 x.a x.d.marks.length x.c w.heap.size x.d.marks rfl rfl ?c1 ?c2 ?c3 ?c4 ?_)
        case c0 => exact hown0 _ _ rfl
        case c1 => exact HPX.out.below (Below.mono (HG2.out.trans (Grow.alloc _ _)) HS.out.grow.size)
        case c2 => unfold maxLen; omega
        case c3 => omega
        case c4 => simp
        intro v' w3 hown hgr
        obtain ⟨A1, c1, rfl⟩ := own_form hown
        have hO1 : OwnI w3 W2.heap.size w3.heap.size A1 c1 x.d.marks := own_ints_own (by simpa using hown)
        have hb3 : Below W2.heap.size W2 w3 := (((Below.refl _ W2).alloc (Nat.le_refl _) _)).grown hgr (by simp) (fun k hk => by simp [Value.ownBlock] at hk; omega)
        have hz3 : W2.heap.size ≤ w3.heap.size := hb3.size
        have HG3 : Hid (Grow W2 w3) := hb3
        have HO1 := Lib.hid hO1
        have HP3 := Lib.hid (HG3.out.block HPB.out)
        clear hown hgr hO1 hb3 hpc
        have hpc := HP3.out.cell
        have hpf := HP3.out.frozen
        go_upto_region 7 with fail
        obtain ⟨w4, hw4⟩ : ∃ w4, w3.setCell ⟨wr.heap.size, 3, none⟩ (.slice A1 x.d.marks.length c1) = w4 := ⟨_, rfl⟩
        have HG4 : Hid (Grow wr w4) := Lib.hid (by rw [← hw4]; exact (HG2.out.trans HG3.out).setC (p := ⟨wr.heap.size, 3, none⟩) (Nat.le_refl _) _)
        have HK4 : Hid (KeepTy 3 w3 w4) := Lib.hid (by rw [← hw4]; exact KeepTy.store HP3.out (by decide) _ _)
        have HP4 : Hid (BlockIs w4 wr.heap.size 60 (cellsJ ⟨x.d, A1, c1⟩)) := Lib.hid (by rw [← hw4]; exact HP3.out.near 3 _)
        have hz4 : w3.heap.size ≤ w4.heap.size := by rw [← hw4]; simp
        rw [hw4]
        clear hw4 HP3 HPB hpc hpf
        have hpc := HP4.out.cell
        have hoc := (HG4.out.block HS.out.obj).cell
        have HNP : Hid (OwnI w4 wr.heap.size w4.heap.size A1 c1 x.d.marks) := Lib.hid ((HO1.out.mono (by omega) (by omega)).keep HK4.out)
        have hpz4 : wr.heap.size < w4.heap.size := by omega
        have hoz4 : o < w4.heap.size := (HG4.out.block HS.out.obj).lt
        clear HO1 HK4 HG2 HG3
        have HROW := Lib.hid (own_keep HS.out.row (.of_grow (HG4.out.trans (Grow.alloc w4 (.cells (cellsJ (⟨x.d, A1, c1⟩ : JudgeR)) 60)))))
        go_wp2_with (at_builtin; go_loud (refine wpList_append_own _ rfl _ _ 23 rfl w.heap.size 60 p0 (.agg #[.int .i64 0, .int .i64 0, .int .i64 0, .slice none 0 0]) 4 48 Tryd.underlying23 hpi hpz0 hpz1 hpz2 rfl (by omega) _ k (js.flatMap cellsJL) rfl ?d0 ⟨w4.heap.size, 0, none⟩ 1 1 (cellsJL ⟨x.d, A1, c1⟩) rfl rfl ?d1 ?d2 ?d3 ?d4 ?d5 ?_))
        case d0 => exact HROW.out
        case d1 => exact news_judge (BlockIs.new _ _ _)
        case d2 => exact one_judge _
        case d3 => unfold maxLen; omega
        case d4 => omega
        case d5 => simp; omega
        intro v' w7 hown hgr _
        obtain ⟨A7, c7, rfl⟩ := own_form hown
        have HG7 : Hid (Grow w w7) := Lib.hid (below_grown (HS.out.grow.trans (HG4.out.trans (Grow.alloc _ _))) HROW.out hgr (by simp; omega))
        have HOW7 : Hid (w7.ownsRow w.heap.size 60 4 (.slice A7 (k + 1) c7) (k + 1) ((js ++ [(⟨x.d, A1, c1⟩ : JudgeR)]).flatMap cellsJL)) := Lib.hid (by rw [List.flatMap_append, List.flatMap_singleton]; exact hown)
        have hga : Grow wr (w4.alloc (.cells (cellsJ (⟨x.d, A1, c1⟩ : JudgeR)) 60)) := HG4.out.trans (Grow.alloc _ _)
        have KI := Lib.hid (KeepTy.grown (t := 3) HROW.out hgr (by decide))
        have KL := Lib.hid (KeepTy.grown (t := 78) HROW.out hgr (by decide))
        have KC := Lib.hid (KeepTy.grown (t := 26) HROW.out hgr (by decide))
        have HBX := Lib.hid (KC.out _ _ (hga.block HS.out.box))
        have HRS := Lib.hid (KC.out _ _ (hga.block HS.out.res))
        have HOB := Lib.hid (KC.out _ _ (hga.block HS.out.obj))
        have HLA := Lib.hid (own_keep HS.out.items ((KeepTy.of_grow hga).trans KL.out))
        have HGA := Lib.hid (own_keep HS.out.grades ((KeepTy.of_grow hga).trans KI.out))
        have hz7 := hgr.size
        have HNS : Hid (NewJs w7 w.heap.size w7.heap.size (js ++ [⟨x.d, A1, c1⟩])) := Lib.hid (by
          have h1 := HS.out.news.keep ((KeepTy.of_grow hga).trans KI.out)
          have h2 := HNP.out.keep ((KeepTy.of_grow (Grow.alloc _ _)).trans KI.out)
          exact NewJs.snoc h1 (by simp at hz7; omega) (h2.mono (Nat.le_refl _) (by simp at hz7; omega)))
        have HSM : Hid ((js ++ [(⟨x.d, A1, c1⟩ : JudgeR)]).map (·.d) = (p.judges.take (k + 1)).map (·.d)) := Lib.hid (by
          rw [take_snoc HX.out, List.map_append, List.map_append, HS.out.same]
          rfl)
        clear hown hgr HROW hga KI KL KC HNP hoc hpc hz7
        have hoc := HOB.out.cell
        have hof := HOB.out.frozen
        have HN8 : Hid (CopyS p w (w7.setCell ⟨o, 1, none⟩ (.slice A7 (k + 1) c7)) o iA ic gA gc (k + 1) (js ++ [⟨x.d, A1, c1⟩]) A7 c7) := Lib.hid
          ⟨HG7.out.setC (p := ⟨o, 1, none⟩) (by simp; omega) _, HBX.out.far (p := ⟨o, 1, none⟩) (by simp; omega) _, HRS.out.far (p := ⟨o, 1, none⟩) (by simp; omega) _, HOB.out.near 1 _, own_keep HLA.out (KeepTy.store HOB.out (by decide) _ _), own_keep HGA.out (KeepTy.store HOB.out (by decide) _ _), own_keep HOW7.out (KeepTy.store HOB.out (by decide) _ _), by
            have h := HNS.out.keep (KeepTy.store HOB.out (t := 3) (by decide) 1 (.slice A7 (k + 1) c7))
            simpa using h, HSM.out, hgt⟩
        clear HBX HRS HOB HLA HGA HOW7 HNS HSM HG7
        go_wp2
        go_roundw
        case rel => exact ⟨k + 1, js ++ [⟨x.d, A1, c1⟩], A7, c7, by omega, by go_num, HN8.out⟩
        case measure => simp [intOf]; omega
      · have hd : decide ((k : Int) < (p.judges.length : Int)) = false := decide_eq_false (by omega)
        obtain rfl : k = p.judges.length := by omega
        have hoc := HS.out.obj.cell
        have hrc := HS.out.res.cell
        have hrf := HS.out.res.frozen
        have hpl : js.length = p.judges.length := by
          have h := congrArg List.length HS.out.same
          rw [List.take_length] at h
          simpa using h
        have HR8 := Lib.hid (stores4 HS.out.res (.slice iA p.items.length ic) (.slice A p.judges.length cap) (.int .i64 p.wrong) (.slice gA p.grades.length gc))
        have HB8 := Lib.hid (HS.out.grow.trans' (below4 (w := wr) (B := w.heap.size) (b := w.heap.size + 1) (by omega) (.slice iA p.items.length ic) (.slice A p.judges.length cap) (.int .i64 p.wrong) (.slice gA p.grades.length gc)))
        have HNC : Hid (NewPaper ((((wr.setCell ⟨w.heap.size + 1, 0, none⟩ (.slice iA p.items.length ic)).setCell ⟨w.heap.size + 1, 1, none⟩ (.slice A p.judges.length cap)).setCell ⟨w.heap.size + 1, 2, none⟩ (.int .i64 p.wrong)).setCell ⟨w.heap.size + 1, 3, none⟩ (.slice gA p.grades.length gc)) w.heap.size ⟨p.items, js, p.wrong, p.grades, iA, ic, A, cap, gA, gc⟩) := Lib.hid (by
          have k1 := four_keep (t := 3) HS.out.res (by decide) (.slice iA p.items.length ic) (.slice A p.judges.length cap) (.int .i64 p.wrong) (.slice gA p.grades.length gc)
          have k2 := four_keep (t := 60) HS.out.res (by decide) (.slice iA p.items.length ic) (.slice A p.judges.length cap) (.int .i64 p.wrong) (.slice gA p.grades.length gc)
          have k3 := four_keep (t := 78) HS.out.res (by decide) (.slice iA p.items.length ic) (.slice A p.judges.length cap) (.int .i64 p.wrong) (.slice gA p.grades.length gc)
          refine ⟨own_keep HS.out.items k3, ?_, own_keep HS.out.grades k1, ?_⟩
          · have h := own_keep HS.out.row k2
            show World.ownsRow _ _ _ _ (.slice A js.length cap) js.length _
            rw [hpl]
            exact h
          · have h := HS.out.news.keep k1
            simpa using h)
        have HDD : Hid ((⟨p.items, js, p.wrong, p.grades, iA, ic, A, cap, gA, gc⟩ : PaperR).d = p.d) := Lib.hid (by
          have h := HS.out.same
          rw [List.take_length] at h
          show (⟨p.items, js.map (·.d), p.wrong, p.grades⟩ : PaperI) = ⟨p.items, p.judges.map (·.d), p.wrong, p.grades⟩
          rw [h])
        have HRT := Lib.hid (HPO.out ⟨p.items, js, p.wrong, p.grades, iA, ic, A, cap, gA, gc⟩ _ HDD.out HNC.out HB8.out)
        rw [show paperV ⟨p.items, js, p.wrong, p.grades, iA, ic, A, cap, gA, gc⟩ = .agg #[.slice iA p.items.length ic, .slice A p.judges.length cap, .int .i64 p.wrong, .slice gA p.grades.length gc] by (unfold paperV cellsP; dsimp only; rw [hpl])] at HRT
        clear hpl HNC HDD HB8 HPO
        go_wp2
        exact bodyPost_ret (results_paperC Tryd.results15 _ _ (w.heap.size + 1) _ _ _ _ HR8.out rfl) rfl HRT.out

end Go.Proofs.YthehkgpnnndboaaDoor
