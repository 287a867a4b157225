/- RowsG: rows of glosses of the call's own. -/
import Derived.Test.YtinlojealfbbfaaGloss
namespace Go.Proofs.Ytinlojealfbbfaa
open Go.RowKit

section
variable {α : Type} {enc : α → List Value} {k : Nat}
theorem flat_length (hk : ∀ x, (enc x).length = k) : ∀ l : List α, (l.flatMap enc).length = l.length * k
  | [] => by simp
  | x :: l => by rw [List.flatMap_cons, List.length_append, hk, flat_length hk l, List.length_cons, Nat.add_mul, Nat.one_mul, Nat.add_comm]
theorem flat_get (hk : ∀ x, (enc x).length = k) : ∀ (l : List α) (i c : Nat), c < k → (l.flatMap enc)[i * k + c]? = l[i]?.bind fun x => (enc x)[c]?
  | [], i, c, _ => by simp
  | x :: l, 0, c, hc => by
    rw [List.flatMap_cons, Nat.zero_mul, Nat.zero_add, List.getElem?_append_left (by rw [hk]; exact hc)]
    rfl
  | x :: l, i + 1, c, hc => by
    rw [List.flatMap_cons, List.getElem?_append_right (by rw [hk, Nat.add_mul]; omega), hk, show (i + 1) * k + c - k = i * k + c by rw [Nat.add_mul, Nat.one_mul]; omega, flat_get hk l i c hc]
    rfl
end

def cellsGL (h : GlossD) : List Value := (cellsG h).toList
theorem one_gloss (x : GlossD) : ∀ u ∈ cellsGL x, u.oneCell' = true := fun v hv => by
  simp only [cellsGL, List.mem_cons, List.not_mem_nil, or_false] at hv
  rcases hv with rfl | rfl | rfl | rfl | rfl | rfl <;> rfl
section
variable {P : Program}
theorem wpList_append_gloss {w : World} {ops : Array Oper} {rest : List Oper} {o : Oper} {a : Act} {Q : Exit → Act → World → Prop} (hgd : o.guard = none) (s x : Operand) (t : TypeId)
    (ho : o.op = .call { callee := .builtin .append, args := #[s, x], argTypes := #[t, t] })
    (base : Nat) (e : TypeId) (i : TypeInfo) (z : Value) (bytes : Nat) (ht : P.underlying t = some (.slice e)) (hi : P.info? e = some i) (hz : i.zero = some z)
    (hsize : i.size = 6) (hby : i.bytes = bytes) (hzs : z.cells.size = 6)
    (v : Value) (n : Nat) (xs : List Value) (hs : a.eval s = v) (hown : w.ownsRow base e 6 v n xs)
    (A : Option Addr) (m c B : Nat) (ys : List GlossD) (hx : a.eval x = .slice A m c) (hm : m = ys.length) (hr : GlossAt w B A ys)
    (h63 : n + m ≤ maxLen) (hbytes : (n + m) * bytes ≤ 140737488355328) (hbase : base ≤ w.heap.size)
    (h : ∀ v' w', w'.ownsRow base e 6 v' (n + m) (xs ++ ys.flatMap cellsGL) → w.grownBy w' v.ownBlock → wpList P ops Q rest (a.put o.dst v') w') : wpList P ops Q (o :: rest) a w := by
  subst hm
  cases A with
  | none =>
    have hn : ys = [] := by
      rcases hr with h | ⟨_, _, h, _⟩
      · exact h
      · cases h
    subst hn
    refine wpList_plain hgd fun K hK => ?_
    have hrun := run_append_nothing (P := P) w base t o.type e i 6 ht hi v n xs hown c
    have h1 := hK _ _ (h v w (by simpa using hown) (World.grownBy.refl w _))
    unfold Oper.wp
    simp at hx
    simp [execOp, ho, resolve, invoke, builtin, hs, hx, hrun, Result.andThen]
    exact h1
  | some ad =>
    refine wpList_append_own w hgd s x t ho base e i z 6 bytes ht hi hz hsize hby hzs (by omega) v n xs hs hown ad ys.length c (ys.flatMap cellsGL) hx (by rw [flat_length (enc := cellsGL) (k := 6) (fun _ => rfl)]) ?_ (fun u hu => by
      obtain ⟨y, _, hu⟩ := List.mem_flatMap.1 hu
      exact one_gloss y u hu) h63 hbytes hbase (fun v' w' h1 h2 _ => h v' w' h1 h2)
    intro j u hu
    rcases hr with h | ⟨b, off, h1, _, h2⟩
    · subst h; simp at hu
    · injection h1 with h1
      subst h1
      have e : j / 6 * 6 + j % 6 = j := by omega
      have hf := flat_get (enc := cellsGL) (k := 6) (fun _ => rfl) ys (j / 6) (j % 6) (by omega)
      rw [e, hu] at hf
      cases hy : ys[j / 6]? with
      | none => rw [hy] at hf; cases hf
      | some y =>
        rw [hy, Option.bind_some] at hf
        have h3 := h2 _ y hy (j % 6) (by omega)
        rw [show (⟨b, off, none⟩ : Addr).add j = ⟨b, off + j / 6 * 6 + j % 6, none⟩ by (rw [Nat.add_assoc, e]; simp [Addr.add]), h3]
        exact Array.getElem?_toList.symm.trans hf.symm
end


theorem Try.infoGloss : (Try.prog.info? 55).map (fun i => (i.zero, i.size, i.bytes)) = some (some (.agg #[.int .i64 0, .int .i64 0, .int .i64 0, .int .i64 0, .int .i64 0, .int .i64 0]), 6, 48) := by kernel_rfl
theorem own_far {w : World} {base e size n : Nat} {v : Value} {xs : List Value} (h : w.ownsRow base e size v n xs) {p : Addr} (hp : p.block < base) (u : Value) : (w.setCell p u).ownsRow base e size v n xs := by
  obtain ⟨h1, h | ⟨g, c, cur, hv, hg, hh, r⟩⟩ := h
  · exact ⟨h1, .inl h⟩
  · exact ⟨h1, .inr ⟨g, c, cur, hv, hg, (Below.heap_setCell w p u g (by omega)).trans hh, r⟩⟩
theorem own_mono {w : World} {base base' e size n : Nat} {v : Value} {xs : List Value} (h : w.ownsRow base e size v n xs) (hl : base' ≤ base) : w.ownsRow base' e size v n xs := by
  obtain ⟨h1, h | ⟨g, c, cur, hv, hg, r⟩⟩ := h
  · exact ⟨h1, .inl h⟩
  · exact ⟨h1, .inr ⟨g, c, cur, hv, by omega, r⟩⟩
theorem own_lt {w : World} {base e size n : Nat} {v : Value} {xs : List Value} (h : w.ownsRow base e size v n xs) (q : Nat) (hq : v.ownBlock = some q) : q < w.heap.size := by
  obtain ⟨h1, ⟨rfl, _⟩ | ⟨g, c, cur, hv, hg, hh, r⟩⟩ := h
  · simp [Value.ownBlock] at hq
  · subst hv
    simp [Value.ownBlock] at hq
    subst hq
    exact (Array.getElem?_eq_some_iff.1 hh).1
theorem own_type {w : World} {base e size n : Nat} {v : Value} {xs : List Value} (h : w.ownsRow base e size v n xs) {b : Nat} {t : TypeId} {cs : Array Value} (hb : BlockIs w b t cs) (ht : t ≠ e) : v.ownBlock ≠ some b := by
  obtain ⟨h1, ⟨rfl, _⟩ | ⟨g, c, cur, hv, hg, hh, r⟩⟩ := h
  · simp [Value.ownBlock]
  · subst hv
    intro hq
    simp [Value.ownBlock] at hq
    subst hq
    have := hh.symm.trans hb
    simp at this
    exact ht this.2.symm
theorem own_other {w : World} {base e size n : Nat} {v : Value} {xs : List Value} (h : w.ownsRow base e size v n xs) {b : Nat} {t : TypeId} {cs : Array Value} (hb : BlockIs w b t cs) (ht : t ≠ e) (j : Nat) (u : Value) : (w.setCell ⟨b, j, none⟩ u).ownsRow base e size v n xs := by
  have hne := own_type h hb ht
  obtain ⟨h1, h | ⟨g, c, cur, hv, hg, hh, r⟩⟩ := h
  · exact ⟨h1, .inl h⟩
  · refine ⟨h1, .inr ⟨g, c, cur, hv, hg, (Below.heap_setCell w ⟨b, j, none⟩ u g (fun e => hne ?_)).trans hh, r⟩⟩
    subst hv
    simp [Value.ownBlock]
    exact e
/-- a row of hands of the call's own, in a block that lies at lo or behind it -/
def GlossT (w : World) (lo : Nat) (A : Option Addr) (cap : Nat) (hs : List GlossD) : Prop := w.ownsRow lo 55 6 (.slice A hs.length cap) hs.length (hs.flatMap cellsGL)
theorem GlossT.grow {w w' : World} {lo cap : Nat} {A : Option Addr} {hs : List GlossD} (h : GlossT w lo A cap hs) (hb : Grow w w') : GlossT w' lo A cap hs := own_grow h hb
theorem GlossT.far {w : World} {lo cap : Nat} {A : Option Addr} {hs : List GlossD} (h : GlossT w lo A cap hs) {p : Addr} (hp : p.block < lo) (v : Value) : GlossT (w.setCell p v) lo A cap hs := own_far h hp v
theorem GlossT.mono {w : World} {lo lo' cap : Nat} {A : Option Addr} {hs : List GlossD} (h : GlossT w lo A cap hs) (hl : lo' ≤ lo) : GlossT w lo' A cap hs := own_mono h hl
theorem own_glossN {w : World} {base n cap : Nat} {A : Option Addr} {ys : List GlossD} (h : w.ownsRow base 55 6 (.slice A n cap) n (ys.flatMap cellsGL)) : n = ys.length := by
  have := h.1
  rw [flat_length (k := 6) (fun _ => rfl)] at this
  omega
theorem GlossT.le {w : World} {lo cap : Nat} {A : Option Addr} {hs : List GlossD} (h : GlossT w lo A cap hs) : hs.length ≤ cap := by
  rcases h.2 with ⟨h0, h2⟩ | ⟨g, c, cur, hv, hg, hh, h2, h3, h4, h5⟩
  · omega
  · injection hv with e1 e2 e3
    omega
theorem GlossT.block {w : World} {lo cap : Nat} {A : Option Addr} {hs : List GlossD} (h : GlossT w lo A cap hs) : hs = [] ∨ ∃ b cs, A = some ⟨b, 0, none⟩ ∧ lo ≤ b ∧ BlockIs w b 55 cs ∧ ∀ i x, hs[i]? = some x → ∀ j, j < 6 → cs[i * 6 + j]? = (cellsG x)[j]? := by
  have h' := h
  rcases h.2 with ⟨h0, h2⟩ | ⟨g, c, cur, hv, hg, hh, h2, h3, h4, h5⟩
  · exact .inl (List.eq_nil_of_length_eq_zero (by omega))
  · injection hv with e1 e2 e3
    subst e1 e3
    refine .inr ⟨g, cur, rfl, hg, hh, fun i x hi j hj => ?_⟩
    have hf := flat_get (enc := cellsGL) (k := 6) (fun _ => rfl) hs i j hj
    rw [hi, Option.bind_some] at hf
    have hjl : j < (cellsGL x).length := hj
    have hc := World.ownsRow.cells (g := g) h' rfl (i * 6 + j) ((cellsGL x)[j]) (by rw [hf]; exact List.getElem?_eq_getElem hjl)
    have hB : BlockIs w g 55 cur := hh
    rw [show (⟨g, 0, none⟩ : Addr).add (i * 6 + j) = ⟨g, i * 6 + j, none⟩ by (simp [Addr.add]; try omega), hB.cell] at hc
    rw [hc, ← List.getElem?_eq_getElem hjl]
    exact Array.getElem?_toList
theorem GlossT.at_ {w : World} {lo cap : Nat} {A : Option Addr} {hs : List GlossD} (h : GlossT w lo A cap hs) : GlossAt w w.heap.size A hs := by
  rcases h.block with h | ⟨b, cs, e, hl, hB, hc⟩
  · exact .inl h
  · exact .inr ⟨b, 0, e, hB.lt, fun i x hi j hj => by rw [hB.cell, Nat.zero_add]; exact hc i x hi j hj⟩
theorem own_nilG (w : World) (lo : Nat) : w.ownsRow lo 55 6 (.slice none 0 0) 0 [] := ⟨rfl, .inl ⟨rfl, rfl⟩⟩
/-- a new slice of one gloss -/
def NewGloss (lo : Nat) (x : GlossD) (v : Value) (w : World) : Prop := ∃ b, v = .slice (some ⟨b, 0, none⟩) 1 1 ∧ lo ≤ b ∧ BlockIs w b 55 (cellsG x)
theorem NewGloss.grow {lo : Nat} {x : GlossD} {v : Value} {a b : World} (h : NewGloss lo x v a) (k : Grow a b) : NewGloss lo x v b := by
  obtain ⟨g, h1, h2, h3⟩ := h
  exact ⟨g, h1, h2, k.block h3⟩
theorem news_gloss {w : World} {g : Nat} {x : GlossD} (h : BlockIs w g 55 (cellsG x)) : GlossAt w w.heap.size (some ⟨g, 0, none⟩) [x] := .inr ⟨g, 0, rfl, h.lt, fun i y hi j _ => by
  have hlt := lt_of_at hi
  obtain rfl : i = 0 := by simpa using hlt
  obtain rfl : x = y := by simpa using hi
  rw [show 0 + 0 * 6 + j = j by omega]
  exact h.cell j⟩

end Go.Proofs.Ytinlojealfbbfaa
