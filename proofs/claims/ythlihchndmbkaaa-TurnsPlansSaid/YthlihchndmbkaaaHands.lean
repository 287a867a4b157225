/- Hands: rows of hands, appended; the specification's Copy. -/
import Derived.Test.YthlihchndmbkaaaClone
namespace Go.Proofs.Ythlihchndmbkaaa
open Go.RowKit

section
variable {α : Type} {enc : α → List Value} {k : Nat}
theorem flat_length (hk : ∀ x, (enc x).length = k) : ∀ l : List α, (l.flatMap enc).length = l.length * k
  | [] => by simp
  | x :: l => by rw [List.flatMap_cons, List.length_append, hk, flat_length hk l, List.length_cons, Nat.add_mul, Nat.one_mul, Nat.add_comm]
theorem flat_get (hk : ∀ x, (enc x).length = k) : ∀ (l : List α) (i c : Nat), c < k → (l.flatMap enc)[i * k + c]? = l[i]?.bind fun x => (enc x)[c]?
  | [], i, c, _ => by simp
  | x :: l, 0, c, hc => by
    rw [List.flatMap_cons, Nat.zero_mul, Nat.zero_add, List.getElem?_append_left (by rw [hk]; exact hc)]
    rfl
  | x :: l, i + 1, c, hc => by
    rw [List.flatMap_cons, List.getElem?_append_right (by rw [hk, Nat.add_mul]; omega), hk, show (i + 1) * k + c - k = i * k + c by rw [Nat.add_mul, Nat.one_mul]; omega, flat_get hk l i c hc]
    rfl
end

def cellsHL (h : HandD) : List Value := (cellsH h).toList
theorem one_hand (x : HandD) : ∀ u ∈ cellsHL x, u.oneCell' = true := fun v hv => by
  simp only [cellsHL, List.mem_cons, List.not_mem_nil, or_false] at hv
  rcases hv with rfl | rfl | rfl | rfl | rfl | rfl | rfl <;> rfl
section
variable {P : Program}
theorem wpList_append_hands {w : World} {ops : Array Oper} {rest : List Oper} {o : Oper} {a : Act} {Q : Exit → Act → World → Prop} (hgd : o.guard = none) (s x : Operand) (t : TypeId)
    (ho : o.op = .call { callee := .builtin .append, args := #[s, x], argTypes := #[t, t] })
    (base : Nat) (e : TypeId) (i : TypeInfo) (z : Value) (bytes : Nat) (ht : P.underlying t = some (.slice e)) (hi : P.info? e = some i) (hz : i.zero = some z)
    (hsize : i.size = 7) (hby : i.bytes = bytes) (hzs : z.cells.size = 7)
    (v : Value) (n : Nat) (xs : List Value) (hs : a.eval s = v) (hown : w.ownsRow base e 7 v n xs)
    (A : Option Addr) (m c B : Nat) (ys : List HandD) (hx : a.eval x = .slice A m c) (hm : m = ys.length) (hr : HandsAt w B A ys)
    (h63 : n + m ≤ maxLen) (hbytes : (n + m) * bytes ≤ 140737488355328) (hbase : base ≤ w.heap.size)
    (h : ∀ v' w', w'.ownsRow base e 7 v' (n + m) (xs ++ ys.flatMap cellsHL) → w.grownBy w' v.ownBlock → wpList P ops Q rest (a.put o.dst v') w') : wpList P ops Q (o :: rest) a w := by
  subst hm
  cases A with
  | none =>
    have hn : ys = [] := by
      rcases hr with h | ⟨_, _, h, _⟩
      · exact h
      · cases h
    subst hn
    refine wpList_plain hgd fun K hK => ?_
    have hrun := run_append_nothing (P := P) w base t o.type e i 7 ht hi v n xs hown c
    have h1 := hK _ _ (h v w (by simpa using hown) (World.grownBy.refl w _))
    unfold Oper.wp
    simp at hx
    simp [execOp, ho, resolve, invoke, builtin, hs, hx, hrun, Result.andThen]
    exact h1
  | some ad =>
    refine wpList_append_own w hgd s x t ho base e i z 7 bytes ht hi hz hsize hby hzs (by omega) v n xs hs hown ad ys.length c (ys.flatMap cellsHL) hx (by rw [flat_length (enc := cellsHL) (k := 7) (fun _ => rfl)]) ?_ (fun u hu => by
      obtain ⟨y, _, hu⟩ := List.mem_flatMap.1 hu
      exact one_hand y u hu) h63 hbytes hbase (fun v' w' h1 h2 _ => h v' w' h1 h2)
    intro j u hu
    rcases hr with h | ⟨b, off, h1, _, h2⟩
    · subst h; simp at hu
    · injection h1 with h1
      subst h1
      have e : j / 7 * 7 + j % 7 = j := by omega
      have hf := flat_get (enc := cellsHL) (k := 7) (fun _ => rfl) ys (j / 7) (j % 7) (by omega)
      rw [e, hu] at hf
      cases hy : ys[j / 7]? with
      | none => rw [hy] at hf; cases hf
      | some y =>
        rw [hy, Option.bind_some] at hf
        have h3 := h2 _ y hy (j % 7) (by omega)
        rw [show (⟨b, off, none⟩ : Addr).add j = ⟨b, off + j / 7 * 7 + j % 7, none⟩ by (rw [Nat.add_assoc, e]; simp [Addr.add]), h3]
        exact Array.getElem?_toList.symm.trans hf.symm
end


theorem Try.infoHand : (Try.prog.info? 52).map (fun i => (i.zero, i.size, i.bytes)) = some (some (.agg #[.int .i64 0, .int .i64 0, .int .i64 0, .int .i64 0, .int .i64 0, .int .i64 0, .int .i64 0]), 7, 56) := by kernel_rfl
theorem own_far {w : World} {base e size n : Nat} {v : Value} {xs : List Value} (h : w.ownsRow base e size v n xs) {p : Addr} (hp : p.block < base) (u : Value) : (w.setCell p u).ownsRow base e size v n xs := by
  obtain ⟨h1, h | ⟨g, c, cur, hv, hg, hh, r⟩⟩ := h
  · exact ⟨h1, .inl h⟩
  · exact ⟨h1, .inr ⟨g, c, cur, hv, hg, (Below.heap_setCell w p u g (by omega)).trans hh, r⟩⟩
theorem own_mono {w : World} {base base' e size n : Nat} {v : Value} {xs : List Value} (h : w.ownsRow base e size v n xs) (hl : base' ≤ base) : w.ownsRow base' e size v n xs := by
  obtain ⟨h1, h | ⟨g, c, cur, hv, hg, r⟩⟩ := h
  · exact ⟨h1, .inl h⟩
  · exact ⟨h1, .inr ⟨g, c, cur, hv, by omega, r⟩⟩
theorem own_lt {w : World} {base e size n : Nat} {v : Value} {xs : List Value} (h : w.ownsRow base e size v n xs) (q : Nat) (hq : v.ownBlock = some q) : q < w.heap.size := by
  obtain ⟨h1, ⟨rfl, _⟩ | ⟨g, c, cur, hv, hg, hh, r⟩⟩ := h
  · simp [Value.ownBlock] at hq
  · subst hv
    simp [Value.ownBlock] at hq
    subst hq
    exact (Array.getElem?_eq_some_iff.1 hh).1
theorem own_type {w : World} {base e size n : Nat} {v : Value} {xs : List Value} (h : w.ownsRow base e size v n xs) {b : Nat} {t : TypeId} {cs : Array Value} (hb : BlockIs w b t cs) (ht : t ≠ e) : v.ownBlock ≠ some b := by
  obtain ⟨h1, ⟨rfl, _⟩ | ⟨g, c, cur, hv, hg, hh, r⟩⟩ := h
  · simp [Value.ownBlock]
  · subst hv
    intro hq
    simp [Value.ownBlock] at hq
    subst hq
    have := hh.symm.trans hb
    simp at this
    exact ht this.2.symm
theorem own_other {w : World} {base e size n : Nat} {v : Value} {xs : List Value} (h : w.ownsRow base e size v n xs) {b : Nat} {t : TypeId} {cs : Array Value} (hb : BlockIs w b t cs) (ht : t ≠ e) (j : Nat) (u : Value) : (w.setCell ⟨b, j, none⟩ u).ownsRow base e size v n xs := by
  have hne := own_type h hb ht
  obtain ⟨h1, h | ⟨g, c, cur, hv, hg, hh, r⟩⟩ := h
  · exact ⟨h1, .inl h⟩
  · refine ⟨h1, .inr ⟨g, c, cur, hv, hg, (Below.heap_setCell w ⟨b, j, none⟩ u g (fun e => hne ?_)).trans hh, r⟩⟩
    subst hv
    simp [Value.ownBlock]
    exact e
theorem IntsFc.grown {w w' : World} {lo cap : Nat} {A : Option Addr} {xs : List Int} (h : IntsFc w lo A cap xs) {row : Option Nat} (hg : w.grownBy w' row) (hr : ∀ q, row = some q → q < lo) : IntsFc w' lo A cap xs := by
  refine ⟨?_, h.2⟩
  rcases h.1 with h | ⟨b, off, rfl, h1, h2, h3⟩
  · exact .inl h
  · refine .inr ⟨b, off, rfl, h1, Nat.lt_of_lt_of_le h2 hg.size, fun j u hj => ?_⟩
    rw [World.cell?_of_block (w := w) (w' := w') (a := ⟨b, off + j, none⟩) (hg.block b h2 (fun e => by have := hr b e.symm; omega))]
    exact h3 j u hj
/-- a row of hands of the call's own, in a block that lies at lo or behind it -/
def HandsT (w : World) (lo : Nat) (A : Option Addr) (cap : Nat) (hs : List HandD) : Prop := w.ownsRow lo 52 7 (.slice A hs.length cap) hs.length (hs.flatMap cellsHL)
theorem HandsT.grow {w w' : World} {lo cap : Nat} {A : Option Addr} {hs : List HandD} (h : HandsT w lo A cap hs) (hb : Grow w w') : HandsT w' lo A cap hs := own_grow h hb
theorem HandsT.far {w : World} {lo cap : Nat} {A : Option Addr} {hs : List HandD} (h : HandsT w lo A cap hs) {p : Addr} (hp : p.block < lo) (v : Value) : HandsT (w.setCell p v) lo A cap hs := own_far h hp v
theorem HandsT.mono {w : World} {lo lo' cap : Nat} {A : Option Addr} {hs : List HandD} (h : HandsT w lo A cap hs) (hl : lo' ≤ lo) : HandsT w lo' A cap hs := own_mono h hl
theorem own_handsN {w : World} {base n cap : Nat} {A : Option Addr} {ys : List HandD} (h : w.ownsRow base 52 7 (.slice A n cap) n (ys.flatMap cellsHL)) : n = ys.length := by
  have := h.1
  rw [flat_length (k := 7) (fun _ => rfl)] at this
  omega
theorem HandsT.le {w : World} {lo cap : Nat} {A : Option Addr} {hs : List HandD} (h : HandsT w lo A cap hs) : hs.length ≤ cap := by
  rcases h.2 with ⟨h0, h2⟩ | ⟨g, c, cur, hv, hg, hh, h2, h3, h4, h5⟩
  · omega
  · injection hv with e1 e2 e3
    omega
theorem HandsT.block {w : World} {lo cap : Nat} {A : Option Addr} {hs : List HandD} (h : HandsT w lo A cap hs) : hs = [] ∨ ∃ b cs, A = some ⟨b, 0, none⟩ ∧ lo ≤ b ∧ BlockIs w b 52 cs ∧ ∀ i x, hs[i]? = some x → ∀ j, j < 7 → cs[i * 7 + j]? = (cellsH x)[j]? := by
  have h' := h
  rcases h.2 with ⟨h0, h2⟩ | ⟨g, c, cur, hv, hg, hh, h2, h3, h4, h5⟩
  · exact .inl (List.eq_nil_of_length_eq_zero (by omega))
  · injection hv with e1 e2 e3
    subst e1 e3
    refine .inr ⟨g, cur, rfl, hg, hh, fun i x hi j hj => ?_⟩
    have hf := flat_get (enc := cellsHL) (k := 7) (fun _ => rfl) hs i j hj
    rw [hi, Option.bind_some] at hf
    have hjl : j < (cellsHL x).length := hj
    have hc := World.ownsRow.cells (g := g) h' rfl (i * 7 + j) ((cellsHL x)[j]) (by rw [hf]; exact List.getElem?_eq_getElem hjl)
    have hB : BlockIs w g 52 cur := hh
    rw [show (⟨g, 0, none⟩ : Addr).add (i * 7 + j) = ⟨g, i * 7 + j, none⟩ by (simp [Addr.add]; try omega), hB.cell] at hc
    rw [hc, ← List.getElem?_eq_getElem hjl]
    exact Array.getElem?_toList
theorem HandsT.at_ {w : World} {lo cap : Nat} {A : Option Addr} {hs : List HandD} (h : HandsT w lo A cap hs) : HandsAt w w.heap.size A hs := by
  rcases h.block with h | ⟨b, cs, e, hl, hB, hc⟩
  · exact .inl h
  · exact .inr ⟨b, 0, e, hB.lt, fun i x hi j hj => by rw [hB.cell, Nat.zero_add]; exact hc i x hi j hj⟩
theorem results_task2' {fn : Func} (h : fn.results = #[.cell 2 25]) (t : Array Value) (W : World) (b : Nat) (v0 v1 v2 v3 v4 : Value)
    (hb : BlockIs W b 25 #[v0, v1, v2, v3, v4]) (ht : t.getD 2 undef = .pointer (some ⟨b, 0, none⟩)) :
    (results fn t).run Try.prog W = .ok (.agg #[v0, v1, v2, v3, v4]) W := by
  have hc := hb.cell
  simp only [results, h]
  simp at ht
  simp [go_sem, ht, hc]

theorem five_storesT {w : World} {b : Nat} {t : TypeId} {c0 c1 c2 c3 c4 : Value} (h : BlockIs w b t #[c0, c1, c2, c3, c4]) (v0 v1 v2 v3 v4 : Value) :
    BlockIs (((((w.setCell ⟨b, 0, none⟩ v0).setCell ⟨b, 1, none⟩ v1).setCell ⟨b, 2, none⟩ v2).setCell ⟨b, 3, none⟩ v3).setCell ⟨b, 4, none⟩ v4) b t #[v0, v1, v2, v3, v4] :=
  ((((h.near 0 v0).near 1 v1).near 2 v2).near 3 v3).near 4 v4
theorem five_belowT {w : World} {B b : Nat} (hb : B ≤ b) (v0 v1 v2 v3 v4 : Value) :
    Below B w (((((w.setCell ⟨b, 0, none⟩ v0).setCell ⟨b, 1, none⟩ v1).setCell ⟨b, 2, none⟩ v2).setCell ⟨b, 3, none⟩ v3).setCell ⟨b, 4, none⟩ v4) :=
  ((((((Below.refl B w).setCell (p := ⟨b, 0, none⟩) hb v0).setCell (p := ⟨b, 1, none⟩) hb v1).setCell (p := ⟨b, 2, none⟩) hb v2).setCell (p := ⟨b, 3, none⟩) hb v3).setCell (p := ⟨b, 4, none⟩) hb v4)
theorem handsT_five {w : World} {lo cap : Nat} {A : Option Addr} {hs : List HandD} (h : HandsT w lo A cap hs) {b : Nat} (hb : b < lo) (v0 v1 v2 v3 v4 : Value) :
    HandsT (((((w.setCell ⟨b, 0, none⟩ v0).setCell ⟨b, 1, none⟩ v1).setCell ⟨b, 2, none⟩ v2).setCell ⟨b, 3, none⟩ v3).setCell ⟨b, 4, none⟩ v4) lo A cap hs :=
  ((((h.far (p := ⟨b, 0, none⟩) hb v0).far (p := ⟨b, 1, none⟩) hb v1).far (p := ⟨b, 2, none⟩) hb v2).far (p := ⟨b, 3, none⟩) hb v3).far (p := ⟨b, 4, none⟩) hb v4
theorem intsFc_five {w : World} {lo cap : Nat} {A : Option Addr} {xs : List Int} (h : IntsFc w lo A cap xs) {b : Nat} (hb : b < lo) (v0 v1 v2 v3 v4 : Value) :
    IntsFc (((((w.setCell ⟨b, 0, none⟩ v0).setCell ⟨b, 1, none⟩ v1).setCell ⟨b, 2, none⟩ v2).setCell ⟨b, 3, none⟩ v3).setCell ⟨b, 4, none⟩ v4) lo A cap xs :=
  ((((h.setCell (p := ⟨b, 0, none⟩) hb v0).setCell (p := ⟨b, 1, none⟩) hb v1).setCell (p := ⟨b, 2, none⟩) hb v2).setCell (p := ⟨b, 3, none⟩) hb v3).setCell (p := ⟨b, 4, none⟩) hb v4

set_option maxRecDepth 100000 in
set_option maxHeartbeats 8000000 in
theorem rCopy_any (t : TaskR) (n : Nat) (w : World) (ht : TaskAt w n t) (hn : n ≤ w.heap.size) (h3 : t.d.hands.length ≤ 20) (h10 : t.d.parts.length ≤ 20) :
    Calls Try.prog 23 #[taskV t] w fun e w' => ∃ A ca B cb lo, e = .returned (taskV ⟨t.d, A, ca, B, cb⟩) ∧ HandsT w' w.heap.size A ca t.d.hands ∧ ((∀ q, (Value.slice A t.d.hands.length ca).ownBlock = some q → q < lo) ∧ w.heap.size ≤ lo) ∧ IntsFc w' lo B cb t.d.parts ∧ Below w.heap.size w w' := by
  obtain ⟨i0, hi, hz0, hz1, hz2⟩ := info_parts Try.infoInt
  obtain ⟨j0, hj, hy0, hy1, hy2⟩ := info_parts Try.infoHand
  have HT := Lib.hid (ht.more hn)
  clear ht hn
  obtain ⟨⟨hs, ps, limit, rest, swap⟩, A0, ca0, B0, cb0⟩ := t
  dsimp only at h3 h10
  have hown0 : ∀ (W : World) (b : Nat), b = W.heap.size → (W.alloc (.cells #[] 3)).ownsRow b 3 1 (.slice (some ⟨b, 0, none⟩) 0 0) 0 [] := fun W b hb => by
    subst hb
    exact ⟨rfl, .inr ⟨W.heap.size, 0, #[], rfl, Nat.le_refl _, heap_alloc_new W _, Nat.le_refl _, by unfold maxLen; omega, rfl, rfl⟩⟩
  have hown1 : ∀ (W : World) (b : Nat), b = W.heap.size → (W.alloc (.cells #[] 52)).ownsRow b 52 7 (.slice (some ⟨b, 0, none⟩) 0 0) 0 [] := fun W b hb => by
    subst hb
    exact ⟨rfl, .inr ⟨W.heap.size, 0, #[], rfl, Nat.le_refl _, heap_alloc_new W _, Nat.le_refl _, by unfold maxLen; omega, rfl, rfl⟩⟩
  go_enter Try.func23, Try.ntmps23
  go_upto_region 2 with fail
  obtain ⟨W, hW, hg, hb0, hb1, hb2, hsz⟩ := three_blocks w 25 25 25 (cellsT ⟨⟨hs, ps, limit, rest, swap⟩, A0, ca0, B0, cb0⟩) #[.slice none 0 0, .slice none 0 0, .int .i64 0, .int .i64 0, .int .i64 0] (cellsT ⟨⟨hs, ps, limit, rest, swap⟩, A0, ca0, B0, cb0⟩)
  rw [hW]
  clear hW
  obtain ⟨b1, e1⟩ : ∃ b, w.heap.size + 1 = b := ⟨_, rfl⟩
  obtain ⟨b2, e2⟩ : ∃ b, b1 + 1 = b := ⟨_, rfl⟩
  rw [e1] at hb1 hb2 hsz ⊢
  rw [e2] at hb2 hsz ⊢
  have l01 : w.heap.size < b1 := by omega
  have l12 : b1 < b2 := by omega
  clear e1 e2
  have HG := Lib.hid hg
  have HB0 := Lib.hid hb0
  have HB1 := Lib.hid hb1
  have HB2 := Lib.hid hb2
  have hcc := hb0.cell
  have hoc := hb2.cell
  clear hg hb0 hb1 hb2
  have hn0 : w.heap.size < W.heap.size := by omega
  have hn1 : b1 < W.heap.size := by omega
  have hn2 : b2 < W.heap.size := by omega
  go_wp2_with (at_builtin; refine wpList_append_hands rfl _ _ 22 rfl W.heap.size 52 j0 (.agg #[.int .i64 0, .int .i64 0, .int .i64 0, .int .i64 0, .int .i64 0, .int .i64 0, .int .i64 0]) 56 Try.underlying22 hj hy0 hy1 hy2 rfl _ 0 [] rfl ?c0 A0 hs.length ca0 w.heap.size hs rfl rfl ?c1 ?c2 ?c3 ?c4 ?_)
  case c0 => exact hown1 _ _ rfl
  case c1 => exact (HT.out.below (HG.out.trans (Grow.alloc _ _))).1
  case c2 => unfold maxLen; omega
  case c3 => omega
  case c4 => simp
  intro v' w1 hown hgr
  obtain ⟨A1, ca1, rfl⟩ := own_form hown
  have hT1 : HandsT w1 W.heap.size A1 ca1 hs := hown
  have hb1 : Below W.heap.size W w1 := (((Below.refl _ W).alloc (Nat.le_refl _) _)).grown hgr (by simp) (fun k hk => by simp [Value.ownBlock] at hk; omega)
  have hz1' := hb1.size
  have HG1 : Hid (Grow w w1) := HG.out.trans hb1
  have HT1 := Lib.hid hT1
  have H0 := Lib.hid (Grow.block hb1 HB0.out)
  have H1 := Lib.hid (Grow.block hb1 HB1.out)
  have H2 := Lib.hid (Grow.block hb1 HB2.out)
  clear hown hgr hT1 hb1 hown1 hcc hoc
  have hof := H2.out.frozen
  have hoc := H2.out.cell
  go_upto_region 3 with fail
  obtain ⟨w2, hw2⟩ : ∃ w2, w1.setCell ⟨b2, 0, none⟩ (.slice A1 hs.length ca1) = w2 := ⟨_, rfl⟩
  have k0 : BlockIs w2 w.heap.size 25 (cellsT ⟨⟨hs, ps, limit, rest, swap⟩, A0, ca0, B0, cb0⟩) := by rw [← hw2]; exact H0.out.far (p := ⟨b2, 0, none⟩) (by show w.heap.size ≠ b2; omega) _
  have k1 : BlockIs w2 b1 25 #[.slice none 0 0, .slice none 0 0, .int .i64 0, .int .i64 0, .int .i64 0] := by rw [← hw2]; exact H1.out.far (p := ⟨b2, 0, none⟩) (by show b1 ≠ b2; omega) _
  have k2 : BlockIs w2 b2 25 (cellsT ⟨⟨hs, ps, limit, rest, swap⟩, A1, ca1, B0, cb0⟩) := by rw [← hw2]; exact H2.out.near 0 _
  have k3 : HandsT w2 W.heap.size A1 ca1 hs := by rw [← hw2]; exact HT1.out.far (p := ⟨b2, 0, none⟩) hn2 _
  have k4 : Grow w w2 := by rw [← hw2]; exact HG1.out.setC (p := ⟨b2, 0, none⟩) (by show w.heap.size ≤ b2; omega) _
  have k5 : W.heap.size ≤ w2.heap.size := by rw [← hw2]; simpa using hz1'
  rw [hw2]
  clear hw2 H0 H1 H2 HT1 HG1 hof hoc hz1' HB0 HB1 HB2
  have K0 := Lib.hid k0
  have K1 := Lib.hid k1
  have K2 := Lib.hid k2
  have K3 := Lib.hid k3
  have HLO : Hid (∀ q, (Value.slice A1 hs.length ca1).ownBlock = some q → q < w2.heap.size) := fun q hq => own_lt k3 q hq
  have K4 := Lib.hid k4
  have hcc := k0.cell
  have hoc := k2.cell
  have hm0 : w.heap.size < w2.heap.size := by omega
  have hm1 : b1 < w2.heap.size := by omega
  have hm2 : b2 < w2.heap.size := by omega
  clear k0 k1 k2 k3 k4
  go_wp2_with (at_builtin; refine wpList_append_ints rfl _ _ 23 rfl w2.heap.size 3 i0 (.int .i64 0) 8 Try.underlying23 hi hz0 hz1 hz2 rfl _ 0 [] rfl ?c0 B0 ps.length cb0 w.heap.size ps rfl rfl ?c1 ?c2 ?c3 ?c4 ?_)
  case c0 => exact hown0 _ _ rfl
  case c1 => exact (HT.out.below (K4.out.trans (Grow.alloc _ _))).2
  case c2 => unfold maxLen; omega
  case c3 => omega
  case c4 => simp
  intro v' w3 hown hgr
  obtain ⟨B1, cb1, rfl⟩ := own_form hown
  have hF3 : IntsFc w3 w2.heap.size B1 cb1 ps := ⟨own_intsF (xs := ps) (by simpa using hown), (own_ints (xs := ps) (by simpa using hown)).2.2⟩
  have hb3 : Below w2.heap.size w2 w3 := (((Below.refl _ w2).alloc (Nat.le_refl _) _)).grown hgr (by simp) (fun k hk => by simp [Value.ownBlock] at hk; omega)
  have hz3 := hb3.size
  have HG3 : Hid (Grow w w3) := K4.out.trans hb3
  have HF3 := Lib.hid hF3
  have HT3 := Lib.hid (K3.out.grow hb3)
  have H1 := Lib.hid (Grow.block hb3 K1.out)
  have H2 := Lib.hid (Grow.block hb3 K2.out)
  clear hown hgr hF3 hb3 hown0 hcc hoc
  have hof := H2.out.frozen
  have hoc := H2.out.cell
  go_upto_region 4 with fail
  obtain ⟨w4, hw4⟩ : ∃ w4, w3.setCell ⟨b2, 1, none⟩ (.slice B1 ps.length cb1) = w4 := ⟨_, rfl⟩
  have k1 : BlockIs w4 b1 25 #[.slice none 0 0, .slice none 0 0, .int .i64 0, .int .i64 0, .int .i64 0] := by rw [← hw4]; exact H1.out.far (p := ⟨b2, 1, none⟩) (by show b1 ≠ b2; omega) _
  have k2 : BlockIs w4 b2 25 (cellsT ⟨⟨hs, ps, limit, rest, swap⟩, A1, ca1, B1, cb1⟩) := by rw [← hw4]; exact H2.out.near 1 _
  have k3 : HandsT w4 W.heap.size A1 ca1 hs := by rw [← hw4]; exact HT3.out.far (p := ⟨b2, 1, none⟩) hn2 _
  have k4 : Grow w w4 := by rw [← hw4]; exact HG3.out.setC (p := ⟨b2, 1, none⟩) (by show w.heap.size ≤ b2; omega) _
  have k5 : IntsFc w4 w2.heap.size B1 cb1 ps := by rw [← hw4]; exact HF3.out.setCell (p := ⟨b2, 1, none⟩) hm2 _
  rw [hw4]
  clear hw4 H1 H2 HT3 HG3 HF3 hof hoc
  have hrc := k1.cell
  have hrf := k1.frozen
  have hoc := k2.cell
  have H5 := Lib.hid (five_storesT k1 (.slice A1 hs.length ca1) (.slice B1 ps.length cb1) (.int .i64 limit) (.int .i64 rest) (.int .i64 swap))
  have HB5 := Lib.hid (k4.trans' (five_belowT (w := w4) (B := w.heap.size) (b := b1) (by omega) (.slice A1 hs.length ca1) (.slice B1 ps.length cb1) (.int .i64 limit) (.int .i64 rest) (.int .i64 swap)))
  have HT5 := Lib.hid (handsT_five k3 (b := b1) (by omega) (.slice A1 hs.length ca1) (.slice B1 ps.length cb1) (.int .i64 limit) (.int .i64 rest) (.int .i64 swap))
  have HF5 := Lib.hid (intsFc_five k5 (b := b1) hm1 (.slice A1 hs.length ca1) (.slice B1 ps.length cb1) (.int .i64 limit) (.int .i64 rest) (.int .i64 swap))
  have hle := HG.out.size
  have hle2 := K4.out.size
  clear k1 k2 k3 k4 k5
  go_wp2
  exact bodyPost_ret (results_task2' Try.results23 _ _ b1 _ _ _ _ _ H5.out rfl) rfl ⟨A1, ca1, B1, cb1, _, rfl, HT5.out.mono hle, ⟨HLO.out, hle2⟩, HF5.out, HB5.out⟩

end Go.Proofs.Ythlihchndmbkaaa
