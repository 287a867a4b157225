/- EveryR: what an append onto a row of integers leaves of other rows; the relation of every's drawn region. Every: the specification's every. -/
import Derived.Test.YthlihchndmbkaaaEveryM
import Derived.Test.YthlihchndmbkaaaExtM
import Derived.Test.YthlihchndmbkaaaIsRota
namespace Go.Proofs.Ythlihchndmbkaaa
open Go.RowKit

/-- nothing was written from lo on but new blocks, and x at the place K of blocks of integers -/
structure Wrote (K : Nat) (x : Int) (lo : Nat) (w w' : World) : Prop where
  os : w'.os = w.os
  tape : w'.tape = w.tape
  output : w'.output = w.output
  size : w.heap.size ≤ w'.heap.size
  block : ∀ k, k < lo → w'.heap[k]? = w.heap[k]?
  typed : ∀ (b : Nat) (t : TypeId) (cs : Array Value), t ≠ 3 → BlockIs w b t cs → BlockIs w' b t cs
  ints : ∀ (b : Nat) (cs : Array Value), BlockIs w b 3 cs → ∃ cs' : Array Value, BlockIs w' b 3 cs' ∧ cs'.size = cs.size ∧ ∀ i : Nat, cs'[i]? = cs[i]? ∨ (i = K ∧ i < cs.size ∧ cs'[i]? = some (Value.int .i64 x))
variable {K : Nat} {x : Int} {lo : Nat}
theorem Wrote.refl (K : Nat) (x : Int) (lo : Nat) (w : World) : Wrote K x lo w w := ⟨rfl, rfl, rfl, Nat.le_refl _, fun _ _ => rfl, fun _ _ _ _ h => h, fun _ cs h => ⟨cs, h, rfl, fun _ => .inl rfl⟩⟩
theorem Wrote.trans {a b c : World} (h : Wrote K x lo a b) (k : Wrote K x lo b c) : Wrote K x lo a c := by
  refine ⟨k.os.trans h.os, k.tape.trans h.tape, k.output.trans h.output, Nat.le_trans h.size k.size, fun j hj => (k.block j hj).trans (h.block j hj), fun b t cs ht hb => k.typed b t cs ht (h.typed b t cs ht hb), fun b cs hb => ?_⟩
  obtain ⟨c1, h1, h2, h3⟩ := h.ints b cs hb
  obtain ⟨c2, k1, k2, k3⟩ := k.ints b c1 h1
  refine ⟨c2, k1, k2.trans h2, fun i => ?_⟩
  rcases k3 i with g | ⟨g1, g2, g3⟩
  · rcases h3 i with f | ⟨f1, f2, f3⟩
    · exact .inl (g.trans f)
    · exact .inr ⟨f1, f2, g.trans f3⟩
  · exact .inr ⟨g1, by omega, g3⟩
theorem Wrote.of_grow {w w' : World} (h : Grow w w') (hl : lo ≤ w.heap.size) (K : Nat) (x : Int) : Wrote K x lo w w' :=
  ⟨h.os, h.tape, h.output, h.size, fun k hk => Below.block h k (by omega), fun _ _ _ _ hb => h.block hb, fun _ cs hb => ⟨cs, h.block hb, rfl, fun _ => .inl rfl⟩⟩
theorem Wrote.of_drew {w w' : World} (h : Wrote K x lo w.drew w') : Wrote K x lo w w' := ⟨h.os, h.tape, h.output, h.size, h.block, h.typed, h.ints⟩
theorem Wrote.below {w w' : World} (h : Wrote K x lo w w') : Below lo w w' := ⟨h.os, h.tape, h.output, h.size, h.block⟩
theorem IntsT.wrote {w w' : World} {l : Nat} {A : Option Addr} {xs : List Int} (h : IntsT w l A xs) (r : Wrote K x lo w w') (hk : ∀ y, xs[K]? = some y → y = x) : IntsT w' l A xs := by
  rcases h with h | ⟨b, cs, e, h1, h2, h3⟩
  · exact .inl h
  · obtain ⟨cs', g1, g2, g3⟩ := r.ints b cs h2
    refine .inr ⟨b, cs', e, h1, g1, fun i y hi => ?_⟩
    rcases g3 i with g | ⟨rfl, _, g⟩
    · rw [g]; exact h3 i y hi
    · rw [g, hk y hi]
theorem own_wrote {w w' : World} {base n : Nat} {v : Value} {xs : List Value} (h : w.ownsRow base 3 1 v n xs) (r : Wrote K x lo w w') (hn : n ≤ K) : w'.ownsRow base 3 1 v n xs := by
  refine ⟨h.1, ?_⟩
  rcases h.2 with h2 | ⟨g, cap, cur, hv, hb, hh, h3, h4, h5, h6⟩
  · exact .inl h2
  · obtain ⟨cs', g1, g2, g3⟩ := r.ints g cur hh
    refine .inr ⟨g, cap, cs', hv, hb, g1, h3, h4, by omega, ?_⟩
    rw [← h6]
    refine List.ext_getElem? fun i => ?_
    by_cases hi : i < n * 1
    · rw [List.getElem?_take_of_lt hi, List.getElem?_take_of_lt hi, Array.getElem?_toList, Array.getElem?_toList]
      rcases g3 i with q | ⟨q, _⟩
      · exact q
      · omega
    · rw [List.getElem?_eq_none (by simp; omega), List.getElem?_eq_none (by simp; omega)]
theorem NewInt.wrote {w w' : World} {l : Nat} {v : Value} (h : NewInt l x v w) (r : Wrote K x lo w w') : NewInt l x v w' := by
  obtain ⟨b, h1, h2, h3⟩ := h
  obtain ⟨cs', g1, g2, g3⟩ := r.ints b _ h3
  refine ⟨b, h1, h2, ?_⟩
  have e : cs' = #[Value.int .i64 x] := by
    refine Array.ext_getElem? fun i => ?_
    rcases g3 i with g | ⟨_, q, g⟩
    · exact g
    · have : i = 0 := by simpa using q
      subst this
      exact g
  rw [← e]
  exact g1

theorem Try.infoIntP : ∃ i, Try.prog.info? 3 = some i ∧ i.zero = some (Value.int .i64 0) ∧ i.size = 1 ∧ i.bytes = 8 := info_parts Try.infoInt
set_option maxRecDepth 100000 in
/-- an append onto an own row of integers: what it leaves, and what it writes -/
theorem append_wrote {w : World} {lo base : Nat} {v : Value} {xs : List Int} {n : Nat} (hown : w.ownsRow base 3 1 v n (xs.map (Value.int .i64))) {A : Option Addr} {m c B : Nat} {ys : List Int} (hm : m = ys.length) (hr : Ints w B A ys) (hlo : lo ≤ base) (hb : base ≤ w.heap.size) (hs : n + m ≤ 1000) {K : Nat} {x : Int}
    (hw : (n = K ∧ ys = [x]) ∨ (ys ≠ [] → ∀ cap A', v = .slice A' n cap → cap < n + m)) :
    ∃ v' w', (Builtin.append_ #[23, 23] 23 #[v, .slice A m c]).run Try.prog w = .ok v' w' ∧ w'.ownsRow base 3 1 v' (n + m) ((xs ++ ys).map (Value.int .i64)) ∧ Wrote K x lo w w' := by
  obtain ⟨i, hi, hz, hsz, hby⟩ := Try.infoIntP
  subst hm
  cases A with
  | none =>
    have hn : ys = [] := by
      rcases hr with h | ⟨_, _, h, _⟩
      · exact h
      · cases h
    subst hn
    exact ⟨v, w, run_append_nothing (P := Try.prog) w base 23 _ 3 i 1 Try.underlying23 hi v n _ hown c, by simpa using hown, Wrote.refl ..⟩
  | some ad =>
    have hnews : ∀ j u, (ys.map (Value.int .i64))[j]? = some u → w.cell? (ad.add j) = some u := by
      intro j u hu
      rcases hr with h | ⟨b, off, h1, _, h2⟩
      · subst h; simp at hu
      · injection h1 with h1
        subst h1
        rw [List.getElem?_map] at hu
        cases hy : ys[j]? with
        | none => rw [hy] at hu; cases hu
        | some y =>
          rw [hy] at hu
          have hu : Value.int .i64 y = u := by simpa using hu
          subst hu
          have := h2 j y hy
          unfold Addr.add
          by_cases h0 : j = 0
          · subst h0; simpa using this
          · rw [if_neg h0]; exact this
    have hfit : ∀ k o : Nat, o < k → k ≤ 1000 → Builtin.nextslicecap k o * i.bytes ≤ 281474976710656 := fun k o h1 h2 => growslice_fits h1 (by rw [hby]; omega)
    have hone : ∀ u ∈ ys.map (Value.int .i64), u.oneCell' = true := by simp [Value.oneCell']
    obtain ⟨v', w', hrun, hown', _, _⟩ := run_append_own (P := Try.prog) w base 23 23 3 i (.int .i64 0) 1 8 Try.underlying23 hi hz hsz hby rfl (by omega) v n _ hown ad ys.length c (ys.map (Value.int .i64)) (by simp) hnews hone (by unfold maxLen; omega) (by omega) hb
    refine ⟨v', w', hrun, by rw [List.map_append]; exact hown', ?_⟩
    have alloc : ∀ o, Wrote K x lo w (w.drew.alloc o) := fun o => (Wrote.of_grow (Grow.alloc w.drew o) (Nat.le_trans hlo hb) K x).of_drew
    rcases hown.2 with ⟨rfl, rfl⟩ | ⟨g, cap, cur, rfl, hbg, hg, hnc, hcm, hcs, htake⟩
    · by_cases h0 : ys = []
      · subst h0
        have e : (Builtin.append_ #[23, 23] 23 #[.slice none 0 0, .slice (some ad) ([] : List Int).length c]).run Try.prog w = .ok (.slice none 0 0) w := by
          simp [Builtin.append_, run_underlying Try.underlying23, sizeOf, typeInfo, hi, Builtin.lenOf, Builtin.firstCells, loadCells, loadCellsFrom]
        rw [e] at hrun
        injection hrun with h1 h2
        subst h2
        exact Wrote.refl ..
      · have hp : 0 < ys.length := List.length_pos_iff.2 h0
        have e := run_append_nil (P := Try.prog) w 23 23 3 i (.int .i64 0) Try.underlying23 hi hz ad ys.length c (ys.map (Value.int .i64)) (by simp [hsz]) hnews hp (by omega) (by rw [hby]; omega)
        rw [e] at hrun
        injection hrun with h1 h2
        subst h2
        exact alloc _
    · have hcs' : cur.size = cap := by omega
      by_cases hroom : n + ys.length ≤ cap
      · have e := run_append_room (P := Try.prog) w 23 23 3 i Try.underlying23 hi g n cap cur hg ad ys.length c (ys.map (Value.int .i64)) (by simp [hsz]) hnews hone hroom (by simp [hsz]; omega)
        rw [e] at hrun
        injection hrun with h1 h2
        subst h2
        have hcell : ∀ j : Nat, (cur.toList.take (n * i.size) ++ ys.map (Value.int .i64) ++ cur.toList.drop (n * i.size + (ys.map (Value.int .i64)).length)).toArray[j]? = cur[j]? ∨ (j = K ∧ j < cur.size ∧ (cur.toList.take (n * i.size) ++ ys.map (Value.int .i64) ++ cur.toList.drop (n * i.size + (ys.map (Value.int .i64)).length)).toArray[j]? = some (Value.int .i64 x)) := by
          rw [hsz, Nat.mul_one, List.length_map]
          intro j
          rcases hw with ⟨rfl, rfl⟩ | hw
          · by_cases hj : j = n
            · subst hj
              refine .inr ⟨rfl, by simp at hroom; omega, ?_⟩
              simp
              rw [List.getElem?_append_right (by simp; omega)]
              simp
              rw [show j - min j cur.size = 0 by simp at hroom; omega]
              rfl
            · left
              simp only [List.map_cons, List.map_nil, List.getElem?_toArray, List.length_singleton, List.append_assoc]
              by_cases hlt : j < n
              · rw [List.getElem?_append_left (by simp; omega), List.getElem?_take_of_lt hlt, Array.getElem?_toList]
              · rw [List.getElem?_append_right (by simp; omega), List.getElem?_append_right (by simp; omega), List.getElem?_drop]
                simp
                congr 1
                simp at hroom
                omega
          · left
            have h0 : ys = [] := by
              by_cases h0 : ys = []
              · exact h0
              · have := hw h0 cap _ rfl
                omega
            subst h0
            simp
        refine ⟨rfl, rfl, rfl, by simp, fun k hk => setRow_other w g k _ (by omega), fun b t cs ht hb' => ?_, fun b cs hb' => ?_⟩
        · by_cases hbg' : b = g
          · subst hbg'
            have := hb'.symm.trans hg
            simp at this
            exact absurd this.2 ht
          · exact (setRow_other w g b _ hbg').trans hb'
        · by_cases hbg' : b = g
          · subst hbg'
            have hcur : cs = cur := by
              have := hb'.symm.trans hg
              simpa using this
            subst hcur
            refine ⟨_, setRow_heap w b cs _ 3 _ hg, ?_, hcell⟩
            simp [hsz]
            omega
          · exact ⟨cs, (setRow_other w g b _ hbg').trans hb', rfl, fun _ => .inl rfl⟩
      · have holds : ∀ j u, (xs.map (Value.int .i64))[j]? = some u → w.cell? ((⟨g, 0, none⟩ : Addr).add j) = some u := hown.cells (g := g) rfl
        have e := run_append_grow (P := Try.prog) w 23 23 3 i (.int .i64 0) Try.underlying23 hi hz ⟨g, 0, none⟩ n cap (xs.map (Value.int .i64)) (by rw [hsz]; exact hown.1) holds ad ys.length c (ys.map (Value.int .i64)) (by simp [hsz]) hnews (by omega) (by omega) (hfit _ _ (by omega) (by omega))
        rw [e] at hrun
        injection hrun with h1 h2
        subst h2
        exact alloc _

end Go.Proofs.Ythlihchndmbkaaa

namespace Go.Proofs.Ythlihchndmbkaaa
open Go.RowKit

def RowsR (w : World) (A : Option Addr) (R : List RowR) : Prop := (R = [] ∨ ∃ b cs, A = some ⟨b, 0, none⟩ ∧ BlockIs w b 23 cs ∧ ∀ (i : Nat) (r : RowR), R[i]? = some r → cs[i]? = some (rowV r)) ∧ ∀ r ∈ R, IntsT w 0 r.A r.xs
theorem RowsR.grow {w w' : World} {A : Option Addr} {R : List RowR} (h : RowsR w A R) (g : Grow w w') : RowsR w' A R := by
  refine ⟨?_, fun r hr => (h.2 r hr).grow g⟩
  rcases h.1 with e | ⟨b, cs, e, h1, h2⟩
  · exact .inl e
  · exact .inr ⟨b, cs, e, g.block h1, h2⟩
theorem RowsR.wrote {K : Nat} {x : Int} {lo : Nat} {w w' : World} {A : Option Addr} {R : List RowR} (h : RowsR w A R) (g : Wrote K x lo w w') (hk : ∀ r ∈ R, ∀ y, r.xs[K]? = some y → y = x) : RowsR w' A R := by
  refine ⟨?_, fun r hr => (h.2 r hr).wrote g (hk r hr)⟩
  rcases h.1 with e | ⟨b, cs, e, h1, h2⟩
  · exact .inl e
  · exact .inr ⟨b, cs, e, g.typed b _ cs (by decide) h1, h2⟩
theorem RowsR.at_ {w : World} {A : Option Addr} {R : List RowR} (h : RowsR w A R) : RowsAt w w.heap.size A R := by
  refine ⟨?_, fun r hr => (h.2 r hr).ints⟩
  rcases h.1 with e | ⟨b, cs, e, h1, h2⟩
  · exact .inl e
  · exact .inr ⟨b, 0, e, h1.lt, fun i r hr => by rw [Nat.zero_add, h1.cell]; exact h2 i r hr⟩
theorem own_rowsR {w : World} {base n cap : Nat} {A : Option Addr} {R : List RowR} (h : w.ownsRow base 23 1 (.slice A n cap) n (R.map rowV)) (hn : n = R.length) (hr : ∀ r ∈ R, IntsT w 0 r.A r.xs) : RowsR w A R := by
  refine ⟨?_, hr⟩
  subst hn
  have h' := h
  rcases h.2 with ⟨e, e2⟩ | ⟨g, c, cur, hv, hg, hh, h2, h3, h4, h5⟩
  · exact .inl (List.eq_nil_of_length_eq_zero e2)
  · injection hv with e1 e2 e3
    subst e1 e3
    have hB : BlockIs w g 23 cur := hh
    refine .inr ⟨g, cur, rfl, hB, fun i r hi => ?_⟩
    have hc := World.ownsRow.cells (g := g) h' rfl i (rowV r) (by rw [List.getElem?_map, hi]; rfl)
    rwa [show (⟨g, 0, none⟩ : Addr).add i = ⟨g, i, none⟩ by (simp [Addr.add]; try omega), hB.cell] at hc
set_option maxRecDepth 100000 in
theorem wpList_append_rows {w : World} {ops : Array Oper} {rest : List Oper} {o : Oper} {a : Act} {Q : Exit → Act → World → Prop} (hgd : o.guard = none) (s x : Operand)
    (ho : o.op = .call { callee := .builtin .append, args := #[s, x], argTypes := #[37, 37] })
    (base : Nat) (j : TypeInfo) (hj : Try.prog.info? 23 = some j) (hy0 : j.zero = some (.slice none 0 0)) (hy1 : j.size = 1) (hy2 : j.bytes = 24)
    (v : Value) (n : Nat) (xs : List Value) (hs : a.eval s = v) (hown : w.ownsRow base 23 1 v n xs)
    (A : Option Addr) (m c : Nat) (R : List RowR) (hx : a.eval x = .slice A m c) (hm : m = R.length) (hr : RowsR w A R)
    (h63 : n + m ≤ 1000000) (hbase : base ≤ w.heap.size)
    (h : ∀ v' w', w'.ownsRow base 23 1 v' (n + m) (xs ++ R.map rowV) → w.grownBy w' v.ownBlock → wpList Try.prog ops Q rest (a.put o.dst v') w') : wpList Try.prog ops Q (o :: rest) a w := by
  subst hm
  cases A with
  | none =>
    have hn : R = [] := by
      rcases hr.1 with h | ⟨_, _, h, _⟩
      · exact h
      · cases h
    subst hn
    refine wpList_plain hgd fun K hK => ?_
    have hrun := run_append_nothing (P := Try.prog) w base 37 o.type 23 j 1 Try.underlying37 hj v n xs hown c
    have h1 := hK _ _ (h v w (by simpa using hown) (World.grownBy.refl w _))
    unfold Oper.wp
    simp at hx
    simp [execOp, ho, resolve, invoke, builtin, hs, hx, hrun, Result.andThen]
    exact h1
  | some ad =>
    refine wpList_append_own w hgd s x 37 ho base 23 j (.slice none 0 0) 1 24 Try.underlying37 hj hy0 hy1 hy2 rfl (by omega) v n xs hs hown ad R.length c (R.map rowV) hx (by simp) ?_ (fun u hu => by
      obtain ⟨r, _, rfl⟩ := List.mem_map.1 hu
      rfl) (by unfold maxLen; omega) (by omega) hbase (fun v' w' h1 h2 _ => h v' w' h1 h2)
    intro k u hu
    rcases hr.1 with h | ⟨b, cs, h1, h2, h3⟩
    · subst h; simp at hu
    · injection h1 with h1
      subst h1
      rw [List.getElem?_map] at hu
      cases hy : R[k]? with
      | none => rw [hy] at hu; cases hu
      | some r =>
        rw [hy] at hu
        have hu : rowV r = u := by simpa using hu
        subst hu
        rw [show (⟨b, 0, none⟩ : Addr).add k = ⟨b, k, none⟩ by (simp [Addr.add]; try omega), h2.cell]
        exact h3 k r hy

theorem append_head {a : Act} {o : Oper} {s x : Operand} {w w' : World} {v u v' : Value} (ho : o.op = .call { callee := .builtin .append, args := #[s, x], argTypes := #[23, 23] }) (ht : o.type = 23) (hs : a.eval s = v) (hx : a.eval x = u)
    (hrun : (Builtin.append_ #[23, 23] 23 #[v, u]).run Try.prog w = .ok v' w') : (execOp a.eval o).run Try.prog w = .ok (.value v') w' := by
  unfold execOp
  simp only [ho, ht, resolve, invoke, builtin, Sem.run_bind, Sem.run_pure, Result.andThen_ok, List.map_toArray, List.map_cons, List.map_nil, hs, hx, hrun]

theorem wp_append_head {a : Act} {o : Oper} {s x : Operand} {w w' : World} {v u v' : Value} {next : Act → World → Prop} {Q : Exit → Act → World → Prop} (ho : o.op = .call { callee := .builtin .append, args := #[s, x], argTypes := #[23, 23] }) (ht : o.type = 23) (hs : a.eval s = v) (hx : a.eval x = u)
    (hrun : (Builtin.append_ #[23, 23] 23 #[v, u]).run Try.prog w = .ok v' w') (hn : next (a.put o.dst v') w') : o.wp Try.prog a w next Q := by
  unfold Oper.wp
  rw [append_head ho ht hs hx hrun]
  exact hn

theorem everyD_pre {t : TaskD} : ∀ {n : Nat} {first ys : List Nat}, ys ∈ everyD t n first → ∃ zs, ys = first ++ zs
  | 0, first, ys, h => by
    unfold everyD at h
    split at h
    · exact ⟨[], by rw [List.mem_singleton.1 h]; simp⟩
    · simp at h
  | n + 1, first, ys, h => by
    unfold everyD at h
    split at h
    · obtain ⟨k, _, hk⟩ := List.mem_flatMap.1 h
      obtain ⟨zs, rfl⟩ := everyD_pre hk
      exact ⟨k :: zs, by simp⟩
    · simp at h
theorem flatMap_count {α β : Type} {f : α → List β} {c : Nat} : ∀ (l : List α), (∀ x ∈ l, (f x).length ≤ c) → (l.flatMap f).length ≤ l.length * c
  | [], _ => by simp
  | x :: l, h => by
    have h1 := h x (List.mem_cons_self ..)
    have h2 := flatMap_count l fun y hy => h y (List.mem_cons_of_mem _ hy)
    rw [List.flatMap_cons, List.length_append, List.length_cons, Nat.add_mul]
    omega
theorem everyTo_count {t : TaskD} {n c : Nat} {first : List Nat} (h : ∀ k, (everyD t n (first ++ [k])).length ≤ c) (k : Nat) : (everyTo t n first k).length ≤ k * c := by
  have := flatMap_count (List.range k) (f := fun (h : Nat) => everyD t n (first ++ [h])) (c := c) fun x _ => h x
  rwa [List.length_range] at this
theorem everyD_count {t : TaskD} (hl : t.hands.length ≤ 3) : ∀ (n : Nat) (first : List Nat), (everyD t n first).length ≤ 3 ^ n
  | 0, first => by
    unfold everyD
    split <;> simp
  | n + 1, first => by
    have ih := everyD_count hl n
    unfold everyD
    split
    · have h := everyTo_count (t := t) (first := first) (fun k => ih (first ++ [k])) t.hands.length
      refine Nat.le_trans h ?_
      rw [Nat.pow_succ, Nat.mul_comm]
      exact Nat.mul_le_mul_left _ hl
    · simp
theorem count_bound {n : Nat} (h : n ≤ 10) : 3 ^ n ≤ 59049 := Nat.le_trans (Nat.pow_le_pow_right (by omega) h) (by decide)

/-- values of every's drawn region -/
def OwnZ (lo : Nat) (v : Value) (w : World) : Prop := ∃ b, v = .slice (some ⟨b, 0, none⟩) 0 0 ∧ w.ownsRow lo 3 1 (.slice (some ⟨b, 0, none⟩) 0 0) 0 (([] : List Int).map (Value.int .i64))
theorem OwnZ.wrote {K : Nat} {x : Int} {lo l : Nat} {v : Value} {w w' : World} (h : OwnZ l v w) (g : Wrote K x lo w w') : OwnZ l v w' := by
  obtain ⟨b, h1, h2⟩ := h
  exact ⟨b, h1, own_wrote h2 g (Nat.zero_le _)⟩
def OwnI (lo n : Nat) (xs : List Int) (v : Value) (w : World) : Prop := ∃ A cap, v = .slice A n cap ∧ w.ownsRow lo 3 1 (.slice A n cap) n (xs.map (Value.int .i64))
theorem OwnI.wrote {K : Nat} {x : Int} {lo l : Nat} {xs : List Int} {v : Value} {w w' : World} (h : OwnI l K xs v w) (g : Wrote K x lo w w') : OwnI l K xs v w' := by
  obtain ⟨A, cap, h1, h2⟩ := h
  exact ⟨A, cap, h1, own_wrote h2 g (Nat.le_refl _)⟩
def RowI (first : List Nat) (k : Nat) (v : Value) (w : World) : Prop := ∃ A cap, v = .slice A (first.length + 1) cap ∧ IntsT w 0 A (natsL (first ++ [k]))
theorem RowI.wrote {first : List Nat} {k lo : Nat} {v : Value} {w w' : World} (h : RowI first k v w) (g : Wrote first.length (k : Int) lo w w') : RowI first k v w' := by
  obtain ⟨A, cap, h1, h2⟩ := h
  refine ⟨A, cap, h1, h2.wrote g fun y hy => ?_⟩
  rw [← natsL_snoc, List.getElem?_append_right (by simp)] at hy
  simpa using hy.symm
def IsEvery (t : TaskD) (n : Nat) (first : List Nat) (k : Nat) (v : Value) (w : World) : Prop := ∃ A cap R, v = .slice A R.length cap ∧ RowsR w A R ∧ R.map (·.xs) = (everyD t n (first ++ [k])).map natsL
theorem IsEvery.wrote {t : TaskD} {n : Nat} {first : List Nat} {k lo : Nat} {v : Value} {w w' : World} (h : IsEvery t n first k v w) (g : Wrote first.length (k : Int) lo w w') : IsEvery t n first k v w' := by
  obtain ⟨A, cap, R, h1, h2, h3⟩ := h
  refine ⟨A, cap, R, h1, h2.wrote g fun r hr y hy => ?_, h3⟩
  have hm : r.xs ∈ (everyD t n (first ++ [k])).map natsL := by
    rw [← h3]
    exact List.mem_map.2 ⟨r, hr, rfl⟩
  obtain ⟨ys, hys, e⟩ := List.mem_map.1 hm
  obtain ⟨zs, rfl⟩ := everyD_pre hys
  rw [← e, List.getElem?_map, List.append_assoc, List.getElem?_append_right (Nat.le_refl _)] at hy
  simpa using hy.symm

/-- the contract of every for n parts that are left -/
def EveryOK (t : TaskR) (n : Nat) : Prop := ∀ (first : List Nat) (A1 : Option Addr) (c1 : Nat) (w : World), first.length + n = t.d.parts.length → (∀ h ∈ first, h < t.d.hands.length) → TaskAt w w.heap.size t → IntsT w 0 A1 (natsL first) →
  Calls Try.prog 73 #[taskV t, .slice A1 first.length c1] w fun e w' => ∃ A cap R, e = .returned (.slice A R.length cap) ∧ RowsR w' A R ∧ R.map (·.xs) = (everyD t.d n first).map natsL ∧ Below w.heap.size w w'

set_option maxRecDepth 100000 in
set_option maxHeartbeats 8000000 in
theorem every_off (t : TaskR) (hk : okTask t.d = true) (n : Nat) (first : List Nat) (A1 : Option Addr) (c1 : Nat) (w : World) (hl : first.length ≤ t.d.parts.length) (hi : IntsT w 0 A1 (natsL first)) (hr : isRightD t.d (natsL first) = false) :
    Calls Try.prog 73 #[taskV t, .slice A1 first.length c1] w fun e w' => ∃ A cap R, e = .returned (.slice A R.length cap) ∧ RowsR w' A R ∧ R.map (·.xs) = (everyD t.d n first).map natsL ∧ Below w.heap.size w w' := by
  have hp := okTask_parts hk
  have hll : (natsL first).length = first.length := List.length_map ..
  have hI := fun (w0 : World) (hw : Grow w w0) => isRight_any t (natsL first) A1 c1 w.heap.size w0 (hi.ints.below hw) hw.size (by omega) hp.1.2 (by omega)
  rw [hr, hll] at hI
  have HI := Lib.hid hI
  have HE : Hid (everyD t.d n first = []) := Lib.hid (everyD_off hr)
  clear hp hll hI hi hr hl hk
  go_enter Try.func73, Try.ntmps73
  go_upto_region 1 with fail
  obtain ⟨W, hW, hg, hf, hsz⟩ := one_block w 25 (cellsT t)
  rw [hW]
  clear hW
  have hcc := hf.cell
  have HG := Lib.hid hg
  clear hf hg
  go_wp2_with fail
  refine (HI.out _ HG.out).mono ?_
  rintro e w2 ⟨rfl, hb2⟩
  have HG2 : Hid (Grow W w2) := hb2
  clear hcc hb2
  go_wp2
  go_ret
  exact ⟨none, 0, [], rfl, ⟨.inl rfl, by simp⟩, by rw [HE.out]; rfl, HG.out.trans HG2.out⟩

set_option maxRecDepth 100000 in
set_option maxHeartbeats 8000000 in
theorem every_zero (t : TaskR) (hk : okTask t.d = true) (first : List Nat) (A1 : Option Addr) (c1 : Nat) (w : World) (hl : first.length = t.d.parts.length) (hi : IntsT w 0 A1 (natsL first)) (hr : isRightD t.d (natsL first) = true) :
    Calls Try.prog 73 #[taskV t, .slice A1 first.length c1] w fun e w' => ∃ A cap R, e = .returned (.slice A R.length cap) ∧ RowsR w' A R ∧ R.map (·.xs) = (everyD t.d 0 first).map natsL ∧ Below w.heap.size w w' := by
  have hp := okTask_parts hk
  have hll : (natsL first).length = first.length := List.length_map ..
  have hI := fun (w0 : World) (hw : Grow w w0) => isRight_any t (natsL first) A1 c1 w.heap.size w0 (hi.ints.below hw) hw.size (by omega) hp.1.2 (by omega)
  rw [hr, hll] at hI
  have HI := Lib.hid hI
  have HE : Hid (everyD t.d 0 first = [first]) := Lib.hid (everyD_zero hr)
  have HT := Lib.hid hi
  have he1 : ((first.length : Int) == (t.d.parts.length : Int)) = true := by simp [hl]
  have he2 : decide ((first.length : Int) = (t.d.parts.length : Int)) = true := by simp [hl]
  have HLL := Lib.hid hll
  clear hp hll hI hi hr hl hk
  go_enter Try.func73, Try.ntmps73
  go_upto_region 1 with fail
  obtain ⟨W, hW, hg, hf, hsz⟩ := one_block w 25 (cellsT t)
  rw [hW]
  clear hW
  have hcc := hf.cell
  have HF := Lib.hid hf
  have HG := Lib.hid hg
  clear hf hg
  go_wp2_with fail
  refine (HI.out _ HG.out).mono ?_
  rintro e w2 ⟨rfl, hb2⟩
  have HG2 : Hid (Grow W w2) := hb2
  clear hcc hb2
  have hcc := (HG2.out.block HF.out).cell
  go_wp2
  go_ret
  refine ⟨some ⟨w2.heap.size, 0, none⟩, 1, [⟨A1, c1, natsL first⟩], rfl, ⟨.inr ⟨w2.heap.size, #[.slice A1 first.length c1], rfl, BlockIs.new _ _ _, fun i r hr => ?_⟩, fun r hr => ?_⟩, by rw [HE.out]; rfl, (HG.out.trans HG2.out).trans (Grow.alloc _ _)⟩
  · have hlt := lt_of_at hr
    obtain rfl : i = 0 := by simpa using hlt
    obtain rfl : (⟨A1, c1, natsL first⟩ : RowR) = r := by simpa using hr
    show (#[Value.slice A1 first.length c1])[0]? = some (.slice A1 (natsL first).length c1)
    rw [HLL.out]
    rfl
  · obtain rfl := List.mem_singleton.1 hr
    exact HT.out.grow ((HG.out.trans HG2.out).trans (Grow.alloc _ _))

set_option maxRecDepth 100000 in
set_option maxHeartbeats 16000000 in
theorem every_succ (t : TaskR) (hk : okTask t.d = true) (n : Nat) (ih : EveryOK t n) (first : List Nat) (A1 : Option Addr) (c1 : Nat) (w : World) (hl : first.length + (n + 1) = t.d.parts.length) (hh : ∀ h ∈ first, h < t.d.hands.length) (ht : TaskAt w w.heap.size t) (hi : IntsT w 0 A1 (natsL first)) (hr : isRightD t.d (natsL first) = true) :
    Calls Try.prog 73 #[taskV t, .slice A1 first.length c1] w fun e w' => ∃ A cap R, e = .returned (.slice A R.length cap) ∧ RowsR w' A R ∧ R.map (·.xs) = (everyD t.d (n + 1) first).map natsL ∧ Below w.heap.size w w' := by
  obtain ⟨j0, hj, hy0, hy1, hy2⟩ := info_parts Try.infoInts
  have hp := okTask_parts hk
  have hll : (natsL first).length = first.length := List.length_map ..
  have hI := fun (w0 : World) (hw : Grow w w0) => isRight_any t (natsL first) A1 c1 w.heap.size w0 (hi.ints.below hw) hw.size (by omega) hp.1.2 (by omega)
  rw [hr, hll] at hI
  have HI := Lib.hid hI
  have HE : Hid (everyD t.d (n + 1) first = everyTo t.d n first t.d.hands.length) := Lib.hid (everyD_succ hr)
  have HT := Lib.hid hi
  have he1 : ((first.length : Int) == (t.d.parts.length : Int)) = false := by simp; omega
  have he2 : decide ((first.length : Int) = (t.d.parts.length : Int)) = false := decide_eq_false (by omega)
  have HLL := Lib.hid hll
  have HIH := Lib.hid (fun (k : Nat) (hkk : k < t.d.hands.length) (A : Option Addr) (c : Nat) (w0 : World) (hw : TaskAt w0 w0.heap.size t) (hi0 : IntsT w0 0 A (natsL (first ++ [k]))) => ih (first ++ [k]) A c w0 (by simp; omega) (all_snoc hh hkk) hw hi0)
  have hle : ∀ k, (first ++ [k]).length = first.length + 1 := fun k => by simp
  simp only [hle] at HIH
  have HCN : Hid (∀ k, k ≤ t.d.hands.length → (everyTo t.d n first k).length ≤ 177147 ∧ ∀ j, (everyD t.d n (first ++ [j])).length ≤ 59049) := Lib.hid (fun k hk' => by
    have h10 : n ≤ 10 := by omega
    have hb : ∀ j, (everyD t.d n (first ++ [j])).length ≤ 59049 := fun j => Nat.le_trans (everyD_count hp.1.2 n _) (count_bound h10)
    refine ⟨?_, hb⟩
    have h1 := everyTo_count (t := t.d) (n := n) (c := 59049) (first := first) hb k
    have : k * 59049 ≤ 3 * 59049 := Nat.mul_le_mul_right _ (by omega)
    omega)
  have hn3 := hp.1.2
  have HTT := Lib.hid ht
  have hlt10 : first.length ≤ 10 := by omega
  obtain ⟨nn, hnn⟩ : ∃ q, t.d.hands.length = q := ⟨_, rfl⟩
  have HNN := Lib.hid hnn
  rw [hnn] at HE HIH HCN hn3
  clear hp hll hI hi hr hl hk hh ht hnn hle ih
  go_enter Try.func73, Try.ntmps73
  go_upto_region 1 with fail
  obtain ⟨W, hW, hg, hf, hsz⟩ := one_block w 25 (cellsT t)
  rw [hW]
  clear hW
  have hcc := hf.cell
  have HF := Lib.hid hf
  have HG := Lib.hid hg
  clear hf hg
  go_wp2_with fail
  refine (HI.out _ HG.out).mono ?_
  rintro e w2 ⟨rfl, hb2⟩
  have HG2 : Hid (Grow W w2) := hb2
  clear hcc hb2
  have hcc := (HG2.out.block HF.out).cell
  go_upto_region 6 with fail
  clear hcc
  go_wp2_with fail
  go_loopw [5, 6] (fun ov hv wr => ∃ (k : Nat) (Ao : Option Addr) (co m : Nat) (R : List RowR), ov = .slice Ao m co ∧ hv = .int .i64 k ∧ k ≤ nn ∧ Hid (m = R.length) ∧ m ≤ 177147 ∧ wr.ownsRow W.heap.size 23 1 (.slice Ao m co) m (R.map rowV) ∧ (∀ r ∈ R, IntsT wr 0 r.A r.xs) ∧ R.map (·.xs) = (everyTo t.d n first k).map natsL ∧ Grow W wr) (fun _ v _ => nn - (intOf v).toNat)
  case atStart => exact ⟨0, none, 0, 0, [], rfl, rfl, Nat.zero_le _, rfl, by omega, own_nil _ _ _, by simp, rfl, HG2.out⟩
  case round => as_aux_lemma =>
    obtain ⟨k, Ao, co, m, R, rfl, rfl, hkn, HM, hm, hown, hrows, hRx, hgr⟩ := hrel
    rename World => wr
    have HOW := Lib.hid hown
    have HRO := Lib.hid hrows
    have HRX := Lib.hid hRx
    have HGR := Lib.hid hgr
    clear hown hrows hRx hgr
    have hc0 : wr.cell? ⟨w.heap.size, 0, none⟩ = some (.slice t.A nn t.ca) := by rw [← HNN.out]; exact (HGR.out.block HF.out).cell 0
    by_cases hlt : k < nn
    · have hd1 : decide ((k : Int) < (nn : Int)) = true := decide_eq_true (by omega)
      have hd2 : decide (k < nn) = true := decide_eq_true hlt
      have HLT := Lib.hid hlt
      go_upto_region 9 with fail
      clear hc0 hd1 hd2
      obtain ⟨lo, hlo⟩ : ∃ q, wr.heap.size = q := ⟨_, rfl⟩
      have HLO := Lib.hid hlo
      clear hlo
      have hown0 : ∀ (W : World), (W.alloc (.cells #[] 3)).ownsRow W.heap.size 3 1 (.slice (some ⟨W.heap.size, 0, none⟩) 0 0) 0 [] := fun W => ⟨rfl, .inr ⟨W.heap.size, 0, #[], rfl, Nat.le_refl _, heap_alloc_new W _, Nat.le_refl _, by unfold maxLen; omega, rfl, rfl⟩⟩
      have HLE : Hid (W.heap.size ≤ lo) := Lib.hid (by rw [← HLO.out]; exact HGR.out.size)
      have HWL : Hid (w.heap.size ≤ W.heap.size) := Lib.hid HG.out.size
      refine wp_region_lit 9 [[], [], [], [], [(2, 28), (3, 29)], [], [(5, 31)], [(4, 30), (6, 32)], [(1, 27), (7, 33)]] (Wrote first.length (k : Int) lo) (fun i v w' => match i with
          | 0 => v = .slice Ao m co
          | 1 => v = taskV t
          | 2 => OwnZ lo v w'
          | 3 => v = .slice A1 first.length c1
          | 4 => OwnI lo first.length (natsL first) v w'
          | 5 => v = .int .i64 (k : Nat)
          | 6 => NewInt lo (k : Int) v w'
          | 7 => RowI first k v w'
          | 8 => IsEvery t.d n first k v w'
          | _ => False) (by kernel_rfl) (by kernel_rfl) (fun _ _ _ => Wrote.trans) (Wrote.refl _ _ _) ?_ ?_ ?_
      · intro i v y y' h k
        match i, h with
        | 2, h => exact h.wrote k
        | 4, h => exact h.wrote k
        | 6, h => exact h.wrote k
        | 7, h => exact h.wrote k
        | 8, h => exact h.wrote k
        | 0, h | 1, h | 3, h | 5, h => exact h
      · simp only [StepsLit, List.take_succ_cons, List.take_zero]
        refine ⟨?_, ?_, ?_, ?_, ?_, ?_, ?_, ?_, ?_, trivial⟩
        · intro w5 hR
          have hGw : (Wrote first.length (k : Int) lo) wr w5 := hR.of_drew
          have HGW := Lib.hid hGw
          have hz5 : lo ≤ w5.heap.size := by rw [← HLO.out]; exact hGw.size
          have hb5 : Below lo wr w5 := hGw.below
          have hcc := (BlockIs.below (HGR.out.block HF.out) hb5 (by rw [← HLO.out]; exact (HGR.out.block HF.out).lt)).cell
          clear hR hGw
          simp only [depV]
          try go_simp
          first
            | (with_reducible exact (Wrote.refl _ _ _) _)
            | (with_reducible exact ⟨(Wrote.refl _ _ _) _, rfl⟩)
        · intro w5 hR
          have hGw : (Wrote first.length (k : Int) lo) wr w5 := hR.of_drew
          have HGW := Lib.hid hGw
          have hz5 : lo ≤ w5.heap.size := by rw [← HLO.out]; exact hGw.size
          have hb5 : Below lo wr w5 := hGw.below
          have hcc := (BlockIs.below (HGR.out.block HF.out) hb5 (by rw [← HLO.out]; exact (HGR.out.block HF.out).lt)).cell
          clear hR hGw
          simp only [depV]
          try go_simp
          first
            | (with_reducible exact (Wrote.refl _ _ _) _)
            | (with_reducible exact ⟨(Wrote.refl _ _ _) _, rfl⟩)
        · intro w5 hR
          have hGw : (Wrote first.length (k : Int) lo) wr w5 := hR.of_drew
          have HGW := Lib.hid hGw
          have hz5 : lo ≤ w5.heap.size := by rw [← HLO.out]; exact hGw.size
          have hb5 : Below lo wr w5 := hGw.below
          have hcc := (BlockIs.below (HGR.out.block HF.out) hb5 (by rw [← HLO.out]; exact (HGR.out.block HF.out).lt)).cell
          clear hR hGw
          simp only [depV]
          try go_simp
          exact ⟨(Wrote.of_grow (Grow.alloc _ _) hz5 _ _), _, rfl, own_mono (hown0 w5) hz5⟩
        · intro w5 hR
          have hGw : (Wrote first.length (k : Int) lo) wr w5 := hR.of_drew
          have HGW := Lib.hid hGw
          have hz5 : lo ≤ w5.heap.size := by rw [← HLO.out]; exact hGw.size
          have hb5 : Below lo wr w5 := hGw.below
          have hcc := (BlockIs.below (HGR.out.block HF.out) hb5 (by rw [← HLO.out]; exact (HGR.out.block HF.out).lt)).cell
          clear hR hGw
          simp only [depV]
          try go_simp
          first
            | (with_reducible exact (Wrote.refl _ _ _) _)
            | (with_reducible exact ⟨(Wrote.refl _ _ _) _, rfl⟩)
        · intro w5 hR
          have hGw : (Wrote first.length (k : Int) lo) wr w5 := hR.of_drew
          have HGW := Lib.hid hGw
          have hz5 : lo ≤ w5.heap.size := by rw [← HLO.out]; exact hGw.size
          have hb5 : Below lo wr w5 := hGw.below
          have hcc := (BlockIs.below (HGR.out.block HF.out) hb5 (by rw [← HLO.out]; exact (HGR.out.block HF.out).lt)).cell
          clear hR hGw
          simp only [depV]
          intro v2 hv2
          rintro _ rfl
          obtain ⟨b2, rfl, ho2⟩ := hv2
          obtain ⟨v', w', hrun, hown', hwr⟩ := append_wrote (lo := lo) (K := first.length) (x := (k : Int)) (c := c1) ho2 HLL.out.symm (HT.out.ints.below (HG.out.trans' (Below.mono (HGR.out.trans' (Below.mono hb5 HLE.out)) HWL.out))) (Nat.le_refl _) hz5 (by omega) (.inr (fun hne cap A' e => by injection e with _ _ e; have := List.length_pos_iff.2 hne; rw [HLL.out] at this; omega))
          obtain ⟨A4, c4, rfl⟩ := own_form hown'
          refine wp_append_head (s := .tmp 28) (x := .tmp 29) rfl rfl rfl rfl hrun ?_
          exact ⟨rfl, hwr, A4, c4, by rw [Nat.zero_add]; rfl, by simpa using hown'⟩
        · intro w5 hR
          have hGw : (Wrote first.length (k : Int) lo) wr w5 := hR.of_drew
          have HGW := Lib.hid hGw
          have hz5 : lo ≤ w5.heap.size := by rw [← HLO.out]; exact hGw.size
          have hb5 : Below lo wr w5 := hGw.below
          have hcc := (BlockIs.below (HGR.out.block HF.out) hb5 (by rw [← HLO.out]; exact (HGR.out.block HF.out).lt)).cell
          clear hR hGw
          simp only [depV]
          try go_simp
          first
            | (with_reducible exact (Wrote.refl _ _ _) _)
            | (with_reducible exact ⟨(Wrote.refl _ _ _) _, rfl⟩)
        · intro w5 hR
          have hGw : (Wrote first.length (k : Int) lo) wr w5 := hR.of_drew
          have HGW := Lib.hid hGw
          have hz5 : lo ≤ w5.heap.size := by rw [← HLO.out]; exact hGw.size
          have hb5 : Below lo wr w5 := hGw.below
          have hcc := (BlockIs.below (HGR.out.block HF.out) hb5 (by rw [← HLO.out]; exact (HGR.out.block HF.out).lt)).cell
          clear hR hGw
          simp only [depV]
          rintro _ rfl
          try go_simp
          exact ⟨(Wrote.of_grow (Grow.alloc _ _) hz5 _ _), _, rfl, hz5, BlockIs.new _ _ _⟩
        · intro w5 hR
          have hGw : (Wrote first.length (k : Int) lo) wr w5 := hR.of_drew
          have HGW := Lib.hid hGw
          have hz5 : lo ≤ w5.heap.size := by rw [← HLO.out]; exact hGw.size
          have hb5 : Below lo wr w5 := hGw.below
          have hcc := (BlockIs.below (HGR.out.block HF.out) hb5 (by rw [← HLO.out]; exact (HGR.out.block HF.out).lt)).cell
          clear hR hGw
          simp only [depV]
          intro v4 hv4
          intro v6 hv6
          obtain ⟨A4, c4, rfl, ho4⟩ := hv4
          obtain ⟨b6, rfl, h6, hB6⟩ := hv6
          obtain ⟨v', w', hrun, hown', hwr⟩ := append_wrote (lo := lo) (K := first.length) (x := (k : Int)) (c := 1) ho4 (ys := [(k : Int)]) rfl (ints_block (xs := [(k : Int)]) hB6) (Nat.le_refl _) hz5 (by simp; omega) (.inl ⟨rfl, rfl⟩)
          obtain ⟨A7, c7, rfl⟩ := own_form hown'
          refine wp_append_head (s := .tmp 30) (x := .tmp 32) rfl rfl rfl rfl hrun ?_
          exact ⟨rfl, hwr, A7, c7, rfl, own_intsT' (by rw [← natsL_snoc]; exact hown') (by rw [← natsL_snoc, List.length_append, HLL.out]) (by simp) (Nat.zero_le _)⟩
        · intro w5 hR
          have hGw : (Wrote first.length (k : Int) lo) wr w5 := hR.of_drew
          have HGW := Lib.hid hGw
          have hz5 : lo ≤ w5.heap.size := by rw [← HLO.out]; exact hGw.size
          have hb5 : Below lo wr w5 := hGw.below
          have hcc := (BlockIs.below (HGR.out.block HF.out) hb5 (by rw [← HLO.out]; exact (HGR.out.block HF.out).lt)).cell
          clear hR hGw
          simp only [depV]
          rintro _ rfl
          intro v7 hv7
          obtain ⟨A7, c7, rfl, hi7⟩ := hv7
          try go_simp
          refine (HIH.out k HLT.out A7 c7 w5 ((HTT.out.below (HG.out.trans' (Below.mono (HGR.out.trans' (Below.mono hb5 HLE.out)) HWL.out))).more (by have h1 := HWL.out; have h2 := HLE.out; omega)) hi7).mono ?_
          rintro e w6 ⟨A8, c8, R8, rfl, hR8, hm8, hb8⟩
          exact ⟨Wrote.of_grow hb8 hz5 _ _, A8, c8, R8, rfl, hR8, hm8⟩
      · intro w5 hR
        have HG5 : Hid ((Wrote first.length (k : Int) lo) wr w5) := Lib.hid hR.of_drew
        clear hR
        simp only [finVC, List.take_succ_cons, List.take_zero, List.drop_succ_cons, List.drop_zero]
        rintro _ rfl
        rintro _ rfl
        intro v2 hv2
        rintro _ rfl
        intro v4 hv4
        rintro _ rfl
        intro v6 hv6
        intro v7 hv7
        intro v8 hv8
        simp only [Act.put, List.setIfInBounds_toArray, List.set_cons_succ, List.set_cons_zero]
        obtain ⟨A8, c8, R8, rfl, hR8, hm8⟩ := hv8
        have HB5 : Hid (Grow wr w5) := Lib.hid (by have h := HG5.out.below; rw [← HLO.out] at h; exact h)
        have HR8 := Lib.hid hR8
        have HM8 := Lib.hid hm8
        have HOW5 := Lib.hid (own_grow HOW.out HB5.out)
        have hc8 : R8.length ≤ 59049 := by
          have h1 := congrArg List.length HM8.out
          have h2 := (HCN.out k (by omega)).2 k
          simp only [List.length_map] at h1
          omega
        clear hv2 hv4 hv6 hv7 hR8 hm8 HG5
        go_wp2_with (at_builtin; go_loud (refine wpList_append_rows rfl _ _ rfl W.heap.size j0 hj hy0 hy1 hy2 _ m (R.map rowV) rfl HOW5.out A8 R8.length c8 R8 rfl rfl HR8.out (by omega) ?d1 ?_))
        case d1 => exact Nat.le_trans HGR.out.size HB5.out.size
        intro v' w3 hown hgr
        obtain ⟨An, cn, rfl⟩ := own_form hown
        have HOWN : Hid (w3.ownsRow W.heap.size 23 1 (.slice An (m + R8.length) cn) (m + R8.length) ((R ++ R8).map rowV)) := Lib.hid (by rw [List.map_append]; exact hown)
        have hown5 : w5.ownsRow W.heap.size 23 1 (.slice Ao m co) m (R.map rowV) := HOW5.out
        have HRON : Hid (∀ r ∈ R ++ R8, IntsT w3 0 r.A r.xs) := Lib.hid (fun r hr => by
          rcases List.mem_append.1 hr with hr | hr
          · exact ((HRO.out r hr).grow HB5.out).grown hown5 (by decide) hgr
          · exact (HR8.out.2 r hr).grown hown5 (by decide) hgr)
        have HRXN : Hid ((R ++ R8).map (·.xs) = (everyTo t.d n first (k + 1)).map natsL) := Lib.hid (by rw [List.map_append, HRX.out, HM8.out, everyTo_succ, List.map_append])
        have HGN : Hid (Grow W w3) := Lib.hid (grown_grow (HGR.out.trans HB5.out) hown5 hgr)
        have HMN : Hid (m + R8.length = (R ++ R8).length) := Lib.hid (by rw [List.length_append, HM.out])
        have hmn : m + R8.length ≤ 177147 := by
          have h1 := congrArg List.length HRXN.out
          have h2 := (HCN.out (k + 1) (by have := HLT.out; omega)).1
          simp only [List.length_map] at h1
          rw [HMN.out]
          omega
        clear hown hgr hown5
        go_wp2
        go_roundw
        case rel => exact ⟨k + 1, An, cn, m + R8.length, R ++ R8, rfl, by go_num, HLT.out, HMN.out, hmn, HOWN.out, HRON.out, HRXN.out, HGN.out⟩
        case measure => have := HLT.out; simp [intOf]; omega
    · obtain rfl : k = nn := by omega
      have hd1 : decide ((k : Int) < (k : Int)) = false := by simp
      have hd2 : decide (k < k) = false := by simp
      go_wp2
      go_ret
      refine ⟨Ao, co, R, by rw [← HM.out]; rfl, own_rowsR HOW.out HM.out HRO.out, by rw [HRX.out, HE.out], HG.out.trans HGR.out⟩

theorem every_any (t : TaskR) (hk : okTask t.d = true) : ∀ n, EveryOK t n
  | 0 => fun first A1 c1 w hl _ _ hi => by
    cases hr : isRightD t.d (natsL first) with
    | false => exact every_off t hk 0 first A1 c1 w (by omega) hi hr
    | true => exact every_zero t hk first A1 c1 w (by omega) hi hr
  | n + 1 => fun first A1 c1 w hl hh ht hi => by
    cases hr : isRightD t.d (natsL first) with
    | false => exact every_off t hk (n + 1) first A1 c1 w (by omega) hi hr
    | true => exact every_succ t hk n (every_any t hk n) first A1 c1 w hl hh ht hi hr

end Go.Proofs.Ythlihchndmbkaaa

