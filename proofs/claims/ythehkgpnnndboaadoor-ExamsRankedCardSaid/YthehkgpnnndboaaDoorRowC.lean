/- RowC: rows of spans in blocks: cells by an index function, make, copy, bits.Mul. -/
import Derived.Test.YthehkgpnnndboaaDoorWidest
import Derived.Shelf.Bits.Mul64
import Derived.Laws.CopyRow
import Derived.Laws.MakeOwn
import Derived.Deep.RegionLaw
namespace Go.Proofs.YthehkgpnnndboaaDoor
open Go.RowKit

/-- the cells of n spans -/
def rowC (f : Nat → Int × Int) (n : Nat) : Array Value := ((List.range (n * 2)).map fun i => if i % 2 = 0 then Value.int .i64 (f (i / 2)).1 else Value.int .i64 (f (i / 2)).2).toArray
theorem rowC_size (f : Nat → Int × Int) (n : Nat) : (rowC f n).size = n * 2 := by unfold rowC; simp
theorem rowC_get (f : Nat → Int × Int) (n i : Nat) : (rowC f n)[i]? = if i < n * 2 then some (if i % 2 = 0 then Value.int .i64 (f (i / 2)).1 else Value.int .i64 (f (i / 2)).2) else none := by
  unfold rowC
  rw [List.getElem?_toArray, List.getElem?_map]
  by_cases h : i < n * 2
  · rw [if_pos h, List.getElem?_range h]; rfl
  · rw [if_neg h, List.getElem?_eq_none (by simp; omega)]; rfl
theorem rowC_lo (f : Nat → Int × Int) {n k : Nat} (hk : k < n) : (rowC f n)[k * 2]? = some (.int .i64 (f k).1) := by
  rw [rowC_get, if_pos (by omega), if_pos (by omega), show k * 2 / 2 = k by omega]
theorem rowC_hi (f : Nat → Int × Int) {n k : Nat} (hk : k < n) : (rowC f n)[k * 2 + 1]? = some (.int .i64 (f k).2) := by
  rw [rowC_get, if_pos (by omega), if_neg (by omega), show (k * 2 + 1) / 2 = k by omega]
theorem rowC_congr {f g : Nat → Int × Int} {n : Nat} (h : ∀ i, i < n → f i = g i) : rowC f n = rowC g n := by
  apply Array.ext_getElem?
  intro i
  rw [rowC_get, rowC_get]
  by_cases hi : i < n * 2
  · rw [if_pos hi, if_pos hi, h (i / 2) (by omega)]
  · rw [if_neg hi, if_neg hi]
def updS (f : Nat → Int × Int) (k : Nat) (v : Int × Int) (i : Nat) : Int × Int := if i = k then v else f i
theorem rowC_set (f : Nat → Int × Int) {n k : Nat} (v : Int × Int) (hk : k < n) : ((rowC f n).setIfInBounds (k * 2) (.int .i64 v.1)).setIfInBounds (k * 2 + 1) (.int .i64 v.2) = rowC (updS f k v) n := by
  apply Array.ext_getElem?
  intro i
  rw [Array.getElem?_setIfInBounds, Array.getElem?_setIfInBounds, Array.size_setIfInBounds, rowC_size, rowC_get, rowC_get]
  by_cases h1 : k * 2 + 1 = i
  · subst h1
    rw [if_pos rfl, if_pos (by omega), if_pos (by omega), if_neg (by omega), show updS f k v ((k * 2 + 1) / 2) = v from if_pos (by omega)]
  · rw [if_neg h1]
    by_cases h2 : k * 2 = i
    · subst h2
      rw [if_pos rfl, if_pos (by omega), if_pos (by omega), if_pos (by omega), show updS f k v (k * 2 / 2) = v from if_pos (by omega)]
    · rw [if_neg h2]
      by_cases hi : i < n * 2
      · rw [if_pos hi, if_pos hi, show updS f k v (i / 2) = f (i / 2) from if_neg (by omega)]
      · rw [if_neg hi, if_neg hi]
theorem rowC_flats {w : World} {b n B : Nat} {f : Nat → Int × Int} (h : BlockIs w b 33 (rowC f n)) (hB : b < B) : Flats cellsS 2 w B (some ⟨b, 0, none⟩) ((List.range n).map f) := by
  refine .inr ⟨b, 0, rfl, hB, fun i x hx j hj => ?_⟩
  rw [List.getElem?_map] at hx
  have hi : i < n := by
    rcases Nat.lt_or_ge i n with h | h
    · exact h
    · rw [List.getElem?_eq_none (by simp; omega)] at hx; cases hx
  rw [List.getElem?_range hi] at hx
  obtain rfl : f i = x := by simpa using hx
  rw [h.cell]
  match j, hj with
  | 0, _ => rw [show 0 + i * 2 + 0 = i * 2 by omega, rowC_lo f hi]; rfl
  | 1, _ => rw [show 0 + i * 2 + 1 = i * 2 + 1 by omega, rowC_hi f hi]; rfl
/-- the first c of n are s, the others zero -/
def fillF (s : Int × Int) (c : Nat) (i : Nat) : Int × Int := if i < c then s else (0, 0)
theorem Tryd.infoSpan : (Tryd.prog.info? 33).map (fun i => (i.zero, i.size, i.bytes)) = some (some (.agg #[.int .i64 0, .int .i64 0]), 2, 16) := by kernel_rfl
theorem made_row (n : Nat) : madeCells #[Value.int .i64 0, Value.int .i64 0] (n * 2) = rowC (fun _ => (0, 0)) n := by
  apply Array.ext_getElem?
  intro i
  rw [rowC_get]
  by_cases hi : i < n * 2
  · rw [if_pos hi]
    unfold madeCells
    rw [Array.getElem?_map, Array.getElem?_range, if_pos hi]
    have : i % 2 = 0 ∨ i % 2 = 1 := by omega
    rcases this with h | h <;> simp [h]
  · rw [if_neg hi, Array.getElem?_eq_none (by rw [size_madeCells]; omega)]
theorem make_spans (ln : Nat) (w : World) (hl : ln ≤ 100) : (Instr.makeSlice 36 (.int .i64 (ln : Int)) (.int .i64 (ln : Int))).run Tryd.prog w = .ok (.slice (some ⟨w.heap.size, 0, none⟩) ln ln) (w.alloc (.cells (rowC (fun _ => (0, 0)) ln) 33)) := by
  obtain ⟨i0, hi, hz0, hz1, hz2⟩ := info_parts Tryd.infoSpan
  have h := run_make (P := Tryd.prog) w 36 33 i0 (.agg #[.int .i64 0, .int .i64 0]) Tryd.underlying36 hi hz0 .i64 .i64 ln ln (by omega) (Int.le_refl _) (by rw [hz2]; omega) (by omega)
  rw [hz1, Int.toNat_natCast] at h
  rw [← made_row]
  exact h

section
variable {P : Program}
theorem run_copyK (w : World) (dT sT ty elem : TypeId) (g o dLen dCap : Nat) (a : Addr) (sLen sCap k : Nat) (cur : Array Value) (t : TypeId) (cs : List Value)
    (hu : P.underlying dT = some (.slice elem)) (hs : (P.info? elem).map (·.size) = some k)
    (hg : w.heap[g]? = some (.cells cur t (0, 0))) (hn : cs.length = Nat.min sLen dLen * k)
    (hsrc : ∀ j v, cs[j]? = some v → w.cell? (a.add j) = some v) (hfit : o + cs.length ≤ cur.size) (h1 : ∀ v ∈ cs, v.oneCell' = true) :
    (Builtin.copy_ #[dT, sT] ty #[.slice (some ⟨g, o, none⟩) dLen dCap, .slice (some a) sLen sCap]).run P w =
      .ok (goInt (Nat.min sLen dLen)) (w.setRow g (cur.toList.take o ++ cs ++ cur.toList.drop (o + cs.length)).toArray) := by
  have hl := run_loadCells_list (P := P) w a cs hsrc
  have hst := run_storeCells_at P g o t cs 0 cur w hg (by simpa using hfit) h1
  cases hq : P.info? elem with
  | none => simp [hq] at hs
  | some i =>
    have hi : i.size = k := by simpa [hq] using hs
    simp [Builtin.copy_, run_underlying hu, Builtin.lenOf, Builtin.firstCells, sizeOf, typeInfo, hq, hi, ← hn, hl, hst]
theorem wp_copyK {t : TypeId} {a : Act} {o : Oper} {s x : Operand} {w w' : World} {v u v' : Value} {next : Act → World → Prop} {Q : Exit → Act → World → Prop} (ho : o.op = .call { callee := .builtin .copy, args := #[s, x], argTypes := #[t, t] }) (hs : a.eval s = v) (hx : a.eval x = u)
    (hrun : (Builtin.copy_ #[t, t] o.type #[v, u]).run P w = .ok v' w') (hn : next (a.put o.dst v') w') : o.wp P a w next Q := by
  unfold Oper.wp execOp
  simp only [ho, resolve, invoke, builtin, Sem.run_bind, Sem.run_pure, Result.andThen_ok, List.map_toArray, List.map_cons, List.map_nil, hs, hx, hrun]
  exact hn
theorem wpList_copyK {w : World} {ops : Array Oper} {rest : List Oper} {o : Oper} {a : Act} {Q : Exit → Act → World → Prop} {t : TypeId} {s x : Operand} {v u v' : Value} {w' : World} (hgd : o.guard = none)
    (ho : o.op = .call { callee := .builtin .copy, args := #[s, x], argTypes := #[t, t] }) (hs : a.eval s = v) (hx : a.eval x = u)
    (hrun : (Builtin.copy_ #[t, t] o.type #[v, u]).run P w = .ok v' w') (h : wpList P ops Q rest (a.put o.dst v') w') : wpList P ops Q (o :: rest) a w :=
  wpList_plain hgd fun _ hK => wp_copyK ho hs hx hrun (hK _ _ h)
end
/-- the cells behind a copy of the first m of c spans behind them -/
theorem fill_splice (s : Int × Int) (n c m e : Nat) (hm : m ≤ c) (hn : c + m ≤ n) (h0 : c ≤ e) (he : e ≤ c + m) :
    ((rowC (fillF s e) n).toList.take (c * 2) ++ ((rowC (fillF s e) n).toList.take (m * 2)) ++ (rowC (fillF s e) n).toList.drop (c * 2 + ((rowC (fillF s e) n).toList.take (m * 2)).length)).toArray = rowC (fillF s (c + m)) n := by
  have hsz := rowC_size (fillF s e) n
  have hl : (rowC (fillF s e) n).toList.length = n * 2 := by rw [Array.length_toList, hsz]
  apply Array.ext_getElem?
  intro i
  rw [List.getElem?_toArray, rowC_get]
  have e1 : ((rowC (fillF s e) n).toList.take (c * 2)).length = c * 2 := by rw [List.length_take]; omega
  have e2 : ((rowC (fillF s e) n).toList.take (m * 2)).length = m * 2 := by rw [List.length_take]; omega
  rw [e2]
  by_cases h1 : i < c * 2
  · rw [List.append_assoc, List.getElem?_append_left (by omega), List.getElem?_take_of_lt h1, Array.getElem?_toList, rowC_get, if_pos (show i < n * 2 by omega), if_pos (show i < n * 2 by omega), show fillF s e (i / 2) = s from if_pos (by omega), show fillF s (c + m) (i / 2) = s from if_pos (by omega)]
  · by_cases h2 : i < c * 2 + m * 2
    · rw [List.getElem?_append_left (by rw [List.length_append]; omega), List.getElem?_append_right (by omega), e1, List.getElem?_take_of_lt (by omega), Array.getElem?_toList, rowC_get, if_pos (show i - c * 2 < n * 2 by omega), if_pos (show i < n * 2 by omega), show fillF s e ((i - c * 2) / 2) = s from if_pos (by omega), show fillF s (c + m) (i / 2) = s from if_pos (by omega)]
      by_cases h3 : i % 2 = 0
      · rw [if_pos (show (i - c * 2) % 2 = 0 by omega), if_pos h3]
      · rw [if_neg (show ¬ (i - c * 2) % 2 = 0 by omega), if_neg h3]
    · rw [List.getElem?_append_right (by rw [List.length_append]; omega), List.length_append, e1, e2, List.getElem?_drop, show c * 2 + m * 2 + (i - (c * 2 + m * 2)) = i by omega, Array.getElem?_toList, rowC_get]
      by_cases h4 : i < n * 2
      · rw [if_pos h4, if_pos h4, show fillF s e (i / 2) = (0, 0) from if_neg (by omega), show fillF s (c + m) (i / 2) = (0, 0) from if_neg (by omega)]
      · rw [if_neg h4, if_neg h4]
theorem fill_zero (s : Int × Int) (n : Nat) : rowC (fillF s 0) n = rowC (fun _ => (0, 0)) n := rowC_congr fun _ _ => rfl
theorem fill_all (s : Int × Int) (n : Nat) : rowC (fillF s n) n = rowC (fun _ => s) n := rowC_congr fun i hi => by unfold fillF; rw [if_pos hi]
theorem size_span : (Tryd.prog.info? 33).map (·.size) = some 2 := by
  obtain ⟨i0, hi, hz0, hz1, hz2⟩ := info_parts Tryd.infoSpan
  rw [hi]
  simp [hz1]
theorem row_cells {w : World} {b n : Nat} {f : Nat → Int × Int} (h : BlockIs w b 33 (rowC f n)) (m : Nat) : ∀ j v, ((rowC f n).toList.take m)[j]? = some v → w.cell? ((⟨b, 0, none⟩ : Addr).add j) = some v := by
  intro j v hv
  have hj : j < m := by
    rcases Nat.lt_or_ge j m with h | h
    · exact h
    · rw [List.getElem?_eq_none (by rw [List.length_take]; omega)] at hv; cases hv
  rw [List.getElem?_take_of_lt hj, Array.getElem?_toList] at hv
  rw [show (⟨b, 0, none⟩ : Addr).add j = ⟨b, j, none⟩ by (simp [Addr.add]; try omega), h.cell]
  exact hv
theorem row_one {f : Nat → Int × Int} {n m : Nat} : ∀ v ∈ (rowC f n).toList.take m, v.oneCell' = true := by
  intro v hv
  have hv := List.mem_of_mem_take hv
  unfold rowC at hv
  obtain ⟨i, _, rfl⟩ := List.mem_map.1 hv
  split <;> rfl
/-- copy within a row that is filled as far as e -/
theorem copy_fill {w : World} {b n c m e : Nat} {s : Int × Int} (h : BlockIs w b 33 (rowC (fillF s e) n)) (hn : c < n) (hm : m = Nat.min c (n - c)) (h0 : c ≤ e) (he : e ≤ c + m) (ty : TypeId) (dCap sCap : Nat) :
    (Builtin.copy_ #[36, 36] ty #[.slice (some ⟨b, c * 2, none⟩) (n - c) dCap, .slice (some ⟨b, 0, none⟩) c sCap]).run Tryd.prog w = .ok (.int .i64 (m : Nat)) (w.setRow b (rowC (fillF s (c + m)) n)) := by
  subst hm
  have hm1 : Nat.min c (n - c) ≤ c := Nat.min_le_left _ _
  have hm2 : Nat.min c (n - c) ≤ n - c := Nat.min_le_right _ _
  have hl : ((rowC (fillF s e) n).toList.take (Nat.min c (n - c) * 2)).length = Nat.min c (n - c) * 2 := by rw [List.length_take, Array.length_toList, rowC_size]; omega
  have hr := run_copyK (P := Tryd.prog) w 36 36 ty 33 b (c * 2) (n - c) dCap ⟨b, 0, none⟩ c sCap 2 (rowC (fillF s e) n) 33 ((rowC (fillF s e) n).toList.take (Nat.min c (n - c) * 2))
    Tryd.underlying36 size_span h hl (row_cells h _) (by rw [hl, rowC_size]; omega) row_one
  rw [fill_splice s n c _ e hm1 (by omega) h0 he] at hr
  exact hr
/-- one span copied to the head of a new row -/
theorem copy_one {w : World} {b q n : Nat} {s : Int × Int} (h : BlockIs w b 33 (rowC (fun _ => (0, 0)) n)) (hq : BlockIs w q 33 (cellsS s)) (hn : 1 ≤ n) (ty : TypeId) (dCap sCap : Nat) :
    (Builtin.copy_ #[36, 36] ty #[.slice (some ⟨b, 0, none⟩) n dCap, .slice (some ⟨q, 0, none⟩) 1 sCap]).run Tryd.prog w = .ok (.int .i64 1) (w.setRow b (rowC (fillF s 1) n)) := by
  have hm : Nat.min 1 n = 1 := Nat.min_eq_left hn
  have hr := run_copyK (P := Tryd.prog) w 36 36 ty 33 b 0 n dCap ⟨q, 0, none⟩ 1 sCap 2 (rowC (fun _ => (0, 0)) n) 33 [.int .i64 s.1, .int .i64 s.2]
    Tryd.underlying36 size_span h (by rw [hm]; rfl) (fun j v hj => by
      have hlt : j < 2 := by have := (List.getElem?_eq_some_iff.1 hj).1; simpa using this
      rw [show (⟨q, 0, none⟩ : Addr).add j = ⟨q, j, none⟩ by (simp [Addr.add]; try omega), hq.cell, ← hj]
      match j, hlt with
      | 0, _ => rfl
      | 1, _ => rfl) (by rw [rowC_size]; simp; omega) (by simp [Value.oneCell'])
  rw [hm] at hr
  have e : ((rowC (fun _ => ((0 : Int), (0 : Int))) n).toList.take 0 ++ [Value.int .i64 s.1, .int .i64 s.2] ++ (rowC (fun _ => ((0 : Int), (0 : Int))) n).toList.drop (0 + [Value.int .i64 s.1, .int .i64 s.2].length)).toArray = rowC (fillF s 1) n := by
    apply Array.ext_getElem?
    intro i
    rw [List.take_zero, List.nil_append, List.getElem?_toArray, rowC_get]
    match i with
    | 0 => rw [if_pos (by omega)]; rfl
    | 1 => rw [if_pos (by omega)]; rfl
    | i + 2 =>
      rw [List.getElem?_append_right (by simp)]
      simp only [List.length_cons, List.length_nil, Nat.zero_add, Nat.reduceAdd, Nat.add_sub_cancel]
      rw [List.getElem?_drop, show 2 + i = i + 2 by omega, Array.getElem?_toList, rowC_get, show fillF s 1 ((i + 2) / 2) = (0, 0) from if_neg (by omega)]
  rw [e] at hr
  exact hr
/-- a row that fills up -/
structure TurnC (nb n c m : Nat) (s : Int × Int) (x y : World) : Prop where
  os : y.os = x.os
  tape : y.tape = x.tape
  output : y.output = x.output
  size : x.heap.size ≤ y.heap.size
  block : ∀ k, k < x.heap.size → k ≠ nb → y.heap[k]? = x.heap[k]?
  row : ∀ e, c ≤ e → e ≤ c + m → BlockIs x nb 33 (rowC (fillF s e) n) → ∃ e', e ≤ e' ∧ e' ≤ c + m ∧ BlockIs y nb 33 (rowC (fillF s e') n)
theorem TurnC.refl {nb n c m : Nat} {s : Int × Int} (x : World) : TurnC nb n c m s x x := ⟨rfl, rfl, rfl, Nat.le_refl _, fun _ _ _ => rfl, fun e _ h1 h => ⟨e, Nat.le_refl _, h1, h⟩⟩
theorem TurnC.trans {nb n c m : Nat} {s : Int × Int} {x y z : World} (h : TurnC nb n c m s x y) (k : TurnC nb n c m s y z) : TurnC nb n c m s x z :=
  ⟨k.os.trans h.os, k.tape.trans h.tape, k.output.trans h.output, Nat.le_trans h.size k.size, fun i hi hn => (k.block i (Nat.lt_of_lt_of_le hi h.size) hn).trans (h.block i hi hn), fun e h0 h1 hb => by
    obtain ⟨e1, a1, a2, a3⟩ := h.row e h0 h1 hb
    obtain ⟨e2, b1, b2, b3⟩ := k.row e1 (by omega) a2 a3
    exact ⟨e2, by omega, b2, b3⟩⟩
theorem TurnC.of_drew {nb n c m : Nat} {s : Int × Int} {x y : World} (h : TurnC nb n c m s x.drew y) : TurnC nb n c m s x y := ⟨h.os, h.tape, h.output, h.size, h.block, h.row⟩
theorem TurnC.below {nb n c m B : Nat} {s : Int × Int} {x y : World} (h : TurnC nb n c m s x y) (hb : B ≤ nb) (hx : B ≤ x.heap.size) : Below B x y := ⟨h.os, h.tape, h.output, h.size, fun k hk => h.block k (by omega) (by omega)⟩
theorem TurnC.set {nb n c m e : Nat} {s : Int × Int} {x : World} (h : BlockIs x nb 33 (rowC (fillF s e) n)) : TurnC nb n c m s x (x.setRow nb (rowC (fillF s (c + m)) n)) :=
  ⟨rfl, rfl, rfl, by simp [World.setRow], fun k _ hk => setRow_other x nb k _ hk, fun e' _ he' _ => ⟨c + m, he', Nat.le_refl _, setRow_heap x nb _ _ _ _ h⟩⟩
theorem TurnC.full {nb n c m : Nat} {s : Int × Int} {x y : World} (h : TurnC nb n c m s x y) (hb : BlockIs x nb 33 (rowC (fillF s (c + m)) n)) : BlockIs y nb 33 (rowC (fillF s (c + m)) n) := by
  obtain ⟨e, a1, a2, a3⟩ := h.row (c + m) (by omega) (Nat.le_refl _) hb
  obtain rfl : e = c + m := by omega
  exact a3

set_option maxHeartbeats 4000000 in
theorem mul64_any (n : Nat) (w : World) (hn : n ≤ 1000000) :
    Calls Tryd.prog 92 #[.int .u64 1, .int .u64 n] w fun e w' => e = .returned (.tuple #[.int .u64 0, .int .u64 n]) ∧ w = w' := by
  have h1 : bits .and .u64 1 4294967295 = 1 := by decide +kernel
  have h2 := Mul64.maskN n (by omega)
  rw [Nat.mod_eq_of_lt (by omega)] at h2
  have h3 : (n : Int) / 4294967296 = 0 := by omega
  have h4 : IntKind.u64.wrap (n : Int) = (n : Int) := Mul64.wrapN n (by omega)
  have h5 : bits .and .u64 0 4294967295 = 0 := by decide +kernel
  go_enter Tryd.func92, Tryd.ntmps92
  go_wp2
  go_ret2
  exact ⟨rfl, rfl⟩
set_option maxHeartbeats 400000 in
theorem mul_any (n : Nat) (w : World) (hn : n ≤ 1000000) :
    Calls Tryd.prog 73 #[.int .u64 1, .int .u64 n] w fun e w' => e = .returned (.tuple #[.int .u64 0, .int .u64 n]) ∧ w = w' := by
  have HM := Lib.hid (fun w0 => mul64_any n w0 hn)
  go_enter Tryd.func73, Tryd.ntmps73
  go_wp2_with fail
  refine (HM.out _).mono ?_
  rintro e w2 ⟨rfl, rfl⟩
  go_wp2
  go_ret2
  exact ⟨rfl, rfl⟩

end Go.Proofs.YthehkgpnnndboaaDoor
