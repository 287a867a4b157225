/- ProofM: what GlossesProof knows of the glosses of a disagreement. WroteG: what an append onto an own row of glosses leaves of other rows: the relation of GlossesProof's drawn region. ProofLaw: the law GlossesProof answers true; written by wip/tools/proof02.py. -/
import Derived.Test.YtinlojealfbbfaaRWhy
import Derived.Test.YtinlojealfbbfaaCopies
import Derived.Test.YtinlojealfbbfaaFar
import Derived.Deep.DeepCutAuto
namespace Go.Proofs.Ytinlojealfbbfaa
open Go.RowKit

theorem before_len {a b : List GlossD} (h : beforeD a b = true) : a.length ≤ b.length := by
  unfold beforeD at h
  by_cases e : a.length = b.length
  · omega
  · rw [if_neg e] at h
    have := of_decide_eq_true h
    omega
theorem not_before_len {a b : List GlossD} (h : beforeD a b = false) : b.length ≤ a.length := by
  unfold beforeD at h
  by_cases e : a.length = b.length
  · omega
  · rw [if_neg e] at h
    have := of_decide_eq_false h
    omega
/-- the best is a part of all, needs as many signs, and no choice that needs as many is shorter -/
theorem best_least (sn : Nat) (l : List GlossD) : ∀ k, (bestP l (okD sn l) k).Sublist l ∧ sizeD sn (bestP l (okD sn l) k) = sizeD sn l ∧ ∀ j, j < k → okD sn l j = true → (bestP l (okD sn l) k).length ≤ (subD l j).length
  | 0 => ⟨List.Sublist.refl _, rfl, fun j h => by omega⟩
  | k + 1 => by
    obtain ⟨h1, h2, h3⟩ := best_least sn l k
    unfold bestP
    by_cases hc : (beforeD (subD l k) (bestP l (okD sn l) k) && okD sn l k) = true
    · rw [if_pos hc]
      rw [Bool.and_eq_true] at hc
      refine ⟨subD_sub l k, of_decide_eq_true hc.2, fun j hj ho => ?_⟩
      rcases Nat.lt_or_ge j k with g | g
      · exact Nat.le_trans (before_len hc.1) (h3 j g ho)
      · obtain rfl : j = k := by omega
        exact Nat.le_refl _
    · rw [if_neg hc]
      refine ⟨h1, h2, fun j hj ho => ?_⟩
      rcases Nat.lt_or_ge j k with g | g
      · exact h3 j g ho
      · obtain rfl : j = k := by omega
        rw [ho, Bool.and_true] at hc
        exact not_before_len (by simpa using hc)
/-- each part of all is a choice -/
theorem sub_choice {s l : List GlossD} (h : s.Sublist l) : ∃ k, k < 2 ^ l.length ∧ subD l k = s := by
  induction h with
  | slnil => exact ⟨0, by decide, rfl⟩
  | @cons s l x h ih =>
    obtain ⟨k, hk, e⟩ := ih
    refine ⟨2 * k, by rw [List.length_cons, Nat.pow_succ]; omega, ?_⟩
    show (if 2 * k % 2 = 1 then x :: subD l (2 * k / 2) else subD l (2 * k / 2)) = _
    rw [if_neg (by omega), show 2 * k / 2 = k by omega, e]
  | @cons_cons s l x h ih =>
    obtain ⟨k, hk, e⟩ := ih
    refine ⟨2 * k + 1, by rw [List.length_cons, Nat.pow_succ]; omega, ?_⟩
    show (if (2 * k + 1) % 2 = 1 then x :: subD l ((2 * k + 1) / 2) else subD l ((2 * k + 1) / 2)) = _
    rw [if_pos (by omega), show (2 * k + 1) / 2 = k by omega, e]
theorem why_sub (sn : Nat) (l : List GlossD) : (whyD sn l).Sublist l := (best_least sn l _).1
theorem why_size (sn : Nat) (l : List GlossD) : sizeD sn (whyD sn l) = sizeD sn l := (best_least sn l _).2.1
/-- without any one of them a set with fewer signs agrees -/
theorem why_less {sn : Nat} {l : List GlossD} (hn : sn ≤ 10) (h : ∀ x ∈ l, x.signs.toNat ≠ 0 ∧ x.signs.toNat < 2 ^ sn) {i : Nat} (hi : i < (whyD sn l).length) :
    sizeD sn ((whyD sn l).take i ++ (whyD sn l).drop (i + 1)) < sizeD sn l := by
  have hs : ((whyD sn l).take i ++ (whyD sn l).drop (i + 1)).Sublist l := by
    rw [← List.eraseIdx_eq_take_drop_succ]
    exact (List.eraseIdx_sublist _ _).trans (why_sub sn l)
  have hl : ((whyD sn l).take i ++ (whyD sn l).drop (i + 1)).length < (whyD sn l).length := by
    rw [List.length_append, List.length_take, List.length_drop]; omega
  obtain ⟨k, hk, e⟩ := sub_choice hs
  have hm := size_mono (l' := (whyD sn l).take i ++ (whyD sn l).drop (i + 1)) hn h (fun x hx => hs.subset hx)
  rcases Nat.lt_or_ge (sizeD sn ((whyD sn l).take i ++ (whyD sn l).drop (i + 1))) (sizeD sn l) with g | g
  · exact g
  · have ho : okD sn l k = true := decide_eq_true (by rw [e]; omega)
    have hb := (best_least sn l (2 ^ l.length)).2.2 k hk ho
    rw [e] at hb
    have : (whyD sn l).length ≤ _ := hb
    omega
/-- no set with fewer signs agrees with all of them -/
theorem why_set {sn : Nat} {l : List GlossD} {s : Nat} (hs : s < 2 ^ sn) (ha : agreesD s (whyD sn l) = true) : sizeD sn l ≤ popD s := by
  rw [← why_size sn l]
  exact (readD_is sn (whyD sn l)).least s hs ha

end Go.Proofs.Ytinlojealfbbfaa

namespace Go.Proofs.Ytinlojealfbbfaa
open Go.RowKit

/-- nothing was written from lo on but new blocks, and zs from the place K on of blocks of glosses -/
structure WroteG (K : Nat) (zs : List Value) (lo : Nat) (w w' : World) : Prop where
  os : w'.os = w.os
  tape : w'.tape = w.tape
  output : w'.output = w.output
  size : w.heap.size ≤ w'.heap.size
  block : ∀ k, k < lo → w'.heap[k]? = w.heap[k]?
  typed : ∀ (b : Nat) (t : TypeId) (cs : Array Value), t ≠ 55 → BlockIs w b t cs → BlockIs w' b t cs
  rows : ∀ (b : Nat) (cs : Array Value), BlockIs w b 55 cs → ∃ cs' : Array Value, BlockIs w' b 55 cs' ∧ cs'.size = cs.size ∧ ∀ i : Nat, cs'[i]? = cs[i]? ∨ (K ≤ i ∧ i < cs.size ∧ ∃ u, zs[i - K]? = some u ∧ cs'[i]? = some u)
variable {K : Nat} {zs : List Value} {lo : Nat}
theorem WroteG.refl (K : Nat) (zs : List Value) (lo : Nat) (w : World) : WroteG K zs lo w w := ⟨rfl, rfl, rfl, Nat.le_refl _, fun _ _ => rfl, fun _ _ _ _ h => h, fun _ cs h => ⟨cs, h, rfl, fun _ => .inl rfl⟩⟩
theorem WroteG.trans {a b c : World} (h : WroteG K zs lo a b) (k : WroteG K zs lo b c) : WroteG K zs lo a c := by
  refine ⟨k.os.trans h.os, k.tape.trans h.tape, k.output.trans h.output, Nat.le_trans h.size k.size, fun j hj => (k.block j hj).trans (h.block j hj), fun b t cs ht hb => k.typed b t cs ht (h.typed b t cs ht hb), fun b cs hb => ?_⟩
  obtain ⟨c1, h1, h2, h3⟩ := h.rows b cs hb
  obtain ⟨c2, k1, k2, k3⟩ := k.rows b c1 h1
  refine ⟨c2, k1, k2.trans h2, fun i => ?_⟩
  rcases k3 i with g | ⟨g1, g2, u, g3, g4⟩
  · rcases h3 i with f | ⟨f1, f2, u, f3, f4⟩
    · exact .inl (g.trans f)
    · exact .inr ⟨f1, f2, u, f3, g.trans f4⟩
  · exact .inr ⟨g1, by omega, u, g3, g4⟩
theorem WroteG.of_grow {w w' : World} (h : Grow w w') (hl : lo ≤ w.heap.size) (K : Nat) (zs : List Value) : WroteG K zs lo w w' :=
  ⟨h.os, h.tape, h.output, h.size, fun k hk => Below.block h k (by omega), fun _ _ _ _ hb => h.block hb, fun _ cs hb => ⟨cs, h.block hb, rfl, fun _ => .inl rfl⟩⟩
theorem WroteG.of_drew {w w' : World} (h : WroteG K zs lo w.drew w') : WroteG K zs lo w w' := ⟨h.os, h.tape, h.output, h.size, h.block, h.typed, h.rows⟩
theorem WroteG.below {w w' : World} (h : WroteG K zs lo w w') : Below lo w w' := ⟨h.os, h.tape, h.output, h.size, h.block⟩
/-- a row that ends ahead of K, or that has zs from K on, stays -/
theorem own_wroteG {w w' : World} {base n : Nat} {v : Value} {xs : List Value} (h : w.ownsRow base 55 6 v n xs) (r : WroteG K zs lo w w') (hn : ∀ i u, K ≤ i → i < n * 6 → zs[i - K]? = some u → xs[i]? = some u) : w'.ownsRow base 55 6 v n xs := by
  refine ⟨h.1, ?_⟩
  rcases h.2 with h2 | ⟨g, cap, cur, hv, hb, hh, h3, h4, h5, h6⟩
  · exact .inl h2
  · obtain ⟨cs', g1, g2, g3⟩ := r.rows g cur hh
    refine .inr ⟨g, cap, cs', hv, hb, g1, h3, h4, by omega, ?_⟩
    have h6' := h6
    rw [← h6]
    refine List.ext_getElem? fun i => ?_
    by_cases hi : i < n * 6
    · rw [List.getElem?_take_of_lt hi, List.getElem?_take_of_lt hi, Array.getElem?_toList, Array.getElem?_toList]
      rcases g3 i with q | ⟨q1, q2, u, q3, q4⟩
      · exact q
      · have h7 := hn i u q1 hi q3
        rw [← h6', List.getElem?_take_of_lt hi, Array.getElem?_toList] at h7
        rw [q4, h7]
    · rw [List.getElem?_eq_none (by simp; omega), List.getElem?_eq_none (by simp; omega)]

set_option maxRecDepth 100000 in
/-- an append onto an own row of glosses: what it leaves, and what it writes -/
theorem append_wroteG {w : World} {lo base : Nat} {v : Value} {xs : List GlossD} {n : Nat} (hown : w.ownsRow base 55 6 v n (xs.flatMap cellsGL)) {ad : Addr} {c B : Nat} {ys : List GlossD} (hr : GlossAt w B (some ad) ys) (hlo : lo ≤ base) (hb : base ≤ w.heap.size) (hs : n + ys.length ≤ 1000) :
    ∃ v' w', (Builtin.append_ #[25, 25] 25 #[v, .slice (some ad) ys.length c]).run Try.prog w = .ok v' w' ∧ w'.ownsRow base 55 6 v' (n + ys.length) ((xs ++ ys).flatMap cellsGL) ∧ WroteG (n * 6) (ys.flatMap cellsGL) lo w w' := by
  obtain ⟨i, hi, hz, hsz, hby⟩ := info_parts Try.infoGloss
  have hnews := gloss_cellsAt hr
  have hnl : (ys.flatMap cellsGL).length = ys.length * 6 := flat_length (enc := cellsGL) (k := 6) (fun _ => rfl) ys
  have hfit : ∀ k o : Nat, o < k → k ≤ 1000 → Builtin.nextslicecap k o * i.bytes ≤ 281474976710656 := fun k o h1 h2 => growslice_fits h1 (by rw [hby]; omega)
  have hone : ∀ u ∈ ys.flatMap cellsGL, u.oneCell' = true := fun u hu => by
    obtain ⟨y, _, hu⟩ := List.mem_flatMap.1 hu
    exact one_gloss y u hu
  obtain ⟨v', w', hrun, hown', _, _⟩ := run_append_own (P := Try.prog) w base 25 25 55 i (.agg #[.int .i64 0, .int .i64 0, .int .i64 0, .int .i64 0, .int .i64 0, .int .i64 0]) 6 48 Try.underlying25 hi hz hsz hby rfl (by omega) v n _ hown ad ys.length c (ys.flatMap cellsGL) hnl hnews hone (by unfold maxLen; omega) (by omega) hb
  refine ⟨v', w', hrun, by rw [List.flatMap_append]; exact hown', ?_⟩
  have alloc : ∀ o, WroteG (n * 6) (ys.flatMap cellsGL) lo w (w.drew.alloc o) := fun o => (WroteG.of_grow (Grow.alloc w.drew o) (Nat.le_trans hlo hb) _ _).of_drew
  rcases hown.2 with ⟨rfl, rfl⟩ | ⟨g, cap, cur, rfl, hbg, hg, hnc, hcm, hcs, htake⟩
  · by_cases h0 : ys = []
    · subst h0
      have e : (Builtin.append_ #[25, 25] 25 #[.slice none 0 0, .slice (some ad) ([] : List GlossD).length c]).run Try.prog w = .ok (.slice none 0 0) w := by
        simp [Builtin.append_, run_underlying Try.underlying25, sizeOf, typeInfo, hi, Builtin.lenOf, Builtin.firstCells, loadCells, loadCellsFrom]
      rw [e] at hrun
      injection hrun with h1 h2
      subst h2
      exact WroteG.refl ..
    · have hp : 0 < ys.length := List.length_pos_iff.2 h0
      have e := run_append_nil (P := Try.prog) w 25 25 55 i (.agg #[.int .i64 0, .int .i64 0, .int .i64 0, .int .i64 0, .int .i64 0, .int .i64 0]) Try.underlying25 hi hz ad ys.length c (ys.flatMap cellsGL) (by rw [hsz]; exact hnl) hnews hp (by omega) (by rw [hby]; omega)
      rw [e] at hrun
      injection hrun with h1 h2
      subst h2
      exact alloc _
  · have hcs' : cur.size = cap * 6 := by omega
    by_cases hroom : n + ys.length ≤ cap
    · have e := run_append_room (P := Try.prog) w 25 25 55 i Try.underlying25 hi g n cap cur hg ad ys.length c (ys.flatMap cellsGL) (by rw [hsz]; exact hnl) hnews hone hroom (by rw [hsz, hnl]; omega)
      rw [e] at hrun
      injection hrun with h1 h2
      subst h2
      have hcell : ∀ j : Nat, (cur.toList.take (n * i.size) ++ ys.flatMap cellsGL ++ cur.toList.drop (n * i.size + (ys.flatMap cellsGL).length)).toArray[j]? = cur[j]? ∨ (n * 6 ≤ j ∧ j < cur.size ∧ ∃ u, (ys.flatMap cellsGL)[j - n * 6]? = some u ∧ (cur.toList.take (n * i.size) ++ ys.flatMap cellsGL ++ cur.toList.drop (n * i.size + (ys.flatMap cellsGL).length)).toArray[j]? = some u) := by
        rw [hsz, hnl]
        intro j
        have htl : (cur.toList.take (n * 6)).length = n * 6 := by rw [List.length_take, Array.length_toList]; omega
        rw [List.getElem?_toArray, List.append_assoc]
        rcases Nat.lt_or_ge j (n * 6) with h1 | h1
        · left
          rw [List.getElem?_append_left (by rw [htl]; exact h1), List.getElem?_take_of_lt h1, Array.getElem?_toList]
        · rw [List.getElem?_append_right (by rw [htl]; exact h1), htl]
          rcases Nat.lt_or_ge (j - n * 6) (ys.length * 6) with h2 | h2
          · right
            refine ⟨h1, by omega, _, List.getElem?_eq_getElem (by rw [hnl]; exact h2), ?_⟩
            rw [List.getElem?_append_left (by rw [hnl]; exact h2)]
            exact List.getElem?_eq_getElem _
          · left
            rw [List.getElem?_append_right (by rw [hnl]; exact h2), hnl, List.getElem?_drop, Array.getElem?_toList, show n * 6 + ys.length * 6 + (j - n * 6 - ys.length * 6) = j by omega]
      refine ⟨rfl, rfl, rfl, by simp, fun k hk => setRow_other w g k _ (by omega), fun b t cs ht hb' => ?_, fun b cs hb' => ?_⟩
      · by_cases hbg' : b = g
        · subst hbg'
          have := hb'.symm.trans hg
          simp at this
          exact absurd this.2 ht
        · exact (setRow_other w g b _ hbg').trans hb'
      · by_cases hbg' : b = g
        · subst hbg'
          have hcur : cs = cur := by
            have := hb'.symm.trans hg
            simpa using this
          subst hcur
          refine ⟨_, setRow_heap w b cs _ 55 _ hg, ?_, hcell⟩
          rw [List.size_toArray, List.length_append, List.length_append, List.length_take, List.length_drop, Array.length_toList, hsz, hnl]
          omega
        · exact ⟨cs, (setRow_other w g b _ hbg').trans hb', rfl, fun _ => .inl rfl⟩
    · have holds : ∀ j u, (xs.flatMap cellsGL)[j]? = some u → w.cell? ((⟨g, 0, none⟩ : Addr).add j) = some u := hown.cells (g := g) rfl
      have e := run_append_grow (P := Try.prog) w 25 25 55 i (.agg #[.int .i64 0, .int .i64 0, .int .i64 0, .int .i64 0, .int .i64 0, .int .i64 0]) Try.underlying25 hi hz ⟨g, 0, none⟩ n cap (xs.flatMap cellsGL) (by rw [hsz]; exact hown.1) holds ad ys.length c (ys.flatMap cellsGL) (by rw [hsz]; exact hnl) hnews (by omega) (by omega) (hfit _ _ (by omega) (by omega))
      rw [e] at hrun
      injection hrun with h1 h2
      subst h2
      exact alloc _

end Go.Proofs.Ytinlojealfbbfaa

namespace Go.Proofs.Ytinlojealfbbfaa
open Go.RowKit

structure ThereD where
  film : Int
  frame : Int
  a : Int
  b : Int
  set : Int
abbrev cellsTh (x : ThereD) : Array Value := #[.int .i64 x.film, .int .i64 x.frame, .int .i64 x.a, .int .i64 x.b, .int .i64 x.set]
abbrev thereV (x : ThereD) : Value := .agg (cellsTh x)

theorem sub_two {l : List GlossD} {i : Nat} {y : GlossD} (h : y ∈ l.take i ++ l.drop (i + 1)) : y ∈ l := by
  rcases List.mem_append.1 h with h | h
  · exact List.mem_of_mem_take h
  · exact List.mem_of_mem_drop h
theorem GlossAt.drop' {w : World} {B g off : Nat} {l : List GlossD} (h : GlossAt w B (some ⟨g, off, none⟩) l) (p : Nat) : GlossAt w B (some ⟨g, off + p * 6, none⟩) (l.drop p) := by
  rcases h with rfl | ⟨b, off, e, hl, hc⟩
  · exact .inl (by simp)
  · injection e with e
    injection e with e1 e2
    subst e1 e2
    refine .inr ⟨_, _, rfl, hl, fun i x hi j hj => ?_⟩
    rw [List.getElem?_drop] at hi
    have := hc (p + i) x hi j hj
    rw [← this]
    congr 2
    omega
theorem GlossAt.take' {w : World} {B : Nat} {A : Option Addr} {l : List GlossD} (h : GlossAt w B A l) (p : Nat) : GlossAt w B A (l.take p) := by
  rcases h with rfl | ⟨b, off, e, hl, hc⟩
  · exact .inl (by simp)
  · refine .inr ⟨b, off, e, hl, fun i x hi j hj => hc i x ?_ j hj⟩
    rw [List.getElem?_take] at hi
    split at hi
    · exact hi
    · cases hi
structure MixD where
  at_ : Int
  cut : Int
  twice : Bool
abbrev cellsX (x : MixD) : Array Value := #[.int .i64 x.at_, .int .i64 x.cut, .bool x.twice]
abbrev mixV (x : MixD) : Value := .agg (cellsX x)
/-- an own row of glosses -/
def OwnGl (lo n : Nat) (l : List GlossD) (v : Value) (w : World) : Prop := ∃ A c, v = .slice A n c ∧ w.ownsRow lo 55 6 (.slice A n c) n (l.flatMap cellsGL)
/-- the first ones, with or without what is written behind them -/
theorem OwnGl.wrote {lo l i n : Nat} {a b : List GlossD} {v : Value} {w w' : World} (hi : a.length = i) (h : OwnGl l n (a ++ b) v w) (g : WroteG (i * 6) (b.flatMap cellsGL) lo w w') : OwnGl l n (a ++ b) v w' := by
  obtain ⟨A, c, h1, h2⟩ := h
  refine ⟨A, c, h1, own_wroteG h2 g fun j u h3 _ h5 => ?_⟩
  rw [List.flatMap_append, List.getElem?_append_right (by rw [flat_length (enc := cellsGL) (k := 6) (fun _ => rfl) a, hi]; exact h3), flat_length (enc := cellsGL) (k := 6) (fun _ => rfl) a, hi]
  exact h5
theorem OwnGl.wroteS {lo l i : Nat} {a : List GlossD} {zs : List Value} {v : Value} {w w' : World} (h : OwnGl l i a v w) (g : WroteG (i * 6) zs lo w w') : OwnGl l i a v w' := by
  obtain ⟨A, c, h1, h2⟩ := h
  exact ⟨A, c, h1, own_wroteG h2 g fun j u h3 h4 _ => by omega⟩
theorem ownGl_at {lo n c : Nat} {A : Option Addr} {l : List GlossD} {w : World} (h : w.ownsRow lo 55 6 (.slice A n c) n (l.flatMap cellsGL)) (hn : l.length = n) : GlossAt w w.heap.size A l := by
  subst hn
  exact GlossT.at_ (lo := lo) (cap := c) h
/-- what is left of a row -/
def DropV (lo n : Nat) (l : List GlossD) (v : Value) (w : World) : Prop := ∃ a c, v = .slice (some a) n c ∧ GlossAt w lo (some a) l
theorem DropV.wrote {lo n K : Nat} {zs : List Value} {l : List GlossD} {v : Value} {w w' : World} (h : DropV lo n l v w) (g : WroteG K zs lo w w') : DropV lo n l v w' := by
  obtain ⟨a, c, h1, h2⟩ := h
  exact ⟨a, c, h1, h2.below g.below⟩

set_option maxRecDepth 100000 in
set_option maxHeartbeats 16000000 in
theorem glossesProof_any (f : FilmsR) (l : List GlossD) (A : Option Addr) (cap : Nat) (x : ThereD) (w : World) (hf : Ints w w.heap.size f.A f.d.frames) (hA : GlossAt w w.heap.size A l) :
    Calls Try.prog 5 #[filmsV f, .slice A l.length cap, thereV x] w fun e w' => e = .returned (.bool true) ∧ Below w.heap.size w w' := by
  have HI := Lib.hid (fun (w0 : World) (hw : Grow w w0) => (hf.below hw).more hw.size)
  have HGL := Lib.hid (fun (w0 : World) (hw : Grow w w0) => (hA.below hw).more hw.size)
  have HV := Lib.hid (fun (w0 : World) (hw : Grow w w0) => valid_any f l A cap w0.heap.size w0 (HI.out w0 hw) (HGL.out w0 hw) (Nat.le_refl _))
  have HVF := Lib.hid (fun (h : validD f.d l = true) => valid_facts h)
  obtain ⟨vd, hvd⟩ : ∃ q, validD f.d l = q := ⟨_, rfl⟩
  rw [hvd] at HV HVF
  clear hvd hf hA
  go_enter Try.func5, Try.ntmps5
  go_upto_region 1 with fail
  obtain ⟨W, hW, hg, hf, hs, hsz⟩ := two_blocks w 24 42 (cellsF f) (cellsTh x)
  rw [hW]
  clear hW
  have hcc := hf.cell
  have hsc := hs.cell
  have HF := Lib.hid hf
  have HS := Lib.hid hs
  have HG := Lib.hid hg
  clear hf hs hg
  go_wp2_with fail
  refine (HV.out W HG.out).mono ?_
  rintro e w1 ⟨rfl, hb1⟩
  have HG1 : Hid (Grow W w1) := hb1
  clear hb1 hcc hsc HV
  cases vd with
  | false =>
    go_wp2_with fail
    refine (works_any _).mono ?_
    rintro e w2 ⟨rfl, hb2⟩
    go_wp2
    go_ret
    exact ⟨rfl, HG.out.trans (HG1.out.trans hb2)⟩
  | true =>
    obtain ⟨hok, hgl, hl12, hncl, hre, hfl4⟩ := HVF.out rfl
    have HOK := Lib.hid hok
    have HRE := Lib.hid hre
    have HGO := Lib.hid hgl
    clear HVF hok hgl hncl hre
    have hl9 : l.length ≤ 1000 := by omega
    have hf9 : f.d.frames.length ≤ 1000000 := by omega
    have hsc := (HG1.out.block HS.out).cell
    have hcc := (HG1.out.block HF.out).cell
    have HFRM := Lib.hid (fun (w0 : World) (hw : Grow w w0) => rFrame_any f l A cap x.film x.frame w0.heap.size w0 (HI.out w0 hw) (HGL.out w0 hw) (Nat.le_refl _) hf9 hl9)
    obtain ⟨fe, hfe⟩ : ∃ q, frameErr f.d l x.film x.frame = q := ⟨_, rfl⟩
    rw [hfe] at HFRM
    have HFE := Lib.hid hfe
    clear hfe
    go_wp2_with fail
    refine (HFRM.out _ (HG.out.trans HG1.out)).mono ?_
    rintro e w4 ⟨rfl, hb4⟩
    have HG4 : Hid (Grow W w4) := Lib.hid (HG1.out.trans hb4)
    clear hb4 hsc hcc
    by_cases h0 : fe = 0
    · subst h0
      have hfz := frameErr_zero HFE.out
      have HFZ := Lib.hid hfz
      have hfo := frameOf_at HOK.out hfz.2.1.1 hfz.2.1.2
      have HFO := Lib.hid hfo
      have hsc := (HG4.out.block HS.out).cell
      have hcc := (HG4.out.block HF.out).cell
      clear hfz hfo
      have HSM := Lib.hid (fun (y : GlossD) (hy : y ∈ l) => okGloss_small HOK.out (HGO.out y hy))
      have HWA := Lib.hid (fun (w0 : World) (hw : Grow w w0) => whyApi_any sortG_ok f l A cap x.film x.frame w0.heap.size w0 (HI.out w0 hw) (HGL.out w0 hw) (Nat.le_refl _) hf9 hl9 (fun _ => hl12))
      rw [HFE.out] at HWA
      have HRA := Lib.hid (fun (w0 : World) (hw : Grow w w0) => readingsApi_any sortG_ok f l A cap x.film w0.heap.size w0 (HI.out w0 hw) (HGL.out w0 hw) (Nat.le_refl _) hf9 hl9)
      rw [film_zero HRE.out HFZ.out.2.1.1 HFZ.out.2.1.2] at HRA
      go_wp2_with fail
      refine (HWA.out _ (HG.out.trans HG4.out)).mono ?_
      rintro e w5 ⟨v5, rfl, hwv, hb5⟩
      obtain ⟨A5, c5, rfl, hr5, hw5⟩ := hwv.2 rfl
      have HR5 := Lib.hid hr5
      have HG5 : Hid (Grow W w5) := Lib.hid (HG4.out.trans hb5)
      have HW5 := Lib.hid (fun (w0 : World) (hw : Grow w5 w0) => (hw5.below hw).more hw.size)
      clear hwv hb5 hw5 hr5 hsc hcc HWA
      have hsc := (HG5.out.block HS.out).cell
      have hcc := (HG5.out.block HF.out).cell
      go_wp2_with fail
      refine (HRA.out _ (HG.out.trans HG5.out)).mono ?_
      rintro e w6 ⟨v6, rfl, hrv, hb6⟩
      obtain ⟨A7, c7, all3, rfl, hso3, hrt⟩ := hrv.2 rfl
      have HR3 := Lib.hid (read_at HRE.out hso3 HFZ.out.2.2.1 HFZ.out.2.2.2)
      have HRL := Lib.hid (rds_len (setAt f.d.signs.toNat (all3.filter (holdsD all3)) x.film) (f := f.d) (film := x.film) (by have := HFO.out; omega))
      have HRT := Lib.hid hrt
      have HG6 : Hid (Grow W w6) := Lib.hid (HG5.out.trans hb6)
      have HG56 : Hid (Grow w5 w6) := hb6
      generalize rdsTo (setAt f.d.signs.toNat (all3.filter (holdsD all3)) x.film) (frameOf f.d x.film).toNat = rds at HR3 HRL HRT
      clear hrv hso3 hrt hb6 hsc hcc HRA
      have hsc := (HG6.out.block HS.out).cell
      have hsgn := (okFilms_parts HOK.out).2.1
      have HAF := Lib.hid (fun (y : GlossD) (hy : y ∈ rAtD l x.film x.frame) => at_facts HRE.out x.film x.frame y hy)
      have HAL := Lib.hid (Nat.le_trans (rAtD_len l x.film x.frame) hl12)
      have HRAT := Lib.hid (fun (w0 : World) (hw : Grow w w0) => rAt_any rsort_ok l A cap w0.heap.size x.film x.frame w0 (HGL.out w0 hw) (Nat.le_refl _) hl9 HSM.out)
      have HLE := Lib.hid (fun (t : List GlossD) (A' : Option Addr) (c' : Nat) (w0 : World) (ht : GlossAt w0 w0.heap.size A' t) (h9 : t.length ≤ 1000) (hs1 : ∀ y ∈ t, SignsOK y) (sn : Nat) (hsn : f.d.signs = sn) (h10 : sn ≤ 10) => rLeast_any f t A' c' w0.heap.size w0 ht (Nat.le_refl _) h9 hs1 sn hsn h10)
      go_wp2_with fail
      refine (HRAT.out _ (HG.out.trans HG6.out)).mono ?_
      rintro e w7 ⟨A8, c8, rfl, ht8, hb7⟩
      have HG7 : Hid (Grow W w7) := Lib.hid (HG6.out.trans hb7)
      have HG57 : Hid (Grow w5 w7) := Lib.hid (HG56.out.trans hb7)
      have HT8 := Lib.hid (fun (w0 : World) (hw : Grow w7 w0) => GlossT.at_ (ht8.grow hw))
      have HRT7 := Lib.hid (HRT.out.grow hb7)
      generalize rAtD l x.film x.frame = at_ at HAF HAL HR3 HW5 HR5 HT8 ⊢
      obtain ⟨sn, hsn⟩ := Int.eq_ofNat_of_zero_le (show 0 ≤ f.d.signs by omega)
      have hst : f.d.signs.toNat = sn := by rw [hsn]; rfl
      have hsn10 : sn ≤ 10 := by omega
      have HSN := Lib.hid hsn
      rw [hst] at HR3 HAF HW5 HR5 ⊢
      have hq2 : ∀ y ∈ at_, y.signs.toNat ≠ 0 ∧ y.signs.toNat < 2 ^ sn := fun y hy => (HAF.out y hy).2
      have HFD := Lib.hid (firstD_facts (readD_ne hsn10 hq2))
      have HWS := Lib.hid (why_sub sn at_)
      have HWL := Lib.hid (fun (i : Nat) (hi : i < (whyD sn at_).length) => why_less hsn10 hq2 hi)
      have HWT := Lib.hid (fun (s : Nat) (hs : s < 2 ^ sn) (ha : agreesD s (whyD sn at_) = true) => why_set hs ha)
      have hwal : (whyD sn at_).length ≤ at_.length := HWS.out.length_le
      obtain ⟨why, hwhy⟩ : ∃ q, whyD sn at_ = q := ⟨_, rfl⟩
      rw [hwhy] at HW5 HR5 HWS HWL HWT hwal ⊢
      clear hb7 ht8 HRT HRAT hsc hwhy hst hsn hsgn hq2 HG56
      obtain ⟨kf, hkf⟩ := Int.eq_ofNat_of_zero_le HFZ.out.2.1.1
      have hfo := HFO.out
      have hkl : x.film.toNat < f.d.frames.length := lt_of_at hfo.1
      obtain ⟨b, off, y, hAe, hb, hcell, HY⟩ := (HI.out w7 (HG.out.trans HG7.out)).at_ hkl
      have hyf : y = frameOf f.d x.film := by
        have h := HY.out
        rw [hfo.1] at h
        exact (Option.some.inj h).symm
      have hsc := (HG7.out.block HS.out).cell
      have hcc0 := (HG7.out.block HF.out).cell 0
      have hcc2 : w7.cell? ⟨w.heap.size, 0, none⟩ = some (.slice (some ⟨b, off, none⟩) f.d.frames.length f.ca) := by rw [hcc0, ← hAe]; rfl
      have hs0 : w7.cell? ⟨w.heap.size + 1, 0, none⟩ = some (.int .i64 (kf : Nat)) := by rw [hsc 0, ← hkf]; rfl
      have hs1 : w7.cell? ⟨w.heap.size + 1, 1, none⟩ = some (.int .i64 x.frame) := hsc 1
      have hrl : (rds.length : Int) ≤ y := by rw [hyf]; exact HRL.out
      have q4 : decide (y < (rds.length : Int)) = false := decide_eq_false (by omega)
      have q5 : decide ((at_.length : Int) < (why.length : Int)) = false := decide_eq_false (by omega)
      have q6 : decide (at_.length < why.length) = false := decide_eq_false (by omega)
      have hki : (kf : Int) < (f.d.frames.length : Int) := by omega
      have hk0 : (0 : Int) ≤ (kf : Int) := by omega
      rw [hkf, Int.toNat_natCast] at hcell
      clear hsc hcc0 hAe hfo hkl hb hyf hrl hkf
      have HLR := Lib.hid (fun (w0 : World) (hw : Grow w7 w0) => lread_any rds A7 c7 w0.heap.size x.frame w0 ((HRT7.out.grow hw).at_) (by have := HRL.out; have := HFO.out; omega))
      have HRS := Lib.hid (HR3.out.1)
      have HRN := Lib.hid (decide_eq_true HR3.out.2)
      rw [HRS.out, HRN.out] at HLR
      have hlt : firstD sn at_ < 1024 := by
        have h1 : (2 : Nat) ^ sn ≤ 2 ^ 10 := Nat.pow_le_pow_right (by omega) (by omega)
        have := HFD.out.1
        omega
      have HSZ := Lib.hid (fun (w0 : World) => rSize_any (firstD sn at_) w0 hlt)
      rw [HFD.out.2.2.1] at HSZ
      generalize firstD sn at_ = own at HLR HSZ
      obtain ⟨sz, hsz9⟩ : ∃ q, sizeD sn at_ = q := ⟨_, rfl⟩
      rw [hsz9] at HSZ HWL HWT
      clear HRS HRN HR3 HFD hlt hsz9
      go_wp2_with fail
      refine (HLR.out w7 (Grow.refl _)).mono ?_
      rintro e w8 ⟨rfl, rfl⟩
      go_wp2_with fail
      refine (HSZ.out _).mono ?_
      rintro e w8 ⟨rfl, rfl⟩
      clear hcell hcc2 hs0 hs1 q4 q5 q6 hki hk0 HLR HSZ
      have hat12 : at_.length ≤ 12 := HAL.out
      go_wp2_with fail
      go_loopw [16] (fun iv wr => ∃ i : Nat, i ≤ why.length ∧ iv = .int .i64 i ∧ Grow w7 wr) (fun iv _ => why.length - (intOf iv).toNat)
      case atStart => exact ⟨0, Nat.zero_le _, rfl, Grow.refl _⟩
      case round =>
        obtain ⟨i, hi', rfl, hgr⟩ := hrel
        rename World => wr
        have HGR : Hid (Grow w7 wr) := Lib.hid hgr
        clear hgr
        by_cases hlt : i < why.length
        · have hld : decide ((i : Int) < (why.length : Int)) = true := decide_eq_true (by omega)
          have hldn : decide (i < why.length) = true := decide_eq_true hlt
          have HLT := Lib.hid hlt
          obtain ⟨g1, o1, y, e1, hb1, hc1, HY⟩ := (HW5.out wr (HG57.out.trans HGR.out)).at_ hlt
          subst e1
          have HC1 := Lib.hid (fun (w0 : World) (hw : Grow wr w0) (j : Nat) (hj : j < 6) (v : Value) (hv : (cellsG y)[j]? = some v) => Grow.cell hw ((hc1 j hj).trans hv))
          have HYA : Hid (y ∈ at_) := Lib.hid (HWS.out.subset (List.mem_of_getElem? HY.out))
          have hki : (i : Int) < (why.length : Int) := by omega
          have hk0 : (0 : Int) ≤ (i : Int) := by omega
          clear hb1 hc1 hlt
          go_wp2_with fail
          go_loopw [17, 18] (fun fv kv wi => ∃ (k : Nat) (fb : Bool), k ≤ at_.length ∧ kv = .int .i64 k ∧ fv = .bool fb ∧ Hid (fb = (at_.take k).any (fun z => decide (z = y))) ∧ Grow wr wi) (fun _ kv _ => at_.length - (intOf kv).toNat)
          case atStart => exact ⟨0, false, Nat.zero_le _, rfl, rfl, rfl, Grow.refl _⟩
          case round =>
            obtain ⟨k, fb, hk', rfl, rfl, HFB, hgi⟩ := hrel
            rename World => wi
            have HGI : Hid (Grow wr wi) := Lib.hid hgi
            clear hgi
            by_cases hkt : k < at_.length
            · have hkd : decide ((k : Int) < (at_.length : Int)) = true := decide_eq_true (by omega)
              have hkdn : decide (k < at_.length) = true := decide_eq_true hkt
              have HKT := Lib.hid hkt
              obtain ⟨g2, o2, z, e2, hb2, hc2, HZ⟩ := (HT8.out wi (HGR.out.trans HGI.out)).at_ hkt
              subst e2
              have HTS : Hid ((at_.take (k + 1)).any (fun z => decide (z = y)) = (fb || decide (z = y))) := Lib.hid (by rw [take_snoc HZ.out, List.any_append, ← HFB.out]; simp)
              have hkk : (k : Int) < (at_.length : Int) := by omega
              have hkk0 : (0 : Int) ≤ (k : Int) := by omega
              have a0 := hc2 0 (by omega); have a1 := hc2 1 (by omega); have a2 := hc2 2 (by omega); have a3 := hc2 3 (by omega); have a4 := hc2 4 (by omega); have a5 := hc2 5 (by omega)
              have e0 := HC1.out wi HGI.out 0 (by omega) _ rfl; have e1 := HC1.out wi HGI.out 1 (by omega) _ rfl; have e2 := HC1.out wi HGI.out 2 (by omega) _ rfl; have e3 := HC1.out wi HGI.out 3 (by omega) _ rfl; have e4 := HC1.out wi HGI.out 4 (by omega) _ rfl; have e5 := HC1.out wi HGI.out 5 (by omega) _ rfl
              rw [Nat.add_zero] at a0 e0
              have heq : ∀ w0 : World, (Op.equalIn 10000 55 (glossV z) (glossV y)).run Try.prog w0 = .ok (decide (z = y)) w0 := run_eqG z y
              obtain ⟨zy, hzy⟩ : ∃ q, decide (z = y) = q := ⟨_, rfl⟩
              rw [hzy] at heq HTS
              clear hb2 hc2 hkt hzy
              cases fb with
              | true =>
                go_upto_region 18 with fail
                go_quiet (fail)
                have HD : Hid (Grow wr (wi.drewN nq)) := Lib.hid (Below.drewN_ HGI.out _)
                clear a0 a1 a2 a3 a4 a5 e0 e1 e2 e3 e4 e5
                go_wp2
                go_roundw
                case rel => exact ⟨k + 1, true, HKT.out, by go_num, rfl, by rw [HTS.out]; rfl, HD.out⟩
                case measure => have := HKT.out; simp [intOf]; omega
              | false =>
                go_upto_region 18 with fail
                go_quiet (fail)
                have HD : Hid (Grow wr (wi.drewN nq)) := Lib.hid (Below.drewN_ HGI.out _)
                clear a0 a1 a2 a3 a4 a5 e0 e1 e2 e3 e4 e5
                go_wp2
                go_roundw
                case rel => exact ⟨k + 1, zy, HKT.out, by go_num, rfl, by rw [HTS.out]; rfl, HD.out⟩
                case measure => have := HKT.out; simp [intOf]; omega
            · obtain rfl : k = at_.length := by omega
              have hkd : decide ((at_.length : Int) < (at_.length : Int)) = false := by simp
              have hkdn : decide (at_.length < at_.length) = false := by simp
              have hft : fb = true := by
                rw [HFB.out, List.take_length, List.any_eq_true]
                exact ⟨y, HYA.out, decide_eq_true rfl⟩
              subst hft
              have HGN : Hid (Grow w7 wi) := Lib.hid (HGR.out.trans HGI.out)
              clear hkt
              go_wp2
              go_roundw
              case rel => exact ⟨i + 1, HLT.out, by go_num, HGN.out⟩
              case measure => have := HLT.out; simp [intOf]; omega
        · obtain rfl : i = why.length := by omega
          have hld : decide ((why.length : Int) < (why.length : Int)) = false := by simp
          have hldn : decide (why.length < why.length) = false := by simp
          clear hlt
          have HWRG := Lib.hid HGR.out
          have hwal12 : why.length ≤ 12 := by omega
          have hpos0 : 0 ≤ why.length := Nat.zero_le _
          go_wp2_with fail
          go_loopw [19] (fun iv wr => ∃ i : Nat, i ≤ why.length ∧ iv = .int .i64 i ∧ Grow w7 wr) (fun iv _ => why.length - (intOf iv).toNat)
          case atStart => exact ⟨0, Nat.zero_le _, rfl, HGR.out⟩
          case round =>
            clear hld hldn
            obtain ⟨i, hi', rfl, hgi⟩ := hrel
            rename World => wi
            have HGI : Hid (Grow w7 wi) := Lib.hid hgi
            clear hgi
            by_cases hlt : i < why.length
            · have hld : decide ((i : Int) < (why.length : Int)) = true := decide_eq_true (by omega)
              have hldn : decide (i < why.length) = true := decide_eq_true hlt
              have HLT := Lib.hid hlt
              have HRW := HW5.out wi (HG57.out.trans HGI.out)
              obtain ⟨gA, gO, y, e1, hb1, hc1, HY⟩ := HRW.at_ hlt
              subst e1
              have hr5 : why.length ≤ c5 := HR5.out
              have HTL : Hid ((why.take i).length = i) := Lib.hid (by rw [List.length_take]; omega)
              have HDL : Hid ((why.drop (i + 1)).length = why.length - (i + 1)) := Lib.hid (by rw [List.length_drop])
              have HLL := Lib.hid (HWL.out i hlt)
              obtain ⟨sl, hsl⟩ : ∃ q, sizeD sn (why.take i ++ why.drop (i + 1)) = q := ⟨_, rfl⟩
              have HSL := Lib.hid hsl
              rw [hsl] at HLL
              have d1 : decide ((sz : Int) ≤ (sl : Int)) = false := decide_eq_false (by have := HLL.out; omega)
              have d2 : decide (sz ≤ sl) = false := decide_eq_false (by have := HLL.out; omega)
              obtain ⟨lo, hlo⟩ : ∃ q, wi.heap.size = q := ⟨_, rfl⟩
              have HLO := Lib.hid hlo
              have HRT := Lib.hid (GlossAt.take' HRW i)
              have HRD := Lib.hid (GlossAt.drop' HRW (i + 1))
              rw [hlo] at HRT HRD
              have HCO := Lib.hid (fun (A : Option Addr) (c : Nat) (w0 : World) (h : GlossAt w0 w0.heap.size A (why.take i)) => copied_any (why.take i) A c w0.heap.size w0 h (Nat.le_refl _) (by rw [HTL.out]; omega))
              rw [HTL.out] at HCO
              have HLS := Lib.hid (fun (A : Option Addr) (c : Nat) (w0 : World) (h : GlossAt w0 w0.heap.size A (why.take i ++ why.drop (i + 1))) => HLE.out (why.take i ++ why.drop (i + 1)) A c w0 h (by rw [List.length_append, HTL.out, HDL.out]; omega) (fun y hy => (HAF.out y (HWS.out.subset (sub_two hy))).1) sn HSN.out hsn10 (fun y hy => (HAF.out y (HWS.out.subset (sub_two hy))).2))
              rw [List.length_append, HTL.out, HDL.out, HSL.out] at HLS
              obtain ⟨nd, hnd⟩ : ∃ q, why.length - (i + 1) = q := ⟨_, rfl⟩
              have HND : Hid ((why.drop (i + 1)).length = nd) := Lib.hid (HDL.out.trans hnd)
              rw [hnd] at HLS
              have HFI := Lib.hid ((HG7.out.trans HGI.out).block HF.out)
              have hi0 : (0 : Int) ≤ (i : Int) := by omega
              have hi1 : (0 : Int) ≤ (i : Int) + 1 := by omega
              have hi2 : (i : Int) ≤ (c5 : Int) := by omega
              have hi3 : (i : Int) + 1 ≤ (why.length : Int) := by omega
              have hi4 : (i : Int) ≤ (why.length : Int) := by omega
              clear hb1 hc1 HY hlt hlo HRW hsl HDL
              go_upto_region 24 with fail
              have HLN : Hid ((why.take i ++ why.drop (i + 1)).length = i + nd) := Lib.hid (by rw [List.length_append, HTL.out, HND.out])
              refine wp_region_lit 12 [[], [], [], [(1, 127), (2, 128)], [(3, 129)], [], [], [(6, 132)], [(5, 131), (7, 133)], [(4, 130), (8, 134)], [(0, 126), (9, 135)], []] (WroteG (i * 6) ((why.drop (i + 1)).flatMap cellsGL) lo) (fun qi v w' => match qi with
                  | 0 => v = filmsV f
                  | 1 => v = .slice (some ⟨gA, gO, none⟩) why.length c5
                  | 2 => v = .int .i64 (i : Nat)
                  | 3 => v = .slice (some ⟨gA, gO, none⟩) i c5
                  | 4 => OwnGl lo i (why.take i) v w'
                  | 5 => v = .slice (some ⟨gA, gO, none⟩) why.length c5
                  | 6 => v = .int .i64 (i : Nat)
                  | 7 => v = .int .i64 ((i : Int) + 1)
                  | 8 => DropV lo nd (why.drop (i + 1)) v w'
                  | 9 => OwnGl lo (i + nd) (why.take i ++ why.drop (i + 1)) v w'
                  | 10 => v = .int .i64 (sl : Nat)
                  | 11 => v = .int .i64 (sz : Nat)
                  | _ => False) (by kernel_rfl) (by kernel_rfl) (fun _ _ _ => WroteG.trans) (WroteG.refl _ _ _) ?_ ?_ ?_
              · intro i v y y' h k
                match i, h with
                | 4, h => exact h.wroteS k
                | 8, h => exact h.wrote k
                | 9, h => exact OwnGl.wrote HTL.out h k
                | 0, h | 1, h | 2, h | 3, h | 5, h | 6, h | 7, h | 10, h | 11, h => exact h
              · simp only [StepsLit, List.take_succ_cons, List.take_zero]
                refine ⟨?_, ?_, ?_, ?_, ?_, ?_, ?_, ?_, ?_, ?_, ?_, ?_, trivial⟩
                · intro w5 hR
                  have hGw : (WroteG (i * 6) ((why.drop (i + 1)).flatMap cellsGL) lo) wi w5 := hR.of_drew
                  have HGW := Lib.hid hGw
                  have hz5 : lo ≤ w5.heap.size := by rw [← HLO.out]; exact hGw.size
                  have hb5 : Below lo wi w5 := hGw.below
                  have hcc := (BlockIs.below HFI.out hb5 (by rw [← HLO.out]; exact HFI.out.lt)).cell
                  clear hR hGw
                  simp only [depV]
                  try go_simp
                  all_goals first
                    | (with_reducible exact (WroteG.refl _ _ _) _)
                    | (with_reducible exact ⟨(WroteG.refl _ _ _) _, rfl⟩)
                · intro w5 hR
                  have hGw : (WroteG (i * 6) ((why.drop (i + 1)).flatMap cellsGL) lo) wi w5 := hR.of_drew
                  have HGW := Lib.hid hGw
                  have hz5 : lo ≤ w5.heap.size := by rw [← HLO.out]; exact hGw.size
                  have hb5 : Below lo wi w5 := hGw.below
                  have hcc := (BlockIs.below HFI.out hb5 (by rw [← HLO.out]; exact HFI.out.lt)).cell
                  clear hR hGw
                  simp only [depV]
                  try go_simp
                  all_goals first
                    | (with_reducible exact (WroteG.refl _ _ _) _)
                    | (with_reducible exact ⟨(WroteG.refl _ _ _) _, rfl⟩)
                · intro w5 hR
                  have hGw : (WroteG (i * 6) ((why.drop (i + 1)).flatMap cellsGL) lo) wi w5 := hR.of_drew
                  have HGW := Lib.hid hGw
                  have hz5 : lo ≤ w5.heap.size := by rw [← HLO.out]; exact hGw.size
                  have hb5 : Below lo wi w5 := hGw.below
                  have hcc := (BlockIs.below HFI.out hb5 (by rw [← HLO.out]; exact HFI.out.lt)).cell
                  clear hR hGw
                  simp only [depV]
                  try go_simp
                  all_goals first
                    | (with_reducible exact (WroteG.refl _ _ _) _)
                    | (with_reducible exact ⟨(WroteG.refl _ _ _) _, rfl⟩)
                · intro w5 hR
                  have hGw : (WroteG (i * 6) ((why.drop (i + 1)).flatMap cellsGL) lo) wi w5 := hR.of_drew
                  have HGW := Lib.hid hGw
                  have hz5 : lo ≤ w5.heap.size := by rw [← HLO.out]; exact hGw.size
                  have hb5 : Below lo wi w5 := hGw.below
                  have hcc := (BlockIs.below HFI.out hb5 (by rw [← HLO.out]; exact HFI.out.lt)).cell
                  clear hR hGw
                  simp only [depV]
                  rintro _ rfl
                  rintro _ rfl
                  try go_simp
                  all_goals first
                    | (with_reducible exact (WroteG.refl _ _ _) _)
                    | (with_reducible exact ⟨(WroteG.refl _ _ _) _, rfl⟩)
                · intro w5 hR
                  have hGw : (WroteG (i * 6) ((why.drop (i + 1)).flatMap cellsGL) lo) wi w5 := hR.of_drew
                  have HGW := Lib.hid hGw
                  have hz5 : lo ≤ w5.heap.size := by rw [← HLO.out]; exact hGw.size
                  have hb5 : Below lo wi w5 := hGw.below
                  have hcc := (BlockIs.below HFI.out hb5 (by rw [← HLO.out]; exact HFI.out.lt)).cell
                  clear hR hGw
                  simp only [depV]
                  rintro _ rfl
                  clear hcc
                  try go_simp
                  refine (HCO.out _ c5 w5 ((HRT.out.below hb5).more hz5)).mono ?_
                  rintro e w6 ⟨A4, c4, rfl, ht4, hb6⟩
                  refine ⟨WroteG.of_grow hb6 hz5 _ _, A4, c4, rfl, ?_⟩
                  have h4 := own_mono ht4 hz5
                  rw [HTL.out] at h4
                  exact h4
                · intro w5 hR
                  have hGw : (WroteG (i * 6) ((why.drop (i + 1)).flatMap cellsGL) lo) wi w5 := hR.of_drew
                  have HGW := Lib.hid hGw
                  have hz5 : lo ≤ w5.heap.size := by rw [← HLO.out]; exact hGw.size
                  have hb5 : Below lo wi w5 := hGw.below
                  have hcc := (BlockIs.below HFI.out hb5 (by rw [← HLO.out]; exact HFI.out.lt)).cell
                  clear hR hGw
                  simp only [depV]
                  try go_simp
                  all_goals first
                    | (with_reducible exact (WroteG.refl _ _ _) _)
                    | (with_reducible exact ⟨(WroteG.refl _ _ _) _, rfl⟩)
                · intro w5 hR
                  have hGw : (WroteG (i * 6) ((why.drop (i + 1)).flatMap cellsGL) lo) wi w5 := hR.of_drew
                  have HGW := Lib.hid hGw
                  have hz5 : lo ≤ w5.heap.size := by rw [← HLO.out]; exact hGw.size
                  have hb5 : Below lo wi w5 := hGw.below
                  have hcc := (BlockIs.below HFI.out hb5 (by rw [← HLO.out]; exact HFI.out.lt)).cell
                  clear hR hGw
                  simp only [depV]
                  try go_simp
                  all_goals first
                    | (with_reducible exact (WroteG.refl _ _ _) _)
                    | (with_reducible exact ⟨(WroteG.refl _ _ _) _, rfl⟩)
                · intro w5 hR
                  have hGw : (WroteG (i * 6) ((why.drop (i + 1)).flatMap cellsGL) lo) wi w5 := hR.of_drew
                  have HGW := Lib.hid hGw
                  have hz5 : lo ≤ w5.heap.size := by rw [← HLO.out]; exact hGw.size
                  have hb5 : Below lo wi w5 := hGw.below
                  have hcc := (BlockIs.below HFI.out hb5 (by rw [← HLO.out]; exact HFI.out.lt)).cell
                  clear hR hGw
                  simp only [depV]
                  rintro _ rfl
                  try go_simp
                  exact ⟨WroteG.refl _ _ _ _, IntWalk.i64_in _ (by omega)⟩
                · intro w5 hR
                  have hGw : (WroteG (i * 6) ((why.drop (i + 1)).flatMap cellsGL) lo) wi w5 := hR.of_drew
                  have HGW := Lib.hid hGw
                  have hz5 : lo ≤ w5.heap.size := by rw [← HLO.out]; exact hGw.size
                  have hb5 : Below lo wi w5 := hGw.below
                  have hcc := (BlockIs.below HFI.out hb5 (by rw [← HLO.out]; exact HFI.out.lt)).cell
                  clear hR hGw
                  simp only [depV]
                  rintro _ rfl
                  rintro _ rfl
                  clear hcc
                  by_cases hcp : c5 = i + 1
                  · subst hcp
                    have hwl : why.length = i + 1 := by omega
                    have hnz : nd = 0 := by have := HND.out; rw [List.length_drop] at this; omega
                    subst hnz
                    have HDN : Hid (why.drop (i + 1) = []) := Lib.hid (List.eq_nil_of_length_eq_zero HND.out)
                    rw [hwl] at hi3 ⊢
                    go_simp
                    exact ⟨WroteG.refl _ _ _ _, _, _, rfl, by rw [HDN.out]; exact .inl rfl⟩
                  · have hcp2 : decide (c5 = i + 1) = false := decide_eq_false hcp
                    go_simp
                    exact ⟨WroteG.refl _ _ _ _, _, _, by rw [← hnd], HRD.out.below hb5⟩
                · intro w5 hR
                  have hGw : (WroteG (i * 6) ((why.drop (i + 1)).flatMap cellsGL) lo) wi w5 := hR.of_drew
                  have HGW := Lib.hid hGw
                  have hz5 : lo ≤ w5.heap.size := by rw [← HLO.out]; exact hGw.size
                  have hb5 : Below lo wi w5 := hGw.below
                  have hcc := (BlockIs.below HFI.out hb5 (by rw [← HLO.out]; exact HFI.out.lt)).cell
                  clear hR hGw
                  simp only [depV]
                  intro v4 hv4
                  intro v8 hv8
                  obtain ⟨A4, c4, rfl, ho4⟩ := hv4
                  obtain ⟨a8, c8, rfl, h8⟩ := hv8
                  obtain ⟨v', w', hrun, hown', hwr⟩ := append_wroteG (lo := lo) (c := c8) ho4 h8 (Nat.le_refl _) hz5 (by rw [HND.out]; omega)
                  rw [HND.out] at hrun hown'
                  obtain ⟨A9, c9, rfl⟩ := own_form hown'
                  refine wp_append_headG (s := .tmp 130) (x := .tmp 134) rfl rfl rfl rfl hrun ?_
                  exact ⟨rfl, hwr, A9, c9, rfl, hown'⟩
                · intro w5 hR
                  have hGw : (WroteG (i * 6) ((why.drop (i + 1)).flatMap cellsGL) lo) wi w5 := hR.of_drew
                  have HGW := Lib.hid hGw
                  have hz5 : lo ≤ w5.heap.size := by rw [← HLO.out]; exact hGw.size
                  have hb5 : Below lo wi w5 := hGw.below
                  have hcc := (BlockIs.below HFI.out hb5 (by rw [← HLO.out]; exact HFI.out.lt)).cell
                  clear hR hGw
                  simp only [depV]
                  rintro _ rfl
                  intro v9 hv9
                  obtain ⟨A9, c9, rfl, ho9⟩ := hv9
                  try go_simp
                  refine (HLS.out A9 c9 w5 (ownGl_at ho9 HLN.out)).mono ?_
                  rintro e w6 ⟨rfl, hb6⟩
                  exact ⟨WroteG.of_grow hb6 hz5 _ _, rfl⟩
                · intro w5 hR
                  have hGw : (WroteG (i * 6) ((why.drop (i + 1)).flatMap cellsGL) lo) wi w5 := hR.of_drew
                  have HGW := Lib.hid hGw
                  have hz5 : lo ≤ w5.heap.size := by rw [← HLO.out]; exact hGw.size
                  have hb5 : Below lo wi w5 := hGw.below
                  have hcc := (BlockIs.below HFI.out hb5 (by rw [← HLO.out]; exact HFI.out.lt)).cell
                  clear hR hGw
                  simp only [depV]
                  try go_simp
                  all_goals first
                    | (with_reducible exact (WroteG.refl _ _ _) _)
                    | (with_reducible exact ⟨(WroteG.refl _ _ _) _, rfl⟩)
              · intro w5 hR
                have HG5 : Hid ((WroteG (i * 6) ((why.drop (i + 1)).flatMap cellsGL) lo) wi w5) := Lib.hid hR.of_drew
                clear hR
                simp only [finVC, List.take_succ_cons, List.take_zero, List.drop_succ_cons, List.drop_zero]
                rintro _ rfl
                rintro _ rfl
                rintro _ rfl
                rintro _ rfl
                intro v4 hv4
                rintro _ rfl
                rintro _ rfl
                rintro _ rfl
                intro v8 hv8
                intro v9 hv9
                rintro _ rfl
                rintro _ rfl
                simp only [Act.put, List.setIfInBounds_toArray, List.set_cons_succ, List.set_cons_zero]
                have HB5 : Hid (Grow wi w5) := Lib.hid (by have h := HG5.out.below; rw [← HLO.out] at h; exact h)
                have HGN : Hid (Grow w7 w5) := Lib.hid (HGI.out.trans HB5.out)
                clear hv4 hv8 hv9 HG5
                go_wp2
                go_roundw
                case rel => exact ⟨i + 1, HLT.out, by go_num, HGN.out⟩
                case measure => have := HLT.out; simp [intOf]; omega
            · obtain rfl : i = why.length := by omega
              have hld : decide ((why.length : Int) < (why.length : Int)) = false := by simp
              have hldn : decide (why.length < why.length) = false := by simp
              clear hlt
              have hp9 : 2 ^ sn ≤ 1024 := Nat.le_trans (Nat.pow_le_pow_right (n := 2) (by omega) hsn10) (by decide)
              have hpI : ((2 : Int) ^ sn) = ((2 ^ sn : Nat) : Int) := (Int.natCast_pow 2 sn).symm
              obtain ⟨pw, hpw⟩ : ∃ q, 2 ^ sn = q := ⟨_, rfl⟩
              rw [hpw] at hp9 HWT hpI
              have HWRP : Hid (IntKind.i64.wrap ((2 : Int) ^ sn) = (pw : Int)) := Lib.hid (by
                rw [hpI]
                exact IntWalk.i64_in _ (by omega))
              clear hpI
              have hwr := HWRP.out
              have hcv : IntKind.u64.wrap (sn : Int) = (sn : Int) := IntWalk.u64_in _ (by omega)
              have hsn0 : (0 : Int) ≤ (sn : Int) := by omega
              have hf1 : wi.cell? ⟨w.heap.size, 1, none⟩ = some (.int .i64 (sn : Nat)) := by rw [((HG7.out.trans HGI.out).block HF.out).cell 1, ← HSN.out]; rfl
              have HRW := Lib.hid (HW5.out wi (HG57.out.trans HGI.out))
              have HWO := Lib.hid (fun y hy => (HAF.out y (HWS.out.subset hy)).1)
              have hwl9 : why.length ≤ 1000 := by omega
              clear hpw
              by_cases s1 : x.set < 0
              · have d1 : decide (x.set < 0) = true := decide_eq_true s1
                go_wp2_with fail
                refine (works_any _).mono ?_
                rintro e w10 ⟨rfl, hb10⟩
                go_wp2
                go_ret
                exact ⟨rfl, HG.out.trans (HG7.out.trans (HGI.out.trans hb10))⟩
              · have d1 : decide (x.set < 0) = false := decide_eq_false s1
                by_cases s2 : (pw : Int) ≤ x.set
                · have d2 : decide ((pw : Int) ≤ x.set) = true := decide_eq_true s2
                  go_wp2_with fail
                  refine (works_any _).mono ?_
                  rintro e w10 ⟨rfl, hb10⟩
                  go_wp2
                  go_ret
                  exact ⟨rfl, HG.out.trans (HG7.out.trans (HGI.out.trans hb10))⟩
                · have d2 : decide ((pw : Int) ≤ x.set) = false := decide_eq_false s2
                  obtain ⟨s, hs⟩ := Int.eq_ofNat_of_zero_le (show 0 ≤ x.set by omega)
                  have hsp : s < pw := by omega
                  rw [hs] at d1 d2 ⊢
                  clear s1 s2 hs
                  have HAG := Lib.hid (rAgrees_any s why A5 c5 wi.heap.size wi HRW.out hwl9 HWO.out (by omega))
                  have HSS := Lib.hid (HWT.out s hsp)
                  obtain ⟨ag, hag⟩ : ∃ q, agreesD s why = q := ⟨_, rfl⟩
                  rw [hag] at HAG HSS
                  clear hag
                  go_wp2_with fail
                  refine HAG.out.mono ?_
                  rintro e w9 ⟨rfl, rfl⟩
                  cases ag with
                  | false =>
                    go_wp2_with fail
                    refine (works_any _).mono ?_
                    rintro e w10 ⟨rfl, hb10⟩
                    go_wp2
                    go_ret
                    exact ⟨rfl, HG.out.trans (HG7.out.trans (HGI.out.trans hb10))⟩
                  | true =>
                    have hss : sz ≤ popD s := HSS.out rfl
                    go_wp2_with fail
                    refine (rSize_any s _ (by omega)).mono ?_
                    rintro e w9 ⟨rfl, rfl⟩
                    generalize popD s = ps at hss ⊢
                    have z1 : decide ((sz : Int) ≤ (ps : Int)) = true := decide_eq_true (by omega)
                    have z2 : decide (sz ≤ ps) = true := decide_eq_true hss
                    clear hss
                    go_wp2_with fail
                    refine (works_any _).mono ?_
                    rintro e w10 ⟨rfl, hb10⟩
                    go_wp2
                    go_ret
                    exact ⟨rfl, HG.out.trans (HG7.out.trans (HGI.out.trans hb10))⟩
    · have h0b : decide (fe = 0) = false := decide_eq_false h0
      have h0c : (fe != 0) = true := by simpa using h0
      clear h0
      go_wp2_with fail
      refine (works_any _).mono ?_
      rintro e w5 ⟨rfl, hb5⟩
      go_wp2
      go_ret
      exact ⟨rfl, HG.out.trans (HG4.out.trans hb5)⟩

end Go.Proofs.Ytinlojealfbbfaa

