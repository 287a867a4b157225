/- Breach: the sets of the rules for one member that the people break. -/
import Derived.Test.YticeekkfdkfcgaaAlone
import Derived.Deep.DeepCutAuto
namespace Go.Proofs.Yticeekkfdkfcgaa
open Go.RowKit
open Go.ChangeMaps (setBlock)

/-- the rules among the seen ones that a person breaks -/
def orS (j : JobD) (seen : Array Nat) (p : PersonD) : Nat := (seen.contains 0 && brkD j p 0).toNat + 2 * (seen.contains 1 && brkD j p 1).toNat + 4 * (seen.contains 2 && brkD j p 2).toNat
def breakD (j : JobD) (p : PersonD) : Nat := (brkD j p 0).toNat + 2 * (brkD j p 1).toNat + 4 * (brkD j p 2).toNat
theorem orS_lt (j : JobD) (seen : Array Nat) (p : PersonD) : orS j seen p < 8 := by
  unfold orS
  cases (seen.contains 0 && brkD j p 0) <;> cases (seen.contains 1 && brkD j p 1) <;> cases (seen.contains 2 && brkD j p 2) <;> decide
theorem orS_none (j : JobD) (p : PersonD) : orS j #[] p = 0 := by simp [orS]
theorem orS_all (j : JobD) (seen : Array Nat) (p : PersonD) (h : ∀ r, r < 3 → r ∈ seen) : orS j seen p = breakD j p := by
  unfold orS breakD
  have e : ∀ r, r < 3 → seen.contains r = true := fun r hr => by simpa using h r hr
  rw [e 0 (by omega), e 1 (by omega), e 2 (by omega)]
  simp
theorem orS_push (j : JobD) (seen : Array Nat) (p : PersonD) (r : Nat) (hr : r < 3) (hn : r ∉ seen) : orS j (seen.push r) p = if brkD j p r = true then orS j seen p ||| 2 ^ r else orS j seen p := by
  have hc : seen.contains r = false := by simpa using hn
  have hp : ∀ k, (seen.push r).contains k = (seen.contains k || k == r) := fun k => by
    rw [Bool.eq_iff_iff]
    simp [Array.mem_push]
  unfold orS
  rw [hp 0, hp 1, hp 2]
  rcases (show r = 0 ∨ r = 1 ∨ r = 2 by omega) with rfl | rfl | rfl
  · rw [hc]
    cases seen.contains 1 <;> cases seen.contains 2 <;> cases brkD j p 0 <;> cases brkD j p 1 <;> cases brkD j p 2 <;> rfl
  · rw [hc]
    cases seen.contains 0 <;> cases seen.contains 2 <;> cases brkD j p 0 <;> cases brkD j p 1 <;> cases brkD j p 2 <;> rfl
  · rw [hc]
    cases seen.contains 0 <;> cases seen.contains 1 <;> cases brkD j p 0 <;> cases brkD j p 1 <;> cases brkD j p 2 <;> rfl
def mixS {α : Type} (f g : α → Nat) (l : List α) (k : Nat) : List Nat := (l.take k).map f ++ (l.drop k).map g
theorem mixS_zero {α : Type} (f g : α → Nat) (l : List α) : mixS f g l 0 = l.map g := by simp [mixS]
theorem mixS_all {α : Type} (f g : α → Nat) (l : List α) : mixS f g l l.length = l.map f := by simp [mixS]
theorem mixS_len {α : Type} (f g : α → Nat) (l : List α) (k : Nat) : (mixS f g l k).length = l.length := by
  unfold mixS
  rw [List.length_append, List.length_map, List.length_map, ← List.length_append, List.take_append_drop]
theorem mixS_at {α : Type} {f g : α → Nat} {l : List α} {k : Nat} {x : α} (hx : l[k]? = some x) : (mixS f g l k)[k]? = some (g x) := by
  have hk := lt_of_at hx
  unfold mixS
  rw [List.getElem?_append_right (by simp; omega), List.getElem?_map, List.getElem?_drop]
  simp [Nat.min_eq_left (Nat.le_of_lt hk), hx]
theorem mixS_succ {α : Type} {f g : α → Nat} {l : List α} {k : Nat} {x : α} (hx : l[k]? = some x) : mixS f g l (k + 1) = (mixS f g l k).set k (f x) := by
  have hk := lt_of_at hx
  unfold mixS
  rw [take_snoc hx, List.map_append, List.append_assoc, List.set_append_right _ _ (by simp; omega)]
  congr 1
  have hd : l.drop k = x :: l.drop (k + 1) := by
    rw [List.drop_eq_getElem_cons hk]
    congr 1
    exact Option.some.inj ((List.getElem?_eq_getElem hk).symm.trans hx)
  rw [hd]
  simp [Nat.min_eq_left (Nat.le_of_lt hk)]
theorem mixS_same {α : Type} {f g : α → Nat} {l : List α} {k : Nat} {x : α} (hx : l[k]? = some x) (h : f x = g x) : mixS f g l (k + 1) = mixS f g l k := by
  rw [mixS_succ hx, h]
  have h1 := mixS_at (f := f) (g := g) hx
  refine List.ext_getElem? fun i => ?_
  rw [List.getElem?_set]
  split
  · rename_i e
    subst e
    rw [if_pos (lt_of_at h1), h1]
  · rfl

theorem or_i64 (a b : Nat) (ha : a < 1048576) (hb : b < 1048576) : bits .or .i64 (a : Int) (b : Int) = ((a ||| b : Nat) : Int) := by
  have h1 : a ||| b < 2 ^ 20 := Nat.or_lt_two_pow (by omega) (by omega)
  have e1 : ∀ n : Nat, n < 1048576 → (BitVec.ofInt 64 (n : Int)).toNat = n := fun n hn => by
    rw [BitVec.ofInt_natCast, BitVec.toNat_ofNat]
    exact Nat.mod_eq_of_lt (by omega)
  show IntKind.i64.wrap ((BitVec.ofInt 64 (a : Int) ||| BitVec.ofInt 64 (b : Int)).toNat : Int) = _
  rw [BitVec.toNat_or, e1 a ha, e1 b hb]
  exact IntWalk.i64_in _ (by omega)
abbrev natCells (l : List Nat) : Array Value := (l.map fun n => Value.int .i64 (n : Nat)).toArray
theorem natCells_set (l : List Nat) (k v : Nat) : (natCells l).setIfInBounds k (.int .i64 (v : Nat)) = natCells (l.set k v) := by
  unfold natCells
  rw [List.setIfInBounds_toArray, List.map_set]

/-! ### The range over the rules -/
def IterR (w : World) (r m : Nat) (seen : Array Nat) : Prop := w.heap[r]? = some (.mapIter (some m) 3 seen 3)
theorem entF_mem {jb : Nat} {e : MapEntry} (h : e ∈ (entF jb).toList) : ∃ r, r < 3 ∧ e = entN jb (r : Nat) (ruleF r) r := by
  simp only [entF, List.mem_cons, List.not_mem_nil, or_false] at h
  rcases h with rfl | rfl | rfl
  · exact ⟨0, by omega, rfl⟩
  · exact ⟨1, by omega, rfl⟩
  · exact ⟨2, by omega, rfl⟩
theorem entF_in (jb : Nat) {r : Nat} (h : r < 3) : entN jb (r : Nat) (ruleF r) r ∈ (entF jb).toList := by
  simp only [entF, List.mem_cons, List.not_mem_nil, or_false]
  rcases (show r = 0 ∨ r = 1 ∨ r = 2 by omega) with rfl | rfl | rfl
  · exact .inl rfl
  · exact .inr (.inl rfl)
  · exact .inr (.inr rfl)
theorem next_rule {w : World} {it m jb : Nat} {seen : Array Nat} (ty : TypeId) (hr : IterR w it m seen) (hb : w.heap[m]? = some (.map (entF jb) 3)) :
    ((∀ r, r < 3 → r ∈ seen) ∧ (Instr.next (.pointer (some ⟨it, 0, none⟩)) false ty).run Try.prog w = .ok (.tuple #[.bool false]) w) ∨
    ∃ r, r < 3 ∧ r ∉ seen ∧ ∃ w1 : World, (w1 = w ∨ w1 = w.drew) ∧
      (Instr.next (.pointer (some ⟨it, 0, none⟩)) false ty).run Try.prog w = .ok (.tuple #[.bool true, .int .i64 (r : Nat), .func (.func (ruleF r)) #[] #[.pointer (some ⟨jb, 0, none⟩)]]) (setBlock w1 it (.mapIter (some m) 3 (seen.push r) 3)) := by
  rcases run_next_at (P := Try.prog) w ty it m 3 3 seen (entF jb) 3 hr hb (fun e he => by obtain ⟨r, h, rfl⟩ := entF_mem he; exact h) (Nat.le_refl _) with ⟨h0, hn⟩ | ⟨e, he, w1, hw, hn⟩
  · refine .inl ⟨fun k hx => ?_, hn⟩
    by_cases hk : k ∈ seen
    · exact hk
    · have : entN jb (k : Nat) (ruleF k) k ∈ (leftOf (entF jb) seen).toList := by
        simp only [leftOf, Array.toList_filter, List.mem_filter]
        exact ⟨entF_in jb hx, by simpa [entN] using hk⟩
      have h1 : (leftOf (entF jb) seen).toList.length = 0 := by simpa using h0
      rw [List.length_eq_zero_iff.1 h1] at this
      simp at this
  · simp only [leftOf, Array.toList_filter, List.mem_filter] at he
    obtain ⟨r, hr, rfl⟩ := entF_mem he.1
    exact .inr ⟨r, hr, by simpa [entN] using he.2, w1, hw, hn⟩
theorem entry_rule {w : World} {it m jb r : Nat} {seen : Array Nat} (hr : IterR w it m (seen.push r)) (hb : w.heap[m]? = some (.map (entF jb) 3)) (h3 : r < 3) :
    (Instr.entry (.pointer (some ⟨it, 0, none⟩))).run Try.prog w = .ok (.tuple #[.int .i64 (r : Nat), .func (.func (ruleF r)) #[] #[.pointer (some ⟨jb, 0, none⟩)]]) w :=
  run_entry_at (P := Try.prog) w it m 3 seen (entF jb) 3 (entN jb (r : Nat) (ruleF r) r) hr hb (entF_in jb h3) (by simp [entF, entN])
theorem left_rule {jb r : Nat} {seen : Array Nat} (h3 : r < 3) (hk : r ∉ seen) : (leftOf (entF jb) (seen.push r)).size < (leftOf (entF jb) seen).size := by
  refine left_shrinks (entF jb) seen (entN jb (r : Nat) (ruleF r) r) ?_
  simp only [leftOf, Array.toList_filter, List.mem_filter]
  exact ⟨entF_in jb h3, by simpa [entN] using hk⟩
theorem IterR.seen {w : World} {r m : Nat} {seen : Array Nat} (h : IterR w r m seen) : w.iterSeen r = seen := by
  unfold World.iterSeen; rw [h]

/-- what stands while the rules are gone through -/
structure BrS (W wr : World) (it m jb sb : Nat) (j : JobD) (seen : Array Nat) (L : List Nat) : Prop where
  iter : IterR wr it m seen
  map : wr.heap[m]? = some (.map (entF jb) 3)
  job : BlockIs wr jb 27 (cellsJ j)
  sets : BlockIs wr sb 3 (natCells L)
  below : Below W.heap.size W wr
theorem lt_heap {w : World} {b : Nat} {o : Obj} (h : w.heap[b]? = some o) : b < w.heap.size := (Array.getElem?_eq_some_iff.1 h).1
theorem BrS.grow {W wr w' : World} {it m jb sb : Nat} {j : JobD} {seen : Array Nat} {L : List Nat} (h : BrS W wr it m jb sb j seen L) (g : Grow wr w') : BrS W w' it m jb sb j seen L :=
  ⟨(Below.block g it (lt_heap h.iter)).trans h.iter, (Below.block g m (lt_heap h.map)).trans h.map, g.block h.job, g.block h.sets, h.below.trans (Below.mono g h.below.size)⟩
theorem BrS.store {W wr : World} {it m jb sb : Nat} {j : JobD} {seen : Array Nat} {L : List Nat} (h : BrS W wr it m jb sb j seen L) (hs : W.heap.size ≤ sb) (k v : Nat) : BrS W (wr.setCell ⟨sb, k, none⟩ (.int .i64 (v : Nat))) it m jb sb j seen (L.set k v) := by
  have hb : ∀ b o, wr.heap[b]? = some o → wr.heap[sb]? ≠ some o → (wr.setCell ⟨sb, k, none⟩ (.int .i64 (v : Nat))).heap[b]? = some o := fun b o ho hn => by
    have : b ≠ sb := fun e => hn (by rw [← e]; exact ho)
    exact (Below.heap_setCell wr ⟨sb, k, none⟩ _ b this).trans ho
  have hss : wr.heap[sb]? = some (.cells (natCells L) 3 (0, 0)) := h.sets
  refine ⟨hb _ _ h.iter (by rw [hss]; simp), hb _ _ h.map (by rw [hss]; simp), hb _ _ h.job (by rw [hss]; simp), ?_, h.below.setCell (p := ⟨sb, k, none⟩) hs _⟩
  have := h.sets.near k (.int .i64 (v : Nat))
  rwa [natCells_set] at this
theorem BrS.step {W wr w1 : World} {it m jb sb r : Nat} {j : JobD} {seen : Array Nat} {L : List Nat} (h : BrS W wr it m jb sb j seen L) (hi : W.heap.size ≤ it) (hw : w1 = wr ∨ w1 = wr.drew) :
    BrS W (setBlock w1 it (.mapIter (some m) 3 (seen.push r) 3)) it m jb sb j (seen.push r) L ∧ (setBlock w1 it (.mapIter (some m) 3 (seen.push r) 3)).heap.size = wr.heap.size := by
  have hr1 : w1.heap[it]? = some (.mapIter (some m) 3 seen 3) := by rcases hw with rfl | rfl <;> exact h.iter
  have hs := MapKept.heap_set (o' := .mapIter (some m) 3 (seen.push r) 3) hr1
  have hoth : ∀ b, b ≠ it → (setBlock w1 it (.mapIter (some m) 3 (seen.push r) 3)).heap[b]? = wr.heap[b]? := fun b hb => (hs.2 b hb).trans (by rcases hw with rfl | rfl <;> rfl)
  have hz : (setBlock w1 it (.mapIter (some m) 3 (seen.push r) 3)).heap.size = wr.heap.size := by rcases hw with rfl | rfl <;> simp [setBlock]
  have hii : wr.heap[it]? = some (.mapIter (some m) 3 seen 3) := h.iter
  have hb : ∀ b o, wr.heap[b]? = some o → wr.heap[it]? ≠ some o → (setBlock w1 it (.mapIter (some m) 3 (seen.push r) 3)).heap[b]? = some o := fun b o ho hn => by
    have : b ≠ it := fun e => hn (by rw [← e]; exact ho)
    exact (hoth b this).trans ho
  refine ⟨⟨hs.1, hb _ _ h.map (by rw [hii]; simp), hb _ _ h.job (by rw [hii]; simp), hb _ _ h.sets (by rw [hii]; simp), h.below.trans ⟨?_, ?_, ?_, by omega, fun b hb => hoth b (by omega)⟩⟩, hz⟩
  · rcases hw with rfl | rfl <;> rfl
  · rcases hw with rfl | rfl <;> rfl
  · rcases hw with rfl | rfl <;> rfl

theorem Try.infoInt : (Try.prog.info? 3).map (fun i => (i.zero, i.size, i.bytes)) = some (some (Value.int .i64 0), 1, 8) := by kernel_rfl
theorem make_full_int (ln : Nat) (w : World) (hl : ln ≤ 10) : (Instr.makeSlice 33 (.int .i64 (ln : Int)) (.int .i64 (ln : Int))).run Try.prog w = .ok (.slice (some ⟨w.heap.size, 0, none⟩) ln ln) (w.alloc (.cells (madeCells #[.int .i64 0] ln) 3)) := by
  obtain ⟨i0, hi, hz0, hz1, hz2⟩ := info_parts Try.infoInt
  have h := run_make (P := Try.prog) w 33 3 i0 (.int .i64 0) Try.underlying33 hi hz0 .i64 .i64 ln ln (by omega) (Int.le_refl _) (by rw [hz2]; omega) (by omega)
  rw [hz1, Int.toNat_natCast, Nat.mul_one] at h
  exact h
theorem madeNats (ln : Nat) : madeCells #[Value.int .i64 0] ln = natCells (List.replicate ln 0) := by
  refine Array.ext_getElem? fun i => ?_
  by_cases h : i < ln
  · simp [madeCells, natCells, h, Nat.mod_one]
  · simp [madeCells, natCells, h]

end Go.Proofs.Yticeekkfdkfcgaa
