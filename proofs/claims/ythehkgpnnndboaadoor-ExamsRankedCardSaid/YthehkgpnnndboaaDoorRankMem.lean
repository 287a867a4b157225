/- RankMem: rows of papers and rows of truths as arguments; what the results of some papers are. -/
import Derived.Test.YthehkgpnnndboaaDoorTurnZ
import Derived.Test.YthehkgpnnndboaaDoorOpens
import Derived.Test.YthehkgpnnndboaaDoorLawM
namespace Go.Proofs.YthehkgpnnndboaaDoor
open Go.RowKit

/-- a row of integers within a row: where it lies, and its integers -/
structure TruthR where
  a : Option Addr
  c : Nat
  xs : List Int
def cellsTR (x : TruthR) : Array Value := #[.slice x.a x.xs.length x.c]
structure TruthsAt (w : World) (B : Nat) (A : Option Addr) (l : List TruthR) : Prop where
  row : Flats cellsTR 1 w B A l
  each : ∀ x ∈ l, Ints w B x.a x.xs
theorem TruthsAt.below {w w' : World} {B : Nat} {A : Option Addr} {l : List TruthR} (h : TruthsAt w B A l) (hb : Below B w w') : TruthsAt w' B A l := ⟨h.row.below hb, fun x hx => (h.each x hx).below hb⟩
theorem TruthsAt.more {w : World} {B B' : Nat} {A : Option Addr} {l : List TruthR} (h : TruthsAt w B A l) (hb : B ≤ B') : TruthsAt w B' A l := ⟨h.row.more hb, fun x hx => (h.each x hx).more hb⟩
theorem TruthsAt.at_ {w : World} {B : Nat} {A : Option Addr} {l : List TruthR} (h : TruthsAt w B A l) {k : Nat} (hk : k < l.length) :
    ∃ b off x, A = some ⟨b, off, none⟩ ∧ b < B ∧ w.cell? ⟨b, off + k, none⟩ = some (.slice x.a x.xs.length x.c) ∧ Hid (l[k]? = some x) := by
  obtain ⟨b, off, x, h1, h2, h3, h4⟩ := h.row.at_ hk
  have h5 := h3 0 (by omega)
  rw [Nat.mul_one, Nat.add_zero] at h5
  exact ⟨b, off, x, h1, h2, h5, h4⟩
/-- the first k papers have truths, and these are their results -/
def GoodTo (l : List PaperR) (rs : List Int) (k : Nat) : Prop := ∀ j x, j < k → l[j]? = some x → numErr x 0 0 = 0 ∧ ((rangeV x).1 ≤ rs.getD j 0 ∧ rs.getD j 0 ≤ (rangeV x).2) ∧ Short x
theorem GoodTo.snoc {l : List PaperR} {rs : List Int} {k : Nat} {x : PaperR} {r : Int} (h : GoodTo l rs k) (hl : rs.length = k) (hx : l[k]? = some x) (h0 : numErr x 0 0 = 0) (h1 : (rangeV x).1 ≤ r ∧ r ≤ (rangeV x).2) (hs : Short x) : GoodTo l (rs ++ [r]) (k + 1) := by
  intro j y hj hy
  by_cases e : j = k
  · subst e
    rw [hx] at hy
    cases hy
    refine ⟨h0, ?_, hs⟩
    rw [List.getD_eq_getElem?_getD, ← hl, List.getElem?_concat_length]
    exact h1
  · have h2 := h j y (by omega) hy
    rw [List.getD_eq_getElem?_getD, List.getElem?_append_left (by omega), ← List.getD_eq_getElem?_getD]
    exact h2
theorem GoodTo.err {l : List PaperR} {rs : List Int} (h : GoodTo l rs l.length) (h3 : l.length ≤ 3) : ranksErr l = 0 := by
  unfold ranksErr
  rw [if_neg (by omega)]
  exact errL_none fun j y hj hy => (h j y hj hy).1
theorem GoodTo.short {l : List PaperR} {rs : List Int} (h : GoodTo l rs l.length) : ∀ x ∈ l, Short x := fun x hx => by
  obtain ⟨j, hj⟩ := List.getElem?_of_mem hx
  exact (h j x (List.getElem?_eq_some_iff.1 hj).1 hj).2.2
theorem rng_length (l : List PaperR) : (rngL l).length = l.length := List.length_map _
theorem rng_at {l : List PaperR} {j : Nat} {x : PaperR} (hx : l[j]? = some x) : (rngL l).getD j (0, 0) = rangeV x := by
  unfold rngL
  rw [List.getD_eq_getElem?_getD, List.getElem?_map, hx]
  rfl
theorem GoodTo.within {l : List PaperR} {rs : List Int} (h : GoodTo l rs l.length) : ∀ j, j < (rngL l).length → ((rngL l).getD j (0, 0)).1 ≤ rs.getD j 0 ∧ rs.getD j 0 ≤ ((rngL l).getD j (0, 0)).2 := fun j hj => by
  rw [rng_length] at hj
  rw [rng_at (List.getElem?_eq_getElem hj)]
  exact (h j _ hj (List.getElem?_eq_getElem hj)).2.1
/-- the number of results greater than the one at i, among the first k -/
def aboveTo (rs : List Int) (i k : Nat) : Nat := (List.range k).countP fun j => decide (rs.getD i 0 < rs.getD j 0)
theorem aboveTo_succ (rs : List Int) (i k : Nat) {a b : Int} (ha : rs[i]? = some a) (hb : rs[k]? = some b) : aboveTo rs i (k + 1) = aboveTo rs i k + if a < b then 1 else 0 := by
  unfold aboveTo
  rw [List.range_succ, List.countP_append, List.countP_singleton, List.getD_eq_getElem?_getD, List.getD_eq_getElem?_getD, ha, hb]
  simp
theorem aboveTo_le (rs : List Int) (i k : Nat) : aboveTo rs i k ≤ k := by
  unfold aboveTo
  have h := List.countP_le_length (p := fun j => decide (rs.getD i 0 < rs.getD j 0)) (l := List.range k)
  rwa [List.length_range] at h
theorem ranked_in {l : List PaperR} {rs : List Int} (h : GoodTo l rs l.length) {i : Nat} (hi : i < l.length) :
    (rankF (rngL l) i).1 ≤ 1 + (aboveTo rs i l.length : Nat) ∧ 1 + ((aboveTo rs i l.length : Nat) : Int) ≤ (rankF (rngL l) i).2 ∧ 1 ≤ (rankF (rngL l) i).1 ∧ (rankF (rngL l) i).2 ≤ l.length := by
  have h1 := rank_in h.within (i := i) (by rw [rng_length]; exact hi)
  have h2 := rankH_lt (l := rngL l) (i := i) (by rw [rng_length]; exact hi) ((rngL l).getD i (0, 0))
  rw [rng_length] at h1 h2
  have h3 : 0 ≤ rankL (rngL l) ((rngL l).getD i (0, 0)) := by unfold rankL; omega
  unfold rankF aboveTo
  dsimp only
  omega
theorem ranked_less {l : List PaperR} {rs : List Int} (h : GoodTo l rs l.length) {i k : Nat} {x y : PaperR} (hx : l[i]? = some x) (hy : l[k]? = some y) (hlt : (rangeV y).2 < (rangeV x).1) :
    (rankF (rngL l) i).1 < (rankF (rngL l) k).1 ∧ (rankF (rngL l) i).2 < (rankF (rngL l) k).2 := by
  have hi := (List.getElem?_eq_some_iff.1 hx).1
  have hk := (List.getElem?_eq_some_iff.1 hy).1
  have h1 := rank_better (l := rngL l) (fun j hj => by have := h.within j hj; omega) (i := i) (k := k) (by rw [rng_length]; exact hi) (by rw [rng_length]; exact hk) (by rw [rng_at hx, rng_at hy]; exact hlt)
  unfold rankF
  dsimp only
  omega
/-- one result of an own row, as a block -/
def BoxZ (lo : Nat) (r : Int) (v : Value) (w : World) : Prop := ∃ b, v = .slice (some ⟨b, 0, none⟩) 1 1 ∧ lo ≤ b ∧ BlockIs w b 3 #[.int .i64 r]
theorem BoxZ.turn {g n lo : Nat} {r : Int} {v : Value} {A B : World} (h : BoxZ lo r v A) (k : TurnIZ g n lo r A B) : BoxZ lo r v B := by
  obtain ⟨b, e, h1, h2⟩ := h
  exact ⟨b, e, h1, k.blk h2 (.inr h1)⟩

open Go.ChangeShapes Go.WideShapes Go.ChangeAt Go.Joins Go.Deep
theorem cellsIntsR : Tryd.prog.cellsOf 24 = 1 := by kernel_rfl
section
variable {H : Type} {enc : TypeId × Value → H} {w : World} {base : Nat} {spare : Nat → Bool} {held : Bool}
set_option maxRecDepth 100000 in
/-- the cells of a paper -/
theorem paper_cells {n : Nat} {cs : List Value} {o : Option (DataW H × List MemPlace)} (h : DataW.trod enc Tryd.prog w base spare held n 26 cs = o) (ho : o.isSome = true) :
    ∃ c : PaperR, cs = (cellsP c).toList ∧ PaperAt w w.heap.size c := by
  obtain ⟨y, rfl⟩ := Option.isSome_iff_exists.1 ho
  obtain ⟨xs, m, _, _, hc, hlen, hg⟩ := DataW.trod_struct Tryd.underlying26 h
  match cs, hc.trans cellsPaper with
  | [c0, c1, c2, c3], _ =>
    have h0 := trod_field hg 0 22 0 _ _ rfl rfl rfl cellsItems
    have h1 := trod_field hg 1 23 1 _ _ rfl rfl rfl cellsJudges
    have h2 := trod_field hg 2 3 2 _ _ rfl rfl rfl cellsInt
    have h3 := trod_field hg 3 24 3 _ _ rfl rfl rfl cellsMoves
    simp only [List.drop_succ_cons, List.drop_zero, List.take_succ_cons, List.take_zero] at h0 h1 h2 h3
    have hl : xs.length = 4 := hlen
    obtain ⟨n2, rfl, _⟩ := int_open h2 (isSome_of hl (by omega))
    rw [List.getElem?_eq_getElem (by omega)] at h0 h1 h3
    obtain ⟨A, ca, is, rfl, hA⟩ := items_open h0
    obtain ⟨B, cb, js, rfl, hB, hM⟩ := judges_open h1
    obtain ⟨C, cc, gs, rfl, hC⟩ := ints_open h3
    exact ⟨⟨is, js, n2, gs, A, ca, B, cb, C, cc⟩, rfl, hA, hB, hM, hC⟩
set_option maxRecDepth 100000 in
/-- papers, as an argument -/
theorem papersArg_open {r : Reach} {b0 : Nat} {v : Value} {d : DataW H} {p : List MemPlace} (hv : Value.okWide Tryd.prog w r b0 53 v) (h : DataW.Trod enc Tryd.prog w base spare held 53 v d p) :
    ∃ A cap l, v = .slice A (List.length l) cap ∧ PapersAt w w.heap.size A l := by
  obtain ⟨a0, len0, cap0, rfl⟩ := okWide_slice Tryd.underlying53 hv
  obtain ⟨fuel, hf⟩ := h
  have hf2 : DataW.trod enc Tryd.prog w base spare held fuel 53 [.slice a0 len0 cap0] = some (d, p) := by simpa [Value.cells] using hf
  rcases open_slice Tryd.underlying53 hf2 with ⟨hcs, _⟩ | ⟨a, len, cap, m, n, D, Pl, hcs, _, hl, hm, hmm, _, hi⟩
  · injection hcs with e0
    injection e0 with e1 e2 e3
    subst e1 e2 e3
    exact ⟨none, 0, [], rfl, ⟨.inl rfl, fun x hx => by simp at hx⟩⟩
  · injection hcs with e0
    injection e0 with e1 e2 e3
    subst e1 e2 e3
    have hlm : len0 ≤ m := by rw [hmm]; split <;> omega
    rw [cellsPaper] at hi
    obtain ⟨l, hll, hp⟩ := list_of (P := fun i (x : PaperR) => (∀ j, j < 4 → w.cell? (a.add (i * 4 + j)) = (cellsP x)[j]?) ∧ PaperAt w w.heap.size x) len0 fun i hil => by
      obtain ⟨cs', hc, ht⟩ := hi i (by omega)
      obtain ⟨x, rfl, hx⟩ := paper_cells ht rfl
      obtain ⟨_, _, hat⟩ := World.cells?_some hc
      refine ⟨x, fun j hj => ?_, hx⟩
      rw [← Go.Deep.add_add, hat j hj]
      simp
    refine ⟨some a, cap0, l, by rw [hll], ⟨?_, fun x hx => by obtain ⟨i, hi'⟩ := List.getElem?_of_mem hx; exact (hp i x hi').2⟩⟩
    by_cases h0 : len0 = 0
    · exact .inl (List.eq_nil_of_length_eq_zero (hll.trans h0))
    · obtain ⟨b, off, spot⟩ := a
      have c0 := (hp 0 _ (List.getElem?_eq_getElem (by omega))).1 0 (by omega)
      have c0' : w.cell? ((⟨b, off, spot⟩ : Addr).add (0 * 4 + 0)) = some (.slice (l[0]'(by omega)).ia (l[0]'(by omega)).items.length (l[0]'(by omega)).ic) := c0
      have hspot : spot = none := by simpa [Addr.add] using World.cell?_spot c0'
      subst hspot
      have hb : b < w.heap.size := by
        have := World.block_lt_of_cell? w _ c0'
        simpa [Addr.add] using this
      refine .inr ⟨b, off, rfl, hb, fun i x hx j hj => ?_⟩
      have := (hp i x hx).1 j hj
      rw [add_plain] at this
      rw [← this, Nat.add_assoc]
set_option maxRecDepth 100000 in
/-- rows of integers, as an argument -/
theorem truthsArg_open {r : Reach} {b0 : Nat} {v : Value} {d : DataW H} {p : List MemPlace} (hv : Value.okWide Tryd.prog w r b0 69 v) (h : DataW.Trod enc Tryd.prog w base spare held 69 v d p) :
    ∃ A cap l, v = .slice A (List.length l) cap ∧ TruthsAt w w.heap.size A l := by
  obtain ⟨a0, len0, cap0, rfl⟩ := okWide_slice Tryd.underlying69 hv
  obtain ⟨fuel, hf⟩ := h
  have hf2 : DataW.trod enc Tryd.prog w base spare held fuel 69 [.slice a0 len0 cap0] = some (d, p) := by simpa [Value.cells] using hf
  rcases open_slice Tryd.underlying69 hf2 with ⟨hcs, _⟩ | ⟨a, len, cap, m, n, D, Pl, hcs, _, hl, hm, hmm, _, hi⟩
  · injection hcs with e0
    injection e0 with e1 e2 e3
    subst e1 e2 e3
    exact ⟨none, 0, [], rfl, ⟨.inl rfl, fun x hx => by simp at hx⟩⟩
  · injection hcs with e0
    injection e0 with e1 e2 e3
    subst e1 e2 e3
    have hlm : len0 ≤ m := by rw [hmm]; split <;> omega
    rw [cellsIntsR] at hi
    obtain ⟨l, hll, hp⟩ := list_of (P := fun i (x : TruthR) => w.cell? (a.add (i * 1 + 0)) = some (.slice x.a x.xs.length x.c) ∧ Ints w w.heap.size x.a x.xs) len0 fun i hil => by
      obtain ⟨cs', hc, ht⟩ := hi i (by omega)
      obtain ⟨hlc, _, hat⟩ := World.cells?_some hc
      match cs', hlc with
      | [c0], _ =>
        obtain ⟨A, c, xs, rfl, hx⟩ := ints_open ht
        refine ⟨⟨A, c, xs⟩, ?_, hx⟩
        rw [← Go.Deep.add_add, hat 0 (by omega)]
        simp
    refine ⟨some a, cap0, l, by rw [hll], ⟨?_, fun x hx => by obtain ⟨i, hi'⟩ := List.getElem?_of_mem hx; exact (hp i x hi').2⟩⟩
    by_cases h0 : len0 = 0
    · exact .inl (List.eq_nil_of_length_eq_zero (hll.trans h0))
    · obtain ⟨b, off, spot⟩ := a
      obtain ⟨c0, _⟩ := hp 0 _ (List.getElem?_eq_getElem (by omega))
      have hspot : spot = none := by simpa [Addr.add] using World.cell?_spot c0
      subst hspot
      have hb : b < w.heap.size := by
        have := World.block_lt_of_cell? w _ c0
        simpa [Addr.add] using this
      refine .inr ⟨b, off, rfl, hb, fun j x hj i hi' => ?_⟩
      obtain ⟨c, hx⟩ := hp j x hj
      obtain rfl : i = 0 := by omega
      rw [add_plain] at c
      rw [show off + j * 1 + 0 = off + (j * 1 + 0) by omega, c]
      rfl
end

end Go.Proofs.YthehkgpnnndboaaDoor
