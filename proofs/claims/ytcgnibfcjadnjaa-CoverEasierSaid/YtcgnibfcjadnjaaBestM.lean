/- BestM: the memory of the planner; written by wip/tools/bestp10.py. -/
import Derived.Test.YtcgnibfcjadnjaaKnown
namespace Go.Proofs.Ytcgnibfcjadnjaa
open Go.RowKit
open Go.ChangeMaps (setBlock)

/-! ### what stays where the map alone turns -/
theorem KeepX.of_grow {m : Nat} {A B : World} (h : Grow A B) : KeepX m A B := ⟨h.os.symm, h.tape.symm, h.output.symm, h.size, fun k hk _ => Below.block h k hk⟩
theorem KeepX.grow {m : Nat} {A B C : World} (h : KeepX m A B) (k : Grow B C) : KeepX m A C := h.trans (.of_grow k)
theorem KeepX.setC {m : Nat} {A B : World} (h : KeepX m A B) {p : Addr} (hp : A.heap.size ≤ p.block) (v : Value) : KeepX m A (B.setCell p v) :=
  ⟨h.os, h.tape, h.output, by have := h.size; simpa using this, fun k hk hn => (Below.heap_setCell B p v k (by omega)).trans (h.block k hk hn)⟩
theorem KeepX.blk {m : Nat} {A B : World} {es : Array MapEntry} {c : Nat} (h : KeepX m A B) (hm : A.heap[m]? = some (.map es c)) {b : Nat} {t : TypeId} {cs : Array Value} (hb : BlockIs A b t cs) : BlockIs B b t cs :=
  (h.block b hb.lt fun e => by
    subst e
    have := hm.symm.trans hb
    cases this).trans hb
theorem KeepX.cell {m : Nat} {A B : World} {es : Array MapEntry} {c : Nat} (h : KeepX m A B) (hm : A.heap[m]? = some (.map es c)) {q : Addr} {v : Value} (hv : A.cell? q = some v) : B.cell? q = some v := by
  have hq : q.block < A.heap.size ∧ q.block ≠ m := by
    constructor
    · rcases Nat.lt_or_ge q.block A.heap.size with hl | hl
      · exact hl
      · exfalso
        simp [World.cell?, Array.getElem?_eq_none hl] at hv
    · intro e
      rw [← e] at hm
      simp [World.cell?, hm] at hv
  have := h.block q.block hq.1 hq.2
  simp only [World.cell?] at hv ⊢
  rw [this]
  exact hv
theorem KeepX.ints {m : Nat} {A B : World} {es : Array MapEntry} {c : Nat} (h : KeepX m A B) (hm : A.heap[m]? = some (.map es c)) {B0 : Nat} {P : Option Addr} {xs : List Int} (hx : Ints A B0 P xs) : Ints B B0 P xs := by
  rcases hx with rfl | ⟨b, off, rfl, hb, hc⟩
  · exact .inl rfl
  · exact .inr ⟨b, off, rfl, hb, fun j x hj => h.cell hm (hc j x hj)⟩
theorem KeepX.folks {m : Nat} {A B : World} {es : Array MapEntry} {c : Nat} (h : KeepX m A B) (hm : A.heap[m]? = some (.map es c)) {B0 : Nat} {P : Option Addr} {l : List FolkI} (hx : Folks A B0 P l) : Folks B B0 P l := by
  rcases hx with rfl | ⟨b, off, rfl, hb, hc⟩
  · exact .inl rfl
  · refine .inr ⟨b, off, rfl, hb, fun i x hi j hj => ?_⟩
    have h1 := hc i x hi j hj
    have h2 : ∃ v, (cellsF x)[j]? = some v := ⟨(cellsF x)[j]'(by simp; omega), Array.getElem?_eq_getElem (by simp; omega)⟩
    obtain ⟨v, hv⟩ := h2
    rw [hv] at h1 ⊢
    exact h.cell hm h1
theorem KeepX.rows {m : Nat} {A B : World} {es : Array MapEntry} {c : Nat} (h : KeepX m A B) (hm : A.heap[m]? = some (.map es c)) {B0 : Nat} {P : Option Addr} {l : List (List Int)} (hx : Rows A B0 P l) : Rows B B0 P l := by
  rcases hx with rfl | ⟨b, off, rfl, hb, hc⟩
  · exact .inl rfl
  · refine .inr ⟨b, off, rfl, hb, fun i xs hi => ?_⟩
    obtain ⟨a, cc, h1, h2⟩ := hc i xs hi
    exact ⟨a, cc, h.cell hm h1, h.ints hm h2⟩

def coversL (p : Pool) : List (List Int) := (List.range p.needs.length).map fun s => natsL (coveringD p s)
/-- a planner's memory below B: the pool, the groups worth trying; and what is known -/
structure PlanAt (w : World) (B : Nat) (h : PoolH) (p : Pool) (ga : Option Addr) (mb : Nat) (L : List KnR) : Prop where
  pool : PoolAt w B h p.i
  rows : Rows w B ga (coversL p)
  known : KnownAt w mb L
  ok : ∀ y, y ∈ L → y.s ≤ p.needs.length ∧ y.v = bestD p (p.needs.length - y.s) y.s y.f
theorem PlanAt.more {w : World} {B B' : Nat} {h : PoolH} {p : Pool} {ga : Option Addr} {mb : Nat} {L : List KnR} (k : PlanAt w B h p ga mb L) (hb : B ≤ B') : PlanAt w B' h p ga mb L := ⟨k.pool.more hb, k.rows.more hb, k.known, k.ok⟩
theorem PlanAt.keep {w w' : World} {B : Nat} {h : PoolH} {p : Pool} {ga : Option Addr} {mb : Nat} {L L' : List KnR} (k : PlanAt w B h p ga mb L) (hx : KeepX mb w w') (hk : KnownAt w' mb L') (ho : ∀ y, y ∈ L' → y.s ≤ p.needs.length ∧ y.v = bestD p (p.needs.length - y.s) y.s y.f) : PlanAt w' B h p ga mb L' :=
  ⟨⟨hx.folks k.known k.pool.1, hx.rows k.known k.pool.2⟩, hx.rows k.known k.rows, hk, ho⟩
theorem PlanAt.grow {w w' : World} {B : Nat} {h : PoolH} {p : Pool} {ga : Option Addr} {mb : Nat} {L : List KnR} (k : PlanAt w B h p ga mb L) (hg : Grow w w') : PlanAt w' B h p ga mb L := k.keep (.of_grow hg) (k.known.grow hg) k.ok

/-! ### plans in memory -/
def plC (s c : Nat) (l : List Nat) (sf : Bool) : Array Value := #[.int .i64 (gAt s l 0 : Nat), .int .i64 (gAt s l 1 : Nat), .int .i64 (gAt s l 2 : Nat), .int .i64 (gAt s l 3 : Nat), .int .i64 (gAt s l 4 : Nat), .int .i64 (gAt s l 5 : Nat), .int .i64 (c : Nat), .bool sf]
def tripC : PlanD → Nat
  | none => 0
  | some x => x.1
def tripL : PlanD → List Nat
  | none => []
  | some x => x.2
theorem gAt_nil (s i : Nat) : gAt s [] i = 0 := by unfold gAt; split <;> rfl
theorem planC_pl (s : Nat) (b : PlanD) : planC s b = plC s (tripC b) (tripL b) b.isSome := by
  cases b with
  | none => show zeroPl = plC s 0 [] false; simp [plC, gAt_nil]
  | some x => rfl
theorem gAt_cons (s g : Nat) (l : List Nat) (i : Nat) : gAt s (g :: l) i = if i = s then g else gAt (s + 1) l i := by
  unfold gAt
  by_cases h : i < s
  · rw [if_pos h, if_neg (by omega), if_pos (by omega)]
  · rw [if_neg h]
    by_cases h2 : i = s
    · subst h2; rw [if_pos rfl, Nat.sub_self]; rfl
    · rw [if_neg h2, if_neg (by omega), show i - s = (i - (s + 1)) + 1 by omega]
      rfl
theorem plC_set {s : Nat} (hs : s < 6) (c g : Nat) (l : List Nat) (sf : Bool) : (plC (s + 1) c l sf).setIfInBounds s (.int .i64 (g : Nat)) = plC s c (g :: l) sf := by
  match s, hs with
  | 0, _ | 1, _ | 2, _ | 3, _ | 4, _ | 5, _ => simp [plC, gAt_cons]
theorem plC_cost (s c d : Nat) (l : List Nat) (sf : Bool) : (plC s c l sf).setIfInBounds 6 (.int .i64 (d : Nat)) = plC s d l sf := rfl
theorem plC_end (s : Nat) : planC s (some (0, [])) = #[.int .i64 0, .int .i64 0, .int .i64 0, .int .i64 0, .int .i64 0, .int .i64 0, .int .i64 0, .bool true] := by
  show somePl s 0 [] = _
  simp [gAt_nil]
theorem stores8 {w : World} {b : Nat} {t : TypeId} {c0 c1 c2 c3 c4 c5 c6 c7 : Value} (h : BlockIs w b t #[c0, c1, c2, c3, c4, c5, c6, c7]) (v0 v1 v2 v3 v4 v5 v6 v7 : Value) :
    BlockIs ((((((((w.setCell ⟨b, 0, none⟩ v0).setCell ⟨b, 1, none⟩ v1).setCell ⟨b, 2, none⟩ v2).setCell ⟨b, 3, none⟩ v3).setCell ⟨b, 4, none⟩ v4).setCell ⟨b, 5, none⟩ v5).setCell ⟨b, 6, none⟩ v6).setCell ⟨b, 7, none⟩ v7) b t #[v0, v1, v2, v3, v4, v5, v6, v7] := by
  have h8 := (((((((h.near 0 v0).near 1 v1).near 2 v2).near 3 v3).near 4 v4).near 5 v5).near 6 v6).near 7 v7
  simpa only [List.setIfInBounds_toArray, List.set_cons_succ, List.set_cons_zero] using h8
/-- only the block b has turned -/
structure OnlyB (b : Nat) (A B : World) : Prop where
  os : A.os = B.os
  tape : A.tape = B.tape
  output : A.output = B.output
  size : B.heap.size = A.heap.size
  block : ∀ k, k ≠ b → B.heap[k]? = A.heap[k]?
theorem OnlyB.refl (b : Nat) (A : World) : OnlyB b A A := ⟨rfl, rfl, rfl, rfl, fun _ _ => rfl⟩
theorem OnlyB.setC {b : Nat} {A B : World} (h : OnlyB b A B) (j : Nat) (v : Value) : OnlyB b A (B.setCell ⟨b, j, none⟩ v) :=
  ⟨h.os, h.tape, h.output, by have := h.size; simpa using this, fun k hk => (Below.heap_setCell B ⟨b, j, none⟩ v k hk).trans (h.block k hk)⟩
theorem only8 (w : World) (b : Nat) (v0 v1 v2 v3 v4 v5 v6 v7 : Value) : OnlyB b w ((((((((w.setCell ⟨b, 0, none⟩ v0).setCell ⟨b, 1, none⟩ v1).setCell ⟨b, 2, none⟩ v2).setCell ⟨b, 3, none⟩ v3).setCell ⟨b, 4, none⟩ v4).setCell ⟨b, 5, none⟩ v5).setCell ⟨b, 6, none⟩ v6).setCell ⟨b, 7, none⟩ v7) :=
  ((((((((OnlyB.refl b w).setC 0 v0).setC 1 v1).setC 2 v2).setC 3 v3).setC 4 v4).setC 5 v5).setC 6 v6).setC 7 v7
theorem OnlyB.blk {b : Nat} {A B : World} (h : OnlyB b A B) {q : Nat} {t : TypeId} {cs : Array Value} (hb : BlockIs A q t cs) (hq : q ≠ b) : BlockIs B q t cs := (h.block q hq).trans hb
theorem OnlyB.keepX {b m : Nat} {A0 A B : World} (h : OnlyB b A B) (k : KeepX m A0 A) (hb : A0.heap.size ≤ b) : KeepX m A0 B :=
  ⟨k.os.trans h.os, k.tape.trans h.tape, k.output.trans h.output, by rw [h.size]; exact k.size, fun i hi hn => (h.block i (by omega)).trans (k.block i hi hn)⟩
theorem OnlyB.cell {b : Nat} {A B : World} (h : OnlyB b A B) {q : Addr} {v : Value} (hq : q.block ≠ b) (hv : A.cell? q = some v) : B.cell? q = some v := by
  have := h.block q.block hq
  simp only [World.cell?] at hv ⊢
  rw [this]
  exact hv
theorem OnlyB.ints {b : Nat} {A B : World} (h : OnlyB b A B) {n : Nat} {P : Option Addr} {xs : List Int} (hx : Ints A n P xs) (hb : n ≤ b) : Ints B n P xs := by
  rcases hx with rfl | ⟨q, off, rfl, hq, hc⟩
  · exact .inl rfl
  · exact .inr ⟨q, off, rfl, hq, fun j x hj => h.cell (by show q ≠ b; omega) (hc j x hj)⟩
theorem OnlyB.rows {b : Nat} {A B : World} (h : OnlyB b A B) {n : Nat} {P : Option Addr} {l : List (List Int)} (hx : Rows A n P l) (hb : n ≤ b) : Rows B n P l := by
  rcases hx with rfl | ⟨q, off, rfl, hq, hc⟩
  · exact .inl rfl
  · refine .inr ⟨q, off, rfl, hq, fun i xs hi => ?_⟩
    obtain ⟨a, cc, h1, h2⟩ := hc i xs hi
    exact ⟨a, cc, h.cell (by show q ≠ b; omega) h1, h.ints h2 hb⟩
theorem OnlyB.folks {b : Nat} {A B : World} (h : OnlyB b A B) {n : Nat} {P : Option Addr} {l : List FolkI} (hx : Folks A n P l) (hb : n ≤ b) : Folks B n P l := by
  rcases hx with rfl | ⟨q, off, rfl, hq, hc⟩
  · exact .inl rfl
  · refine .inr ⟨q, off, rfl, hq, fun i x hi j hj => ?_⟩
    have h1 := hc i x hi j hj
    obtain ⟨v, hv⟩ : ∃ v, (cellsF x)[j]? = some v := ⟨(cellsF x)[j]'(by simp; omega), Array.getElem?_eq_getElem (by simp; omega)⟩
    rw [hv] at h1 ⊢
    exact h.cell (by show q ≠ b; omega) h1

theorem KnownAt.only {w w' : World} {m b : Nat} {L : List KnR} (h : KnownAt w m L) (k : OnlyB b w w') (hb : m ≠ b) : KnownAt w' m L := (k.block m hb).trans h
theorem known_ne {w : World} {m b : Nat} {L : List KnR} {t : TypeId} {cs : Array Value} (h : KnownAt w m L) (hb : BlockIs w b t cs) : m ≠ b := by
  intro e
  subst e
  have := h.symm.trans hb
  cases this
theorem PlanAt.only {w w' : World} {B b : Nat} {h : PoolH} {p : Pool} {ga : Option Addr} {mb : Nat} {L : List KnR} (k : PlanAt w B h p ga mb L) (o : OnlyB b w w') (hb : B ≤ b) (hm : mb ≠ b) : PlanAt w' B h p ga mb L :=
  ⟨⟨o.folks k.pool.1 hb, o.rows k.pool.2 hb⟩, o.rows k.rows hb, k.known.only o hm, k.ok⟩
/-- a row of groups worth trying -/
theorem covers_at {w : World} {B : Nat} {A : Option Addr} {p : Pool} (h : Rows w B A (coversL p)) {s : Nat} (hs : s < p.needs.length) :
    ∃ b off a c, A = some ⟨b, off, none⟩ ∧ b < B ∧ w.cell? ⟨b, off + s, none⟩ = some (.slice a (coveringD p s).length c) ∧ Ints w B a (natsL (coveringD p s)) := by
  have hl : s < (coversL p).length := by unfold coversL; rw [List.length_map, List.length_range]; exact hs
  obtain ⟨b, off, xs, a, c, h1, h2, h3, h4, h5⟩ := h.at_ hl
  have h5 : (coversL p)[s]? = some xs := h5
  unfold coversL at h5
  rw [List.getElem?_map, List.getElem?_range hs] at h5
  obtain rfl : natsL (coveringD p s) = xs := by simpa using h5
  exact ⟨b, off, a, c, h1, h2, by rw [h3, natsL_length], h4⟩
/-! ### the search, group by group -/
def bestStep (p : Pool) (next : (Nat → Nat) → PlanD) (cap : Nat) (left : Nat → Nat) (b : PlanD) (g : Nat) : PlanD := if roomB 8 g left then lessP b ((next (afterD g cap left)).map fun x => (x.1 + costD p g, g :: x.2)) else b
theorem bestTo_fold (p : Pool) (next : (Nat → Nat) → PlanD) (cap : Nat) (left : Nat → Nat) : ∀ (l : List Nat) (b : PlanD), bestTo p next cap left l b = l.foldl (bestStep p next cap left) b
  | [], _ => rfl
  | _ :: l, _ => bestTo_fold p next cap left l _
theorem bestTo_snoc (p : Pool) (next : (Nat → Nat) → PlanD) (cap : Nat) (left : Nat → Nat) {l : List Nat} {k g : Nat} (hg : l[k]? = some g) (b : PlanD) : bestTo p next cap left (l.take (k + 1)) b = bestStep p next cap left (bestTo p next cap left (l.take k) b) g := by
  rw [take_snoc hg, bestTo_fold, bestTo_fold, List.foldl_append]
  rfl
theorem bestD_congr (p : Pool) : ∀ (m s : Nat) (f g : Nat → Nat), (∀ i, i < 8 → f i = g i) → bestD p m s f = bestD p m s g
  | 0, _, _, _, _ => rfl
  | m + 1, s, f, g, h => by
    show bestTo p (bestD p m (s + 1)) m f (coveringD p s) none = bestTo p (bestD p m (s + 1)) m g (coveringD p s) none
    rw [bestTo_fold, bestTo_fold]
    have hstep : bestStep p (bestD p m (s + 1)) m f = bestStep p (bestD p m (s + 1)) m g := by
      funext b x
      unfold bestStep
      have hr : roomB 8 x f = roomB 8 x g := by
        unfold roomB
        rw [Bool.eq_iff_iff, List.all_eq_true, List.all_eq_true]
        constructor
        · intro hh i hi
          have := hh i hi
          rwa [h i (List.mem_range.1 hi)] at this
        · intro hh i hi
          have := hh i hi
          rwa [← h i (List.mem_range.1 hi)] at this
      rw [hr, bestD_congr p m (s + 1) (afterD x m f) (afterD x m g) fun i hi => by unfold afterD; rw [h i hi]]
    rw [hstep]
theorem costL_le {p : Pool} (G : Good p) : ∀ l : List Nat, costL p l ≤ 5000 * l.length
  | [] => Nat.le_refl _
  | g :: l => by
    have ih := costL_le G l
    have h1 := costTo_le G g p.folk.length
    have h2 := G.f5
    have h3 : costD p g ≤ 5000 := by unfold costD; omega
    show costD p g + costL p l ≤ 5000 * (l.length + 1)
    omega
theorem best_cost {p : Pool} (G : Good p) {m s : Nat} {left : Nat → Nat} (hs : s + m = p.needs.length) : tripC (bestD p m s left) ≤ 15000 := by
  have h := best_is G m s left hs
  cases hb : bestD p m s left with
  | none => exact Nat.zero_le _
  | some x =>
    rw [hb] at h
    obtain ⟨h1, h2, _⟩ := h
    have h3 := fits_len h1
    have h4 := costL_le G x.2
    have h5 := G.n3
    show x.1 ≤ 15000
    omega
theorem findK_none {s : Nat} {f : Nat → Nat} : ∀ {L : List KnR}, findK s f L = none ↔ ∀ y, y ∈ L → ¬ (s = y.s ∧ toL f = toL y.f)
  | [] => by simp [findK]
  | z :: L => by
    unfold findK
    by_cases e : s = z.s ∧ toL f = toL z.f
    · rw [if_pos e]
      constructor
      · intro h; cases h
      · intro h; exact absurd e (h z (by simp))
    · rw [if_neg e, Option.map_eq_none_iff, findK_none (L := L)]
      constructor
      · intro h y hy
        rcases List.mem_cons.1 hy with rfl | hy
        · exact e
        · exact h y hy
      · intro h y hy
        exact h y (by simp [hy])

end Go.Proofs.Ytcgnibfcjadnjaa
