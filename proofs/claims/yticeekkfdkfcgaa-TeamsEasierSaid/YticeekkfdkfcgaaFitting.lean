/- Fitting: the teams that fit, in ascending order, as the program yields them. -/
import Derived.Test.YticeekkfdkfcgaaTeams
namespace Go.Proofs.Yticeekkfdkfcgaa
open Go.RowKit Go.Shelf

attribute [local go_sem] Oper.semAt_some

theorem round_in {P : Program} {n m l l' : Nat} {f : FuncId} {tmps : Array Value} {assign body : Code} {w : World} {R : Ending → World → Prop} (h : RoundIn Fence.wide n P l f tmps assign body w R) : RoundIn (Fence.wide.inRound l') m P l f tmps assign body w R := round_wide h
theorem own_more {β : Type} {B B' : Nat} {I : β → World → Prop} (h : OwnFrom B I) (hB : B ≤ B') : OwnFrom B' I := fun s X Y row hs hg hr => h s X Y row hs hg fun r e => ⟨by have := (hr r e).1; omega, (hr r e).2⟩
theorem own_grown {β : Type} {B : Nat} {I : β → World → Prop} (h : OwnFrom B I) {s : β} {X Y : World} (hg : Grow X Y) (hs : I s X) : I s Y := h s X Y none hs hg.grown fun r e => by cases e

/-- all blocks below n₀, and the block q, stay -/
structure Kept (n₀ q : Nat) (A B : World) : Prop where
  below : Below n₀ A B
  same : B.heap[q]? = A.heap[q]?
theorem Kept.refl (n₀ q : Nat) (A : World) : Kept n₀ q A A := ⟨Below.refl _ _, rfl⟩
theorem Kept.trans {n₀ q : Nat} {A B C : World} (h : Kept n₀ q A B) (k : Kept n₀ q B C) : Kept n₀ q A C := ⟨h.below.trans k.below, k.same.trans h.same⟩
theorem Kept.of_below {n₀ q n : Nat} {A B : World} (h : Below n A B) (h0 : n₀ ≤ n) (hq : q < n) : Kept n₀ q A B := ⟨Below.mono h h0, Below.block h q hq⟩
theorem KeepM.kept {n₀ q m : Nat} {A B : World} (h : KeepM n₀ q m A B) (hq : q < A.heap.size) : Kept n₀ q A B := ⟨h.below, h.same q (.inl rfl) hq⟩
theorem kept_own {β : Type} {n₀ q B : Nat} {w : World} (h0 : n₀ ≤ B) (hq : q < B) (hw : q < w.heap.size) (hn : n₀ ≤ w.heap.size) : OwnFrom B (fun (_ : β) W => Kept n₀ q w W) := fun s X Y row hs hg hr =>
  ⟨ownFrom_below hn h0 s X Y row hs.below hg hr, (hg.block q (Nat.lt_of_lt_of_le hw hs.below.size) (fun e => by have := (hr _ e.symm).1; omega)).trans hs.same⟩
/-- does a team break no rule? -/
abbrev fitF (f : Fin 1024 → Nat) (x : Fin 1024) : Bool := f x == 0
theorem filt_yes {f : Fin 1024 → Nat} {l : List (Fin 1024)} {x : Fin 1024} (h : f x = 0) : (l ++ [x]).filter (fitF f) = l.filter (fitF f) ++ [x] := by
  rw [List.filter_append]
  simp [fitF, h]
theorem filt_no {f : Fin 1024 → Nat} {l : List (Fin 1024)} {x : Fin 1024} (h : f x ≠ 0) : (l ++ [x]).filter (fitF f) = l.filter (fitF f) := by
  rw [List.filter_append]
  simp [fitF, h]

set_option maxRecDepth 100000 in
set_option maxHeartbeats 4000000 in
theorem fitting_stops (f : Fin 1024 → Nat) (c : CrewR) (j : JobD) (lw : LawD) (bA : Option Addr) (bc n₀ q : Nat) (hl : c.people.length ≤ 8) (w : World) (hn0 : n₀ ≤ w.heap.size) (hq0 : q < w.heap.size)
    (hbr : ∀ (x : Fin 1024) (W : World), Kept n₀ q w W → Calls Try.prog 42 #[taskV c j lw bA bc, .int .i64 (x.val : Nat)] W fun e w' => e = .returned (.int .i64 (f x : Nat)) ∧ Below W.heap.size W w') :
    SeqM Try.prog 47 (fun y => #[taskV c j lw bA bc] ++ #[y] ++ #[]) (fun x : Fin 1024 => #[.int .i64 (x.val : Nat)]) n₀ q (fun ys => ys = (tmTo (2 ^ c.people.length)).filter (fitF f)) (fun pre => ∃ k, k ≤ 2 ^ c.people.length ∧ pre = (tmTo k).filter (fitF f)) 1024 w := by
  intro l J Jx W hW hJ hJx hY h0
  show CallsIn Fence.wide 8 Try.prog 47 #[taskV c j lw bA bc, .func (.yield l) #[] #[]] W _
  have hro : Fence.wide.round = none := rfl
  have h42 : Fence.wide.fn 42 := trivial
  have hn1 : n₀ ≤ W.heap.size := Nat.le_trans hn0 hW.size
  have hq1 : q < W.heap.size := Nat.lt_of_lt_of_le hq0 hW.size
  have HBR := Lib.hid (fun x (w0 : World) (hw : Kept n₀ q W w0) => hbr x w0 ((Kept.of_below hW hn0 hq0).trans hw))
  have HY := Lib.hid hY
  have HJX := Lib.hid hJx
  have HJ := Lib.hid hJ
  clear hbr hY hJx hJ
  refine callsIn_of_wp_marks Try.func47 rfl trivial ?_ hro
  simp only [Try.ntmps47, List.size_toArray, List.length_cons, List.length_nil, Nat.reduceAdd, Nat.reduceSub, Array.replicate_succ, Array.replicate_zero, List.push_toArray, List.append_toArray, List.nil_append, List.cons_append]
  gi_wp2
  obtain ⟨W0, hW0, hg0, b1, b2, hz0⟩ := two_blocks W 63 83 (cellsT c j lw bA bc) #[.func (.yield l) #[] #[]]
  have hJ0 : J [] W0 := own_grown HJ.out hg0 h0
  rw [hW0]
  clear hW0 h0
  refine wpIn_rangeMeth (first := #[taskV c j lw bA bc]) (lb := #[]) (gf := 63) rfl (enters_of Try.func63 (by kernel_rfl) rfl)
    (teams_stops c j lw bA bc n₀ q hl W0 (by omega)) (by omega) (by omega) (Below.refl _ _) (fun _ => rfl)
    (fun pre W' => J (pre.filter (fitF f)) W' ∧ BlockIs W' W.heap.size 63 (cellsT c j lw bA bc) ∧ BlockIs W' (W.heap.size + 1) 83 #[.func (.yield l) #[] #[]] ∧ Kept n₀ q W W' ∧ W0.heap.size ≤ W'.heap.size ∧ (pre.filter (fitF f)).length ≤ pre.length)
    (fun pre W' => Jx (pre.filter (fitF f)) W')
    (OwnFrom.and (fun s X Y row hs hg hr => (own_more HJ.out (by omega : W.heap.size ≤ W0.heap.size)) _ X Y row hs hg hr) (OwnFrom.and (block_ownF _ _ _ _) (OwnFrom.and (block_ownF _ _ _ _) (OwnFrom.and (kept_own (by omega) (by omega) hq1 hn1) (OwnFrom.and (ownFrom_size _ _) (fun _ _ _ _ hs _ _ => hs))))))
    (fun s X Y row hs hg hr => (own_more HJX.out (by omega : W.heap.size ≤ W0.heap.size)) _ X Y row hs hg hr)
    ⟨hJ0, b1, b2, Kept.of_below hg0 hn1 hq1, Nat.le_refl _, Nat.le_refl _⟩
    (fun x a' _ => a' = { tmps := #[taskV c j lw bA bc, .func (.yield l) #[] #[], .pointer (some ⟨W.heap.size, 0, none⟩), .pointer (some ⟨W.heap.size + 1, 0, none⟩), .int .i64 (x.val : Nat), taskV c j lw bA bc, .func (.func 63) #[taskV c j lw bA bc] #[], .int .i64 (x.val : Nat), undef, undef, undef, undef, undef, undef, undef, undef, undef, undef], defers := [] })
    (fun _ _ _ _ _ _ hs _ _ => hs)
    ?assign ?body ?done ?stop
  case assign =>
    rintro l' pre x W3 K hi hK
    gi_wp2
    exact hK _ _ (KeepM.refl _ _ _ _) hi rfl
  case body =>
    rintro l' pre x a' W3 hl' ⟨r, hr⟩ ⟨hJ3, bT, bY, hB, hZ, hfl⟩ rfl hlt
    have HBK := Lib.hid (HBR.out x W3 hB)
    have hcT := bT.cell
    have hcY := bY.cell 0
    obtain ⟨z, hz⟩ : ∃ z, f x = z := ⟨_, rfl⟩
    rw [hz] at HBK
    have HBT := Lib.hid bT
    have HBY := Lib.hid bY
    clear bT bY
    by_cases hz0' : z = 0
    · subst hz0'
      have hfy := filt_yes (l := pre) hz
      gi_wp2
      refine (CallsIn.inRound _ (callsIn_wide.2 HBK.out)).mono ?_
      rintro e w5 ⟨rfl, hg5⟩
      have hcY5 := (Grow.block hg5 HBY.out).cell 0
      obtain ⟨fn, tmps, assign, body, hy, hR⟩ := HY.out _ x w5 (own_grown HJ.out hg5 hJ3) (by omega)
      gi_wp2
      refine (round_in hR).mono ?_
      rintro e W5 ⟨hkk, (⟨rfl, hJ5⟩ | ⟨rfl, hJx5⟩)⟩
      · gi_wp2
        refine ⟨(KeepM.of_grow hg5 (by have := hB.below.size; omega)).trans (hkk.mono (Nat.le_refl _) (by omega)), ?_⟩
        have hk5 := (KeepM.of_grow (n₀ := n₀) (q := q) (m := W.heap.size) hg5 (by have := hB.below.size; omega)).trans hkk
        exact ⟨by rw [hfy]; exact hJ5, hk5.block (Nat.le_refl _) HBT.out, hk5.block (by omega) HBY.out, hB.trans (hk5.kept (by have := hB.below.size; omega)), by have := hk5.below.size; omega, by rw [hfy]; simp; omega⟩
      · gi_wp2
        refine ⟨(KeepM.of_grow hg5 (by have := hB.below.size; omega)).trans (hkk.mono (Nat.le_refl _) (by omega)), ?_⟩
        show Jx ((pre ++ [x]).filter (fitF f)) W5
        rw [hfy]
        exact hJx5
    · have hfn := filt_no (l := pre) (fun e => hz0' (hz.symm.trans e))
      gi_wp2
      refine (CallsIn.inRound _ (callsIn_wide.2 HBK.out)).mono ?_
      rintro e w5 ⟨rfl, hg5⟩
      have hzb : (((z : Nat) : Int) == 0) = false := by simpa using hz0'
      gi_wp2
      refine ⟨fun _ h => (by cases h), ?_⟩
      gi_wp2
      have hk5 := KeepM.of_grow (n₀ := n₀) (q := q) (m := W.heap.size) hg5 (by have := hB.below.size; omega)
      exact ⟨hk5.mono (Nat.le_refl _) (by omega), by rw [hfn]; exact own_grown HJ.out hg5 hJ3, hk5.block (Nat.le_refl _) HBT.out, hk5.block (by omega) HBY.out, hB.trans (hk5.kept (by have := hB.below.size; omega)), by have := hk5.below.size; omega, by rw [hfn]; simp; omega⟩
  case done =>
    rintro D xs W3 hD rfl ⟨hJ3, bT, bY, hB, hZ, hfl⟩ hK
    gi_wp2
    refine ⟨by simp, .inl ⟨_, _, rfl, run_takeDeferred hK, ?_⟩⟩
    exact ⟨_, results_none rfl _ _ _, ⟨_, rfl⟩, .inl ⟨_, rfl, OwnFrom.putObj HJ.out _ hJ3 (by omega) hK rfl⟩⟩
  case stop =>
    rintro D pre W3 hD ⟨k, hk, rfl⟩ hJx3 hK
    gi_wp2
    refine ⟨by simp, .inl ⟨_, _, rfl, run_takeDeferred hK, ?_⟩⟩
    exact ⟨_, results_none rfl _ _ _, ⟨_, rfl⟩, .inr ⟨_, ⟨k, hk, rfl⟩, OwnFrom.putObj HJX.out _ hJx3 (by omega) hK rfl⟩⟩

end Go.Proofs.Yticeekkfdkfcgaa
