/- Round: a region that draws its order, in the round of a range over a function. GapM: mathematics of the weakest gap: the program's search, and what is true of what it finds. Weak: the weakest gap of a watch, as the program finds it: a range over a function in the rounds of a loop, so that the marks of the rounds pile up; written by wip/tools/weak10.py. WeakApi: Weakest; written by wip/tools/weakapi10.py. -/
import Derived.Test.YtcgnibfcjadnjaaRegion
import Derived.RangeFuncNested
import Derived.RangeFuncCalls
import Derived.OrdersIn
import Derived.Test.YtcgnibfcjadnjaaSubs
import Derived.Test.YtcgnibfcjadnjaaCover
import Derived.Test.YtcgnibfcjadnjaaApiBad
namespace Go.Proofs.Ytcgnibfcjadnjaa
open Go.RowKit

section
variable {P : Program} {ops : Array Oper} {Q : Exit → Act → World → Prop} {l n : Nat}
theorem wpIn_of_wp {o : Oper} {a : Act} {w : World} {K : Act → World → Prop} (hnd : ∀ c, o.op ≠ .defer c) (h : o.wp P a w K Q) : o.wpIn (Fence.wide.inRound l) n P a w K Q := by
  refine ⟨fun _ _ => trivial, ?_⟩
  rw [show (Fence.wide.inRound l).round = some l from rfl, Oper.semAt_some l _ o hnd]
  unfold Oper.wp at h
  generalize (execOp a.eval o).run P w = r at h ⊢
  cases r with
  | ok nx w' =>
    cases nx with
    | value v => exact h
    | skip => exact h
    | defer d => exact h
    | enter f args => exact ⟨fun e => (by cases e), CallsIn.inRound l (callsIn_wide.2 h)⟩
    | row r args => exact ⟨fun e => (by cases e), fun c cs _ => let ⟨v, w', r, s⟩ := h c cs; ⟨v, w', r, stepsIn_wide.2 s⟩⟩
    | _ => exact h.elim
  | halt x w' =>
    cases x with
    | panic v => exact h
    | _ => exact h.elim
theorem wpOpIn_of_wpOp {i : Nat} {K K' : Act → World → Prop} {a : Act} {w : World} (hnd : ∀ o, ops[i]? = some o → ∀ c, o.op ≠ .defer c) (hlo : ¬ LetsOut Q) (hk : ∀ a w, K a w → K' a w) (h : wpOp P ops Q i K a w) : wpOpIn (Fence.wide.inRound l) n P ops Q i K' a w := by
  unfold wpOp at h
  unfold wpOpIn
  cases ho : ops[i]? with
  | none => rw [ho] at h; exact hk _ _ h
  | some o =>
    rw [ho] at h
    simp only at h ⊢
    split at h
    · rename_i hw
      rw [if_pos hw]
      rcases h with h | ⟨_, h⟩
      · exact wpIn_of_wp (hnd o ho) (Oper.wp_mono hk h)
      · exact absurd h hlo
    · rename_i hw
      rw [if_neg hw]
      exact ⟨fun _ _ => trivial, hk _ _ h⟩
theorem wpAnyIn_of_wpAny {md : Region.Mode} (hnd : ∀ (i : Nat) (o : Oper), ops[i]? = some o → ∀ c : Call, o.op ≠ .defer c) (hlo : ¬ LetsOut Q) : ∀ (fuel : Nat) (listed : Array Bool) (a : Act) (w : World), wpAny P md ops Q fuel listed a w → wpAnyIn (Fence.wide.inRound l) n P md ops Q fuel listed a w
  | 0, _, _, _, h => h
  | fuel + 1, _, _, _, h => ⟨h.1, fun i hi => wpOpIn_of_wpOp (hnd i) hlo (fun a w h => wpAnyIn_of_wpAny hnd hlo fuel _ a w h) (h.2 i hi)⟩
end
/-- does no operation defer? -/
def noDefer (l : List Oper) : Bool := l.all fun o => match o.op with
  | .defer _ => false
  | _ => true
theorem noDefer_spec {l : List Oper} (h : noDefer l = true) (i : Nat) (o : Oper) (ho : l.toArray[i]? = some o) (c : Call) : o.op ≠ .defer c := fun e => by
  have hm : o ∈ l := List.mem_of_getElem? (by simpa using ho)
  have := List.all_eq_true.1 h o hm
  rw [e] at this
  cases this
/-- the law of a drawn region, in a round -/
theorem wpIn_region_round {P : Program} {Q : Exit → Act → World → Prop} {id r m : Nat} {l : List Oper} {a0 : Act} {w : World} (n : Nat) (deps : List (List (Nat × Tmp))) (R : World → World → Prop) (D : Nat → Value → World → Prop) (hm : P.follows .mixedOrders = true)
    (hok : (headsOk .any l.toArray n a0.tmps.size && (depsOk .any l.toArray (l.take n) deps && Region.noSelect l.toArray)) = true) (hnd : noDefer l = true) (hlo : ¬ LetsOut Q)
    (hRt : ∀ x y z, R x y → R y z → R x z) (hRr : ∀ x, R x x) (hD : ∀ i v x y, D i v x → R x y → D i v y)
    (hstep : StepsLit P l.toArray a0 w.drew R D deps 0 (l.take n))
    (hfin : ∀ w', R w.drew w' → finVC D w' (l.take n) 0 a0 fun a => wpList P l.toArray Q (l.drop n) a w') :
    (Code.region id l.toArray true).wpIn (Fence.wide.inRound r) m P Q a0 w :=
  wpIn_region_any hm (wpAnyIn_of_wpAny (noDefer_spec hnd) hlo _ _ _ _ (wpAny_region_lit n deps R D hok hRt hRr hD hstep hfin))
end Go.Proofs.Ytcgnibfcjadnjaa

namespace Go.Proofs.Ytcgnibfcjadnjaa
open Go.RowKit

structure GapN where
  slot : Nat
  ill : Nat
  tongues : Nat
  missing : Int
def noGap : GapN := ⟨0, 0, 0, 0⟩
def gapMore (b : GapN) (c : GapN) : GapN := if b.missing < c.missing then c else b
/-- the first T sets of languages -/
def gT (p : Pool) (s g x : Nat) (b : GapN) : Nat → GapN
  | 0 => b
  | T + 1 => gapMore (gT p s g x b T) ⟨s, x, T, miss p s (diffN g x) T⟩
def gOne (p : Pool) (s g : Nat) (b : GapN) (x : Nat) : GapN := if popD x ≤ p.ill then gT p s g x b (2 ^ p.tn) else b
def gX (p : Pool) (s g : Nat) (b : GapN) (l : List Nat) : GapN := l.foldl (gOne p s g) b
def gS (p : Pool) (gs : List Nat) : Nat → GapN
  | 0 => noGap
  | s + 1 => gX p s (gs.getD s 0) (gS p gs s) (subsL (gs.getD s 0))
def weakD (p : Pool) (gs : List Nat) : GapN := gS p gs gs.length
/-- a gap of a watch -/
def GapOK (p : Pool) (gs : List Nat) (b : GapN) : Prop := b.slot < gs.length ∧ subN b.ill (gs.getD b.slot 0) = true ∧ popD b.ill ≤ p.ill ∧ b.tongues < 2 ^ p.tn ∧ b.missing = miss p b.slot (diffN (gs.getD b.slot 0) b.ill) b.tongues
def GapIs (p : Pool) (gs : List Nat) (b : GapN) : Prop := b = noGap ∨ (0 < b.missing ∧ GapOK p gs b)
theorem gapMore_ge (b c : GapN) : b.missing ≤ (gapMore b c).missing ∧ c.missing ≤ (gapMore b c).missing := by
  unfold gapMore
  split
  · omega
  · omega
theorem GapIs.nonneg {p : Pool} {gs : List Nat} {b : GapN} (h : GapIs p gs b) : 0 ≤ b.missing := by
  rcases h with rfl | h
  · exact Int.le_refl _
  · omega
theorem GapIs.more {p : Pool} {gs : List Nat} {b c : GapN} (h : GapIs p gs b) (hc : GapOK p gs c) : GapIs p gs (gapMore b c) := by
  have h0 := h.nonneg
  unfold gapMore
  split
  · exact .inr ⟨by omega, hc⟩
  · exact h
theorem gT_facts {p : Pool} {gs : List Nat} {s x : Nat} (hs : s < gs.length) (hx : subN x (gs.getD s 0) = true) (hp : popD x ≤ p.ill) {b : GapN} (hb : GapIs p gs b) : ∀ T, T ≤ 2 ^ p.tn →
    GapIs p gs (gT p s (gs.getD s 0) x b T) ∧ b.missing ≤ (gT p s (gs.getD s 0) x b T).missing ∧ ∀ u, u < T → miss p s (diffN (gs.getD s 0) x) u ≤ (gT p s (gs.getD s 0) x b T).missing
  | 0, _ => ⟨hb, Int.le_refl _, fun u hu => by omega⟩
  | T + 1, hT => by
    obtain ⟨h1, h2, h3⟩ := gT_facts hs hx hp hb T (by omega)
    have hm := gapMore_ge (gT p s (gs.getD s 0) x b T) ⟨s, x, T, miss p s (diffN (gs.getD s 0) x) T⟩
    refine ⟨h1.more ⟨hs, hx, hp, by dsimp only; omega, rfl⟩, Int.le_trans h2 hm.1, fun u hu => ?_⟩
    show _ ≤ (gapMore _ _).missing
    by_cases h : u < T
    · exact Int.le_trans (h3 u h) hm.1
    · obtain rfl : u = T := by omega
      exact hm.2
theorem gX_facts {p : Pool} {gs : List Nat} {s : Nat} (hs : s < gs.length) : ∀ (l : List Nat) (b : GapN), (∀ x, x ∈ l → subN x (gs.getD s 0) = true) → GapIs p gs b →
    GapIs p gs (gX p s (gs.getD s 0) b l) ∧ b.missing ≤ (gX p s (gs.getD s 0) b l).missing ∧ ∀ x u, x ∈ l → popD x ≤ p.ill → u < 2 ^ p.tn → miss p s (diffN (gs.getD s 0) x) u ≤ (gX p s (gs.getD s 0) b l).missing
  | [], b, _, hb => ⟨hb, Int.le_refl _, fun x u hx => by cases hx⟩
  | y :: l, b, hl, hb => by
    have h1 : GapIs p gs (gOne p s (gs.getD s 0) b y) ∧ b.missing ≤ (gOne p s (gs.getD s 0) b y).missing ∧ (popD y ≤ p.ill → ∀ u, u < 2 ^ p.tn → miss p s (diffN (gs.getD s 0) y) u ≤ (gOne p s (gs.getD s 0) b y).missing) := by
      unfold gOne
      by_cases hp : popD y ≤ p.ill
      · rw [if_pos hp]
        obtain ⟨a, c, d⟩ := gT_facts hs (hl y (by simp)) hp hb (2 ^ p.tn) (Nat.le_refl _)
        exact ⟨a, c, fun _ => d⟩
      · rw [if_neg hp]
        exact ⟨hb, Int.le_refl _, fun h => absurd h hp⟩
    obtain ⟨a, c, d⟩ := gX_facts hs l (gOne p s (gs.getD s 0) b y) (fun x hx => hl x (by simp [hx])) h1.1
    refine ⟨a, Int.le_trans h1.2.1 c, fun x u hx hp hu => ?_⟩
    show _ ≤ (gX p s (gs.getD s 0) (gOne p s (gs.getD s 0) b y) l).missing
    rcases List.mem_cons.1 hx with rfl | hx
    · exact Int.le_trans (h1.2.2 hp u hu) c
    · exact d x u hx hp hu
theorem gS_facts {p : Pool} {gs : List Nat} : ∀ s, s ≤ gs.length → GapIs p gs (gS p gs s) ∧ ∀ k x u, k < s → subN x (gs.getD k 0) = true → popD x ≤ p.ill → u < 2 ^ p.tn → miss p k (diffN (gs.getD k 0) x) u ≤ (gS p gs s).missing
  | 0, _ => ⟨.inl rfl, fun k x u hk => by omega⟩
  | s + 1, hs => by
    obtain ⟨h1, h2⟩ := gS_facts (p := p) (gs := gs) s (by omega)
    obtain ⟨a, c, d⟩ := gX_facts (gs := gs) (s := s) (by omega) (subsL (gs.getD s 0)) (gS p gs s) (fun x hx => subs_mem.1 hx) h1
    refine ⟨a, fun k x u hk hx hp hu => ?_⟩
    show _ ≤ (gX p s (gs.getD s 0) (gS p gs s) (subsL (gs.getD s 0))).missing
    by_cases h : k < s
    · exact Int.le_trans (h2 k x u h hx hp hu) c
    · obtain rfl : k = s := by omega
      exact d x u (subs_mem.2 hx) hp hu
theorem weak_is (p : Pool) (gs : List Nat) : GapIs p gs (weakD p gs) := (gS_facts gs.length (Nat.le_refl _)).1
theorem weak_most {p : Pool} {gs : List Nat} {s x u : Nat} (hs : s < gs.length) (hx : subN x (gs.getD s 0) = true) (hp : popD x ≤ p.ill) (hu : u < 2 ^ p.tn) : miss p s (diffN (gs.getD s 0) x) u ≤ (weakD p gs).missing :=
  (gS_facts gs.length (Nat.le_refl _)).2 s x u hs hx hp hu
/-- the groups gone through, as the program yields them -/
def gF (p : Pool) (s g : Nat) (b : GapN) (pre : List (Fin 32)) : GapN := gX p s g b (pre.map (·.val))
theorem gF_nil (p : Pool) (s g : Nat) (b : GapN) : gF p s g b [] = b := rfl
theorem gF_snoc (p : Pool) (s g : Nat) (b : GapN) (pre : List (Fin 32)) (x : Fin 32) : gF p s g b (pre ++ [x]) = gOne p s g (gF p s g b pre) x.val := by
  unfold gF gX
  rw [List.map_append, List.foldl_append]
  rfl
theorem gF_all (p : Pool) (s g : Nat) (b : GapN) (hg : g < 32) : gF p s g b (subsF g) = gX p s g b (subsL g) := by
  unfold gF
  rw [subsF_vals g hg]
abbrev cellsGap (b : GapN) : Array Value := #[.int .i64 (b.slot : Nat), .int .i64 (b.ill : Nat), .int .i64 (b.tongues : Nat), .int .i64 b.missing]

end Go.Proofs.Ytcgnibfcjadnjaa

namespace Go.Proofs.Ytcgnibfcjadnjaa
open Go.RowKit Go.Shelf

attribute [local go_sem] Oper.semAt_some

def markD (D : Nat) : Deferred := { target := .collected D, args := #[] }
/-- the marks of the rounds: each of a block of its own that holds no calls -/
def MarksAt (w : World) (lo : Nat) (Ds : List Nat) : Prop := Ds.Pairwise (fun a b => a ≠ b) ∧ ∀ D, D ∈ Ds → lo ≤ D ∧ w.heap[D]? = some (.deferred (some []))
theorem MarksAt.lt {w : World} {lo D : Nat} {Ds : List Nat} (h : MarksAt w lo Ds) (hd : D ∈ Ds) : D < w.heap.size := (Array.getElem?_eq_some_iff.1 (h.2 D hd).2).1
theorem MarksAt.grow {w w' : World} {lo : Nat} {Ds : List Nat} (h : MarksAt w lo Ds) (g : Grow w w') : MarksAt w' lo Ds := ⟨h.1, fun D hd => ⟨(h.2 D hd).1, (Below.block g D (h.lt hd)).trans (h.2 D hd).2⟩⟩
theorem MarksAt.cons {w : World} {lo D n : Nat} {Ds : List Nat} (h : MarksAt w lo Ds) (hD : w.heap[D]? = some (.deferred (some []))) (hl : lo ≤ D) (hn : ∀ E, E ∈ Ds → E < n) (hDn : n ≤ D) : MarksAt w lo (D :: Ds) :=
  ⟨List.pairwise_cons.2 ⟨fun E hE => by have := hn E hE; omega, h.1⟩, fun E hE => by
    rcases List.mem_cons.1 hE with rfl | hE
    · exact ⟨hl, hD⟩
    · exact h.2 E hE⟩
theorem MarksAt.cell {w : World} {lo b i : Nat} {Ds : List Nat} {t : TypeId} {cs : Array Value} (h : MarksAt w lo Ds) (hb : BlockIs w b t cs) (v : Value) : MarksAt (w.setCell ⟨b, i, none⟩ v) lo Ds :=
  ⟨h.1, fun D hd => ⟨(h.2 D hd).1, by
    have hne : D ≠ b := by
      rintro rfl
      have h1 := (h.2 D hd).2
      rw [show w.heap[D]? = _ from hb] at h1
      cases h1
    exact (Below.heap_setCell w ⟨b, i, none⟩ v D hne).trans (h.2 D hd).2⟩⟩
theorem marks_own {β : Type} {B lo : Nat} {Ds : List Nat} (hB : ∀ D, D ∈ Ds → D < B) : OwnFrom B (fun (_ : β) W => MarksAt W lo Ds) := fun _ X Y row hs hg hr => ⟨hs.1, fun D hd => ⟨(hs.2 D hd).1, (hg.block D (hs.lt hd) (fun e => by
  have h1 := (hr D e.symm).1
  have h2 := hB D hd
  omega)).trans (hs.2 D hd).2⟩⟩
theorem MarksAt.low {w : World} {lo lo' : Nat} {Ds : List Nat} (h : MarksAt w lo Ds) (hl : lo' ≤ lo) : MarksAt w lo' Ds := ⟨h.1, fun D hd => ⟨by have := (h.2 D hd).1; omega, (h.2 D hd).2⟩⟩
/-- a function leaves past its marks -/
theorem leave_marks {P : Program} {fn : Func} {tmps : Array Value} {R : Ending → World → Prop} {w : World} {rb : Nat} {t : TypeId} {cs : Array Value} (hend : ∀ W, BlockIs W rb t cs → Below w.heap.size w W → ∃ v, (results fn tmps).run P W = .ok v W ∧ R (.returned v) W) :
    ∀ (Ds : List Nat) (W : World), MarksAt W w.heap.size Ds → BlockIs W rb t cs → Below w.heap.size w W → LeavesInM Fence.wide 8 P fn tmps R (Ds.map markD) .returning W
  | [], W, _, hb, hg => hend W hb hg
  | D :: Ds, W, hm, hb, hg => by
    have h1 := hm.2 D (by simp)
    have hne : rb ≠ D := by
      rintro rfl
      have h2 := h1.2
      rw [show W.heap[rb]? = _ from hb] at h2
      cases h2
    refine ⟨by simp, .inl ⟨D, _, rfl, run_takeDeferred h1.2, ?_⟩⟩
    refine leave_marks hend Ds _ ⟨(List.pairwise_cons.1 hm.1).2, fun E hE => ⟨(hm.2 E (by simp [hE])).1, ?_⟩⟩ ((World.putObj_heap_other hne).trans hb) (hg.trans (belowK_b (w := w) (Nat.le_refl _) W D _ _ h1.1 h1.2 rfl rfl))
    exact (World.putObj_heap_other (fun e => (List.pairwise_cons.1 hm.1).1 E hE e.symm)).trans (hm.2 E (by simp [hE])).2
abbrev zeroGap : Array Value := #[.int .i64 0, .int .i64 0, .int .i64 0, .int .i64 0]
/-- what stands while the sick are gone through -/
structure WkI (w W0 W : World) (h : PoolH) (p : Pool) (s g sb : Nat) (Ds : List Nat) (b : GapN) : Prop where
  gap : BlockIs W (w.heap.size + 2) 36 (cellsGap b)
  box : BlockIs W w.heap.size 73 (cellsN h p)
  res : BlockIs W (w.heap.size + 1) 36 zeroGap
  slot : BlockIs W sb 3 #[.int .i64 (s : Nat)]
  grp : BlockIs W (sb + 1) 83 #[.int .i64 (g : Nat)]
  grow : Below w.heap.size w W
  size : W0.heap.size ≤ W.heap.size
  marks : MarksAt W (w.heap.size + 3) Ds
theorem wkI_own {w W0 : World} {h : PoolH} {p : Pool} {s g sb B : Nat} {Ds : List Nat} {f : List (Fin 32) → GapN} (hB : w.heap.size ≤ B) (hD : ∀ D, D ∈ Ds → D < B) : OwnFrom B (fun (pre : List (Fin 32)) W => WkI w W0 W h p s g sb Ds (f pre)) := by
  intro pre X Y row hs hg hr
  obtain ⟨h1, h2, h3, h4, h5, h6, h7, h8⟩ := hs
  exact ⟨block_own h1 hg hr, block_own h2 hg hr, block_own h3 hg hr, block_own h4 hg hr, block_own h5 hg hr, (ownFrom_below (w₀ := w) (Nat.le_refl _) hB) () X Y row h6 hg hr, Nat.le_trans h7 hg.size, marks_own (β := Unit) hD () X Y row h8 hg hr⟩
theorem WkI.keep {w W0 W W' : World} {h : PoolH} {p : Pool} {s g sb : Nat} {Ds : List Nat} {b : GapN} (k : WkI w W0 W h p s g sb Ds b) (hg : Grow W W') : WkI w W0 W' h p s g sb Ds b :=
  ⟨hg.block k.gap, hg.block k.box, hg.block k.res, hg.block k.slot, hg.block k.grp, k.grow.trans (Below.mono hg k.grow.size), Nat.le_trans k.size hg.size, k.marks.grow hg⟩
theorem gap_far {w : World} {b q : Nat} {t : TypeId} {cs : Array Value} (h : BlockIs w q t cs) (hn : q ≠ b) (v0 v1 v2 v3 : Value) : BlockIs ((((w.setCell ⟨b, 0, none⟩ v0).setCell ⟨b, 1, none⟩ v1).setCell ⟨b, 2, none⟩ v2).setCell ⟨b, 3, none⟩ v3) q t cs :=
  (((h.far (p := ⟨b, 0, none⟩) hn v0).far (p := ⟨b, 1, none⟩) hn v1).far (p := ⟨b, 2, none⟩) hn v2).far (p := ⟨b, 3, none⟩) hn v3
theorem WkI.store {w W0 W : World} {h : PoolH} {p : Pool} {s g sb : Nat} {Ds : List Nat} {b : GapN} (k : WkI w W0 W h p s g sb Ds b) (hsb : w.heap.size + 2 < sb) (c : GapN) :
    WkI w W0 ((((W.setCell ⟨w.heap.size + 2, 0, none⟩ (.int .i64 (c.slot : Nat))).setCell ⟨w.heap.size + 2, 1, none⟩ (.int .i64 (c.ill : Nat))).setCell ⟨w.heap.size + 2, 2, none⟩ (.int .i64 (c.tongues : Nat))).setCell ⟨w.heap.size + 2, 3, none⟩ (.int .i64 c.missing)) h p s g sb Ds c := by
  have g0 := k.gap
  have g1 := g0.near 0 (.int .i64 (c.slot : Nat))
  have g2 := g1.near 1 (.int .i64 (c.ill : Nat))
  have g3 := g2.near 2 (.int .i64 (c.tongues : Nat))
  refine ⟨g3.near 3 (.int .i64 c.missing), gap_far k.box (by omega) _ _ _ _, gap_far k.res (by omega) _ _ _ _, gap_far k.slot (by omega) _ _ _ _, gap_far k.grp (by omega) _ _ _ _, ?_, ?_, (((k.marks.cell g0 _).cell g1 _).cell g2 _).cell g3 _⟩
  · exact (((k.grow.setCell (p := ⟨w.heap.size + 2, 0, none⟩) (by simp) _).setCell (p := ⟨w.heap.size + 2, 1, none⟩) (by simp) _).setCell (p := ⟨w.heap.size + 2, 2, none⟩) (by simp) _).setCell (p := ⟨w.heap.size + 2, 3, none⟩) (by simp) _
  · have := k.size
    simp
    exact this
theorem results_gap {fn : Func} (h : fn.results = #[.cell 4 36]) (t : Array Value) (W : World) (b : Nat) (v0 v1 v2 v3 : Value)
    (hb : BlockIs W b 36 #[v0, v1, v2, v3]) (ht : t.getD 4 undef = .pointer (some ⟨b, 0, none⟩)) :
    (results fn t).run Try.prog W = .ok (.agg #[v0, v1, v2, v3]) W := by
  have hc := hb.cell
  simp only [results, h]
  simp at ht
  simp [go_sem, ht, hc]

set_option maxRecDepth 100000 in
set_option maxHeartbeats 16000000 in
theorem weakest_any (h : PoolH) (p : Pool) (G : Good p) (A : Option Addr) (cap : Nat) (gs : List Nat) (w : World) (hA : PoolAt w w.heap.size h p.i) (hI : Ints w w.heap.size A (natsL gs)) (hwt : Watch p gs) :
    Calls Try.prog 46 #[poolN h p, .slice A gs.length cap] w fun e w' => e = .returned (.agg (cellsGap (weakD p gs))) ∧ Below w.heap.size w w' := by
  have HIN := Lib.hid (fun (w0 : World) (hw : Below w.heap.size w w0) => (hI.below hw).more hw.size)
  have HRW := Lib.hid (fun (s : Nat) (hs : s < p.needs.length) (w0 : World) (hw : Below w.heap.size w w0) => row_at ((hA.below hw).more hw.size).2 hs)
  have HMS := Lib.hid (fun (s g T : Nat) (hs : s < p.needs.length) (hg : g < 32) (hT : T < 1000) (w0 : World) (hw : Below w.heap.size w w0) => missing_any h p G s g T w0 ((hA.below hw).more hw.size) hs (by omega) (by omega))
  have HMB := Lib.hid (fun s g T (hs : s < p.needs.length) => miss_bounds G hs g T)
  have HG32 := Lib.hid (fun (s g : Nat) (hg : gs[s]? = some g) => hwt.g32 G hg)
  have HLN := Lib.hid hwt.len
  have HRT := Lib.hid (fun s (hs : s < p.needs.length) => row_tn G hs)
  have hn3 := G.n3
  have ht3 := G.t3
  have hill3 := G.ill
  have hl3 : gs.length ≤ 3 := by have := hwt.len; omega
  have hp8 : 2 ^ p.tn ≤ 8 := Nat.pow_le_pow_right (n := 2) (by omega) ht3
  have hpI : ((2 : Int) ^ p.tn) = ((2 ^ p.tn : Nat) : Int) := (Int.natCast_pow 2 _).symm
  have HGN : Hid (∀ s x b, gOne p s (gs.getD s 0) b x = if popD x ≤ p.ill then gT p s (gs.getD s 0) x b (2 ^ p.tn) else b) := Lib.hid (fun _ _ _ => rfl)
  obtain ⟨m8, hm8⟩ : ∃ z, 2 ^ p.tn = z := ⟨_, rfl⟩
  rw [hm8] at HGN hp8 hpI
  have hwr : IntKind.i64.wrap ((2 : Int) ^ p.tn) = (m8 : Int) := by rw [hpI]; exact IntWalk.i64_in _ (by omega)
  clear hA hI hwt G hpI hm8
  obtain ⟨fa, fc, na, nc⟩ := h
  have hro : Fence.wide.round = none := rfl
  have h61 : Fence.wide.fn 61 := trivial
  have h69 : Fence.wide.fn 69 := trivial
  refine (callsIn_wide (n := 8)).1 ?_
  refine callsIn_of_wp_marks Try.func46 rfl trivial ?_ hro
  simp only [Try.ntmps46, List.size_toArray, List.length_cons, List.length_nil, Nat.reduceAdd, Nat.reduceSub, Array.replicate_succ, Array.replicate_zero, List.push_toArray, List.append_toArray, List.nil_append, List.cons_append]
  refine wpIn_wide.2 ?_
  go_upto_region 1 with fail
  obtain ⟨W1, hW1, hg1, hf1, hf2, hsz1⟩ := two_blocks w 73 36 (cellsN ⟨fa, fc, na, nc⟩ p) zeroGap
  have hz1 : W1.heap.size = w.heap.size + 2 := by rw [← hW1]; simp
  rw [hW1]
  go_upto_region 2 with fail
  obtain ⟨W, hW, hg2, hf3, hsz⟩ := one_block W1 36 zeroGap
  have HB := Lib.hid (hg2.block hf1)
  have HR := Lib.hid (hg2.block hf2)
  have HGP : Hid (BlockIs W (w.heap.size + 2) 36 (cellsGap (gS p gs 0))) := Lib.hid (by rw [← hz1]; exact hf3)
  have HG := Lib.hid (hg1.trans hg2)
  have hWz : W.heap.size = w.heap.size + 3 := by rw [← hW]; simp; omega
  rw [hW]
  clear hW1 hg1 hf1 hf2 hsz1 hW hg2 hf3 hsz hz1
  go_upto_region 3 with fail
  refine wp_loop (fun a2 wr => ∃ (s : Nat) (u6 u7 u8 u9 u10 u14 u15 u16 u17 u18 u19 u20 u21 u22 u23 u24 u25 u26 u27 u28 u29 u30 u31 u32 u33 u34 u35 u36 u37 u38 u39 u40 u41 u42 u43 u44 u45 u46 u47 u48 u49 u50 u51 u52 u53 u54 u55 u56 : Value) (Ds : List Nat), (s ≤ gs.length ∧ Hid (BlockIs wr w.heap.size 73 (cellsN ⟨fa, fc, na, nc⟩ p)) ∧ Hid (BlockIs wr (w.heap.size + 1) 36 zeroGap) ∧ Hid (BlockIs wr (w.heap.size + 2) 36 (cellsGap (gS p gs s))) ∧ Hid (Below w.heap.size w wr) ∧ Hid (MarksAt wr (w.heap.size + 3) Ds)) ∧ a2 = { tmps := #[poolN ⟨fa, fc, na, nc⟩ p, .slice A gs.length cap, .pointer (some ⟨w.heap.size, 0, none⟩), undef, .pointer (some ⟨w.heap.size + 1, 0, none⟩), .pointer (some ⟨w.heap.size + 2, 0, none⟩), u6, u7, u8, u9, u10, .slice A gs.length cap, .int .i64 (gs.length : Nat), .int .i64 (s : Nat), u14, u15, u16, u17, u18, u19, u20, u21, u22, u23, u24, u25, u26, u27, u28, u29, u30, u31, u32, u33, u34, u35, u36, u37, u38, u39, u40, u41, u42, u43, u44, u45, u46, u47, u48, u49, u50, u51, u52, u53, u54, u55, u56], defers := Ds.map markD }) (fun a2 _ => gs.length - (intOf (a2.tmps.getD 13 undef)).toNat) ?start ?round
  case start => exact ⟨0, _, _, _, _, _, _, _, _, _, _, _, _, _, _, _, _, _, _, _, _, _, _, _, _, _, _, _, _, _, _, _, _, _, _, _, _, _, _, _, _, _, _, _, _, _, _, _, _, [], ⟨Nat.zero_le _, HB, HR, HGP, HG, Lib.hid ⟨List.Pairwise.nil, fun D hD => by cases hD⟩⟩, rfl⟩
  case round =>
    rintro _ wr ⟨s, u6, u7, u8, u9, u10, u14, u15, u16, u17, u18, u19, u20, u21, u22, u23, u24, u25, u26, u27, u28, u29, u30, u31, u32, u33, u34, u35, u36, u37, u38, u39, u40, u41, u42, u43, u44, u45, u46, u47, u48, u49, u50, u51, u52, u53, u54, u55, u56, Ds, ⟨hs, HBR, HRR, HGR, HWR, HMK⟩, rfl⟩
    dsimp only
    clear HB HR HGP HG hWz
    by_cases hlt : s < gs.length
    · have hd : decide ((s : Int) < (gs.length : Int)) = true := decide_eq_true (by omega)
      have hs0 : (0 : Int) ≤ (s : Int) := by omega
      have hs1 : (s : Int) < (gs.length : Int) := by omega
      obtain ⟨ab, ao, g, rfl, hab, hac, HX⟩ := ints_nat (HIN.out wr HWR.out) hlt
      have hg32 := HG32.out s g HX.out
      have hgd : gs.getD s 0 = g := by rw [List.getD_eq_getElem?_getD, HX.out]; rfl
      have hsn : s < p.needs.length := by have := HLN.out; omega
      have HSS : Hid (gS p gs (s + 1) = gF p s g (gS p gs s) (subsF g)) := Lib.hid (by rw [gF_all p s g _ hg32]; show gX p s (gs.getD s 0) (gS p gs s) (subsL (gs.getD s 0)) = _; rw [hgd])
      have HGO : Hid (∀ x b, gOne p s g b x = if popD x ≤ p.ill then gT p s g x b m8 else b) := Lib.hid (fun x b => by have h := HGN.out s x b; rwa [hgd] at h)
      obtain ⟨b0, hb0⟩ : ∃ z, gS p gs s = z := ⟨_, rfl⟩
      rw [hb0] at HSS HGR
      clear hgd hb0
      go_upto_region 5 with fail
      obtain ⟨W0, hW0, hg0, hf6, hf7, hsz0⟩ := two_blocks wr 3 83 #[.int .i64 (s : Nat)] #[.int .i64 (g : Nat)]
      have hW0z : W0.heap.size = wr.heap.size + 2 := by rw [← hW0]; simp
      rw [hW0]
      obtain ⟨sb, hsb⟩ : ∃ z, wr.heap.size = z := ⟨_, rfl⟩
      rw [hsb] at hf6 hf7 hW0z ⊢
      have hsb2 : w.heap.size + 2 < sb := by have h1 := HGR.out.lt; omega
      have hmd : ∀ D, D ∈ Ds → D < sb := fun D hD => by have := HMK.out.lt hD; omega
      have HMD := Lib.hid hmd
      have HI0 : Hid (WkI w W0 W0 ⟨fa, fc, na, nc⟩ p s g sb Ds (gF p s g b0 [])) := Lib.hid ⟨hg0.block HGR.out, hg0.block HBR.out, hg0.block HRR.out, hf6, hf7, HWR.out.trans (Below.mono hg0 HWR.out.size), Nat.le_refl _, HMK.out.grow hg0⟩
      have hgc := hf7.cell 0
      clear hW0 hg0 hf6 hf7 hsz0 hsb HBR HRR HGR HWR HMK hac hmd hab
      clear wr
      go_wp2
      refine (wpIn_wide (n := 8)).1 ?_
      refine wpIn_rangeSeq (first := #[.int .i64 (g : Nat)]) (lb := #[]) (gf := 68) rfl (enters_of Try.func68 (by kernel_rfl) rfl)
        (subs_stops g hg32 W0) (Below.refl _ _) (fun _ => rfl)
        (fun pre W' => WkI w W0 W' ⟨fa, fc, na, nc⟩ p s g sb Ds (gF p s g b0 pre))
        (fun _ _ => False)
        (wkI_own (by omega) (fun D hD => by have := HMD.out D hD; omega))
        (fun _ _ _ _ hs _ _ => hs)
        HI0.out
        (fun x a' _ => a' = { tmps := #[poolN ⟨fa, fc, na, nc⟩ p, .slice (some ⟨ab, ao, none⟩) gs.length cap, .pointer (some ⟨w.heap.size, 0, none⟩), undef, .pointer (some ⟨w.heap.size + 1, 0, none⟩), .pointer (some ⟨w.heap.size + 2, 0, none⟩), .pointer (some ⟨sb, 0, none⟩), .pointer (some ⟨sb + 1, 0, none⟩), .int .i64 (x.val : Nat), u9, u10, .slice (some ⟨ab, ao, none⟩) gs.length cap, .int .i64 (gs.length : Nat), .int .i64 (s : Nat), .bool true, .int .i64 (s : Nat), .pointer (some ⟨ab, ao + s, none⟩), .int .i64 (g : Nat), .int .i64 (g : Nat), .func (.func 68) #[.int .i64 (g : Nat)] #[], .int .i64 (x.val : Nat), u21, u22, u23, u24, u25, u26, u27, u28, u29, u30, u31, u32, u33, u34, u35, u36, u37, u38, u39, u40, u41, u42, u43, u44, u45, u46, u47, u48, u49, u50, u51, u52, u53, u54, u55, u56], defers := [] })
        (fun _ _ _ _ _ _ hs _ _ => hs)
        ?assign ?body ?done ?stop
      case assign =>
        rintro l pre x W3 K hi hK
        gi_wp2
        exact hK _ _ (KeepS.refl _ _) hi rfl
      case body =>
        rintro l pre x a' W3 rfl ⟨r, hr⟩ hI rfl hlt5
        have HSN : Hid (gF p s g b0 (pre ++ [x]) = if popD x.val ≤ p.ill then gT p s g x.val (gF p s g b0 pre) m8 else gF p s g b0 pre) := Lib.hid (by rw [gF_snoc, HGO.out])
        obtain ⟨b, hb⟩ : ∃ z, gF p s g b0 pre = z := ⟨_, rfl⟩
        rw [hb] at HSN hI
        have HI := Lib.hid hI
        have HBX := Lib.hid hI.box
        have hW3s : W0.heap.size + 1 < W3.heap.size := (Array.getElem?_eq_some_iff.1 hr).1
        have HX32 := Lib.hid x.isLt
        obtain ⟨xv, hxv⟩ : ∃ z, x.val = z := ⟨_, rfl⟩
        rw [hxv] at HSN HX32 ⊢
        have hx32 : xv < 32 := HX32.out
        have HSZ := Lib.hid (fun w0 => size_any xv w0 (by omega))
        have hp5 := pop_le5 xv hx32
        obtain ⟨pp, hpp⟩ : ∃ z, popD xv = z := ⟨_, rfl⟩
        rw [hpp] at HSN HSZ hp5
        obtain ⟨c, hc⟩ : ∃ z, decide (p.ill < pp) = z := ⟨_, rfl⟩
        have HC := Lib.hid hc
        have HWZ := Lib.hid (fun (w9 : World) (k : KeepS W0.heap.size W3 w9) => (show W0.heap.size < w9.heap.size by have := k.size; omega))
        have HWZ2 := Lib.hid (fun (w9 : World) (k : KeepS W0.heap.size W3 w9) => (show W0.heap.size + 1 < w9.heap.size by have := k.size; omega))
        clear hb hr hI hxv hpp hc HX32 hgc
        gi_wp2
        refine wpIn_region_round 6 [[], [(0, 21)], [], [(2, 23)], [(3, 24)], [(1, 22), (4, 25)]] Grow (fun qi v w' => match qi with
            | 0 => v = .int .i64 (xv : Nat)
            | 1 => v = .int .i64 (pp : Nat)
            | 2 => v = .pointer (some ⟨w.heap.size, 0, none⟩)
            | 3 => v = .pointer (some ⟨w.heap.size, 2, none⟩)
            | 4 => v = .int .i64 (p.ill : Nat)
            | 5 => v = .bool c
            | _ => False) (by kernel_rfl) (by kernel_rfl) (by kernel_rfl) (fun ⟨_, _, h⟩ => h) (fun _ _ _ => Grow.trans) Grow.refl ?_ ?_ ?_
        · intro i v y y' h k
          match i, h with
          | 0, h | 1, h | 2, h | 3, h | 4, h | 5, h => exact h
        · simp only [StepsLit, List.take_succ_cons, List.take_zero]
          refine ⟨?_, ?_, ?_, ?_, ?_, ?_, trivial⟩
          · intro w5 hR
            have hGw : Grow W3 w5 := hR.of_drew
            have HGW := Lib.hid hGw
            have hcc := (HGW.out.block HBX.out).cell
            clear hR hGw
            simp only [depV]
            try go_simp
            all_goals first
              | (with_reducible exact Grow.refl _)
              | (with_reducible exact ⟨Grow.refl _, rfl⟩)
          · intro w5 hR
            have hGw : Grow W3 w5 := hR.of_drew
            have HGW := Lib.hid hGw
            have hcc := (HGW.out.block HBX.out).cell
            clear hR hGw
            simp only [depV]
            rintro _ rfl
            try go_simp
            refine (HSZ.out _).mono ?_
            rintro e w6 ⟨rfl, rfl⟩
            exact ⟨Grow.refl _, rfl⟩
          · intro w5 hR
            have hGw : Grow W3 w5 := hR.of_drew
            have HGW := Lib.hid hGw
            have hcc := (HGW.out.block HBX.out).cell
            clear hR hGw
            simp only [depV]
            try go_simp
            all_goals first
              | (with_reducible exact Grow.refl _)
              | (with_reducible exact ⟨Grow.refl _, rfl⟩)
          · intro w5 hR
            have hGw : Grow W3 w5 := hR.of_drew
            have HGW := Lib.hid hGw
            have hcc := (HGW.out.block HBX.out).cell
            clear hR hGw
            simp only [depV]
            rintro _ rfl
            try go_simp
            all_goals first
              | (with_reducible exact Grow.refl _)
              | (with_reducible exact ⟨Grow.refl _, rfl⟩)
          · intro w5 hR
            have hGw : Grow W3 w5 := hR.of_drew
            have HGW := Lib.hid hGw
            have hcc := (HGW.out.block HBX.out).cell
            clear hR hGw
            simp only [depV]
            rintro _ rfl
            try go_simp
            all_goals first
              | (with_reducible exact Grow.refl _)
              | (with_reducible exact ⟨Grow.refl _, rfl⟩)
          · intro w5 hR
            have hGw : Grow W3 w5 := hR.of_drew
            have HGW := Lib.hid hGw
            have hcc := (HGW.out.block HBX.out).cell
            clear hR hGw
            simp only [depV]
            rintro _ rfl
            rintro _ rfl
            try go_simp
            exact ⟨Grow.refl _, by rw [HC.out]⟩
        · intro w5 hR
          have HG5 : Hid (Grow W3 w5) := Lib.hid hR.of_drew
          clear hR
          simp only [finVC, List.take_succ_cons, List.take_zero, List.drop_succ_cons, List.drop_zero]
          rintro _ rfl
          rintro _ rfl
          rintro _ rfl
          rintro _ rfl
          rintro _ rfl
          rintro _ rfl
          simp only [Act.put, List.setIfInBounds_toArray, List.set_cons_succ, List.set_cons_zero]
          have HKB : Hid (KeepS W0.heap.size W3 w5) := Lib.hid (KeepS.of_below HG5.out hW3s)
          simp only [wpList]
          cases c with
          | true =>
            have HE : Hid (gF p s g b0 (pre ++ [x]) = b) := Lib.hid (by rw [HSN.out, if_neg (by have := of_decide_eq_true HC.out; omega)])
            gi_wp2
            exact ⟨HKB.out, by dsimp only; rw [HE.out]; exact HI.out.keep HG5.out⟩
          | false =>
            have HE : Hid (gF p s g b0 (pre ++ [x]) = gT p s g xv b m8) := Lib.hid (by rw [HSN.out, if_pos (by have := of_decide_eq_false HC.out; omega)])
            have HI5 := Lib.hid (HI.out.keep HG5.out)
            obtain ⟨nb, no, ra, rc, hna, hnb, hrc, _⟩ := HRW.out s hsn w5 HI5.out.grow
            obtain rfl : na = _ := hna
            rw [HRT.out s hsn] at hrc
            have hcc := HI5.out.box.cell
            have hsc := HI5.out.slot.cell 0
            have hs1n : (s : Int) < (p.needs.length : Int) := by omega
            have hl0 : (0 : Int) ≤ (p.tn : Int) := by omega
            have hl64 : p.tn ≤ 64 := by omega
            clear HBX HI HG5 HSN HSZ HC
            gi_wp2_with fail
            clear hcc hsc hrc hwr hl0 hl64
            gi_loopw [35] (fun iv wi => ∃ k : Nat, k ≤ m8 ∧ iv = .int .i64 (k : Nat) ∧ Hid (WkI w W0 wi ⟨fa, fc, some ⟨nb, no, none⟩, nc⟩ p s g sb Ds (gT p s g xv b k)) ∧ Hid (KeepS W0.heap.size W3 wi)) (fun iv _ => m8 - (intOf iv).toNat)
            case atStart => exact ⟨0, Nat.zero_le _, rfl, HI5, HKB⟩
            case round =>
              obtain ⟨k, hk, rfl, HIK, HKK⟩ := hrel
              rename World => wi
              by_cases hlk : k < m8
              · have hdk : decide ((k : Int) < (m8 : Int)) = true := decide_eq_true (by omega)
                have hcc := HIK.out.box.cell
                have hsc := HIK.out.slot.cell 0
                have hgc := HIK.out.grp.cell 0
                have hd32 : diffN g xv < 32 := by have := sub_le (diff_sub g xv); omega
                have HM := Lib.hid (HMS.out s (diffN g xv) k hsn hd32 (by omega) wi HIK.out.grow)
                have hmb := HMB.out s (diffN g xv) k hsn
                have HNX : Hid (gT p s g xv b (k + 1) = gapMore (gT p s g xv b k) ⟨s, xv, k, miss p s (diffN g xv) k⟩) := Lib.hid rfl
                have hand := andNot_nat g xv (by omega) (by omega)
                obtain ⟨mv, hmv⟩ : ∃ z, miss p s (diffN g xv) k = z := ⟨_, rfl⟩
                obtain ⟨dv, hdv⟩ : ∃ z, diffN g xv = z := ⟨_, rfl⟩
                rw [hmv] at HM hmb HNX
                rw [hdv] at HM hand
                obtain ⟨bk, hbk⟩ : ∃ z, gT p s g xv b k = z := ⟨_, rfl⟩
                rw [hbk] at HIK HNX
                clear hmv hdv hbk hd32
                gi_wp2_with fail
                refine (CallsIn.inRound _ (callsIn_wide.2 HM.out)).mono ?_
                rintro e w6 ⟨rfl, hb6⟩
                have HG6 : Hid (Grow wi w6) := hb6
                have HI6 := Lib.hid (HIK.out.keep HG6.out)
                have hz6 := HIK.out.size
                have HK6 : Hid (KeepS W0.heap.size W3 w6) := Lib.hid (HKK.out.trans ⟨HG6.out.size, Below.block HG6.out W0.heap.size (HWZ.out wi HKK.out), Below.block HG6.out (W0.heap.size + 1) (HWZ2.out wi HKK.out)⟩)
                have hsc := HI6.out.slot.cell 0
                have hgp := HI6.out.gap.cell
                clear hb6 hcc hgc hand hdk
                by_cases hmm : bk.missing < mv
                · have hdm : decide (bk.missing < mv) = true := decide_eq_true hmm
                  have HN2 : Hid (gT p s g xv b (k + 1) = ⟨s, xv, k, mv⟩) := Lib.hid (by rw [HNX.out]; unfold gapMore; rw [if_pos hmm])
                  have HIN := Lib.hid (HI6.out.store hsb2 ⟨s, xv, k, mv⟩)
                  have HKN : Hid (KeepS W0.heap.size W3 ((((w6.setCell ⟨w.heap.size + 2, 0, none⟩ (.int .i64 (s : Nat))).setCell ⟨w.heap.size + 2, 1, none⟩ (.int .i64 (xv : Nat))).setCell ⟨w.heap.size + 2, 2, none⟩ (.int .i64 (k : Nat))).setCell ⟨w.heap.size + 2, 3, none⟩ (.int .i64 mv))) := Lib.hid
                    (HK6.out.trans ((((KeepS.store w6 0 _ (by omega) (by omega)).trans (KeepS.store _ 1 _ (by omega) (by omega))).trans (KeepS.store _ 2 _ (by omega) (by omega))).trans (KeepS.store _ 3 _ (by omega) (by omega))))
                  have hgf := HI6.out.gap.frozen
                  clear hmm
                  gi_wp2_with fail
                  go_roundw
                  case rel => exact ⟨k + 1, by omega, by go_num, by rw [HN2.out]; exact HIN, HKN⟩
                  case measure => simp [intOf]; omega
                · have hdm : decide (bk.missing < mv) = false := decide_eq_false hmm
                  have HN2 : Hid (gT p s g xv b (k + 1) = bk) := Lib.hid (by rw [HNX.out]; unfold gapMore; rw [if_neg hmm])
                  clear hmm
                  gi_wp2_with fail
                  go_roundw
                  case rel => exact ⟨k + 1, by omega, by go_num, by rw [HN2.out]; exact HI6, HK6⟩
                  case measure => simp [intOf]; omega
              · obtain rfl : k = m8 := by omega
                have hdk : decide ((k : Int) < (k : Int)) = false := decide_eq_false (by omega)
                gi_wp2
                exact ⟨HKK.out, by dsimp only; rw [HE.out]; exact HIK.out⟩
      case done =>
        rintro D zs W3 hD rfl hI hK
        have HIE := Lib.hid hI
        have HMN : Hid (MarksAt W3 (w.heap.size + 3) (D :: Ds)) := Lib.hid (hI.marks.cons hK (by omega) HMD.out (by omega))
        have HGE : Hid (BlockIs W3 (w.heap.size + 2) 36 (cellsGap (gS p gs (s + 1)))) := Lib.hid (by rw [HSS.out]; exact hI.gap)
        clear hI hK hgc
        go_wp2
        refine ⟨⟨s + 1, _, _, _, _, _, _, _, _, _, _, _, _, _, _, _, _, _, _, _, _, _, _, _, _, _, _, _, _, _, _, _, _, _, _, _, _, _, _, _, _, _, _, _, _, _, _, _, _, D :: Ds, ⟨by omega, Lib.hid HIE.out.box, Lib.hid HIE.out.res, HGE, Lib.hid HIE.out.grow, HMN⟩, by go_num⟩, ?_⟩
        simp [intOf]
        omega
      case stop =>
        rintro D pre W3 hD _ h _
        exact h.elim
    · obtain rfl : s = gs.length := by omega
      have hd : decide ((gs.length : Int) < (gs.length : Int)) = false := decide_eq_false (by omega)
      have hgc := HGR.out.cell
      have hrc := HRR.out.cell
      have hrf := HRR.out.frozen
      have HGE : Hid (BlockIs wr (w.heap.size + 2) 36 (cellsGap (weakD p gs))) := HGR
      obtain ⟨b, hb⟩ : ∃ z, gS p gs gs.length = z := ⟨_, rfl⟩
      have HBW : Hid (weakD p gs = b) := Lib.hid hb
      rw [hb] at hgc
      have g0 := HRR.out
      have g1 := g0.near 0 (.int .i64 (b.slot : Nat))
      have g2 := g1.near 1 (.int .i64 (b.ill : Nat))
      have g3 := g2.near 2 (.int .i64 (b.tongues : Nat))
      have HST := Lib.hid (g3.near 3 (.int .i64 b.missing))
      have HMX := Lib.hid (((((HMK.out.cell (i := 0) g0 (.int .i64 (b.slot : Nat))).cell (i := 1) g1 (.int .i64 (b.ill : Nat))).cell (i := 2) g2 (.int .i64 (b.tongues : Nat))).cell (i := 3) g3 (.int .i64 b.missing)).low (lo' := w.heap.size) (by omega))
      have HBX := Lib.hid ((((HWR.out.setCell (p := ⟨w.heap.size + 1, 0, none⟩) (by simp) (.int .i64 (b.slot : Nat))).setCell (p := ⟨w.heap.size + 1, 1, none⟩) (by simp) (.int .i64 (b.ill : Nat))).setCell (p := ⟨w.heap.size + 1, 2, none⟩) (by simp) (.int .i64 (b.tongues : Nat))).setCell (p := ⟨w.heap.size + 1, 3, none⟩) (by simp) (.int .i64 b.missing))
      clear hb HGR g0 g1 g2 g3 HMK
      go_wp2
      refine leave_marks (rb := w.heap.size + 1) (t := 36) (cs := cellsGap b) (fun W hb hg => ⟨_, results_gap Try.results46 _ _ _ _ _ _ _ hb rfl, by rw [HBW.out], hg⟩) Ds _ HMX.out HST.out HBX.out

end Go.Proofs.Ytcgnibfcjadnjaa

namespace Go.Proofs.Ytcgnibfcjadnjaa
open Go.RowKit

theorem results_gap45 {fn : Func} (h : fn.results = #[.cell 4 36, .tmp 5]) (t : Array Value) (W : World) (b : Nat) (v0 v1 v2 v3 u : Value)
    (hb : BlockIs W b 36 #[v0, v1, v2, v3]) (ht : t.getD 4 undef = .pointer (some ⟨b, 0, none⟩)) (hu : t.getD 5 undef = u) :
    (results fn t).run Try.prog W = .ok (.tuple #[.agg #[v0, v1, v2, v3], u]) W := by
  have hc := hb.cell
  simp only [results, h]
  simp at ht hu
  simp [go_sem, ht, hu, hc]
/-- the error of Weakest -/
def gapErr (b : GapN) : Int := if b.missing = 0 then 3 else 0
set_option maxRecDepth 100000 in
set_option maxHeartbeats 8000000 in
theorem weakApi_bad (h : PoolH) (d : PoolI) (A : Option Addr) (cap n : Nat) (w : World) (hA : PoolAt w w.heap.size h d) (hs : Short d) (hok : okPool d = false) :
    Calls Try.prog 15 #[poolV h d, .slice A n cap] w fun e w' => e = .returned (.tuple #[.agg zeroGap, .int .i64 100]) ∧ Below w.heap.size w w' := by
  have HR := Lib.hid (fun (w0 : World) (hw : Grow w w0) => readWatch_bad h d A cap n w0 (hA.grow hw) hs hok)
  clear hok hA hs
  obtain ⟨fa, fc, na, nc⟩ := h
  go_enter Try.func15, Try.ntmps15
  go_upto_region 1 with fail
  obtain ⟨W, hW, hg, hf, hr, hsz⟩ := two_blocks w 25 36 (cellsP ⟨fa, fc, na, nc⟩ d) zeroGap
  rw [hW]
  clear hW
  have hcc := hf.cell
  have HG := Lib.hid hg
  have HRS := Lib.hid hr
  clear hf hg hr
  go_wp2_with fail
  refine (HR.out W HG.out).mono ?_
  rintro e w1 ⟨rfl, hb1⟩
  have HG1 : Hid (Grow W w1) := hb1
  clear hb1 hcc
  go_upto_region 2 with fail
  obtain ⟨W2, hW2, hg2, hf2, hsz2⟩ := one_block w1 73 zeroP
  rw [hW2]
  clear hW2
  have HB : Hid (Grow W W2) := Lib.hid (HG1.out.trans hg2)
  clear hg2 hf2
  have HR5 := Lib.hid (HB.out.block HRS.out)
  have hrc := HR5.out.cell
  have hrf := HR5.out.frozen
  have HS5 := Lib.hid (stores4 HR5.out (.int .i64 0) (.int .i64 0) (.int .i64 0) (.int .i64 0))
  have HX5 := Lib.hid ((HG.out.trans HB.out).trans' (below4 (w := W2) (B := w.heap.size) (b := w.heap.size + 1) (by omega) (.int .i64 0) (.int .i64 0) (.int .i64 0) (.int .i64 0)))
  go_wp2
  refine bodyPost_ret (results_gap45 Try.results15 _ _ _ _ _ _ _ _ HS5.out rfl rfl) rfl ?_
  exact ⟨rfl, HX5.out⟩

set_option maxRecDepth 100000 in
set_option maxHeartbeats 8000000 in
theorem weakApi_not (h : PoolH) (p : Pool) (G : Good p) (hok : okPool p.i = true) (hs : Short p.i) (A : Option Addr) (cap : Nat) (ws : List Int) (w : World) (hA : PoolAt w w.heap.size h p.i) (hI : Ints w w.heap.size A ws) (hl : ws.length ≤ 1000) (hwf : Wf ws) (hq : okWatch p ws = false) :
    Calls Try.prog 15 #[poolN h p, .slice A ws.length cap] w fun e w' => e = .returned (.tuple #[.agg zeroGap, .int .i64 101]) ∧ Below w.heap.size w w' := by
  have HR : Hid (∀ w0, Grow w w0 → Calls Try.prog 44 #[poolN h p, .slice A ws.length cap] w0 fun e w' => e = .returned (.tuple #[.agg zeroP, .slice none 0 0, .int .i64 101]) ∧ Below w0.heap.size w0 w') := Lib.hid (fun (w0 : World) (hw : Grow w w0) => (readWatch_any h p G hok hs A cap ws w0 (hA.grow hw) ((hI.below hw).more hw.size) hl hwf).mono fun e w' h => by
    obtain ⟨v, gv, er, rfl, _, h2, h3⟩ := h
    obtain ⟨rfl, rfl, rfl⟩ := h2 hq
    exact ⟨rfl, h3⟩)
  clear hok hA hs hI hl hwf hq
  obtain ⟨fa, fc, na, nc⟩ := h
  go_enter Try.func15, Try.ntmps15
  go_upto_region 1 with fail
  obtain ⟨W, hW, hg, hf, hr, hsz⟩ := two_blocks w 25 36 (cellsN ⟨fa, fc, na, nc⟩ p) zeroGap
  rw [hW]
  clear hW
  have hcc := hf.cell
  have HG := Lib.hid hg
  have HRS := Lib.hid hr
  clear hf hg hr
  go_wp2_with fail
  refine (HR.out W HG.out).mono ?_
  rintro e w1 ⟨rfl, hb1⟩
  have HG1 : Hid (Grow W w1) := hb1
  clear hb1 hcc
  go_upto_region 2 with fail
  obtain ⟨W2, hW2, hg2, hf2, hsz2⟩ := one_block w1 73 zeroP
  rw [hW2]
  clear hW2
  have HB : Hid (Grow W W2) := Lib.hid (HG1.out.trans hg2)
  clear hg2 hf2
  have HR5 := Lib.hid (HB.out.block HRS.out)
  have hrc := HR5.out.cell
  have hrf := HR5.out.frozen
  have HS5 := Lib.hid (stores4 HR5.out (.int .i64 0) (.int .i64 0) (.int .i64 0) (.int .i64 0))
  have HX5 := Lib.hid ((HG.out.trans HB.out).trans' (below4 (w := W2) (B := w.heap.size) (b := w.heap.size + 1) (by omega) (.int .i64 0) (.int .i64 0) (.int .i64 0) (.int .i64 0)))
  go_wp2
  refine bodyPost_ret (results_gap45 Try.results15 _ _ _ _ _ _ _ _ HS5.out rfl rfl) rfl ?_
  exact ⟨rfl, HX5.out⟩

set_option maxRecDepth 100000 in
set_option maxHeartbeats 8000000 in
theorem weakApi_any (h : PoolH) (p : Pool) (G : Good p) (hok : okPool p.i = true) (hs : Short p.i) (A : Option Addr) (cap : Nat) (gs : List Nat) (w : World) (hA : PoolAt w w.heap.size h p.i) (hI : Ints w w.heap.size A (natsL gs)) (hwt : Watch p gs) :
    Calls Try.prog 15 #[poolN h p, .slice A gs.length cap] w fun e w' => e = .returned (.tuple #[.agg (cellsGap (weakD p gs)), .int .i64 (gapErr (weakD p gs))]) ∧ Below w.heap.size w w' := by
  have HRW := Lib.hid (fun (w0 : World) (hw : Grow w w0) => readWatch_good h p G hok hs A cap gs w0 (hA.grow hw) ((hI.below hw).more hw.size) hwt)
  have HWK := Lib.hid (fun (b : Nat) (w0 : World) (hw : Grow w w0) (hi0 : Ints w0 w0.heap.size (some ⟨b, 0, none⟩) (natsL gs)) => weakest_any h p G (some ⟨b, 0, none⟩) gs.length gs w0 (hA.grow hw) hi0 hwt)
  have HGI := Lib.hid (weak_is p gs)
  obtain ⟨b, hb⟩ : ∃ z, weakD p gs = z := ⟨_, rfl⟩
  rw [hb] at HWK HGI ⊢
  have HNO : Hid (b.missing = 0 → b = noGap) := Lib.hid (fun h => by
    rcases HGI.out with q | ⟨q, _⟩
    · exact q
    · omega)
  clear hok hI hwt hA hs hb
  obtain ⟨fa, fc, na, nc⟩ := h
  go_enter Try.func15, Try.ntmps15
  go_upto_region 1 with fail
  obtain ⟨W, hW, hg, hf, hr, hsz⟩ := two_blocks w 25 36 (cellsN ⟨fa, fc, na, nc⟩ p) zeroGap
  rw [hW]
  clear hW
  have hcc := hf.cell
  have HG := Lib.hid hg
  have HRS := Lib.hid hr
  clear hf hg hr
  go_wp2_with fail
  refine (HRW.out W HG.out).mono ?_
  rintro e w1 ⟨gb, rfl, hi1, hb1⟩
  have HG1 : Hid (Grow W w1) := hb1
  have HI1 := Lib.hid hi1
  clear hb1 hcc hi1
  go_upto_region 2 with fail
  obtain ⟨W2, hW2, hg2, hf2, hsz2⟩ := one_block w1 73 (cellsN ⟨fa, fc, na, nc⟩ p)
  rw [hW2]
  clear hW2
  have hcc := hf2.cell
  have HG2 : Hid (Grow W W2) := Lib.hid (HG1.out.trans hg2)
  have HI2 := Lib.hid ((HI1.out.below hg2).more hg2.size)
  clear hf2 hg2
  go_wp2_with fail
  refine (HWK.out gb W2 (HG.out.trans HG2.out) HI2.out).mono ?_
  rintro e w3 ⟨rfl, hb3⟩
  have HG3 : Hid (Grow W w3) := Lib.hid (HG2.out.trans hb3)
  clear hb3 hcc
  go_upto_region 5 with fail
  obtain ⟨W4, hW4, hg4, hf4, hsz4⟩ := one_block w3 36 (cellsGap b)
  rw [hW4]
  clear hW4
  have HG4 : Hid (Grow W W4) := Lib.hid (HG3.out.trans hg4)
  have hgc := hf4.cell
  have HR5 := Lib.hid (HG4.out.block HRS.out)
  have hrc := HR5.out.cell
  have hrf := HR5.out.frozen
  clear hg4 hf4
  by_cases hm : b.missing = 0
  · have hme : (b.missing == 0) = true := by simpa using hm
    obtain rfl := HNO.out hm
    have HS5 := Lib.hid (stores4 HR5.out (.int .i64 0) (.int .i64 0) (.int .i64 0) (.int .i64 0))
    have HX5 := Lib.hid ((HG.out.trans HG4.out).trans' (below4 (w := W4) (B := w.heap.size) (b := w.heap.size + 1) (by omega) (.int .i64 0) (.int .i64 0) (.int .i64 0) (.int .i64 0)))
    go_wp2
    refine bodyPost_ret (results_gap45 Try.results15 _ _ _ _ _ _ _ _ HS5.out rfl rfl) rfl ?_
    exact ⟨rfl, HX5.out⟩
  · have hme : (b.missing == 0) = false := by simpa using hm
    have HE : Hid (gapErr b = 0) := Lib.hid (by unfold gapErr; rw [if_neg hm])
    have HS5 := Lib.hid (stores4 HR5.out (.int .i64 (b.slot : Nat)) (.int .i64 (b.ill : Nat)) (.int .i64 (b.tongues : Nat)) (.int .i64 b.missing))
    have HX5 := Lib.hid ((HG.out.trans HG4.out).trans' (below4 (w := W4) (B := w.heap.size) (b := w.heap.size + 1) (by omega) (.int .i64 (b.slot : Nat)) (.int .i64 (b.ill : Nat)) (.int .i64 (b.tongues : Nat)) (.int .i64 b.missing)))
    go_wp2
    refine bodyPost_ret (results_gap45 Try.results15 _ _ _ _ _ _ _ _ HS5.out rfl rfl) rfl ?_
    exact ⟨by rw [HE.out]; rfl, HX5.out⟩

end Go.Proofs.Ytcgnibfcjadnjaa

