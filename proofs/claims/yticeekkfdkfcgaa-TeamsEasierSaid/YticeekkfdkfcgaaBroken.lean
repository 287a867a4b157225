/- Broken: the rules that a team does not keep, as the program finds them; written by wip/tools/broken3.py. -/
import Derived.Test.YticeekkfdkfcgaaChain
import Derived.Test.YticeekkfdkfcgaaCount
namespace Go.Proofs.Yticeekkfdkfcgaa
open Go.RowKit Go.Shelf

attribute [local go_sem] Oper.semAt_some

def ruleO {P : List PersonR} (j : JobD) (l : List (Mem P)) : Nat := l.foldl (fun s x => s ||| breakD j x.1.2.d) 0
theorem ruleO_snoc {P : List PersonR} (j : JobD) (l : List (Mem P)) (x : Mem P) : ruleO j (l ++ [x]) = ruleO j l ||| breakD j x.1.2.d := by unfold ruleO; rw [List.foldl_append]; rfl
theorem breakD_lt (j : JobD) (p : PersonD) : breakD j p < 8 := by
  unfold breakD
  cases brkD j p 0 <;> cases brkD j p 1 <;> cases brkD j p 2 <;> decide
theorem orN_lt {a b : Nat} (ha : a < 8) (hb : b < 8) : a ||| b < 8 := Nat.or_lt_two_pow (n := 3) ha hb
theorem ruleO_lt {P : List PersonR} (j : JobD) (l : List (Mem P)) : ruleO j l < 8 := by
  unfold ruleO
  suffices h : ∀ s, s < 8 → l.foldl (fun s x => s ||| breakD j x.1.2.d) s < 8 from h 0 (by decide)
  induction l with
  | nil => exact fun s h => h
  | cons x l ih => exact fun s h => ih _ (orN_lt h (breakD_lt ..))
def deafL {P : List PersonR} (l : List (Mem P)) : Bool := l.any fun x => x.1.2.d.deaf
theorem deafL_snoc {P : List PersonR} (l : List (Mem P)) (x : Mem P) : deafL (l ++ [x]) = (deafL l || x.1.2.d.deaf) := by simp [deafL]
/-- the set of the rules that a team does not keep -/
def brokenL {P : List PersonR} (j : JobD) (lw : LawD) (n fr dst team : Nat) (l : List (Mem P)) : Nat :=
  ((ruleO j l ||| (if (popD team : Int) = max j.size lw.size then 0 else 8)) ||| (if (lw.deaf && !deafL l) = true then 16 else 0)) ||| (if chainD n (fun a b => joinsL lw.level a b l) fr dst = none then 32 else 0)
theorem block_ownF (B q : Nat) (t : TypeId) (cs : Array Value) {β : Type} : OwnFrom B (fun (_ : β) W => BlockIs W q t cs) := fun _ _ _ _ hs hg hr => block_own hs hg hr
theorem five_blocks (w : World) (t1 t2 t3 t4 t5 : TypeId) (c1 c2 c3 c4 c5 : Array Value) : ∃ W, ((((w.alloc (.cells c1 t1)).alloc (.cells c2 t2)).alloc (.cells c3 t3)).alloc (.cells c4 t4)).alloc (.cells c5 t5) = W ∧ Grow w W ∧ BlockIs W w.heap.size t1 c1 ∧ BlockIs W (w.heap.size + 1) t2 c2 ∧ BlockIs W (w.heap.size + 1 + 1) t3 c3 ∧ BlockIs W (w.heap.size + 1 + 1 + 1) t4 c4 ∧ BlockIs W (w.heap.size + 1 + 1 + 1 + 1) t5 c5 ∧ W.heap.size = w.heap.size + 1 + 1 + 1 + 1 + 1 := by
  obtain ⟨W1, h1, g1, b1, b2, b3, b4, z1⟩ := four_blocks w t1 t2 t3 t4 c1 c2 c3 c4
  obtain ⟨W2, h2, g2, b5, _⟩ := one_block W1 t5 c5
  rw [z1] at b5
  exact ⟨W2, by rw [h1, h2], g1.trans g2, g2.block b1, g2.block b2, g2.block b3, g2.block b4, b5, by rw [← h2]; simp [z1]⟩

set_option maxRecDepth 100000 in
set_option maxHeartbeats 16000000 in
theorem broken_any' (c : CrewR) (j : JobD) (lv ls : Int) (ld : Bool) (bA : Option Addr) (bc team n fr dst : Nat) (w : World) (hP : People w w.heap.size c.pa c.people) (hl : c.people.length ≤ 8) (ht : team < 1024) (hn : c.languages = (n : Int)) (hn5 : n ≤ 5) (hfr : j.fr = (fr : Int)) (hfn : fr < n) (hds : j.dest = (dst : Int)) (hdn : dst < n) (hv : ∀ x ∈ c.people, x.d.levels.length = n) (hbr : Ints w w.heap.size bA (c.people.map fun x => (breakD j x.d : Int))) :
    Calls Try.prog 42 #[taskV c j ⟨lv, ls, ld⟩ bA bc, .int .i64 (team : Nat)] w fun e w' => e = .returned (.int .i64 (brokenL j ⟨lv, ls, ld⟩ n fr dst team (membersL c.people team) : Nat)) ∧ Below w.heap.size w w' := by
  have HCH := Lib.hid (fun (w0 : World) (hw : Grow w w0) => chain_any c j ⟨lv, ls, ld⟩ bA bc team n fr dst w0 ((hP.below hw).more hw.size) hl (by omega) hn hn5 hfr hfn hds hdn hv)
  have HBR := Lib.hid (fun (w0 : World) (hw : Below w.heap.size w w0) => hbr.below hw)
  have HBL : Hid (brokenL j ⟨lv, ls, ld⟩ n fr dst team (membersL c.people team) = ((ruleO j (membersL c.people team) ||| (if (popD team : Int) = max j.size ls then 0 else 8)) ||| (if (ld && !deafL (membersL c.people team)) = true then 16 else 0)) ||| (if chainD n (fun a b => joinsL lv a b (membersL c.people team)) fr dst = none then 32 else 0)) := rfl
  obtain ⟨bl, hbl⟩ : ∃ z, brokenL j ⟨lv, ls, ld⟩ n fr dst team (membersL c.people team) = z := ⟨_, rfl⟩
  rw [hbl] at HBL ⊢
  clear hbl
  clear hn hfr hds hbr hv
  refine (callsIn_wide (n := 8)).1 ?_
  have hro : Fence.wide.round = none := rfl
  have h52 : Fence.wide.fn 52 := trivial
  have h45 : Fence.wide.fn 45 := trivial
  refine callsIn_of_wp_marks Try.func42 rfl trivial ?_ hro
  simp only [Try.ntmps42, List.size_toArray, List.length_cons, List.length_nil, Nat.reduceAdd, Nat.reduceSub, Array.replicate_succ, Array.replicate_zero, List.push_toArray, List.append_toArray, List.nil_append, List.cons_append]
  gi_wp2_with (gi_at_call 52; refine (members_in Fence.wide _ trivial rfl c j ⟨lv, ls, ld⟩ bA bc team _).mono ?_; rintro e w' ⟨rfl, rfl⟩)
  obtain ⟨W0, hW0, hg0, b1, b2, b3, b4, b5, hz0⟩ := five_blocks w 63 3 4 63 3 (cellsT c j ⟨lv, ls, ld⟩ bA bc) #[.int .i64 0] #[.bool false] (cellsT c j ⟨lv, ls, ld⟩ bA bc) #[.int .i64 (team : Nat)]
  rw [hW0]
  have hB0 : Below w.heap.size w W0 := hg0
  have hPW : People W0 w.heap.size c.pa c.people := hP.below hB0
  clear hW0 hP hg0
  refine wpIn_rangeFunc_ownH hro (by omega) (gf := 64) (lb := #[.pointer (some ⟨w.heap.size + 1 + 1 + 1, 0, none⟩), .pointer (some ⟨w.heap.size + 1 + 1 + 1 + 1, 0, none⟩)]) rfl trivial (enters_of Try.func64 (by kernel_rfl) rfl)
    (members_stops _ (by omega) (w.heap.size + 1 + 1 + 1) (w.heap.size + 1 + 1 + 1 + 1) w.heap.size c j ⟨lv, ls, ld⟩ bA bc team (by omega) (by omega) W0 b4 b5 hPW (by omega)) KeepT.trans (keepT_b (by omega) (by omega) (by omega)) (Below.refl _ _) (fun _ => rfl)
    (fun pre W => Boxed W (w.heap.size + 1) 3 (.int .i64 (ruleO j pre : Nat)) ∧ Boxed W (w.heap.size + 1 + 1) 4 (.bool (deafL pre)) ∧ BlockIs W w.heap.size 63 (cellsT c j ⟨lv, ls, ld⟩ bA bc) ∧ Below w.heap.size w W ∧ W0.heap.size ≤ W.heap.size)
    (fun _ _ _ => False)
    (OwnFrom.and (Own.from (boxed_own _ _ _) _) (OwnFrom.and (Own.from (boxed_own _ _ _) _) (OwnFrom.and (block_ownF _ _ _ _) (OwnFrom.and (ownFrom_below (Nat.le_refl _) (by omega)) (ownFrom_size _ _)))))
    (fun _ _ _ _ _ hs _ _ => hs)
    ⟨b2, b3, b1, hB0, Nat.le_refl _⟩
    (fun x a' W => ∃ Bx, w.heap.size + 1 + 1 + 1 + 1 < Bx ∧ BlockIs W Bx 52 (cellsP x.1.2) ∧ a' = { tmps := #[taskV c j ⟨lv, ls, ld⟩ bA bc, .int .i64 (team : Nat), .pointer (some ⟨w.heap.size, 0, none⟩), undef, .int .i64 0, .pointer (some ⟨w.heap.size + 1, 0, none⟩), .pointer (some ⟨w.heap.size + 1 + 1, 0, none⟩), .int .i64 (x.1.1 : Nat), .pointer (some ⟨Bx, 0, none⟩), taskV c j ⟨lv, ls, ld⟩ bA bc, .int .i64 (team : Nat), .func (.func 64) #[] #[.pointer (some ⟨w.heap.size + 1 + 1 + 1, 0, none⟩), .pointer (some ⟨w.heap.size + 1 + 1 + 1 + 1, 0, none⟩)], .int .i64 (x.1.1 : Nat), personV x.1.2, undef, undef, undef, undef, undef, undef, undef, undef, undef, undef, undef, undef, undef, undef, undef, undef, undef, undef, undef, undef, undef, undef, undef, undef, undef, undef, undef, undef, undef, undef, undef, undef, undef, undef, undef, undef, undef, undef, undef, undef], defers := [] })
    (fun x a' _ X Y row hs hg hr => by obtain ⟨Bx, e1, e2, e3⟩ := hs; exact ⟨Bx, e1, block_own e2 hg hr, e3⟩)
    ?assign ?body ?done ?stop
  case assign =>
    rintro l pre x W K ⟨bS, bD, bT, hB, hZ⟩ hK
    gi_wp2
    have hg := Grow.alloc W (.cells (cellsP x.1.2) 52)
    exact hK _ _ ((KeepsOthers.alloc _ _).from _) (KeepT.of_below hg (by omega) (by omega) (by omega)) ⟨hg.block bS, hg.block bD, hg.block bT, hB.alloc hB.size _, by simp; omega⟩ ⟨W.heap.size, by omega, BlockIs.new W _ _, rfl⟩
  case body =>
    rintro l pre x a' W hl' ⟨r, hr⟩ ⟨bS, bD, bT, hB, hZ⟩ ⟨Bx, hBx, bX, rfl⟩ hlt
    have hxi := lt_of_at x.2
    obtain ⟨lb, lo, yb, hla, hlb, hyb, HYB⟩ := (HBR.out W hB).at_ (k := x.1.1) (by rw [List.length_map]; exact hxi)
    obtain rfl : yb = (breakD j x.1.2.d : Int) := by
      have h := HYB.out
      rw [List.getElem?_map, x.2] at h
      exact (Option.some.inj h).symm
    have hsn := ruleO_snoc j pre x
    have hdn' := deafL_snoc pre x
    have ho8 := ruleO_lt j pre
    have hb8 := breakD_lt j x.1.2.d
    have hor := or_i64 (ruleO j pre) (breakD j x.1.2.d) (by omega) (by omega)
    rw [← hsn] at hor
    have hi0 : (0 : Int) ≤ ((x.1.1 : Nat) : Int) := by omega
    have hi1 : ((x.1.1 : Nat) : Int) < (c.people.length : Int) := by omega
    have HYb := Lib.hid hyb
    have HLA := Lib.hid hla
    have HBS := Lib.hid (show BlockIs W (w.heap.size + 1) 3 #[.int .i64 (ruleO j pre : Nat)] from bS)
    have HBD := Lib.hid (show BlockIs W (w.heap.size + 1 + 1) 4 #[.bool (deafL pre)] from bD)
    have HBT := Lib.hid bT
    have HBX := Lib.hid bX
    obtain ⟨ov, hov⟩ : ∃ z, ruleO j pre = z := ⟨_, rfl⟩
    obtain ⟨dv, hdv⟩ : ∃ z, deafL pre = z := ⟨_, rfl⟩
    obtain ⟨br, hbr⟩ : ∃ z, breakD j x.1.2.d = z := ⟨_, rfl⟩
    obtain ⟨nv, hnv⟩ : ∃ z, ruleO j (pre ++ [x]) = z := ⟨_, rfl⟩
    rw [hov, hbr, hnv] at hor
    rw [hov] at HBS
    rw [hdv] at HBD hdn'
    rw [hbr] at HYb
    clear hyb hla hlb bS bD bT bX hsn ho8 hb8 hov hdv hbr
    gi_wp2
    refine wpIn_region_round 7 [[], [], [(1, 15)], [], [(2, 16), (3, 17)], [(4, 18)], [(0, 14), (5, 19)]] Grow (fun qi v w' => match qi with
        | 0 => v = .int .i64 (ov : Nat)
        | 1 => v = .pointer (some ⟨w.heap.size, 12, none⟩)
        | 2 => v = .slice (some ⟨lb, lo, none⟩) c.people.length bc
        | 3 => v = .int .i64 (x.1.1 : Nat)
        | 4 => v = .pointer (some ⟨lb, lo + x.1.1, none⟩)
        | 5 => v = .int .i64 (br : Nat)
        | 6 => v = .int .i64 (nv : Nat)
        | _ => False) (by kernel_rfl) (by kernel_rfl) (by kernel_rfl) (fun ⟨_, _, h⟩ => h) (fun _ _ _ => Grow.trans) Grow.refl ?_ ?_ ?_
    · intro i v y y' h k
      match i, h with
      | 0, h | 1, h | 2, h | 3, h | 4, h | 5, h | 6, h => exact h
    · simp only [StepsLit, List.take_succ_cons, List.take_zero]
      refine ⟨?_, ?_, ?_, ?_, ?_, ?_, ?_, trivial⟩
      · intro w5 hR
        have hGw : Grow W w5 := hR.of_drew
        have HGW := Lib.hid hGw
        have cS := (HGW.out.block HBS.out).cell
        have cT12 : w5.cell? ⟨w.heap.size, 12, none⟩ = some (.slice (some ⟨lb, lo, none⟩) c.people.length bc) := by rw [(HGW.out.block HBT.out).cell 12, ← HLA.out]; rfl
        have cY := HGW.out.cell HYb.out
        clear hR hGw
        simp only [depV]
        try go_simp
        all_goals first
          | (with_reducible exact Grow.refl _)
          | (with_reducible exact ⟨Grow.refl _, rfl⟩)
      · intro w5 hR
        have hGw : Grow W w5 := hR.of_drew
        have HGW := Lib.hid hGw
        have cS := (HGW.out.block HBS.out).cell
        have cT12 : w5.cell? ⟨w.heap.size, 12, none⟩ = some (.slice (some ⟨lb, lo, none⟩) c.people.length bc) := by rw [(HGW.out.block HBT.out).cell 12, ← HLA.out]; rfl
        have cY := HGW.out.cell HYb.out
        clear hR hGw
        simp only [depV]
        try go_simp
        all_goals first
          | (with_reducible exact Grow.refl _)
          | (with_reducible exact ⟨Grow.refl _, rfl⟩)
      · intro w5 hR
        have hGw : Grow W w5 := hR.of_drew
        have HGW := Lib.hid hGw
        have cS := (HGW.out.block HBS.out).cell
        have cT12 : w5.cell? ⟨w.heap.size, 12, none⟩ = some (.slice (some ⟨lb, lo, none⟩) c.people.length bc) := by rw [(HGW.out.block HBT.out).cell 12, ← HLA.out]; rfl
        have cY := HGW.out.cell HYb.out
        clear hR hGw
        simp only [depV]
        rintro _ rfl
        try go_simp
        all_goals first
          | (with_reducible exact Grow.refl _)
          | (with_reducible exact ⟨Grow.refl _, rfl⟩)
      · intro w5 hR
        have hGw : Grow W w5 := hR.of_drew
        have HGW := Lib.hid hGw
        have cS := (HGW.out.block HBS.out).cell
        have cT12 : w5.cell? ⟨w.heap.size, 12, none⟩ = some (.slice (some ⟨lb, lo, none⟩) c.people.length bc) := by rw [(HGW.out.block HBT.out).cell 12, ← HLA.out]; rfl
        have cY := HGW.out.cell HYb.out
        clear hR hGw
        simp only [depV]
        try go_simp
        all_goals first
          | (with_reducible exact Grow.refl _)
          | (with_reducible exact ⟨Grow.refl _, rfl⟩)
      · intro w5 hR
        have hGw : Grow W w5 := hR.of_drew
        have HGW := Lib.hid hGw
        have cS := (HGW.out.block HBS.out).cell
        have cT12 : w5.cell? ⟨w.heap.size, 12, none⟩ = some (.slice (some ⟨lb, lo, none⟩) c.people.length bc) := by rw [(HGW.out.block HBT.out).cell 12, ← HLA.out]; rfl
        have cY := HGW.out.cell HYb.out
        clear hR hGw
        simp only [depV]
        rintro _ rfl
        rintro _ rfl
        try go_simp
        all_goals first
          | (with_reducible exact Grow.refl _)
          | (with_reducible exact ⟨Grow.refl _, rfl⟩)
      · intro w5 hR
        have hGw : Grow W w5 := hR.of_drew
        have HGW := Lib.hid hGw
        have cS := (HGW.out.block HBS.out).cell
        have cT12 : w5.cell? ⟨w.heap.size, 12, none⟩ = some (.slice (some ⟨lb, lo, none⟩) c.people.length bc) := by rw [(HGW.out.block HBT.out).cell 12, ← HLA.out]; rfl
        have cY := HGW.out.cell HYb.out
        clear hR hGw
        simp only [depV]
        rintro _ rfl
        try go_simp
        all_goals first
          | (with_reducible exact Grow.refl _)
          | (with_reducible exact ⟨Grow.refl _, rfl⟩)
      · intro w5 hR
        have hGw : Grow W w5 := hR.of_drew
        have HGW := Lib.hid hGw
        have cS := (HGW.out.block HBS.out).cell
        have cT12 : w5.cell? ⟨w.heap.size, 12, none⟩ = some (.slice (some ⟨lb, lo, none⟩) c.people.length bc) := by rw [(HGW.out.block HBT.out).cell 12, ← HLA.out]; rfl
        have cY := HGW.out.cell HYb.out
        clear hR hGw
        simp only [depV]
        rintro _ rfl
        rintro _ rfl
        try go_simp
        all_goals first
          | (with_reducible exact Grow.refl _)
          | (with_reducible exact ⟨Grow.refl _, rfl⟩)
    · intro w5 hR
      have HG5 : Hid (Grow W w5) := Lib.hid hR.of_drew
      clear hR
      simp only [finVC, List.take_succ_cons, List.take_zero, List.drop_succ_cons, List.drop_zero]
      rintro _ rfl
      rintro _ rfl
      rintro _ rfl
      rintro _ rfl
      rintro _ rfl
      rintro _ rfl
      rintro _ rfl
      simp only [Act.put, List.setIfInBounds_toArray, List.set_cons_succ, List.set_cons_zero]
      have hK5 := keepsFrom_grow W0.heap.size HG5.out
      have hT5 := KeepT.of_below (n₀ := w.heap.size) (Bt := w.heap.size + 1 + 1 + 1) (Bm := w.heap.size + 1 + 1 + 1 + 1) HG5.out (by omega) (by omega) (by omega)
      have hB5 : Below w.heap.size w w5 := hB.trans (Below.mono HG5.out hB.size)
      have hZ5 : W0.heap.size ≤ w5.heap.size := by have := HG5.out.size; omega
      have kS := HG5.out.block HBS.out
      have kD := HG5.out.block HBD.out
      have kT := HG5.out.block HBT.out
      have kX := HG5.out.block HBX.out
      have cS := kS.cell
      have fS := kS.frozen
      have HS2 := Lib.hid (kS.near 0 (.int .i64 (nv : Nat)))
      have HD2 := Lib.hid (kD.far (p := ⟨w.heap.size + 1, 0, none⟩) (by simp <;> omega) (.int .i64 (nv : Nat)))
      have HT2 := Lib.hid (kT.far (p := ⟨w.heap.size + 1, 0, none⟩) (by simp <;> omega) (.int .i64 (nv : Nat)))
      have HX2 := Lib.hid (kX.far (p := ⟨w.heap.size + 1, 0, none⟩) (by simp <;> omega) (.int .i64 (nv : Nat)))
      have cD2 := HD2.out.cell
      have fD2 := HD2.out.frozen
      have cX2 := HX2.out.cell
      have hBX' : Bx ≠ w.heap.size + 1 + 1 := by omega
      clear HG5 kS kD kT kX
      cases dv with
      | true =>
        have hdd : deafL (pre ++ [x]) = true := by rw [hdn']; rfl
        go_wp2
        gi_wp2
        refine ⟨hK5.trans (((KeepsOthers.setCell _ _ _).from _).trans ((KeepsOthers.setCell _ _ _).from _)), hT5.trans ((KeepT.store _ _ _ (by omega) (by omega) (by omega)).trans (KeepT.store _ _ _ (by omega) (by omega) (by omega))), ?_, ?_, HT2.out.far (p := ⟨w.heap.size + 1 + 1, 0, none⟩) (by simp <;> omega) _, (hB5.setCell (p := ⟨w.heap.size + 1, 0, none⟩) (by simp <;> omega) _).setCell (p := ⟨w.heap.size + 1 + 1, 0, none⟩) (by simp <;> omega) _, by simp; omega⟩
        · rw [hnv]; exact HS2.out.far (p := ⟨w.heap.size + 1 + 1, 0, none⟩) (by simp <;> omega) _
        · rw [hdd]; exact HD2.out.near 0 _
      | false =>
        have hdd : deafL (pre ++ [x]) = x.1.2.d.deaf := by rw [hdn']; rfl
        go_wp2
        gi_wp2
        refine ⟨hK5.trans (((KeepsOthers.setCell _ _ _).from _).trans ((KeepsOthers.setCell _ _ _).from _)), hT5.trans ((KeepT.store _ _ _ (by omega) (by omega) (by omega)).trans (KeepT.store _ _ _ (by omega) (by omega) (by omega))), ?_, ?_, HT2.out.far (p := ⟨w.heap.size + 1 + 1, 0, none⟩) (by simp <;> omega) _, (hB5.setCell (p := ⟨w.heap.size + 1, 0, none⟩) (by simp <;> omega) _).setCell (p := ⟨w.heap.size + 1 + 1, 0, none⟩) (by simp <;> omega) _, by simp; omega⟩
        · rw [hnv]; exact HS2.out.far (p := ⟨w.heap.size + 1 + 1, 0, none⟩) (by simp <;> omega) _
        · rw [hdd]; exact HD2.out.near 0 _
  case done =>
    rintro D zs W hD rfl ⟨bS, bD, bT, hB, hZ⟩ hK
    have HBT := Lib.hid bT
    have hoL := ruleO_lt j (membersL c.people team)
    obtain ⟨ov, hov⟩ : ∃ z, ruleO j (membersL c.people team) = z := ⟨_, rfl⟩
    obtain ⟨dv, hdv⟩ : ∃ z, deafL (membersL c.people team) = z := ⟨_, rfl⟩
    obtain ⟨mx, hmx⟩ : ∃ z, max j.size ls = z := ⟨_, rfl⟩
    have HMX := Lib.hid hmx
    rw [hov, hdv, hmx] at HBL
    rw [hov] at bS hoL
    rw [hdv] at bD
    obtain ⟨ch, hch⟩ : ∃ z, chainD n (fun a b => joinsL lv a b (membersL c.people team)) fr dst = z := ⟨_, rfl⟩
    rw [hch] at HBL HCH
    clear hov hdv hmx hch bT
    have HBS := Lib.hid (show BlockIs W (w.heap.size + 1) 3 #[.int .i64 (ov : Nat)] from bS)
    have HBD := Lib.hid (show BlockIs W (w.heap.size + 1 + 1) 4 #[.bool dv] from bD)
    have HCN := Lib.hid (fun w0 => count_any team w0 ht)
    clear bS bD
    gi_wp2
    refine wpIn_wide.2 ?_
    refine wp_region_lit 10 [[], [(0, 26)], [], [(2, 28)], [(3, 29)], [], [(5, 31)], [(6, 32)], [(4, 30), (7, 33)], [(1, 27), (8, 34)]] Grow (fun qi v w' => match qi with
        | 0 => v = .int .i64 (team : Nat)
        | 1 => v = .int .i64 (popD team : Nat)
        | 2 => v = .pointer (some ⟨w.heap.size, 3, none⟩)
        | 3 => v = .pointer (some ⟨w.heap.size, 8, none⟩)
        | 4 => v = .int .i64 j.size
        | 5 => v = .pointer (some ⟨w.heap.size, 9, none⟩)
        | 6 => v = .pointer (some ⟨w.heap.size, 10, none⟩)
        | 7 => v = .int .i64 ls
        | 8 => v = .int .i64 mx
        | 9 => v = .bool ((popD team : Int) != mx)
        | _ => False) (by kernel_rfl) (by kernel_rfl) (fun _ _ _ => Grow.trans) Grow.refl ?_ ?_ ?_
    · intro i v y y' h k
      match i, h with
      | 0, h | 1, h | 2, h | 3, h | 4, h | 5, h | 6, h | 7, h | 8, h | 9, h => exact h
    · simp only [StepsLit, List.take_succ_cons, List.take_zero]
      refine ⟨?_, ?_, ?_, ?_, ?_, ?_, ?_, ?_, ?_, ?_, trivial⟩
      · intro w5 hR
        have hGw : Grow W w5 := hR.of_drew
        have HGW := Lib.hid hGw
        have cT := (HGW.out.block HBT.out).cell
        clear hR hGw
        simp only [depV]
        try go_simp
        all_goals first
          | (with_reducible exact Grow.refl _)
          | (with_reducible exact ⟨Grow.refl _, rfl⟩)
      · intro w5 hR
        have hGw : Grow W w5 := hR.of_drew
        have HGW := Lib.hid hGw
        have cT := (HGW.out.block HBT.out).cell
        clear hR hGw
        simp only [depV]
        rintro _ rfl
        try go_simp
        refine (HCN.out _).mono ?_
        rintro e w6 ⟨rfl, rfl⟩
        exact ⟨Grow.refl _, rfl⟩
      · intro w5 hR
        have hGw : Grow W w5 := hR.of_drew
        have HGW := Lib.hid hGw
        have cT := (HGW.out.block HBT.out).cell
        clear hR hGw
        simp only [depV]
        try go_simp
        all_goals first
          | (with_reducible exact Grow.refl _)
          | (with_reducible exact ⟨Grow.refl _, rfl⟩)
      · intro w5 hR
        have hGw : Grow W w5 := hR.of_drew
        have HGW := Lib.hid hGw
        have cT := (HGW.out.block HBT.out).cell
        clear hR hGw
        simp only [depV]
        rintro _ rfl
        try go_simp
        all_goals first
          | (with_reducible exact Grow.refl _)
          | (with_reducible exact ⟨Grow.refl _, rfl⟩)
      · intro w5 hR
        have hGw : Grow W w5 := hR.of_drew
        have HGW := Lib.hid hGw
        have cT := (HGW.out.block HBT.out).cell
        clear hR hGw
        simp only [depV]
        rintro _ rfl
        try go_simp
        all_goals first
          | (with_reducible exact Grow.refl _)
          | (with_reducible exact ⟨Grow.refl _, rfl⟩)
      · intro w5 hR
        have hGw : Grow W w5 := hR.of_drew
        have HGW := Lib.hid hGw
        have cT := (HGW.out.block HBT.out).cell
        clear hR hGw
        simp only [depV]
        try go_simp
        all_goals first
          | (with_reducible exact Grow.refl _)
          | (with_reducible exact ⟨Grow.refl _, rfl⟩)
      · intro w5 hR
        have hGw : Grow W w5 := hR.of_drew
        have HGW := Lib.hid hGw
        have cT := (HGW.out.block HBT.out).cell
        clear hR hGw
        simp only [depV]
        rintro _ rfl
        try go_simp
        all_goals first
          | (with_reducible exact Grow.refl _)
          | (with_reducible exact ⟨Grow.refl _, rfl⟩)
      · intro w5 hR
        have hGw : Grow W w5 := hR.of_drew
        have HGW := Lib.hid hGw
        have cT := (HGW.out.block HBT.out).cell
        clear hR hGw
        simp only [depV]
        rintro _ rfl
        try go_simp
        all_goals first
          | (with_reducible exact Grow.refl _)
          | (with_reducible exact ⟨Grow.refl _, rfl⟩)
      · intro w5 hR
        have hGw : Grow W w5 := hR.of_drew
        have HGW := Lib.hid hGw
        have cT := (HGW.out.block HBT.out).cell
        clear hR hGw
        simp only [depV]
        rintro _ rfl
        rintro _ rfl
        try go_simp
        exact ⟨Grow.refl _, by have h := HMX.out; rw [← h]; split <;> omega⟩
      · intro w5 hR
        have hGw : Grow W w5 := hR.of_drew
        have HGW := Lib.hid hGw
        have cT := (HGW.out.block HBT.out).cell
        clear hR hGw
        simp only [depV]
        rintro _ rfl
        rintro _ rfl
        try go_simp
        all_goals first
          | (with_reducible exact Grow.refl _)
          | (with_reducible exact ⟨Grow.refl _, rfl⟩)
    · intro w5 hR
      have HG5 : Hid (Grow W w5) := Lib.hid hR.of_drew
      clear hR
      simp only [finVC, List.take_succ_cons, List.take_zero, List.drop_succ_cons, List.drop_zero]
      rintro _ rfl
      rintro _ rfl
      rintro _ rfl
      rintro _ rfl
      rintro _ rfl
      rintro _ rfl
      rintro _ rfl
      rintro _ rfl
      rintro _ rfl
      rintro _ rfl
      simp only [Act.put, List.setIfInBounds_toArray, List.set_cons_succ, List.set_cons_zero]
      have kS := HG5.out.block HBS.out
      have kD := HG5.out.block HBD.out
      have kT := HG5.out.block HBT.out
      have kK := (Below.block HG5.out D (lt_heap hK)).trans hK
      have kB : Below w.heap.size w w5 := hB.trans (Below.mono HG5.out hB.size)
      have HSS := Lib.hid kS
      have HDD := Lib.hid kD
      have HTT := Lib.hid kT
      have HKK := Lib.hid kK
      have HBB := Lib.hid kB
      have hnb : D ≠ w.heap.size + 1 := by omega
      clear HG5 kS kD kT kK kB hK hB HBS HBD HBT
      simp only [wpList]
      obtain ⟨ne, hne⟩ : ∃ z, ((popD team : Int) != mx) = z := ⟨_, rfl⟩
      have HIF : Hid ((if (popD team : Int) = mx then 0 else 8) = if ne = true then 8 else 0) := Lib.hid (by
        rw [← hne]
        by_cases h : (popD team : Int) = mx
        · simp [h]
        · simp [h])
      rw [HIF.out] at HBL
      rw [hne]
      clear hne HIF
      cases ne with
      | true =>
        cases ld with
        | false =>
          cases ch with
          | none =>
            have S0 := HSS.out
            have D0 := HDD.out
            have T0 := HTT.out
            have K0 := HKK.out
            have B0 := HBB.out
            have cS0 := S0.cell
            have fS0 := S0.frozen
            have cD0 := D0.cell
            have cT0 := T0.cell
            obtain ⟨x1, hv1⟩ : ∃ z, ov ||| 8 = z := ⟨_, rfl⟩
            have hl1 : x1 < 64 := by rw [← hv1]; exact Nat.or_lt_two_pow (n := 6) (by omega) (by omega)
            have ho1 : bits .or .i64 ((ov : Nat) : Int) 8 = ((x1 : Nat) : Int) := by rw [← hv1]; exact or_i64 ov 8 (by omega) (by omega)
            have S1 := S0.near 0 (.int .i64 (x1 : Nat))
            have D1 := D0.far (p := ⟨w.heap.size + 1, 0, none⟩) (by simp) (.int .i64 (x1 : Nat))
            have T1 := T0.far (p := ⟨w.heap.size + 1, 0, none⟩) (by simp) (.int .i64 (x1 : Nat))
            have K1 := (Below.heap_setCell w5 ⟨w.heap.size + 1, 0, none⟩ (.int .i64 (x1 : Nat)) D hnb).trans K0
            have B1 := B0.setCell (p := ⟨w.heap.size + 1, 0, none⟩) (by simp) (.int .i64 (x1 : Nat))
            have cS1 := S1.cell
            have fS1 := S1.frozen
            have cD1 := D1.cell
            have cT1 := T1.cell
            gi_wp2_with (gi_at_call 45; refine (callsIn_wide.2 (HCH.out _ B1)).mono ?_; rintro e w9 ⟨v9, rfl, hcv, hb9⟩)
            have hb9 : Grow _ w9 := hb9
            have S2 := hb9.block S1
            have D2 := hb9.block D1
            have T2 := hb9.block T1
            have K2 := (Below.block hb9 D (lt_heap K1)).trans K1
            have B2 := B1.trans (Below.mono hb9 B1.size)
            have cS2 := S2.cell
            have fS2 := S2.frozen
            have cD2 := D2.cell
            have cT2 := T2.cell
            obtain rfl := hcv.1 rfl
            have hnil := none_eql_nil
            obtain ⟨x3, hv3⟩ : ∃ z, x1 ||| 32 = z := ⟨_, rfl⟩
            have hl3 : x3 < 64 := by rw [← hv3]; exact Nat.or_lt_two_pow (n := 6) (by omega) (by omega)
            have ho3 : bits .or .i64 ((x1 : Nat) : Int) 32 = ((x3 : Nat) : Int) := by rw [← hv3]; exact or_i64 x1 32 (by omega) (by omega)
            have S3 := S2.near 0 (.int .i64 (x3 : Nat))
            have D3 := D2.far (p := ⟨w.heap.size + 1, 0, none⟩) (by simp) (.int .i64 (x3 : Nat))
            have T3 := T2.far (p := ⟨w.heap.size + 1, 0, none⟩) (by simp) (.int .i64 (x3 : Nat))
            have K3 := (Below.heap_setCell w9 ⟨w.heap.size + 1, 0, none⟩ (.int .i64 (x3 : Nat)) D hnb).trans K2
            have B3 := B2.setCell (p := ⟨w.heap.size + 1, 0, none⟩) (by simp) (.int .i64 (x3 : Nat))
            have cS3 := S3.cell
            have fS3 := S3.frozen
            have cD3 := D3.cell
            have cT3 := T3.cell
            have HE : Hid (x3 = bl) := Lib.hid (by rw [HBL.out]; simp [hv1, hv3])
            clear HBL hb9 hcv HCH
            gi_wp2
            change Oper.uponIn _ _ _ _ _ _ _ (Result.ok (Next.value (Value.bool true)) w9)
            gi_wp2
            refine ⟨by simp, .inl ⟨_, _, rfl, run_takeDeferred K3, ?_⟩⟩
            refine ⟨_, results_tmp rfl _ _ _, ?_, B3.trans (belowK_b (w := w) (Nat.le_refl _) _ D _ _ (by omega) K3 rfl rfl)⟩
            exact congrArg (fun q : Nat => Ending.returned (Value.int .i64 q)) HE.out
          | some lc =>
            have S0 := HSS.out
            have D0 := HDD.out
            have T0 := HTT.out
            have K0 := HKK.out
            have B0 := HBB.out
            have cS0 := S0.cell
            have fS0 := S0.frozen
            have cD0 := D0.cell
            have cT0 := T0.cell
            obtain ⟨x1, hv1⟩ : ∃ z, ov ||| 8 = z := ⟨_, rfl⟩
            have hl1 : x1 < 64 := by rw [← hv1]; exact Nat.or_lt_two_pow (n := 6) (by omega) (by omega)
            have ho1 : bits .or .i64 ((ov : Nat) : Int) 8 = ((x1 : Nat) : Int) := by rw [← hv1]; exact or_i64 ov 8 (by omega) (by omega)
            have S1 := S0.near 0 (.int .i64 (x1 : Nat))
            have D1 := D0.far (p := ⟨w.heap.size + 1, 0, none⟩) (by simp) (.int .i64 (x1 : Nat))
            have T1 := T0.far (p := ⟨w.heap.size + 1, 0, none⟩) (by simp) (.int .i64 (x1 : Nat))
            have K1 := (Below.heap_setCell w5 ⟨w.heap.size + 1, 0, none⟩ (.int .i64 (x1 : Nat)) D hnb).trans K0
            have B1 := B0.setCell (p := ⟨w.heap.size + 1, 0, none⟩) (by simp) (.int .i64 (x1 : Nat))
            have cS1 := S1.cell
            have fS1 := S1.frozen
            have cD1 := D1.cell
            have cT1 := T1.cell
            gi_wp2_with (gi_at_call 45; refine (callsIn_wide.2 (HCH.out _ B1)).mono ?_; rintro e w9 ⟨v9, rfl, hcv, hb9⟩)
            have hb9 : Grow _ w9 := hb9
            have S2 := hb9.block S1
            have D2 := hb9.block D1
            have T2 := hb9.block T1
            have K2 := (Below.block hb9 D (lt_heap K1)).trans K1
            have B2 := B1.trans (Below.mono hb9 B1.size)
            have cS2 := S2.cell
            have fS2 := S2.frozen
            have cD2 := D2.cell
            have cT2 := T2.cell
            obtain ⟨b9, c9, rfl, _⟩ := hcv.2 _ rfl
            have hnil := some_eql_nil
            have HE : Hid (x1 = bl) := Lib.hid (by rw [HBL.out]; simp [hv1])
            clear HBL hb9 hcv HCH
            gi_wp2
            change Oper.uponIn _ _ _ _ _ _ _ (Result.ok (Next.value (Value.bool false)) w9)
            gi_wp2
            refine ⟨by simp, .inl ⟨_, _, rfl, run_takeDeferred K2, ?_⟩⟩
            refine ⟨_, results_tmp rfl _ _ _, ?_, B2.trans (belowK_b (w := w) (Nat.le_refl _) _ D _ _ (by omega) K2 rfl rfl)⟩
            exact congrArg (fun q : Nat => Ending.returned (Value.int .i64 q)) HE.out
        | true =>
          cases dv with
          | true =>
            cases ch with
            | none =>
              have S0 := HSS.out
              have D0 := HDD.out
              have T0 := HTT.out
              have K0 := HKK.out
              have B0 := HBB.out
              have cS0 := S0.cell
              have fS0 := S0.frozen
              have cD0 := D0.cell
              have cT0 := T0.cell
              obtain ⟨x1, hv1⟩ : ∃ z, ov ||| 8 = z := ⟨_, rfl⟩
              have hl1 : x1 < 64 := by rw [← hv1]; exact Nat.or_lt_two_pow (n := 6) (by omega) (by omega)
              have ho1 : bits .or .i64 ((ov : Nat) : Int) 8 = ((x1 : Nat) : Int) := by rw [← hv1]; exact or_i64 ov 8 (by omega) (by omega)
              have S1 := S0.near 0 (.int .i64 (x1 : Nat))
              have D1 := D0.far (p := ⟨w.heap.size + 1, 0, none⟩) (by simp) (.int .i64 (x1 : Nat))
              have T1 := T0.far (p := ⟨w.heap.size + 1, 0, none⟩) (by simp) (.int .i64 (x1 : Nat))
              have K1 := (Below.heap_setCell w5 ⟨w.heap.size + 1, 0, none⟩ (.int .i64 (x1 : Nat)) D hnb).trans K0
              have B1 := B0.setCell (p := ⟨w.heap.size + 1, 0, none⟩) (by simp) (.int .i64 (x1 : Nat))
              have cS1 := S1.cell
              have fS1 := S1.frozen
              have cD1 := D1.cell
              have cT1 := T1.cell
              gi_wp2_with (gi_at_call 45; refine (callsIn_wide.2 (HCH.out _ B1)).mono ?_; rintro e w9 ⟨v9, rfl, hcv, hb9⟩)
              have hb9 : Grow _ w9 := hb9
              have S2 := hb9.block S1
              have D2 := hb9.block D1
              have T2 := hb9.block T1
              have K2 := (Below.block hb9 D (lt_heap K1)).trans K1
              have B2 := B1.trans (Below.mono hb9 B1.size)
              have cS2 := S2.cell
              have fS2 := S2.frozen
              have cD2 := D2.cell
              have cT2 := T2.cell
              obtain rfl := hcv.1 rfl
              have hnil := none_eql_nil
              obtain ⟨x3, hv3⟩ : ∃ z, x1 ||| 32 = z := ⟨_, rfl⟩
              have hl3 : x3 < 64 := by rw [← hv3]; exact Nat.or_lt_two_pow (n := 6) (by omega) (by omega)
              have ho3 : bits .or .i64 ((x1 : Nat) : Int) 32 = ((x3 : Nat) : Int) := by rw [← hv3]; exact or_i64 x1 32 (by omega) (by omega)
              have S3 := S2.near 0 (.int .i64 (x3 : Nat))
              have D3 := D2.far (p := ⟨w.heap.size + 1, 0, none⟩) (by simp) (.int .i64 (x3 : Nat))
              have T3 := T2.far (p := ⟨w.heap.size + 1, 0, none⟩) (by simp) (.int .i64 (x3 : Nat))
              have K3 := (Below.heap_setCell w9 ⟨w.heap.size + 1, 0, none⟩ (.int .i64 (x3 : Nat)) D hnb).trans K2
              have B3 := B2.setCell (p := ⟨w.heap.size + 1, 0, none⟩) (by simp) (.int .i64 (x3 : Nat))
              have cS3 := S3.cell
              have fS3 := S3.frozen
              have cD3 := D3.cell
              have cT3 := T3.cell
              have HE : Hid (x3 = bl) := Lib.hid (by rw [HBL.out]; simp [hv1, hv3])
              clear HBL hb9 hcv HCH
              gi_wp2
              change Oper.uponIn _ _ _ _ _ _ _ (Result.ok (Next.value (Value.bool true)) w9)
              gi_wp2
              refine ⟨by simp, .inl ⟨_, _, rfl, run_takeDeferred K3, ?_⟩⟩
              refine ⟨_, results_tmp rfl _ _ _, ?_, B3.trans (belowK_b (w := w) (Nat.le_refl _) _ D _ _ (by omega) K3 rfl rfl)⟩
              exact congrArg (fun q : Nat => Ending.returned (Value.int .i64 q)) HE.out
            | some lc =>
              have S0 := HSS.out
              have D0 := HDD.out
              have T0 := HTT.out
              have K0 := HKK.out
              have B0 := HBB.out
              have cS0 := S0.cell
              have fS0 := S0.frozen
              have cD0 := D0.cell
              have cT0 := T0.cell
              obtain ⟨x1, hv1⟩ : ∃ z, ov ||| 8 = z := ⟨_, rfl⟩
              have hl1 : x1 < 64 := by rw [← hv1]; exact Nat.or_lt_two_pow (n := 6) (by omega) (by omega)
              have ho1 : bits .or .i64 ((ov : Nat) : Int) 8 = ((x1 : Nat) : Int) := by rw [← hv1]; exact or_i64 ov 8 (by omega) (by omega)
              have S1 := S0.near 0 (.int .i64 (x1 : Nat))
              have D1 := D0.far (p := ⟨w.heap.size + 1, 0, none⟩) (by simp) (.int .i64 (x1 : Nat))
              have T1 := T0.far (p := ⟨w.heap.size + 1, 0, none⟩) (by simp) (.int .i64 (x1 : Nat))
              have K1 := (Below.heap_setCell w5 ⟨w.heap.size + 1, 0, none⟩ (.int .i64 (x1 : Nat)) D hnb).trans K0
              have B1 := B0.setCell (p := ⟨w.heap.size + 1, 0, none⟩) (by simp) (.int .i64 (x1 : Nat))
              have cS1 := S1.cell
              have fS1 := S1.frozen
              have cD1 := D1.cell
              have cT1 := T1.cell
              gi_wp2_with (gi_at_call 45; refine (callsIn_wide.2 (HCH.out _ B1)).mono ?_; rintro e w9 ⟨v9, rfl, hcv, hb9⟩)
              have hb9 : Grow _ w9 := hb9
              have S2 := hb9.block S1
              have D2 := hb9.block D1
              have T2 := hb9.block T1
              have K2 := (Below.block hb9 D (lt_heap K1)).trans K1
              have B2 := B1.trans (Below.mono hb9 B1.size)
              have cS2 := S2.cell
              have fS2 := S2.frozen
              have cD2 := D2.cell
              have cT2 := T2.cell
              obtain ⟨b9, c9, rfl, _⟩ := hcv.2 _ rfl
              have hnil := some_eql_nil
              have HE : Hid (x1 = bl) := Lib.hid (by rw [HBL.out]; simp [hv1])
              clear HBL hb9 hcv HCH
              gi_wp2
              change Oper.uponIn _ _ _ _ _ _ _ (Result.ok (Next.value (Value.bool false)) w9)
              gi_wp2
              refine ⟨by simp, .inl ⟨_, _, rfl, run_takeDeferred K2, ?_⟩⟩
              refine ⟨_, results_tmp rfl _ _ _, ?_, B2.trans (belowK_b (w := w) (Nat.le_refl _) _ D _ _ (by omega) K2 rfl rfl)⟩
              exact congrArg (fun q : Nat => Ending.returned (Value.int .i64 q)) HE.out
          | false =>
            cases ch with
            | none =>
              have S0 := HSS.out
              have D0 := HDD.out
              have T0 := HTT.out
              have K0 := HKK.out
              have B0 := HBB.out
              have cS0 := S0.cell
              have fS0 := S0.frozen
              have cD0 := D0.cell
              have cT0 := T0.cell
              obtain ⟨x1, hv1⟩ : ∃ z, ov ||| 8 = z := ⟨_, rfl⟩
              have hl1 : x1 < 64 := by rw [← hv1]; exact Nat.or_lt_two_pow (n := 6) (by omega) (by omega)
              have ho1 : bits .or .i64 ((ov : Nat) : Int) 8 = ((x1 : Nat) : Int) := by rw [← hv1]; exact or_i64 ov 8 (by omega) (by omega)
              have S1 := S0.near 0 (.int .i64 (x1 : Nat))
              have D1 := D0.far (p := ⟨w.heap.size + 1, 0, none⟩) (by simp) (.int .i64 (x1 : Nat))
              have T1 := T0.far (p := ⟨w.heap.size + 1, 0, none⟩) (by simp) (.int .i64 (x1 : Nat))
              have K1 := (Below.heap_setCell w5 ⟨w.heap.size + 1, 0, none⟩ (.int .i64 (x1 : Nat)) D hnb).trans K0
              have B1 := B0.setCell (p := ⟨w.heap.size + 1, 0, none⟩) (by simp) (.int .i64 (x1 : Nat))
              have cS1 := S1.cell
              have fS1 := S1.frozen
              have cD1 := D1.cell
              have cT1 := T1.cell
              obtain ⟨x2, hv2⟩ : ∃ z, x1 ||| 16 = z := ⟨_, rfl⟩
              have hl2 : x2 < 64 := by rw [← hv2]; exact Nat.or_lt_two_pow (n := 6) (by omega) (by omega)
              have ho2 : bits .or .i64 ((x1 : Nat) : Int) 16 = ((x2 : Nat) : Int) := by rw [← hv2]; exact or_i64 x1 16 (by omega) (by omega)
              have S2 := S1.near 0 (.int .i64 (x2 : Nat))
              have D2 := D1.far (p := ⟨w.heap.size + 1, 0, none⟩) (by simp) (.int .i64 (x2 : Nat))
              have T2 := T1.far (p := ⟨w.heap.size + 1, 0, none⟩) (by simp) (.int .i64 (x2 : Nat))
              have K2 := (Below.heap_setCell (w5.setCell ⟨w.heap.size + 1, 0, none⟩ (.int .i64 (x1 : Nat))) ⟨w.heap.size + 1, 0, none⟩ (.int .i64 (x2 : Nat)) D hnb).trans K1
              have B2 := B1.setCell (p := ⟨w.heap.size + 1, 0, none⟩) (by simp) (.int .i64 (x2 : Nat))
              have cS2 := S2.cell
              have fS2 := S2.frozen
              have cD2 := D2.cell
              have cT2 := T2.cell
              gi_wp2_with (gi_at_call 45; refine (callsIn_wide.2 (HCH.out _ B2)).mono ?_; rintro e w9 ⟨v9, rfl, hcv, hb9⟩)
              have hb9 : Grow _ w9 := hb9
              have S3 := hb9.block S2
              have D3 := hb9.block D2
              have T3 := hb9.block T2
              have K3 := (Below.block hb9 D (lt_heap K2)).trans K2
              have B3 := B2.trans (Below.mono hb9 B2.size)
              have cS3 := S3.cell
              have fS3 := S3.frozen
              have cD3 := D3.cell
              have cT3 := T3.cell
              obtain rfl := hcv.1 rfl
              have hnil := none_eql_nil
              obtain ⟨x4, hv4⟩ : ∃ z, x2 ||| 32 = z := ⟨_, rfl⟩
              have hl4 : x4 < 64 := by rw [← hv4]; exact Nat.or_lt_two_pow (n := 6) (by omega) (by omega)
              have ho4 : bits .or .i64 ((x2 : Nat) : Int) 32 = ((x4 : Nat) : Int) := by rw [← hv4]; exact or_i64 x2 32 (by omega) (by omega)
              have S4 := S3.near 0 (.int .i64 (x4 : Nat))
              have D4 := D3.far (p := ⟨w.heap.size + 1, 0, none⟩) (by simp) (.int .i64 (x4 : Nat))
              have T4 := T3.far (p := ⟨w.heap.size + 1, 0, none⟩) (by simp) (.int .i64 (x4 : Nat))
              have K4 := (Below.heap_setCell w9 ⟨w.heap.size + 1, 0, none⟩ (.int .i64 (x4 : Nat)) D hnb).trans K3
              have B4 := B3.setCell (p := ⟨w.heap.size + 1, 0, none⟩) (by simp) (.int .i64 (x4 : Nat))
              have cS4 := S4.cell
              have fS4 := S4.frozen
              have cD4 := D4.cell
              have cT4 := T4.cell
              have HE : Hid (x4 = bl) := Lib.hid (by rw [HBL.out]; simp [hv1, hv2, hv4])
              clear HBL hb9 hcv HCH
              gi_wp2
              change Oper.uponIn _ _ _ _ _ _ _ (Result.ok (Next.value (Value.bool true)) w9)
              gi_wp2
              refine ⟨by simp, .inl ⟨_, _, rfl, run_takeDeferred K4, ?_⟩⟩
              refine ⟨_, results_tmp rfl _ _ _, ?_, B4.trans (belowK_b (w := w) (Nat.le_refl _) _ D _ _ (by omega) K4 rfl rfl)⟩
              exact congrArg (fun q : Nat => Ending.returned (Value.int .i64 q)) HE.out
            | some lc =>
              have S0 := HSS.out
              have D0 := HDD.out
              have T0 := HTT.out
              have K0 := HKK.out
              have B0 := HBB.out
              have cS0 := S0.cell
              have fS0 := S0.frozen
              have cD0 := D0.cell
              have cT0 := T0.cell
              obtain ⟨x1, hv1⟩ : ∃ z, ov ||| 8 = z := ⟨_, rfl⟩
              have hl1 : x1 < 64 := by rw [← hv1]; exact Nat.or_lt_two_pow (n := 6) (by omega) (by omega)
              have ho1 : bits .or .i64 ((ov : Nat) : Int) 8 = ((x1 : Nat) : Int) := by rw [← hv1]; exact or_i64 ov 8 (by omega) (by omega)
              have S1 := S0.near 0 (.int .i64 (x1 : Nat))
              have D1 := D0.far (p := ⟨w.heap.size + 1, 0, none⟩) (by simp) (.int .i64 (x1 : Nat))
              have T1 := T0.far (p := ⟨w.heap.size + 1, 0, none⟩) (by simp) (.int .i64 (x1 : Nat))
              have K1 := (Below.heap_setCell w5 ⟨w.heap.size + 1, 0, none⟩ (.int .i64 (x1 : Nat)) D hnb).trans K0
              have B1 := B0.setCell (p := ⟨w.heap.size + 1, 0, none⟩) (by simp) (.int .i64 (x1 : Nat))
              have cS1 := S1.cell
              have fS1 := S1.frozen
              have cD1 := D1.cell
              have cT1 := T1.cell
              obtain ⟨x2, hv2⟩ : ∃ z, x1 ||| 16 = z := ⟨_, rfl⟩
              have hl2 : x2 < 64 := by rw [← hv2]; exact Nat.or_lt_two_pow (n := 6) (by omega) (by omega)
              have ho2 : bits .or .i64 ((x1 : Nat) : Int) 16 = ((x2 : Nat) : Int) := by rw [← hv2]; exact or_i64 x1 16 (by omega) (by omega)
              have S2 := S1.near 0 (.int .i64 (x2 : Nat))
              have D2 := D1.far (p := ⟨w.heap.size + 1, 0, none⟩) (by simp) (.int .i64 (x2 : Nat))
              have T2 := T1.far (p := ⟨w.heap.size + 1, 0, none⟩) (by simp) (.int .i64 (x2 : Nat))
              have K2 := (Below.heap_setCell (w5.setCell ⟨w.heap.size + 1, 0, none⟩ (.int .i64 (x1 : Nat))) ⟨w.heap.size + 1, 0, none⟩ (.int .i64 (x2 : Nat)) D hnb).trans K1
              have B2 := B1.setCell (p := ⟨w.heap.size + 1, 0, none⟩) (by simp) (.int .i64 (x2 : Nat))
              have cS2 := S2.cell
              have fS2 := S2.frozen
              have cD2 := D2.cell
              have cT2 := T2.cell
              gi_wp2_with (gi_at_call 45; refine (callsIn_wide.2 (HCH.out _ B2)).mono ?_; rintro e w9 ⟨v9, rfl, hcv, hb9⟩)
              have hb9 : Grow _ w9 := hb9
              have S3 := hb9.block S2
              have D3 := hb9.block D2
              have T3 := hb9.block T2
              have K3 := (Below.block hb9 D (lt_heap K2)).trans K2
              have B3 := B2.trans (Below.mono hb9 B2.size)
              have cS3 := S3.cell
              have fS3 := S3.frozen
              have cD3 := D3.cell
              have cT3 := T3.cell
              obtain ⟨b9, c9, rfl, _⟩ := hcv.2 _ rfl
              have hnil := some_eql_nil
              have HE : Hid (x2 = bl) := Lib.hid (by rw [HBL.out]; simp [hv1, hv2])
              clear HBL hb9 hcv HCH
              gi_wp2
              change Oper.uponIn _ _ _ _ _ _ _ (Result.ok (Next.value (Value.bool false)) w9)
              gi_wp2
              refine ⟨by simp, .inl ⟨_, _, rfl, run_takeDeferred K3, ?_⟩⟩
              refine ⟨_, results_tmp rfl _ _ _, ?_, B3.trans (belowK_b (w := w) (Nat.le_refl _) _ D _ _ (by omega) K3 rfl rfl)⟩
              exact congrArg (fun q : Nat => Ending.returned (Value.int .i64 q)) HE.out
      | false =>
        cases ld with
        | false =>
          cases ch with
          | none =>
            have S0 := HSS.out
            have D0 := HDD.out
            have T0 := HTT.out
            have K0 := HKK.out
            have B0 := HBB.out
            have cS0 := S0.cell
            have fS0 := S0.frozen
            have cD0 := D0.cell
            have cT0 := T0.cell
            gi_wp2_with (gi_at_call 45; refine (callsIn_wide.2 (HCH.out _ B0)).mono ?_; rintro e w9 ⟨v9, rfl, hcv, hb9⟩)
            have hb9 : Grow _ w9 := hb9
            have S1 := hb9.block S0
            have D1 := hb9.block D0
            have T1 := hb9.block T0
            have K1 := (Below.block hb9 D (lt_heap K0)).trans K0
            have B1 := B0.trans (Below.mono hb9 B0.size)
            have cS1 := S1.cell
            have fS1 := S1.frozen
            have cD1 := D1.cell
            have cT1 := T1.cell
            obtain rfl := hcv.1 rfl
            have hnil := none_eql_nil
            obtain ⟨x2, hv2⟩ : ∃ z, ov ||| 32 = z := ⟨_, rfl⟩
            have hl2 : x2 < 64 := by rw [← hv2]; exact Nat.or_lt_two_pow (n := 6) (by omega) (by omega)
            have ho2 : bits .or .i64 ((ov : Nat) : Int) 32 = ((x2 : Nat) : Int) := by rw [← hv2]; exact or_i64 ov 32 (by omega) (by omega)
            have S2 := S1.near 0 (.int .i64 (x2 : Nat))
            have D2 := D1.far (p := ⟨w.heap.size + 1, 0, none⟩) (by simp) (.int .i64 (x2 : Nat))
            have T2 := T1.far (p := ⟨w.heap.size + 1, 0, none⟩) (by simp) (.int .i64 (x2 : Nat))
            have K2 := (Below.heap_setCell w9 ⟨w.heap.size + 1, 0, none⟩ (.int .i64 (x2 : Nat)) D hnb).trans K1
            have B2 := B1.setCell (p := ⟨w.heap.size + 1, 0, none⟩) (by simp) (.int .i64 (x2 : Nat))
            have cS2 := S2.cell
            have fS2 := S2.frozen
            have cD2 := D2.cell
            have cT2 := T2.cell
            have HE : Hid (x2 = bl) := Lib.hid (by rw [HBL.out]; simp [hv2])
            clear HBL hb9 hcv HCH
            gi_wp2
            change Oper.uponIn _ _ _ _ _ _ _ (Result.ok (Next.value (Value.bool true)) w9)
            gi_wp2
            refine ⟨by simp, .inl ⟨_, _, rfl, run_takeDeferred K2, ?_⟩⟩
            refine ⟨_, results_tmp rfl _ _ _, ?_, B2.trans (belowK_b (w := w) (Nat.le_refl _) _ D _ _ (by omega) K2 rfl rfl)⟩
            exact congrArg (fun q : Nat => Ending.returned (Value.int .i64 q)) HE.out
          | some lc =>
            have S0 := HSS.out
            have D0 := HDD.out
            have T0 := HTT.out
            have K0 := HKK.out
            have B0 := HBB.out
            have cS0 := S0.cell
            have fS0 := S0.frozen
            have cD0 := D0.cell
            have cT0 := T0.cell
            gi_wp2_with (gi_at_call 45; refine (callsIn_wide.2 (HCH.out _ B0)).mono ?_; rintro e w9 ⟨v9, rfl, hcv, hb9⟩)
            have hb9 : Grow _ w9 := hb9
            have S1 := hb9.block S0
            have D1 := hb9.block D0
            have T1 := hb9.block T0
            have K1 := (Below.block hb9 D (lt_heap K0)).trans K0
            have B1 := B0.trans (Below.mono hb9 B0.size)
            have cS1 := S1.cell
            have fS1 := S1.frozen
            have cD1 := D1.cell
            have cT1 := T1.cell
            obtain ⟨b9, c9, rfl, _⟩ := hcv.2 _ rfl
            have hnil := some_eql_nil
            have HE : Hid (ov = bl) := Lib.hid (by rw [HBL.out]; simp [])
            clear HBL hb9 hcv HCH
            gi_wp2
            change Oper.uponIn _ _ _ _ _ _ _ (Result.ok (Next.value (Value.bool false)) w9)
            gi_wp2
            refine ⟨by simp, .inl ⟨_, _, rfl, run_takeDeferred K1, ?_⟩⟩
            refine ⟨_, results_tmp rfl _ _ _, ?_, B1.trans (belowK_b (w := w) (Nat.le_refl _) _ D _ _ (by omega) K1 rfl rfl)⟩
            exact congrArg (fun q : Nat => Ending.returned (Value.int .i64 q)) HE.out
        | true =>
          cases dv with
          | true =>
            cases ch with
            | none =>
              have S0 := HSS.out
              have D0 := HDD.out
              have T0 := HTT.out
              have K0 := HKK.out
              have B0 := HBB.out
              have cS0 := S0.cell
              have fS0 := S0.frozen
              have cD0 := D0.cell
              have cT0 := T0.cell
              gi_wp2_with (gi_at_call 45; refine (callsIn_wide.2 (HCH.out _ B0)).mono ?_; rintro e w9 ⟨v9, rfl, hcv, hb9⟩)
              have hb9 : Grow _ w9 := hb9
              have S1 := hb9.block S0
              have D1 := hb9.block D0
              have T1 := hb9.block T0
              have K1 := (Below.block hb9 D (lt_heap K0)).trans K0
              have B1 := B0.trans (Below.mono hb9 B0.size)
              have cS1 := S1.cell
              have fS1 := S1.frozen
              have cD1 := D1.cell
              have cT1 := T1.cell
              obtain rfl := hcv.1 rfl
              have hnil := none_eql_nil
              obtain ⟨x2, hv2⟩ : ∃ z, ov ||| 32 = z := ⟨_, rfl⟩
              have hl2 : x2 < 64 := by rw [← hv2]; exact Nat.or_lt_two_pow (n := 6) (by omega) (by omega)
              have ho2 : bits .or .i64 ((ov : Nat) : Int) 32 = ((x2 : Nat) : Int) := by rw [← hv2]; exact or_i64 ov 32 (by omega) (by omega)
              have S2 := S1.near 0 (.int .i64 (x2 : Nat))
              have D2 := D1.far (p := ⟨w.heap.size + 1, 0, none⟩) (by simp) (.int .i64 (x2 : Nat))
              have T2 := T1.far (p := ⟨w.heap.size + 1, 0, none⟩) (by simp) (.int .i64 (x2 : Nat))
              have K2 := (Below.heap_setCell w9 ⟨w.heap.size + 1, 0, none⟩ (.int .i64 (x2 : Nat)) D hnb).trans K1
              have B2 := B1.setCell (p := ⟨w.heap.size + 1, 0, none⟩) (by simp) (.int .i64 (x2 : Nat))
              have cS2 := S2.cell
              have fS2 := S2.frozen
              have cD2 := D2.cell
              have cT2 := T2.cell
              have HE : Hid (x2 = bl) := Lib.hid (by rw [HBL.out]; simp [hv2])
              clear HBL hb9 hcv HCH
              gi_wp2
              change Oper.uponIn _ _ _ _ _ _ _ (Result.ok (Next.value (Value.bool true)) w9)
              gi_wp2
              refine ⟨by simp, .inl ⟨_, _, rfl, run_takeDeferred K2, ?_⟩⟩
              refine ⟨_, results_tmp rfl _ _ _, ?_, B2.trans (belowK_b (w := w) (Nat.le_refl _) _ D _ _ (by omega) K2 rfl rfl)⟩
              exact congrArg (fun q : Nat => Ending.returned (Value.int .i64 q)) HE.out
            | some lc =>
              have S0 := HSS.out
              have D0 := HDD.out
              have T0 := HTT.out
              have K0 := HKK.out
              have B0 := HBB.out
              have cS0 := S0.cell
              have fS0 := S0.frozen
              have cD0 := D0.cell
              have cT0 := T0.cell
              gi_wp2_with (gi_at_call 45; refine (callsIn_wide.2 (HCH.out _ B0)).mono ?_; rintro e w9 ⟨v9, rfl, hcv, hb9⟩)
              have hb9 : Grow _ w9 := hb9
              have S1 := hb9.block S0
              have D1 := hb9.block D0
              have T1 := hb9.block T0
              have K1 := (Below.block hb9 D (lt_heap K0)).trans K0
              have B1 := B0.trans (Below.mono hb9 B0.size)
              have cS1 := S1.cell
              have fS1 := S1.frozen
              have cD1 := D1.cell
              have cT1 := T1.cell
              obtain ⟨b9, c9, rfl, _⟩ := hcv.2 _ rfl
              have hnil := some_eql_nil
              have HE : Hid (ov = bl) := Lib.hid (by rw [HBL.out]; simp [])
              clear HBL hb9 hcv HCH
              gi_wp2
              change Oper.uponIn _ _ _ _ _ _ _ (Result.ok (Next.value (Value.bool false)) w9)
              gi_wp2
              refine ⟨by simp, .inl ⟨_, _, rfl, run_takeDeferred K1, ?_⟩⟩
              refine ⟨_, results_tmp rfl _ _ _, ?_, B1.trans (belowK_b (w := w) (Nat.le_refl _) _ D _ _ (by omega) K1 rfl rfl)⟩
              exact congrArg (fun q : Nat => Ending.returned (Value.int .i64 q)) HE.out
          | false =>
            cases ch with
            | none =>
              have S0 := HSS.out
              have D0 := HDD.out
              have T0 := HTT.out
              have K0 := HKK.out
              have B0 := HBB.out
              have cS0 := S0.cell
              have fS0 := S0.frozen
              have cD0 := D0.cell
              have cT0 := T0.cell
              obtain ⟨x1, hv1⟩ : ∃ z, ov ||| 16 = z := ⟨_, rfl⟩
              have hl1 : x1 < 64 := by rw [← hv1]; exact Nat.or_lt_two_pow (n := 6) (by omega) (by omega)
              have ho1 : bits .or .i64 ((ov : Nat) : Int) 16 = ((x1 : Nat) : Int) := by rw [← hv1]; exact or_i64 ov 16 (by omega) (by omega)
              have S1 := S0.near 0 (.int .i64 (x1 : Nat))
              have D1 := D0.far (p := ⟨w.heap.size + 1, 0, none⟩) (by simp) (.int .i64 (x1 : Nat))
              have T1 := T0.far (p := ⟨w.heap.size + 1, 0, none⟩) (by simp) (.int .i64 (x1 : Nat))
              have K1 := (Below.heap_setCell w5 ⟨w.heap.size + 1, 0, none⟩ (.int .i64 (x1 : Nat)) D hnb).trans K0
              have B1 := B0.setCell (p := ⟨w.heap.size + 1, 0, none⟩) (by simp) (.int .i64 (x1 : Nat))
              have cS1 := S1.cell
              have fS1 := S1.frozen
              have cD1 := D1.cell
              have cT1 := T1.cell
              gi_wp2_with (gi_at_call 45; refine (callsIn_wide.2 (HCH.out _ B1)).mono ?_; rintro e w9 ⟨v9, rfl, hcv, hb9⟩)
              have hb9 : Grow _ w9 := hb9
              have S2 := hb9.block S1
              have D2 := hb9.block D1
              have T2 := hb9.block T1
              have K2 := (Below.block hb9 D (lt_heap K1)).trans K1
              have B2 := B1.trans (Below.mono hb9 B1.size)
              have cS2 := S2.cell
              have fS2 := S2.frozen
              have cD2 := D2.cell
              have cT2 := T2.cell
              obtain rfl := hcv.1 rfl
              have hnil := none_eql_nil
              obtain ⟨x3, hv3⟩ : ∃ z, x1 ||| 32 = z := ⟨_, rfl⟩
              have hl3 : x3 < 64 := by rw [← hv3]; exact Nat.or_lt_two_pow (n := 6) (by omega) (by omega)
              have ho3 : bits .or .i64 ((x1 : Nat) : Int) 32 = ((x3 : Nat) : Int) := by rw [← hv3]; exact or_i64 x1 32 (by omega) (by omega)
              have S3 := S2.near 0 (.int .i64 (x3 : Nat))
              have D3 := D2.far (p := ⟨w.heap.size + 1, 0, none⟩) (by simp) (.int .i64 (x3 : Nat))
              have T3 := T2.far (p := ⟨w.heap.size + 1, 0, none⟩) (by simp) (.int .i64 (x3 : Nat))
              have K3 := (Below.heap_setCell w9 ⟨w.heap.size + 1, 0, none⟩ (.int .i64 (x3 : Nat)) D hnb).trans K2
              have B3 := B2.setCell (p := ⟨w.heap.size + 1, 0, none⟩) (by simp) (.int .i64 (x3 : Nat))
              have cS3 := S3.cell
              have fS3 := S3.frozen
              have cD3 := D3.cell
              have cT3 := T3.cell
              have HE : Hid (x3 = bl) := Lib.hid (by rw [HBL.out]; simp [hv1, hv3])
              clear HBL hb9 hcv HCH
              gi_wp2
              change Oper.uponIn _ _ _ _ _ _ _ (Result.ok (Next.value (Value.bool true)) w9)
              gi_wp2
              refine ⟨by simp, .inl ⟨_, _, rfl, run_takeDeferred K3, ?_⟩⟩
              refine ⟨_, results_tmp rfl _ _ _, ?_, B3.trans (belowK_b (w := w) (Nat.le_refl _) _ D _ _ (by omega) K3 rfl rfl)⟩
              exact congrArg (fun q : Nat => Ending.returned (Value.int .i64 q)) HE.out
            | some lc =>
              have S0 := HSS.out
              have D0 := HDD.out
              have T0 := HTT.out
              have K0 := HKK.out
              have B0 := HBB.out
              have cS0 := S0.cell
              have fS0 := S0.frozen
              have cD0 := D0.cell
              have cT0 := T0.cell
              obtain ⟨x1, hv1⟩ : ∃ z, ov ||| 16 = z := ⟨_, rfl⟩
              have hl1 : x1 < 64 := by rw [← hv1]; exact Nat.or_lt_two_pow (n := 6) (by omega) (by omega)
              have ho1 : bits .or .i64 ((ov : Nat) : Int) 16 = ((x1 : Nat) : Int) := by rw [← hv1]; exact or_i64 ov 16 (by omega) (by omega)
              have S1 := S0.near 0 (.int .i64 (x1 : Nat))
              have D1 := D0.far (p := ⟨w.heap.size + 1, 0, none⟩) (by simp) (.int .i64 (x1 : Nat))
              have T1 := T0.far (p := ⟨w.heap.size + 1, 0, none⟩) (by simp) (.int .i64 (x1 : Nat))
              have K1 := (Below.heap_setCell w5 ⟨w.heap.size + 1, 0, none⟩ (.int .i64 (x1 : Nat)) D hnb).trans K0
              have B1 := B0.setCell (p := ⟨w.heap.size + 1, 0, none⟩) (by simp) (.int .i64 (x1 : Nat))
              have cS1 := S1.cell
              have fS1 := S1.frozen
              have cD1 := D1.cell
              have cT1 := T1.cell
              gi_wp2_with (gi_at_call 45; refine (callsIn_wide.2 (HCH.out _ B1)).mono ?_; rintro e w9 ⟨v9, rfl, hcv, hb9⟩)
              have hb9 : Grow _ w9 := hb9
              have S2 := hb9.block S1
              have D2 := hb9.block D1
              have T2 := hb9.block T1
              have K2 := (Below.block hb9 D (lt_heap K1)).trans K1
              have B2 := B1.trans (Below.mono hb9 B1.size)
              have cS2 := S2.cell
              have fS2 := S2.frozen
              have cD2 := D2.cell
              have cT2 := T2.cell
              obtain ⟨b9, c9, rfl, _⟩ := hcv.2 _ rfl
              have hnil := some_eql_nil
              have HE : Hid (x1 = bl) := Lib.hid (by rw [HBL.out]; simp [hv1])
              clear HBL hb9 hcv HCH
              gi_wp2
              change Oper.uponIn _ _ _ _ _ _ _ (Result.ok (Next.value (Value.bool false)) w9)
              gi_wp2
              refine ⟨by simp, .inl ⟨_, _, rfl, run_takeDeferred K2, ?_⟩⟩
              refine ⟨_, results_tmp rfl _ _ _, ?_, B2.trans (belowK_b (w := w) (Nat.le_refl _) _ D _ _ (by omega) K2 rfl rfl)⟩
              exact congrArg (fun q : Nat => Ending.returned (Value.int .i64 q)) HE.out
  case stop =>
    rintro D cd pre W hD _ h _
    exact h.elim

theorem broken_any (c : CrewR) (j : JobD) (lw : LawD) (bA : Option Addr) (bc team n fr dst : Nat) (w : World) (hP : People w w.heap.size c.pa c.people) (hl : c.people.length ≤ 8) (ht : team < 1024) (hn : c.languages = (n : Int)) (hn5 : n ≤ 5) (hfr : j.fr = (fr : Int)) (hfn : fr < n) (hds : j.dest = (dst : Int)) (hdn : dst < n) (hv : ∀ x ∈ c.people, x.d.levels.length = n) (hbr : Ints w w.heap.size bA (c.people.map fun x => (breakD j x.d : Int))) :
    Calls Try.prog 42 #[taskV c j lw bA bc, .int .i64 (team : Nat)] w fun e w' => e = .returned (.int .i64 (brokenL j lw n fr dst team (membersL c.people team) : Nat)) ∧ Below w.heap.size w w' :=
  broken_any' c j lw.level lw.size lw.deaf bA bc team n fr dst w hP hl ht hn hn5 hfr hfn hds hdn hv hbr

end Go.Proofs.Yticeekkfdkfcgaa
