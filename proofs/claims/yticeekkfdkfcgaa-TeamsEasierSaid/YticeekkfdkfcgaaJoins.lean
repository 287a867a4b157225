/- Joins: whether a team joins two languages. -/
import Derived.Test.YticeekkfdkfcgaaFee
import Derived.Test.YticeekkfdkfcgaaRound
namespace Go.Proofs.Yticeekkfdkfcgaa
open Go.RowKit Go.Shelf

attribute [local go_sem] Oper.semAt_some

def lvD (p : PersonD) (a : Nat) : Int := (p.levels[a]?).getD 0
def bothD (lv : Int) (a b : Nat) (p : PersonD) : Bool := decide (lv ≤ min (lvD p a) (lvD p b))
def joinsL {P : List PersonR} (lv : Int) (a b : Nat) (l : List (Mem P)) : Bool := l.any fun x => bothD lv a b x.1.2.d

theorem memTo_sub {P : List PersonR} {team k m : Nat} (h : k ≤ m) {x : Mem P} (hx : x ∈ memTo P team k) : x ∈ memTo P team m := by
  rw [memTo_mem] at hx ⊢
  exact ⟨by omega, hx.2⟩
theorem joinsL_to {P : List PersonR} {lv : Int} {a b team k : Nat} (h : joinsL lv a b (memTo P team k) = true) (hk : k ≤ P.length) : joinsL lv a b (membersL P team) = true := by
  unfold joinsL at h ⊢
  rw [List.any_eq_true] at h ⊢
  obtain ⟨x, hx, hb⟩ := h
  exact ⟨x, memTo_sub hk hx, hb⟩
theorem keepsFrom_grow (B : Nat) {W W' : World} (h : Grow W W') : KeepsFrom B W W' := ⟨h.size, fun k _ _ hk _ => (Below.block h k (Array.getElem?_eq_some_iff.1 hk).1).trans hk⟩

set_option maxRecDepth 100000 in
set_option maxHeartbeats 4000000 in
theorem joins_any (c : CrewR) (j : JobD) (lw : LawD) (bA : Option Addr) (bc team a b : Nat) (w : World) (hP : People w w.heap.size c.pa c.people) (hl : c.people.length ≤ 8) (ht : team < 1000000) (hv : ∀ x ∈ c.people, a < x.d.levels.length ∧ b < x.d.levels.length) :
    Calls Try.prog 61 #[taskV c j lw bA bc, .int .i64 (team : Nat), .int .i64 (a : Nat), .int .i64 (b : Nat)] w fun e w' => e = .returned (.bool (joinsL lw.level a b (membersL c.people team))) ∧ Below w.heap.size w w' := by
  refine (callsIn_wide (n := 8)).1 ?_
  have hro : Fence.wide.round = none := rfl
  have h52 : Fence.wide.fn 52 := trivial
  refine callsIn_of_wp_marks Try.func61 rfl trivial ?_ hro
  simp only [Try.ntmps61, List.size_toArray, List.length_cons, List.length_nil, Nat.reduceAdd, Nat.reduceSub, Array.replicate_succ, Array.replicate_zero, List.push_toArray, List.append_toArray, List.nil_append, List.cons_append]
  gi_wp2_with (gi_at_call 52; refine (members_in Fence.wide _ trivial rfl c j lw bA bc team _).mono ?_; rintro e w' ⟨rfl, rfl⟩)
  obtain ⟨V0, hV0, hgv, k1, k2, k3, k4, hzv⟩ := four_blocks w 63 3 3 4 (cellsT c j lw bA bc) #[.int .i64 (a : Nat)] #[.int .i64 (b : Nat)] #[.bool false]
  obtain ⟨W0, hW0, hg1, b3, b4, _⟩ := two_blocks V0 63 3 (cellsT c j lw bA bc) #[.int .i64 (team : Nat)]
  have hz0 : W0.heap.size = w.heap.size + 1 + 1 + 1 + 1 + 1 + 1 := by rw [← hW0]; simp [hzv]
  rw [hzv] at b3 b4
  rw [hV0, hW0]
  have hB0 : Below w.heap.size w W0 := hgv.trans hg1
  have hPW : People W0 w.heap.size c.pa c.people := hP.below hB0
  have k1 := hg1.block k1
  have k2 := hg1.block k2
  have k3 := hg1.block k3
  have k4 := hg1.block k4
  clear hW0 hV0 hgv hg1 hzv hP
  refine wpIn_rangeFunc_ownH hro (by omega) (gf := 64) (lb := #[.pointer (some ⟨w.heap.size + 1 + 1 + 1 + 1, 0, none⟩), .pointer (some ⟨w.heap.size + 1 + 1 + 1 + 1 + 1, 0, none⟩)]) rfl trivial (enters_of Try.func64 (by kernel_rfl) rfl)
    (members_stops _ (by omega) (w.heap.size + 1 + 1 + 1 + 1) (w.heap.size + 1 + 1 + 1 + 1 + 1) w.heap.size c j lw bA bc team ht (by omega) W0 b3 b4 hPW (by omega)) KeepT.trans (keepT_b (by omega) (by omega) (by omega)) (Below.refl _ _) (fun _ => rfl)
    (fun pre W => joinsL lw.level a b pre = false ∧ Below W0.heap.size W0 W)
    (fun cd pre W => (cd = .ret ∧ joinsL lw.level a b pre = true) ∧ Boxed W (w.heap.size + 1 + 1 + 1) 4 (.bool true) ∧ Below w.heap.size w W)
    (OwnFrom.and (ownFrom_pure _ _) (ownFrom_below (Nat.le_refl _) (Nat.le_refl _)))
    (fun cd => OwnFrom.and (ownFrom_pure _ _) (OwnFrom.and (Own.from (boxed_own _ _ _) _) (ownFrom_below (Nat.le_refl _) (by omega))))
    ⟨rfl, Below.refl _ _⟩
    (fun x a' W => ∃ Bx, w.heap.size + 1 + 1 + 1 < Bx ∧ BlockIs W Bx 52 (cellsP x.1.2) ∧ a' = { tmps := #[taskV c j lw bA bc, .int .i64 (team : Nat), .int .i64 (a : Nat), .int .i64 (b : Nat), .pointer (some ⟨w.heap.size, 0, none⟩), undef, .pointer (some ⟨w.heap.size + 1, 0, none⟩), .pointer (some ⟨w.heap.size + 1 + 1, 0, none⟩), .pointer (some ⟨w.heap.size + 1 + 1 + 1, 0, none⟩), undef, .pointer (some ⟨Bx, 0, none⟩), taskV c j lw bA bc, .int .i64 (team : Nat), .func (.func 64) #[] #[.pointer (some ⟨w.heap.size + 1 + 1 + 1 + 1, 0, none⟩), .pointer (some ⟨w.heap.size + 1 + 1 + 1 + 1 + 1, 0, none⟩)], .int .i64 (x.1.1 : Nat), personV x.1.2, undef, undef, undef, undef, undef, undef, undef, undef, undef, undef, undef, undef, undef, undef, undef], defers := [] })
    (fun x a' _ X Y row hs hg hr => by obtain ⟨Bx, e1, e2, e3⟩ := hs; exact ⟨Bx, e1, block_own e2 hg hr, e3⟩)
    ?assign ?body ?done ?stop
  case assign =>
    rintro l pre x W K ⟨hj, hB⟩ hK
    gi_wp2
    have hZ := hB.size
    exact hK _ _ ((KeepsOthers.alloc _ _).from _) (KeepT.of_below (Grow.alloc W _) (by omega) (by omega) (by omega)) ⟨hj, hB.alloc hB.size _⟩ ⟨W.heap.size, by omega, BlockIs.new W _ _, rfl⟩
  case body =>
    rintro l pre x a' W hl' ⟨r, hr⟩ ⟨hj, hB⟩ ⟨Bx, hBx, bX, rfl⟩ hlt
    have hxm := List.mem_of_getElem? x.2
    obtain ⟨ha, hb⟩ := hv x.1.2 hxm
    have hpa := (hPW.below (Below.mono hB (by omega))).2 x.1.2 hxm
    obtain ⟨la, lo, ya, hla, hlb, hya, HYA⟩ := hpa.1.at_ ha
    obtain ⟨la', lo', yb, hla', hlb', hyb, HYB⟩ := hpa.1.at_ hb
    rw [hla] at hla'
    obtain ⟨rfl, rfl⟩ : la = la' ∧ lo = lo' := by simpa using hla'
    have cX0 : W.cell? ⟨Bx, 0, none⟩ = some (.slice (some ⟨la, lo, none⟩) x.1.2.d.levels.length x.1.2.lc) := by rw [bX.cell 0, ← hla]; rfl
    have ca : W.cell? ⟨w.heap.size + 1, 0, none⟩ = some (.int .i64 (a : Nat)) := (k2.below hB (by omega)).cell 0
    have cb : W.cell? ⟨w.heap.size + 1 + 1, 0, none⟩ = some (.int .i64 (b : Nat)) := (k3.below hB (by omega)).cell 0
    have cl : W.cell? ⟨w.heap.size, 9, none⟩ = some (.int .i64 lw.level) := (k1.below hB (by omega)).cell 9
    have fR := (k4.below hB (by omega)).frozen
    have hdec : bothD lw.level a b x.1.2.d = decide (lw.level ≤ min ya yb) := by
      unfold bothD lvD
      rw [HYA.out, HYB.out]; rfl
    have hjs : joinsL lw.level a b (pre ++ [x]) = decide (lw.level ≤ min ya yb) := by
      unfold joinsL at hj ⊢
      rw [List.any_append, hj]; simp [hdec]
    have ha0 : (0 : Int) ≤ (a : Int) := by omega
    have hb0 : (0 : Int) ≤ (b : Int) := by omega
    have ha1 : (a : Int) < (x.1.2.d.levels.length : Int) := by omega
    have hb1 : (b : Int) < (x.1.2.d.levels.length : Int) := by omega
    have HX0 := Lib.hid cX0
    have HCA := Lib.hid ca
    have HCB := Lib.hid cb
    have HCL := Lib.hid cl
    have HYa := Lib.hid hya
    have HYb := Lib.hid hyb
    have HFR := Lib.hid fR
    obtain ⟨mn, hmn⟩ : ∃ z, min ya yb = z := ⟨_, rfl⟩
    have HMN := Lib.hid hmn
    rw [hmn] at hjs
    clear hla hla' hlb hlb' cX0 ca cb cl hya hyb fR hmn hdec
    gi_wp2
    refine wpIn_region_round 15 [[], [(0, 16)], [], [(1, 17), (2, 18)], [(3, 19)], [], [(5, 21)], [], [(6, 22), (7, 23)], [(8, 24)], [(4, 20), (9, 25)], [], [(11, 27)], [(12, 28)], [(10, 26), (13, 29)]] Grow (fun qi v w' => match qi with
        | 0 => v = .pointer (some ⟨Bx, 0, none⟩)
        | 1 => v = .slice (some ⟨la, lo, none⟩) x.1.2.d.levels.length x.1.2.lc
        | 2 => v = .int .i64 (a : Nat)
        | 3 => v = .pointer (some ⟨la, lo + a, none⟩)
        | 4 => v = .int .i64 ya
        | 5 => v = .pointer (some ⟨Bx, 0, none⟩)
        | 6 => v = .slice (some ⟨la, lo, none⟩) x.1.2.d.levels.length x.1.2.lc
        | 7 => v = .int .i64 (b : Nat)
        | 8 => v = .pointer (some ⟨la, lo + b, none⟩)
        | 9 => v = .int .i64 yb
        | 10 => v = .int .i64 mn
        | 11 => v = .pointer (some ⟨w.heap.size, 9, none⟩)
        | 12 => v = .pointer (some ⟨w.heap.size, 9, none⟩)
        | 13 => v = .int .i64 lw.level
        | 14 => v = .bool (decide (lw.level ≤ mn))
        | _ => False) (by kernel_rfl) (by kernel_rfl) (by kernel_rfl) (fun ⟨_, _, h⟩ => h) (fun _ _ _ => Grow.trans) Grow.refl ?_ ?_ ?_
    · intro i v y y' h k
      match i, h with
      | 0, h | 1, h | 2, h | 3, h | 4, h | 5, h | 6, h | 7, h | 8, h | 9, h | 10, h | 11, h | 12, h | 13, h | 14, h => exact h
    · simp only [StepsLit, List.take_succ_cons, List.take_zero]
      refine ⟨?_, ?_, ?_, ?_, ?_, ?_, ?_, ?_, ?_, ?_, ?_, ?_, ?_, ?_, ?_, trivial⟩
      · intro w5 hR
        have hGw : Grow W w5 := hR.of_drew
        have HGW := Lib.hid hGw
        have cX0 := HGW.out.cell HX0.out
        have ca := HGW.out.cell HCA.out
        have cb := HGW.out.cell HCB.out
        have cl := HGW.out.cell HCL.out
        have hya := HGW.out.cell HYa.out
        have hyb := HGW.out.cell HYb.out
        clear hR hGw
        simp only [depV]
        try go_simp
        all_goals first
          | (with_reducible exact Grow.refl _)
          | (with_reducible exact ⟨Grow.refl _, rfl⟩)
      · intro w5 hR
        have hGw : Grow W w5 := hR.of_drew
        have HGW := Lib.hid hGw
        have cX0 := HGW.out.cell HX0.out
        have ca := HGW.out.cell HCA.out
        have cb := HGW.out.cell HCB.out
        have cl := HGW.out.cell HCL.out
        have hya := HGW.out.cell HYa.out
        have hyb := HGW.out.cell HYb.out
        clear hR hGw
        simp only [depV]
        rintro _ rfl
        try go_simp
        all_goals first
          | (with_reducible exact Grow.refl _)
          | (with_reducible exact ⟨Grow.refl _, rfl⟩)
      · intro w5 hR
        have hGw : Grow W w5 := hR.of_drew
        have HGW := Lib.hid hGw
        have cX0 := HGW.out.cell HX0.out
        have ca := HGW.out.cell HCA.out
        have cb := HGW.out.cell HCB.out
        have cl := HGW.out.cell HCL.out
        have hya := HGW.out.cell HYa.out
        have hyb := HGW.out.cell HYb.out
        clear hR hGw
        simp only [depV]
        try go_simp
        all_goals first
          | (with_reducible exact Grow.refl _)
          | (with_reducible exact ⟨Grow.refl _, rfl⟩)
      · intro w5 hR
        have hGw : Grow W w5 := hR.of_drew
        have HGW := Lib.hid hGw
        have cX0 := HGW.out.cell HX0.out
        have ca := HGW.out.cell HCA.out
        have cb := HGW.out.cell HCB.out
        have cl := HGW.out.cell HCL.out
        have hya := HGW.out.cell HYa.out
        have hyb := HGW.out.cell HYb.out
        clear hR hGw
        simp only [depV]
        rintro _ rfl
        rintro _ rfl
        try go_simp
        all_goals first
          | (with_reducible exact Grow.refl _)
          | (with_reducible exact ⟨Grow.refl _, rfl⟩)
      · intro w5 hR
        have hGw : Grow W w5 := hR.of_drew
        have HGW := Lib.hid hGw
        have cX0 := HGW.out.cell HX0.out
        have ca := HGW.out.cell HCA.out
        have cb := HGW.out.cell HCB.out
        have cl := HGW.out.cell HCL.out
        have hya := HGW.out.cell HYa.out
        have hyb := HGW.out.cell HYb.out
        clear hR hGw
        simp only [depV]
        rintro _ rfl
        try go_simp
        all_goals first
          | (with_reducible exact Grow.refl _)
          | (with_reducible exact ⟨Grow.refl _, rfl⟩)
      · intro w5 hR
        have hGw : Grow W w5 := hR.of_drew
        have HGW := Lib.hid hGw
        have cX0 := HGW.out.cell HX0.out
        have ca := HGW.out.cell HCA.out
        have cb := HGW.out.cell HCB.out
        have cl := HGW.out.cell HCL.out
        have hya := HGW.out.cell HYa.out
        have hyb := HGW.out.cell HYb.out
        clear hR hGw
        simp only [depV]
        try go_simp
        all_goals first
          | (with_reducible exact Grow.refl _)
          | (with_reducible exact ⟨Grow.refl _, rfl⟩)
      · intro w5 hR
        have hGw : Grow W w5 := hR.of_drew
        have HGW := Lib.hid hGw
        have cX0 := HGW.out.cell HX0.out
        have ca := HGW.out.cell HCA.out
        have cb := HGW.out.cell HCB.out
        have cl := HGW.out.cell HCL.out
        have hya := HGW.out.cell HYa.out
        have hyb := HGW.out.cell HYb.out
        clear hR hGw
        simp only [depV]
        rintro _ rfl
        try go_simp
        all_goals first
          | (with_reducible exact Grow.refl _)
          | (with_reducible exact ⟨Grow.refl _, rfl⟩)
      · intro w5 hR
        have hGw : Grow W w5 := hR.of_drew
        have HGW := Lib.hid hGw
        have cX0 := HGW.out.cell HX0.out
        have ca := HGW.out.cell HCA.out
        have cb := HGW.out.cell HCB.out
        have cl := HGW.out.cell HCL.out
        have hya := HGW.out.cell HYa.out
        have hyb := HGW.out.cell HYb.out
        clear hR hGw
        simp only [depV]
        try go_simp
        all_goals first
          | (with_reducible exact Grow.refl _)
          | (with_reducible exact ⟨Grow.refl _, rfl⟩)
      · intro w5 hR
        have hGw : Grow W w5 := hR.of_drew
        have HGW := Lib.hid hGw
        have cX0 := HGW.out.cell HX0.out
        have ca := HGW.out.cell HCA.out
        have cb := HGW.out.cell HCB.out
        have cl := HGW.out.cell HCL.out
        have hya := HGW.out.cell HYa.out
        have hyb := HGW.out.cell HYb.out
        clear hR hGw
        simp only [depV]
        rintro _ rfl
        rintro _ rfl
        try go_simp
        all_goals first
          | (with_reducible exact Grow.refl _)
          | (with_reducible exact ⟨Grow.refl _, rfl⟩)
      · intro w5 hR
        have hGw : Grow W w5 := hR.of_drew
        have HGW := Lib.hid hGw
        have cX0 := HGW.out.cell HX0.out
        have ca := HGW.out.cell HCA.out
        have cb := HGW.out.cell HCB.out
        have cl := HGW.out.cell HCL.out
        have hya := HGW.out.cell HYa.out
        have hyb := HGW.out.cell HYb.out
        clear hR hGw
        simp only [depV]
        rintro _ rfl
        try go_simp
        all_goals first
          | (with_reducible exact Grow.refl _)
          | (with_reducible exact ⟨Grow.refl _, rfl⟩)
      · intro w5 hR
        have hGw : Grow W w5 := hR.of_drew
        have HGW := Lib.hid hGw
        have cX0 := HGW.out.cell HX0.out
        have ca := HGW.out.cell HCA.out
        have cb := HGW.out.cell HCB.out
        have cl := HGW.out.cell HCL.out
        have hya := HGW.out.cell HYa.out
        have hyb := HGW.out.cell HYb.out
        clear hR hGw
        simp only [depV]
        rintro _ rfl
        rintro _ rfl
        try go_simp
        exact ⟨Grow.refl _, by have h := HMN.out; rw [← h]; split <;> omega⟩
      · intro w5 hR
        have hGw : Grow W w5 := hR.of_drew
        have HGW := Lib.hid hGw
        have cX0 := HGW.out.cell HX0.out
        have ca := HGW.out.cell HCA.out
        have cb := HGW.out.cell HCB.out
        have cl := HGW.out.cell HCL.out
        have hya := HGW.out.cell HYa.out
        have hyb := HGW.out.cell HYb.out
        clear hR hGw
        simp only [depV]
        try go_simp
        all_goals first
          | (with_reducible exact Grow.refl _)
          | (with_reducible exact ⟨Grow.refl _, rfl⟩)
      · intro w5 hR
        have hGw : Grow W w5 := hR.of_drew
        have HGW := Lib.hid hGw
        have cX0 := HGW.out.cell HX0.out
        have ca := HGW.out.cell HCA.out
        have cb := HGW.out.cell HCB.out
        have cl := HGW.out.cell HCL.out
        have hya := HGW.out.cell HYa.out
        have hyb := HGW.out.cell HYb.out
        clear hR hGw
        simp only [depV]
        rintro _ rfl
        try go_simp
        all_goals first
          | (with_reducible exact Grow.refl _)
          | (with_reducible exact ⟨Grow.refl _, rfl⟩)
      · intro w5 hR
        have hGw : Grow W w5 := hR.of_drew
        have HGW := Lib.hid hGw
        have cX0 := HGW.out.cell HX0.out
        have ca := HGW.out.cell HCA.out
        have cb := HGW.out.cell HCB.out
        have cl := HGW.out.cell HCL.out
        have hya := HGW.out.cell HYa.out
        have hyb := HGW.out.cell HYb.out
        clear hR hGw
        simp only [depV]
        rintro _ rfl
        try go_simp
        all_goals first
          | (with_reducible exact Grow.refl _)
          | (with_reducible exact ⟨Grow.refl _, rfl⟩)
      · intro w5 hR
        have hGw : Grow W w5 := hR.of_drew
        have HGW := Lib.hid hGw
        have cX0 := HGW.out.cell HX0.out
        have ca := HGW.out.cell HCA.out
        have cb := HGW.out.cell HCB.out
        have cl := HGW.out.cell HCL.out
        have hya := HGW.out.cell HYa.out
        have hyb := HGW.out.cell HYb.out
        clear hR hGw
        simp only [depV]
        rintro _ rfl
        rintro _ rfl
        try go_simp
        all_goals first
          | (with_reducible exact Grow.refl _)
          | (with_reducible exact ⟨Grow.refl _, rfl⟩)
    · intro w5 hR
      have HG5 : Hid (Grow W w5) := Lib.hid hR.of_drew
      clear hR
      simp only [finVC, List.take_succ_cons, List.take_zero, List.drop_succ_cons, List.drop_zero]
      rintro _ rfl
      rintro _ rfl
      rintro _ rfl
      rintro _ rfl
      rintro _ rfl
      rintro _ rfl
      rintro _ rfl
      rintro _ rfl
      rintro _ rfl
      rintro _ rfl
      rintro _ rfl
      rintro _ rfl
      rintro _ rfl
      rintro _ rfl
      rintro _ rfl
      simp only [Act.put, List.setIfInBounds_toArray, List.set_cons_succ, List.set_cons_zero]
      have hK5 := keepsFrom_grow W0.heap.size HG5.out
      have hT5 := KeepT.of_below (n₀ := w.heap.size) (Bt := w.heap.size + 1 + 1 + 1 + 1) (Bm := w.heap.size + 1 + 1 + 1 + 1 + 1) HG5.out (by have := hB.size; omega) (by have := hB.size; omega) (by have := hB.size; omega)
      have hB5 : Below W0.heap.size W0 w5 := hB.trans (Below.mono HG5.out hB.size)
      have k45 := k4.below hB5 (by omega)
      have fR := k45.frozen
      have cR : w5.cell? ⟨w.heap.size + 1 + 1 + 1, 0, none⟩ = some (.bool false) := k45.cell 0
      obtain ⟨tb, htb⟩ : ∃ z, decide (lw.level ≤ mn) = z := ⟨_, rfl⟩
      rw [htb] at hjs ⊢
      clear htb HG5
      simp only [wpList]
      cases tb with
      | true =>
        gi_wp2
        exact ⟨hK5.trans ((KeepsOthers.setCell _ _ _).from _), ⟨⟨rfl, hjs⟩, k45.near 0 _, (hB0.trans (Below.mono hB5 hB0.size)).setCell (p := ⟨w.heap.size + 1 + 1 + 1, 0, none⟩) (by simp; omega) _⟩⟩
      | false =>
        gi_wp2
        exact ⟨hK5, hT5, hjs, hB5⟩
  case done =>
    rintro D zs W hD rfl ⟨hj, hB⟩ hK
    have bR := k4.below hB (by omega)
    have fR := bR.frozen
    have cR : W.cell? ⟨w.heap.size + 1 + 1 + 1, 0, none⟩ = some (.bool false) := bR.cell 0
    gi_wp2
    have hK' := (KeepsOthers.setCell W ⟨w.heap.size + 1 + 1 + 1, 0, none⟩ (.bool false)).same D _ hK rfl
    refine ⟨by simp, .inl ⟨_, _, rfl, run_takeDeferred hK', ?_⟩⟩
    have hc5 := cell_kept (show Boxed _ _ _ _ from bR.near 0 (.bool false)).cell (grownBy_putObj' _ D (.deferred none)) (fun r e => by cases e; exact ⟨_, hK', rfl⟩)
    refine ⟨.bool false, ?_, ret_bool hj.symm, ((hB0.trans (Below.mono hB hB0.size)).setCell (p := ⟨w.heap.size + 1 + 1 + 1, 0, none⟩) (by simp; omega) _).trans (belowK_b (w := w) (Nat.le_refl _) _ D _ _ (by omega) hK' rfl rfl)⟩
    simp [results, Try.results61, go_sem, hc5]
  case stop =>
    rintro D cd pre W hD ⟨k, hk, rfl⟩ ⟨⟨rfl, hj⟩, bR, hB⟩ hK
    gi_wp2
    refine ⟨by simp, .inl ⟨_, _, rfl, run_takeDeferred hK, ?_⟩⟩
    have hc5 := cell_kept bR.cell (grownBy_putObj' _ D (.deferred none)) (fun r e => by cases e; exact ⟨_, hK, rfl⟩)
    refine ⟨.bool true, ?_, ret_bool (joinsL_to hj hk).symm, hB.trans (belowK_b (w := w) (Nat.le_refl _) W D _ _ (by omega) hK rfl rfl)⟩
    simp [results, Try.results61, go_sem, hc5]

end Go.Proofs.Yticeekkfdkfcgaa
