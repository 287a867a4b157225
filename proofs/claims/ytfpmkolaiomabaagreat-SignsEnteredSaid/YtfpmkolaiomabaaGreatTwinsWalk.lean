/- slices.Compact at pairs, on a row of the call's own. Rows of pairs of the call's own: sorted and compacted. Twins: the program's. Twins: the walk. -/
import Derived.Test.YtfpmkolaiomabaaGreatSortK
import Derived.Test.YtfpmkolaiomabaaGreatMem
import Derived.Lib.SlicesCompact
import Derived.Lib.SliceRun
import Derived.Deep.LoopGhost
import Derived.WalkKit
import Derived.Deep.QuietTactic
import Derived.BigQuiet
import Derived.Test.YtfpmkolaiomabaaGreatForms
import Derived.Test.YtfpmkolaiomabaaGreatRegion
import Derived.Deep.DeepCutAuto
import Derived.Test.YtfpmkolaiomabaaGreatEntry
import Derived.Test.YtfpmkolaiomabaaGreatFind
import Derived.Test.YtfpmkolaiomabaaGreatOrder
namespace Go.Proofs.YtfpmkolaiomabaaGreat
open Go.RowKit Go.Sort Go.Lib

def encP (p : Int × Int) : List Value := [.int .i64 p.1, .int .i64 p.2]
/-- block g is a row of cap pairs, the first of them d -/
def PairsAt (w : World) (g cap : Nat) (d : Array (Int × Int)) : Prop :=
  ∃ cur, w.heap[g]? = some (.cells cur 76 (0, 0)) ∧ cur.size = cap * 2 ∧ d.size ≤ cap ∧ ∀ j, j < d.size → cur[j * 2]? = some (.int .i64 d[j]!.1) ∧ cur[j * 2 + 1]? = some (.int .i64 d[j]!.2)
theorem PairsAt.cells {w : World} {g cap : Nat} {d : Array (Int × Int)} (h : PairsAt w g cap d) {j : Nat} (hj : j < d.size) :
    w.cell? ⟨g, j * 2, none⟩ = some (.int .i64 d[j]!.1) ∧ w.cell? ⟨g, j * 2 + 1, none⟩ = some (.int .i64 d[j]!.2) ∧ w.frozen? ⟨g, j * 2, none⟩ = false ∧ w.frozen? ⟨g, j * 2 + 1, none⟩ = false := by
  obtain ⟨cur, h1, _, _, h3⟩ := h
  obtain ⟨h4, h5⟩ := h3 j hj
  refine ⟨?_, ?_, ?_, ?_⟩ <;> simp [World.cell?, World.frozen?, h1, h4, h5]
theorem PairsAt.drew {w : World} {g cap : Nat} {d : Array (Int × Int)} (h : PairsAt w g cap d) : PairsAt w.drew g cap d := h
theorem PairsAt.set {w : World} {g cap : Nat} {d : Array (Int × Int)} (h : PairsAt w g cap d) {k : Nat} (hk : k < d.size) (p : Int × Int) :
    PairsAt ((w.setCell ⟨g, k * 2, none⟩ (.int .i64 p.1)).setCell ⟨g, k * 2 + 1, none⟩ (.int .i64 p.2)) g cap (d.setIfInBounds k p) := by
  obtain ⟨cur, h1, h2, h3, h4⟩ := h
  have b1 : BlockIs w g 76 cur := h1
  refine ⟨_, (b1.near (k * 2) (.int .i64 p.1)).near (k * 2 + 1) (.int .i64 p.2), by simp [h2], by simpa using h3, fun j hj => ?_⟩
  have hj' : j < d.size := by simpa using hj
  obtain ⟨h5, h6⟩ := h4 j hj'
  by_cases e : j = k
  · subst e
    rw [getElem!_set_same d j p hj']
    constructor
    · rw [Array.getElem?_setIfInBounds_ne (by omega), Array.getElem?_setIfInBounds_self_of_lt (by omega)]
    · rw [Array.getElem?_setIfInBounds_self_of_lt (by simp; omega)]
  · rw [getElem!_set_other d k j p e]
    constructor
    · rw [Array.getElem?_setIfInBounds_ne (by omega), Array.getElem?_setIfInBounds_ne (by omega)]; exact h5
    · rw [Array.getElem?_setIfInBounds_ne (by omega), Array.getElem?_setIfInBounds_ne (by omega)]; exact h6

theorem grown_drew' {w a : World} {r : Option Nat} (h : w.grownBy a r) : w.grownBy a.drew r := ⟨h.os, h.tape, h.output, h.size, h.block⟩
theorem grown_set (w : World) (p : Addr) (v : Value) : w.grownBy (w.setCell p v) (some p.block) :=
  ⟨rfl, rfl, rfl, by simp [World.setCell], fun k _ hk => Below.heap_setCell _ _ _ k (fun e => hk (by rw [e]))⟩
theorem grown_sets (g : Nat) : ∀ (vs : List Value) (o : Nat) (w : World), w.grownBy (w.setCells g o vs) (some g)
  | [], _, _ => World.grownBy.refl _ _
  | v :: r, o, w => (grown_set w ⟨g, o, none⟩ v).trans (grown_sets g r (o + 1) _)
theorem BlockIs.sets {t : TypeId} {g : Nat} : ∀ (vs : List Value) (o : Nat) (w : World) (cur : Array Value), BlockIs w g t cur → ∃ cur', BlockIs (w.setCells g o vs) g t cur' ∧ cur'.size = cur.size ∧ ∀ j, j < o → cur'[j]? = cur[j]?
  | [], _, _, cur, h => ⟨cur, h, rfl, fun _ _ => rfl⟩
  | v :: r, o, w, cur, h => by
    obtain ⟨cur', h1, h2, h3⟩ := BlockIs.sets r (o + 1) _ _ (h.near o v)
    refine ⟨cur', h1, by rw [h2]; simp, fun j hj => ?_⟩
    rw [h3 j (by omega), Array.getElem?_setIfInBounds_ne (by omega)]
theorem zeroP (w : World) : (zeroValue 76).run Tryz.prog w = .ok (.agg #[.int .i64 0, .int .i64 0]) w := by kernel_rfl
theorem run_clearP {w : World} {g cap kk m c : Nat} {dk : Array (Int × Int)} (ty : TypeId) (hP : PairsAt w g cap dk) (hm : 0 < m) (hk : kk + m = dk.size) :
    (Builtin.clear_ #[39] ty #[.slice (some ⟨g, kk * 2, none⟩) m c]).run Tryz.prog w = .ok (.tuple #[]) (w.setCells g (kk * 2) (List.replicate (m * 2) (.int .i64 0))) := by
  have hzc : (Builtin.zeroCells (Value.agg #[.int .i64 0, .int .i64 0]).cells m).toList = List.replicate (m * 2) (Value.int .i64 0) := by
    apply List.ext_getElem
    · simp [Builtin.zeroCells, Value.cells]
    · intro i h1 h2
      have : i % 2 = 0 ∨ i % 2 = 1 := by omega
      rcases this with h | h <;> simp [Builtin.zeroCells, Value.cells, h]
  have hcl : ∀ j, j < m * 2 → (w.cell? ⟨g, kk * 2 + j, none⟩).isSome = true ∧ w.frozen? ⟨g, kk * 2 + j, none⟩ = false := fun j hj => by
    obtain ⟨c0, c1, f0, f1⟩ := hP.cells (show kk + j / 2 < dk.size by omega)
    have : j % 2 = 0 ∨ j % 2 = 1 := by omega
    rcases this with h | h
    · rw [show kk * 2 + j = (kk + j / 2) * 2 by omega]; exact ⟨by rw [c0]; rfl, f0⟩
    · rw [show kk * 2 + j = (kk + j / 2) * 2 + 1 by omega]; exact ⟨by rw [c1]; rfl, f1⟩
  have hst := run_storeCells_cells (P := Tryz.prog) g (kk * 2) (List.replicate (m * 2) (.int .i64 0)) 0 w (fun j hj => by simpa using (hcl j (by simpa using hj)).1) (fun j hj => by simpa using (hcl j (by simpa using hj)).2) (by intro v hv'; rw [List.eq_of_mem_replicate hv']; rfl)
  simp only [Nat.add_zero] at hst
  obtain ⟨m', rfl⟩ : ∃ m', m = m' + 1 := ⟨m - 1, by omega⟩
  simp only [Builtin.clear_]
  simp [hzc, hst]

set_option maxRecDepth 100000 in
set_option maxHeartbeats 4000000 in
theorem compactP_any (g cap : Nat) (d : Array (Int × Int)) (w : World) (hP : PairsAt w g cap d) (hsz : d.size ≤ 1000000) :
    Calls Tryz.prog 68 #[.slice (some ⟨g, 0, none⟩) d.size cap] w fun e w' => e = .returned (.slice (some ⟨g, 0, none⟩) (compactUpTo d d.size).length cap) ∧
      ∃ dk : Array (Int × Int), (compactUpTo d d.size).length ≤ dk.size ∧ (∀ j, j < (compactUpTo d d.size).length → (compactUpTo d d.size)[j]? = some dk[j]!) ∧ PairsAt w' g cap dk ∧ w.grownBy w' (some g) := by
  have hcap := hP.choose_spec.2.2.1
  have heqP := run_eqP
  have HALL : Hid ((∀ j, j < d.size → keeps d j = true) → (compactUpTo d d.size).length = d.size ∧ (∀ j, j < d.size → (compactUpTo d d.size)[j]? = some d[j]!)) := by
    intro hall
    have e : compactUpTo d d.size = d.toList := by rw [compactUpTo_all d _ hall, range_map_get]
    rw [e]
    exact ⟨by simp, fun j hj => by rw [Array.getElem?_toList, Array.getElem?_eq_getElem hj, getElem!_pos d j hj]⟩
  by_cases h2 : d.size < 2
  · have HP := Lib.hid hP
    clear hP
    go_enter Tryz.func68, Tryz.ntmps68
    go_wp2
    go_ret
    obtain ⟨e1, e2⟩ := HALL.out (fun j hj => keeps_lt_one d j (by omega))
    exact ⟨by rw [e1]; rfl, d, by omega, fun j hj => e2 j (by omega), HP.out, World.grownBy.refl _ _⟩
  · go_enter Tryz.func68, Tryz.ntmps68
    go_wp2
    go_loopg [3] d.size (fun g0 s3 wr => ∃ k : Nat, 1 ≤ k ∧ k ≤ d.size ∧ d.size - k ≤ g0 ∧ s3 = .int .i64 k ∧ PairsAt wr g cap d ∧ w.grownBy wr (some g) ∧ ∀ j, j < k → keeps d j = true)
    case atStart => exact ⟨1, Nat.le_refl _, by omega, by omega, rfl, hP, World.grownBy.refl _ _, keeps_lt_one d⟩
    case round =>
      obtain ⟨k, hk1, hk, hg, rfl, hPr, hgr, hall⟩ := hrel
      by_cases hlt : k < d.size
      · obtain ⟨c0, c1, f0, f1⟩ := hPr.cells hlt
        obtain ⟨c2, c3, f2, f3⟩ := hPr.cells (show k - 1 < d.size by omega)
        have AL := Lib.hid hall
        have HP := Lib.hid hPr
        have HGR := Lib.hid hgr
        clear hall hPr hP hgr
        generalize hx : d[k]! = x at *
        generalize hy : d[k - 1]! = y at *
        have HX := Lib.hid hx
        have HY := Lib.hid hy
        clear hx hy
        obtain ⟨x1, x2⟩ := x
        obtain ⟨y1, y2⟩ := y
        dsimp only at *
        by_cases hdup : x1 = y1 ∧ x2 = y2
        · obtain ⟨rfl, rfl⟩ := hdup
          go_wp2_with fail
          go_region
          go_wp2
          clear c0 c1 c2 c3 f0 f1 f2 f3
          go_loopg [3, 5] d.size (fun g0 s3 s5 wr => ∃ (kk k2 : Nat) (dk : Array (Int × Int)), s3 = .int .i64 kk ∧ s5 = .int .i64 k2 ∧ 1 ≤ k2 ∧ k + k2 ≤ d.size ∧ d.size - (k + k2) ≤ g0 ∧ PairsAt wr g cap dk ∧ w.grownBy wr (some g) ∧ CompInv d (k + k2) kk dk)
          case atStart => exact ⟨k, 1, d, rfl, rfl, Nat.le_refl _, by omega, by omega, HP.out.drew, ⟨HGR.out.os, HGR.out.tape, HGR.out.output, HGR.out.size, HGR.out.block⟩, CompInv.start AL.out (keeps_neg (by omega) (by rw [HX.out, HY.out]))⟩
          case round =>
            obtain ⟨kk, k2, dk, rfl, rfl, h1, hle, hg2, hPk, hgrk, hI⟩ := hrel
            have hkk := hI.lt
            have hds := hI.size
            have HPK := Lib.hid hPk
            have HGK := Lib.hid hgrk
            have I2 := Lib.hid hI
            clear hgrk
            by_cases hlt2 : k + k2 < d.size
            · obtain ⟨m0, m1, mf0, mf1⟩ := hPk.cells (show k + k2 < dk.size by omega)
              obtain ⟨p0, p1, pf0, pf1⟩ := hPk.cells (show k + k2 - 1 < dk.size by omega)
              obtain ⟨q0, q1, qf0, qf1⟩ := hPk.cells (show kk < dk.size by omega)
              rw [hI.high (k + k2) (by omega)] at m0 m1
              rw [hI.high (k + k2 - 1) (by omega)] at p0 p1
              rw [show (k + k2) * 2 = k * 2 + k2 * 2 by omega] at m0 m1
              rw [show (k + k2 - 1) * 2 = k * 2 + (k2 - 1) * 2 by omega] at p0 p1
              clear hPk hI mf0 mf1 pf0 pf1
              generalize hu : d[k + k2]! = u at m0 m1
              generalize hv : d[k + k2 - 1]! = v at p0 p1
              generalize dk[kk]! = old at q0 q1
              have HU := Lib.hid hu
              have HV := Lib.hid hv
              clear hu hv hds
              obtain ⟨u1, u2⟩ := u
              obtain ⟨v1, v2⟩ := v
              dsimp only at *
              by_cases huv : u1 = v1 ∧ u2 = v2
              · obtain ⟨rfl, rfl⟩ := huv
                go_wp2_with fail
                go_region
                go_wp2
                go_roundg (d.size - (k + (k2 + 1)))
                case measure => omega
                case rel => exact ⟨kk, k2 + 1, dk, rfl, by go_num, by omega, by omega, Nat.le_refl _, HPK.out.drew, ⟨HGK.out.os, HGK.out.tape, HGK.out.output, HGK.out.size, HGK.out.block⟩, I2.out.skip (keeps_neg (by omega) (by rw [HU.out, HV.out]))⟩
              · go_wp2_with fail
                go_region
                go_wp2
                go_roundg (d.size - (k + (k2 + 1)))
                case measure => omega
                case rel => exact ⟨kk + 1, k2 + 1, dk.setIfInBounds kk (u1, u2), by go_num, by go_num, by omega, by omega, Nat.le_refl _, (HPK.out.set (by have := I2.out.size; omega) (u1, u2)).drew, grown_drew' (HGK.out.trans ((grown_set _ ⟨g, kk * 2, none⟩ _).trans (grown_set _ ⟨g, kk * 2 + 1, none⟩ _))),
                  by have := I2.out.keep hlt2 (keeps_pos (by rw [HU.out, HV.out]; intro he; injection he with e1 e2; exact huv ⟨e1, e2⟩)); rwa [HU.out] at this⟩
            · have hend : k + k2 = d.size := by omega
              have hcl : ∀ ty c, (Builtin.clear_ #[39] ty #[.slice (some ⟨g, kk * 2, none⟩) (d.size - kk) c]).run Tryz.prog wr = _ := fun ty c => run_clearP ty hPk (by omega) (by omega)
              clear hPk hI hds
              go_wp2
              go_ret
              have hI := I2.out
              rw [hend] at hI
              have hsz := hI.size
              have hln := hI.len
              refine ⟨by rw [hln]; rfl, dk.extract 0 kk, by rw [hln]; simp; omega, fun j hj => ?_, ?_, HGK.out.trans (grown_sets g _ _ _)⟩
              · rw [hln] at hj
                rw [hI.low j hj, getElem!_pos dk j (by omega), getElem!_pos (dk.extract 0 kk) j (by simp; omega)]
                simp
              · obtain ⟨cur, b1, b2, b3, b4⟩ := HPK.out
                obtain ⟨cur', e1, e2, e3⟩ := BlockIs.sets (List.replicate ((d.size - kk) * 2) (Value.int .i64 0)) (kk * 2) _ _ (show BlockIs _ g 76 cur from b1)
                refine ⟨cur', e1, by rw [e2]; exact b2, by simp; omega, fun j hj => ?_⟩
                have hj' : j < kk := by simp at hj; omega
                rw [e3 _ (by omega), e3 _ (by omega), getElem!_pos (dk.extract 0 kk) j hj]
                have := b4 j (by omega)
                rw [getElem!_pos dk j (by omega)] at this
                simpa using this
        · go_wp2_with fail
          go_region
          go_wp2
          go_roundg (d.size - (k + 1))
          case measure => omega
          case rel =>
            refine ⟨k + 1, by omega, by omega, Nat.le_refl _, by go_num, HP.out.drew, ⟨HGR.out.os, HGR.out.tape, HGR.out.output, HGR.out.size, HGR.out.block⟩, fun j hj => ?_⟩
            by_cases e : j = k
            · subst e
              exact keeps_pos (by rw [HX.out, HY.out]; intro he; injection he with e1 e2; exact hdup ⟨e1, e2⟩)
            · exact AL.out j (by omega)
      · obtain rfl : k = d.size := by omega
        have HP := Lib.hid hPr
        have HGR := Lib.hid hgr
        have AL := Lib.hid hall
        clear hPr hP hgr hall
        go_wp2
        go_ret
        obtain ⟨e1, e2⟩ := HALL.out AL.out
        exact ⟨by rw [e1]; rfl, d, by omega, fun j hj => e2 j (by omega), HP.out, HGR.out⟩

end Go.Proofs.YtfpmkolaiomabaaGreat

namespace Go.Proofs.YtfpmkolaiomabaaGreat
open Go.RowKit Go.Sort Go.Shelf

def cmpP (p q : Int × Int) : Int := cmpL [p.1, p.2] [q.1, q.2]
theorem cmp_cmpP : Cmp cmpP := cmp_cmpL.on fun p : Int × Int => [p.1, p.2]
theorem cmpP_eq0 {p q : Int × Int} (h : cmpP p q = 0) : p = q := by
  have := cmpL_eq0 h
  injection this with h1 h2
  injection h2 with h2
  exact Prod.ext h1 h2

theorem compact_spec {α : Type} [Inhabited α] [DecidableEq α] {c : α → α → Int} (h : Cmp c) (h0 : ∀ x y, c x y = 0 → x = y) (d : Array α) (hm : ∀ i j, i ≤ j → j < d.size → c d[i]! d[j]! ≤ 0) : ∀ m, m ≤ d.size →
    (Lib.compactUpTo d m).Pairwise (fun x y => c x y < 0) ∧ (Lib.compactUpTo d m).length ≤ m ∧ (∀ x, x ∈ Lib.compactUpTo d m ↔ ∃ j, j < m ∧ d[j]! = x)
  | 0, _ => ⟨by simp [Lib.compactUpTo], by simp [Lib.compactUpTo], by simp [Lib.compactUpTo]⟩
  | m + 1, hle => by
    obtain ⟨h1, h2, h3⟩ := compact_spec h h0 d hm m (by omega)
    rw [Lib.compactUpTo_succ]
    by_cases hk : Lib.keeps d m = true
    · rw [if_pos hk]
      refine ⟨List.pairwise_append.2 ⟨h1, by simp, ?_⟩, by simp; exact h2, fun x => ?_⟩
      · intro a ha b hb
        have hb : b = d[m]! := by simpa using hb
        obtain ⟨j, hj, rfl⟩ := (h3 a).1 ha
        subst hb
        have hk' : m = 0 ∨ d[m]! ≠ d[m - 1]! := by simpa [Lib.keeps] using hk
        have e1 := hm j (m - 1) (by omega) (by omega)
        have e2 := hm (m - 1) m (by omega) (by omega)
        rcases hk' with hk' | hk'
        · omega
        · refine h.le_lt e1 ?_
          have : c d[m - 1]! d[m]! ≠ 0 := fun e => hk' (h0 _ _ e).symm
          omega
      · rw [List.mem_append, h3 x]
        constructor
        · rintro (⟨j, hj, hx⟩ | hx)
          · exact ⟨j, by omega, hx⟩
          · exact ⟨m, by omega, (List.mem_singleton.1 hx).symm⟩
        · rintro ⟨j, hj, hx⟩
          by_cases hjm : j = m
          · subst hjm
            exact .inr (List.mem_singleton.2 hx.symm)
          · exact .inl ⟨j, by omega, hx⟩
    · rw [if_neg hk, List.append_nil]
      refine ⟨h1, by omega, fun x => ?_⟩
      rw [h3 x]
      have hk' : ¬(m = 0 ∨ d[m]! ≠ d[m - 1]!) := by simpa [Lib.keeps] using hk
      have hk1 : m ≠ 0 := fun h => hk' (.inl h)
      have hk2 : d[m]! = d[m - 1]! := Classical.byContradiction fun h => hk' (.inr h)
      constructor
      · rintro ⟨j, hj, hx⟩
        exact ⟨j, by omega, hx⟩
      · rintro ⟨j, hj, hx⟩
        by_cases hjm : j = m
        · subst hjm
          exact ⟨j - 1, by omega, by rw [← hk2]; exact hx⟩
        · exact ⟨j, by omega, hx⟩
/-- sorted pairs, compacted: strictly ascending, with the members of before -/
theorem sorted_compactP {xs : List (Int × Int)} (hs : xs.Pairwise fun x y => cmpP x y ≤ 0) : (Lib.compact xs).Pairwise (fun x y => cmpP x y < 0) ∧ (∀ x, x ∈ Lib.compact xs ↔ x ∈ xs) ∧ (Lib.compact xs).length ≤ xs.length := by
  have hm : ∀ i j, i ≤ j → j < xs.toArray.size → cmpP xs.toArray[i]! xs.toArray[j]! ≤ 0 := by
    intro i j hij hj
    have hj' : j < xs.length := by simpa using hj
    by_cases e : i = j
    · subst e; rw [cmp_cmpP.self]; exact Int.le_refl _
    · have := List.pairwise_iff_getElem.1 hs i j (by omega) hj' (by omega)
      rw [getElem!_pos xs.toArray i (by simp; omega), getElem!_pos xs.toArray j hj]
      simpa using this
  obtain ⟨h1, h2, h3⟩ := compact_spec cmp_cmpP (fun _ _ => cmpP_eq0) xs.toArray hm xs.length (by simp)
  refine ⟨h1, fun x => (h3 x).trans ?_, h2⟩
  constructor
  · rintro ⟨j, hj, rfl⟩
    rw [getElem!_pos xs.toArray j (by simpa using hj)]
    simp
  · intro hx
    obtain ⟨j, hj, rfl⟩ := List.getElem_of_mem hx
    exact ⟨j, hj, by rw [getElem!_pos xs.toArray j (by simpa using hj)]; simp⟩

set_option maxRecDepth 100000 in
set_option maxHeartbeats 1000000 in
theorem compactP_nil (w : World) : Calls Tryz.prog 68 #[.slice none 0 0] w fun e w' => e = .returned (.slice none 0 0) ∧ w = w' := by
  go_enter Tryz.func68, Tryz.ntmps68
  go_wp2
  go_ret
  exact ⟨rfl, rfl⟩

theorem own_compactP {w : World} {base n cap : Nat} {A : Option Addr} {xs : List (Int × Int)} (h : w.ownsRow base 76 2 (.slice A n cap) n (xs.flatMap encP)) (hn : xs.length ≤ 1000000) :
    Calls Tryz.prog 68 #[.slice A n cap] w fun e w' => e = .returned (.slice A (Lib.compact xs).length cap) ∧ w'.ownsRow base 76 2 (.slice A (Lib.compact xs).length cap) (Lib.compact xs).length ((Lib.compact xs).flatMap encP) ∧ w.grownBy w' (Value.ownBlock (.slice A n cap)) := by
  have hk2 : ∀ p : Int × Int, (encP p).length = 2 := fun _ => rfl
  have hlen : n = xs.length := by have := h.1; rw [flat_length hk2] at this; omega
  subst hlen
  rcases h.2 with ⟨h0, h1⟩ | ⟨g, c, cur, hv, hg, hh, h1, h2, h3, h4⟩
  · injection h0 with e1 e2 e3
    subst e1 e3
    have hx : xs = [] := List.eq_nil_of_length_eq_zero e2
    subst hx
    refine (compactP_nil w).mono ?_
    rintro e w' ⟨rfl, rfl⟩
    exact ⟨rfl, by simpa [Lib.compact, Lib.compactUpTo] using h, World.grownBy.refl _ _⟩
  · injection hv with e1 e2 e3
    subst e1 e3
    have hP : PairsAt w g cap xs.toArray := by
      refine ⟨cur, hh, h3, by simpa using h1, fun j hj => ?_⟩
      have hj' : j < xs.length := by simpa using hj
      have hx : xs[j]? = some xs.toArray[j]! := by rw [getElem!_pos xs.toArray j hj]; simp [hj']
      have k0 := flat_get hk2 xs j 0 (by omega)
      have k1 := flat_get hk2 xs j 1 (by omega)
      rw [← h4, List.getElem?_take_of_lt (by omega), Array.getElem?_toList, hx, Option.bind_some] at k0 k1
      exact ⟨by simpa [encP] using k0, by simpa [encP] using k1⟩
    refine (compactP_any g cap xs.toArray w hP (by simpa using hn)).mono ?_
    rintro e w' ⟨rfl, dk, hd1, hd2, hPk, hgr⟩
    have hcs : Lib.compactUpTo xs.toArray xs.toArray.size = Lib.compact xs := by simp [Lib.compact]
    rw [hcs] at hd1 hd2 ⊢
    have hsz : (Lib.compact xs).length ≤ cap := by obtain ⟨_, _, _, h5, _⟩ := hPk; omega
    refine ⟨rfl, ⟨by rw [flat_length hk2], .inr ?_⟩, hgr⟩
    obtain ⟨cur', b1, b2, b3, b4⟩ := hPk
    refine ⟨g, cap, cur', rfl, hg, b1, hsz, h2, b2, ?_⟩
    refine List.ext_getElem? fun t => ?_
    by_cases ht : t < (Lib.compact xs).length * 2
    · rw [List.getElem?_take_of_lt ht, Array.getElem?_toList]
      have hj : t / 2 < (Lib.compact xs).length := by omega
      have hx := hd2 (t / 2) hj
      obtain ⟨c0, c1⟩ := b4 (t / 2) (by omega)
      have k0 := flat_get hk2 (Lib.compact xs) (t / 2) 0 (by omega)
      have k1 := flat_get hk2 (Lib.compact xs) (t / 2) 1 (by omega)
      rw [hx, Option.bind_some] at k0 k1
      have : t % 2 = 0 ∨ t % 2 = 1 := by omega
      rcases this with e | e
      · have e' : t = t / 2 * 2 := by omega
        rw [e', c0]
        rw [Nat.add_zero] at k0
        rw [k0]
        rfl
      · have e' : t = t / 2 * 2 + 1 := by omega
        rw [e', c1, k1]
        rfl
    · rw [List.getElem?_take_eq_none (by omega), List.getElem?_eq_none (by rw [flat_length hk2]; omega)]

set_option maxRecDepth 100000 in
set_option maxHeartbeats 1000000 in
theorem twins1_any (p q : Int × Int) (w : World) :
    Calls Tryz.prog 66 #[.agg #[.int .i64 p.1, .int .i64 p.2], .agg #[.int .i64 q.1, .int .i64 q.2]] w fun e w' => e = .returned (.int .i64 (cmpP p q)) ∧ Grew w w' := by
  obtain ⟨a, b⟩ := p
  obtain ⟨c, d⟩ := q
  dsimp only
  go_enter Tryz.func66, Tryz.ntmps66
  go_upto_region 1 with fail
  obtain ⟨W, hW, hWd, hg, hf, hf', hsz⟩ : ∃ W, (w.alloc (.cells #[.int .i64 a, .int .i64 b] 76)).alloc (.cells #[.int .i64 c, .int .i64 d] 76) = W ∧ w.drawn = W.drawn ∧ Grow w W ∧ BlockIs W w.heap.size 76 #[.int .i64 a, .int .i64 b] ∧ BlockIs W (w.heap.size + 1) 76 #[.int .i64 c, .int .i64 d] ∧ w.heap.size + 1 < W.heap.size := by
    obtain ⟨W, h1, h2⟩ := two_blocks w 76 76 #[.int .i64 a, .int .i64 b] #[.int .i64 c, .int .i64 d]
    exact ⟨W, h1, by rw [← h1]; rfl, h2⟩
  rw [hW]
  clear hW
  have HC := Lib.hid (fun w1 (h : Grow W w1) => slicesCompare_any (some ⟨w.heap.size, 0, none⟩) (some ⟨w.heap.size + 1, 0, none⟩) 2 2 w1.heap.size w1.heap.size [a, b] [c, d] w1 (ints_block (h.block hf)) (ints_block (h.block hf')) (by simp) (by simp))
  refine wp_region_lit 3 [[], [], [(0, 5), (1, 6)]] Grew (fun i v _ => match i with
      | 0 => v = .slice (some ⟨w.heap.size, 0, none⟩) 2 2 | 1 => v = .slice (some ⟨w.heap.size + 1, 0, none⟩) 2 2 | 2 => v = .int .i64 (cmpL [a, b] [c, d])
      | _ => False) (by kernel_rfl) (by kernel_rfl) (fun _ _ _ => Grew.trans) Grew.refl (fun _ _ _ _ h _ => h) ?_ ?_
  · simp only [StepsLit, List.take_succ_cons, List.take_zero]
    refine ⟨?_, ?_, ?_, trivial⟩
    all_goals
      intro w1 hR
      have hG := hR.1.of_drew
      have HG := Lib.hid hG
      have hfc := (hG.block hf).cell
      have hgc := (hG.block hf').cell
      clear hG
      simp only [depV, Region.wanted, cond_true]
      repeat (rintro _ rfl)
      go_simp
    all_goals first
      | exact Grew.refl _
      | (refine (HC.out _ HG.out).mono ?_; rintro e w' ⟨rfl, rfl⟩; go_simp; exact Grew.refl _)
  · intro w2 hR2
    have hd2 : w.drawn ≤ w2.drawn := by rw [hWd]; exact hR2.of_drew.2
    have HG : Hid (Grew w w2) := ⟨hg.trans hR2.1.of_drew, hd2⟩
    clear hf hf' hg hR2 hWd hd2
    simp only [finVC, List.take_succ_cons, List.take_zero, List.drop_succ_cons, List.drop_zero]
    repeat (rintro _ rfl)
    simp only [Act.put, List.setIfInBounds_toArray, List.set_cons_succ, List.set_cons_zero]
    go_wp2
    go_ret
    exact ⟨rfl, HG.out⟩

end Go.Proofs.YtfpmkolaiomabaaGreat

namespace Go.Proofs.YtfpmkolaiomabaaGreat
open Go.RowKit
open Go.ChangeMaps (setBlock)

theorem Tryz.infoPair : (Tryz.prog.info? 76).map (fun i => (i.zero, i.size, i.bytes)) = some (some (.agg #[.int .i64 0, .int .i64 0]), 2, 16) := by kernel_rfl
theorem own_sortP {w : World} {base n cap : Nat} {A : Option Addr} {xs : List (Int × Int)} (h : w.ownsRow base 76 2 (.slice A n cap) n (xs.flatMap encP)) (hx : xs.length ≤ 1000000) :
    Calls Tryz.prog 65 #[.slice A n cap, .func (.func 66) #[] #[]] w fun r w' => r = .returned (.tuple #[]) ∧ ∃ ys : List (Int × Int), ys.Perm xs ∧ ys.Pairwise (fun x y => cmpP x y ≤ 0) ∧
      w'.ownsRow base 76 2 (.slice A n cap) n (ys.flatMap encP) ∧ w.grownBy w' (Value.ownBlock (.slice A n cap)) :=
  own_sortK (enc := encP) (k := 2) (ρ := _) Tryz.sortPair Tryz.isAgg76 Tryz.sizeOf76 (fun _ => rfl) (by omega) (fun p v hv => by simp only [encP, List.mem_cons, List.not_mem_nil, or_false] at hv; rcases hv with rfl | rfl <;> rfl)
    cmpP cmp_cmpP 66 (enters_of Tryz.func66 (by kernel_rfl) rfl) h hx (fun g _ _ m os dk _ x y => (twins1_any x y _).mono fun _ _ ⟨he, hg⟩ => ⟨he, hg.form⟩)

/-- a pair of twins that x and y make -/
def twinOf (x y : EntryD) : Bool := decide (x.sign < y.sign) && shownD x y
/-- r are the twins among the entries l, in order -/
def TwinsD (l : List EntryD) (r : List (Int × Int)) : Prop := r.Pairwise (fun p q => cmpP p q < 0) ∧ ∀ p, p ∈ r ↔ ∃ x ∈ l, ∃ y ∈ l, twinOf (canonE x) (canonE y) = true ∧ (x.sign, y.sign) = p
theorem TwinsD.unique {l : List EntryD} {a b : List (Int × Int)} (ha : TwinsD l a) (hb : TwinsD l b) : a = b := sorted_unique cmp_cmpP ha.1 hb.1 fun p => (ha.2 p).trans (hb.2 p).symm
theorem TwinsD.of_book {l bk : List EntryD} {r : List (Int × Int)} (hb : IsBookOf l bk) (h1 : r.Pairwise (fun p q => cmpP p q < 0)) (h2 : ∀ p, p ∈ r ↔ ∃ x ∈ bk, ∃ y ∈ bk, twinOf x y = true ∧ (x.sign, y.sign) = p) : TwinsD l r := by
  refine ⟨h1, fun p => (h2 p).trans ?_⟩
  constructor
  · rintro ⟨x, hx, y, hy, ht, rfl⟩
    obtain ⟨x', hx', rfl⟩ := (hb.mem x).1 hx
    obtain ⟨y', hy', rfl⟩ := (hb.mem y).1 hy
    exact ⟨x', hx', y', hy', ht, rfl⟩
  · rintro ⟨x, hx, y, hy, ht, rfl⟩
    exact ⟨canonE x, (hb.mem _).2 ⟨x, hx, rfl⟩, canonE y, (hb.mem _).2 ⟨y, hy, rfl⟩, ht, rfl⟩

/-- the outer loop: the pairs of the entries that were handed out -/
def Outer (bk : List EntryR) (seen : Array Nat) (ps : List (Int × Int)) : Prop :=
  ps.length + (leftOf (entsM bk) seen).size * bk.length ≤ bk.length * bk.length ∧ ∀ p, p ∈ ps ↔ ∃ k x, k ∈ seen ∧ bk[k]? = some x ∧ ∃ y ∈ bk, twinOf x.d y.d = true ∧ (x.d.sign, y.d.sign) = p
/-- the inner loop, of the entry x: seen1 and ps0 are the outer loop's at its start -/
def Inner (bk : List EntryR) (rest : Nat) (x : EntryR) (ps0 : List (Int × Int)) (seen : Array Nat) (ps : List (Int × Int)) : Prop :=
  ps.length + (leftOf (entsM bk) seen).size + rest * bk.length ≤ bk.length * bk.length ∧ ∀ p, p ∈ ps ↔ p ∈ ps0 ∨ ∃ k y, k ∈ seen ∧ bk[k]? = some y ∧ twinOf x.d y.d = true ∧ (x.d.sign, y.d.sign) = p
theorem left_all (bk : List EntryR) : (leftOf (entsM bk) #[]).size ≤ bk.length := by
  have : (leftOf (entsM bk) #[]).size ≤ (entsM bk).size := by unfold leftOf; exact Array.size_filter_le
  simpa [entsM] using this
theorem Outer.start (bk : List EntryR) : Outer bk #[] [] := by
  refine ⟨?_, fun p => by simp⟩
  have := Nat.mul_le_mul_right bk.length (left_all bk)
  simpa using this
theorem Outer.inner {bk : List EntryR} {seen : Array Nat} {ps : List (Int × Int)} (h : Outer bk seen ps) {k : Nat} {x : EntryR} (hx : bk[k]? = some x) (hk : k ∉ seen) : Inner bk (leftOf (entsM bk) (seen.push k)).size x ps #[] ps := by
  refine ⟨?_, fun p => by simp⟩
  have h1 := h.1
  have h2 := left_book hx hk
  have h3 := left_all bk
  have h4 := Nat.mul_le_mul_right bk.length (show (leftOf (entsM bk) (seen.push k)).size + 1 ≤ (leftOf (entsM bk) seen).size by omega)
  rw [Nat.add_mul, Nat.one_mul] at h4
  omega
theorem Inner.take {bk : List EntryR} {rest : Nat} {x y : EntryR} {ps0 ps : List (Int × Int)} {seen : Array Nat} (h : Inner bk rest x ps0 seen ps) {k : Nat} (hy : bk[k]? = some y) (hk : k ∉ seen) (ht : twinOf x.d y.d = true) : Inner bk rest x ps0 (seen.push k) (ps ++ [(x.d.sign, y.d.sign)]) := by
  refine ⟨?_, fun p => ?_⟩
  · have := left_book hy hk
    have := h.1
    simp
    omega
  · rw [List.mem_append, h.2 p]
    constructor
    · rintro ((h0 | ⟨j, z, hj, hz⟩) | hp)
      · exact .inl h0
      · exact .inr ⟨j, z, by simp [hj], hz⟩
      · exact .inr ⟨k, y, by simp, hy, ht, (List.mem_singleton.1 hp).symm⟩
    · rintro (h0 | ⟨j, z, hj, hz, h1, h2⟩)
      · exact .inl (.inl h0)
      · rcases Array.mem_push.1 hj with hj | rfl
        · exact .inl (.inr ⟨j, z, hj, hz, h1, h2⟩)
        · rw [hy] at hz
          obtain rfl := Option.some.inj hz
          exact .inr (by simp [h2])
theorem Inner.skip {bk : List EntryR} {rest : Nat} {x y : EntryR} {ps0 ps : List (Int × Int)} {seen : Array Nat} (h : Inner bk rest x ps0 seen ps) {k : Nat} (hy : bk[k]? = some y) (hk : k ∉ seen) (ht : ¬twinOf x.d y.d = true) : Inner bk rest x ps0 (seen.push k) ps := by
  refine ⟨?_, fun p => ?_⟩
  · have := left_book hy hk
    have := h.1
    omega
  · rw [h.2 p]
    constructor
    · rintro (h0 | ⟨j, z, hj, hz⟩)
      · exact .inl h0
      · exact .inr ⟨j, z, by simp [hj], hz⟩
    · rintro (h0 | ⟨j, z, hj, hz, h1, h2⟩)
      · exact .inl h0
      · rcases Array.mem_push.1 hj with hj | rfl
        · exact .inr ⟨j, z, hj, hz, h1, h2⟩
        · rw [hy] at hz
          obtain rfl := Option.some.inj hz
          exact absurd h1 ht
theorem Inner.outer {bk : List EntryR} {seen seen2 : Array Nat} {ps0 ps : List (Int × Int)} {k : Nat} {x : EntryR} (h0 : Outer bk seen ps0) (h : Inner bk (leftOf (entsM bk) (seen.push k)).size x ps0 seen2 ps) (hx : bk[k]? = some x) (hall : ∀ j y, bk[j]? = some y → j ∈ seen2) : Outer bk (seen.push k) ps := by
  refine ⟨by have := h.1; omega, fun p => ?_⟩
  rw [h.2 p, h0.2 p]
  constructor
  · rintro (⟨j, z, hj, hz⟩ | ⟨j, y, hj, hy, ht, hp⟩)
    · exact ⟨j, z, by simp [hj], hz⟩
    · exact ⟨k, x, by simp, hx, y, List.mem_of_getElem? hy, ht, hp⟩
  · rintro ⟨j, z, hj, hz, y, hy, ht, hp⟩
    rcases Array.mem_push.1 hj with hj | rfl
    · exact .inl ⟨j, z, hj, hz, y, hy, ht, hp⟩
    · rw [hx] at hz
      obtain rfl := Option.some.inj hz
      obtain ⟨i, hi⟩ := List.getElem?_of_mem hy
      exact .inr ⟨i, y, hall i y hi, hi, ht, hp⟩
theorem Outer.done {bk : List EntryR} {seen : Array Nat} {ps : List (Int × Int)} (h : Outer bk seen ps) (hall : ∀ j y, bk[j]? = some y → j ∈ seen) (p : Int × Int) : p ∈ ps ↔ ∃ x ∈ bk.map (·.d), ∃ y ∈ bk.map (·.d), twinOf x y = true ∧ (x.sign, y.sign) = p := by
  rw [h.2 p]
  constructor
  · rintro ⟨k, x, _, hx, y, hy, ht, hp⟩
    exact ⟨x.d, List.mem_map.2 ⟨x, List.mem_of_getElem? hx, rfl⟩, y.d, List.mem_map.2 ⟨y, hy, rfl⟩, ht, hp⟩
  · rintro ⟨_, hx, _, hy, ht, hp⟩
    obtain ⟨x, hx1, rfl⟩ := List.mem_map.1 hx
    obtain ⟨y, hy1, rfl⟩ := List.mem_map.1 hy
    obtain ⟨k, hk⟩ := List.getElem?_of_mem hx1
    exact ⟨k, x, hall k x hk, hk, y, hy1, ht, hp⟩

/-- what Twins leaves -/
def TwinsPost (l : List EntryD) (w : World) (e : Ending) (w' : World) : Prop :=
  Below w.heap.size w w' ∧ ∃ A cap r, e = .returned (.tuple #[.slice A (List.length r) cap, .int .i64 (bookErr l)]) ∧ w'.ownsRow w.heap.size 76 2 (.slice A (List.length r) cap) (List.length r) (List.flatMap encP r) ∧ (bookErr l ≠ 0 → r = []) ∧ (bookErr l = 0 → TwinsD l r)

end Go.Proofs.YtfpmkolaiomabaaGreat

namespace Go.Proofs.YtfpmkolaiomabaaGreat
open Go.RowKit
open Go.ChangeMaps (setBlock)

theorem own_not_iter {w : World} {base e size n r m k : Nat} {seen : Array Nat} {v : Value} {xs : List Value} (h : w.ownsRow base e size v n xs) (hit : IterAt w r m k seen) : v.ownBlock ≠ some r := by
  rcases h.2 with ⟨rfl, _⟩ | ⟨g, cap, cur, rfl, _, hh, _⟩
  · simp [Value.ownBlock]
  · intro e
    have : g = r := by simpa [Value.ownBlock] using e
    subst this
    unfold IterAt at hit
    rw [hh] at hit
    cases hit
theorem own_not_block {w : World} {base e size n b : Nat} {t : TypeId} {cs : Array Value} {v : Value} {xs : List Value} (h : w.ownsRow base e size v n xs) (hb : BlockIs w b t cs) (hte : t ≠ e) : v.ownBlock ≠ some b := by
  rcases h.2 with ⟨rfl, _⟩ | ⟨g, cap, cur, rfl, _, hh, _⟩
  · simp [Value.ownBlock]
  · intro e'
    have : g = b := by simpa [Value.ownBlock] using e'
    subst this
    unfold BlockIs at hb
    rw [hh] at hb
    injection hb with hb
    injection hb with _ h2 _
    exact hte h2.symm
theorem flatP_snoc (ps : List (Int × Int)) (p : Int × Int) : (ps ++ [p]).flatMap encP = ps.flatMap encP ++ encP p := by simp
theorem news_pair {w : World} (p : Int × Int) (t : TypeId) : ∀ j u, (encP p)[j]? = some u → (w.alloc (.cells #[.int .i64 p.1, .int .i64 p.2] t)).cell? ((⟨w.heap.size, 0, none⟩ : Addr).add j) = some u := fun j u hu => by
  have h1 := (BlockIs.new w t #[.int .i64 p.1, .int .i64 p.2]).cell j
  rw [show (⟨w.heap.size, 0, none⟩ : Addr).add j = ⟨w.heap.size, j, none⟩ by (simp [Addr.add]; omega), h1]
  rw [← hu]
  exact (Array.getElem?_toList (xs := #[Value.int .i64 p.1, Value.int .i64 p.2])).symm

set_option maxRecDepth 100000 in
set_option maxHeartbeats 8000000 in
theorem Twins_any (A : Option Addr) (cap B : Nat) (l : List EntryR) (w : World) (hA : Ents w B A l) (hl : l.length ≤ 1000000) (hB : B ≤ w.heap.size) :
    Calls Tryz.prog 27 #[.slice A l.length cap] w (TwinsPost (l.map (·.d)) w) := by
  obtain ⟨i0, hi, hz0, hz1, hz2⟩ := info_parts Tryz.infoPair
  have HR := Lib.hid (read_any A cap B l w hA hl hB)
  clear hA
  go_enter Tryz.func27, Tryz.ntmps27
  go_wp2_with fail
  refine HR.out.mono ?_
  rintro e w1 ⟨hb1, hcase⟩
  have HG1 : Hid (Grow w w1) := hb1
  clear hb1
  rcases hcase with ⟨hne, rfl⟩ | ⟨heq, m, bk, rfl, hm, hbk, hmv, hfar, hrd⟩
  · have HNE : Hid (bookErr (l.map (·.d)) ≠ 0) := hne
    generalize hbe : bookErr (l.map (·.d)) = be at hne
    have HBE := Lib.hid hbe
    clear hbe
    go_wp2
    go_ret2
    exact ⟨HG1.out, none, 0, [], by rw [HBE.out]; rfl, World.ownsRow_nil _ _ _ _, fun _ => rfl, fun h => absurd h HNE.out⟩
  · have hbo := readD_book hrd
    have hlen : bk.length ≤ 1000 := by have := hbo.length; have := (bookErr_ok heq).1; simp at this; simp at *; omega
    have HE := Lib.hid heq
    have HBO := Lib.hid hbo
    have HBK := Lib.hid hbk
    have HMV := Lib.hid hmv
    have hrg := range_book hbk
    have hlen2 : bk.length * bk.length ≤ 1000000 := Nat.le_trans (Nat.mul_le_mul hlen hlen) (by omega)
    have HL2 := Lib.hid hlen2
    clear heq hm hbk hmv hfar hrd hbo hlen2
    go_wp2
    go_loopw [6] (fun v wr => ∃ (seen : Array Nat) (A' : Option Addr) (cap' : Nat) (ps : List (Int × Int)), v = .slice A' ps.length cap' ∧ IterAt wr w1.heap.size m bk.length seen ∧ Grow w1 wr ∧ w1.heap.size < wr.heap.size ∧
        wr.ownsRow (w1.heap.size + 1) 76 2 (.slice A' ps.length cap') ps.length (ps.flatMap encP) ∧ Outer bk seen ps) (fun _ wr => (leftOf (entsM bk) (wr.iterSeen w1.heap.size)).size)
    case atStart => exact ⟨#[], none, 0, [], rfl, IterAt.new w1 m bk.length, Grow.alloc _ _, by simp, World.ownsRow_nil _ _ _ _, Outer.start bk⟩
    case round =>
      obtain ⟨seen, A', cap', ps, rfl, hit, hgw, hlt, hown, hou⟩ := hrel
      have hbkr := HBK.out.grow hgw
      clear hrg
      rcases next_book 0 hit hbkr with ⟨hall, hn⟩ | ⟨k, x, hx, hk, w2', hw, hn⟩
      · have hnx : ∀ ty, (Instr.next (.pointer (some ⟨w1.heap.size, 0, none⟩)) false ty).run Tryz.prog wr = _ := fun _ => hn
        have hpl : ps.length ≤ 1000000 := by have := hou.1; have := HL2.out; omega
        have HS := Lib.hid (own_sortP hown hpl)
        have HGW := Lib.hid hgw
        have HOU := Lib.hid (hou.done hall)
        have hge : ∀ q, Value.ownBlock (.slice A' ps.length cap') = some q → w1.heap.size + 1 ≤ q := fun q hq => own_ge hown q hq
        clear hown hbkr hit hou hn hgw
        go_wp2_with fail
        refine HS.out.mono ?_
        rintro e w4 ⟨rfl, ys, hp, hs, hown4, hgr4⟩
        have hb4 : Below w1.heap.size w1 w4 := (show Below w1.heap.size w1 wr from HGW.out).grown hgr4 (by omega) (fun q hq => by have := hge q hq; omega)
        have hyl : ys.length ≤ 1000000 := by rw [hp.length_eq]; exact hpl
        have HC := Lib.hid (own_compactP hown4 hyl)
        have HB4 := Lib.hid hb4
        have hz4 := hgr4.size
        obtain ⟨hc1, hc2, -⟩ := sorted_compactP hs
        have HCS : Hid ((Lib.compact ys).Pairwise (fun p q => cmpP p q < 0) ∧ ∀ p, p ∈ Lib.compact ys ↔ p ∈ ps) := ⟨hc1, fun p => (hc2 p).trans hp.mem_iff⟩
        clear hown4 hgr4 hb4 HS hp hs hc1 hc2
        go_wp2_with fail
        refine HC.out.mono ?_
        rintro e w5 ⟨rfl, hown5, hgr5⟩
        have hb5 : Below w1.heap.size w1 w5 := HB4.out.grown hgr5 (by omega) (fun q hq => by have := hge q hq; omega)
        have HO5 := Lib.hid hown5
        have HB5 := Lib.hid hb5
        clear hown5 hgr5 hb5 HC
        go_wp2
        go_ret2
        refine ⟨HG1.out.trans HB5.out, A', cap', Lib.compact ys, by rw [HE.out]; rfl, ?_, fun h => absurd HE.out h, fun _ => TwinsD.of_book HBO.out HCS.out.1 fun p => (HCS.out.2 p).trans (HOU.out p)⟩
        have ho := HO5.out
        have hz := HG1.out.size
        refine ⟨ho.1, ?_⟩
        rcases ho.2 with h0 | ⟨g, c, cur, hv, hg, rest⟩
        · exact .inl h0
        · exact .inr ⟨g, c, cur, hv, by omega, rest⟩
      · obtain ⟨wo, rfl⟩ : ∃ wo : World, wo = wr := ⟨_, rfl⟩
        obtain ⟨hit2, hb2, hz2', hoth⟩ := step_book hit hw
        have hgr2 := step_grown (r := w1.heap.size) (o := .mapIter (some m) bk.length (seen.push k) bk.length) hw
        generalize setBlock w2' w1.heap.size (.mapIter (some m) bk.length (seen.push k) bk.length) = w2 at hn hit2 hb2 hz2' hoth hgr2
        have hnx : ∀ ty, (Instr.next (.pointer (some ⟨w1.heap.size, 0, none⟩)) false ty).run Tryz.prog wo = _ := fun _ => hn
        have hmr : m ≠ w1.heap.size := by have := HBK.out.lt; omega
        have hbk2 : BookAt w2 m bk := (hoth m hmr).trans hbkr
        have hen := entry_book hit2 hbk2 hx
        have hown2 := hown.kept hgr2 (.inr (own_not_iter hown hit))
        have HI0 := Lib.hid hit
        have HOU := Lib.hid hou
        have hgw2 : Grow w1 w2 := Below.trans hgw hb2
        clear hn hoth hw hown hit hbkr hgr2 hb2 hou hgw
        go_upto_region 8 with fail
        obtain ⟨W3, hW3, hg3, hf3, hsz3⟩ := one_block w2 62 (cellsE x)
        rw [hz2'] at hf3 hsz3
        rw [hW3]
        clear hW3
        have hgw3 : Grow w1 W3 := hgw2.trans hg3
        have hit3 := hit2.grow hg3
        have hown3 := own_grow hown2 hg3
        have hrg3 := range_book (HBK.out.grow hgw3)
        have hxin := List.mem_of_getElem? hx
        have HX := Lib.hid hx
        have HK := Lib.hid hk
        have HIN := Lib.hid (HOU.out.inner hx hk)
        have hmeas := left_book hx hk
        have hrw : w1.heap.size < wo.heap.size := hlt
        clear hen hnx hbk2 hit2 hown2 hgw2 hz2' hg3 hx hk
        go_wp2
        go_loopw [6] (fun v wr => ∃ (seen2 : Array Nat) (A2 : Option Addr) (cap2 : Nat) (ps2 : List (Int × Int)), v = .slice A2 ps2.length cap2 ∧ IterAt wr w1.heap.size m bk.length (seen.push k) ∧ IterAt wr W3.heap.size m bk.length seen2 ∧ BlockIs wr wo.heap.size 62 (cellsE x) ∧ Grow w1 wr ∧ W3.heap.size < wr.heap.size ∧
            wr.ownsRow (w1.heap.size + 1) 76 2 (.slice A2 ps2.length cap2) ps2.length (ps2.flatMap encP) ∧ Inner bk (leftOf (entsM bk) (seen.push k)).size x ps seen2 ps2) (fun _ wr => (leftOf (entsM bk) (wr.iterSeen W3.heap.size)).size)
        case atStart => exact ⟨#[], A', cap', ps, rfl, hit3.grow (Grow.alloc _ _), IterAt.new W3 m bk.length, hf3.old _, hgw3.trans (Grow.alloc _ _), by simp, own_grow hown3 (Grow.alloc _ _), HIN.out⟩
        case round =>
          obtain ⟨seen2, A2, cap2, ps2, rfl, hitA, hitB, hbx, hgi, hlt2, hownI, hin⟩ := hrel
          have hbki := HBK.out.grow hgi
          clear hrg3 hit3 hown3 hf3
          rcases next_book 0 hitB hbki with ⟨hall, hn⟩ | ⟨j, y, hy, hj, w5', hw5, hn⟩
          · have hnx : ∀ ty, (Instr.next (.pointer (some ⟨W3.heap.size, 0, none⟩)) false ty).run Tryz.prog wr = _ := fun _ => hn
            have HOUT := Lib.hid (Inner.outer HOU.out hin HX.out hall)
            have HIA := Lib.hid hitA
            have HGI := Lib.hid hgi
            have HOW := Lib.hid hownI
            have hsz5 : w1.heap.size < wr.heap.size := hitA.lt
            clear hn hitB hbki hin hitA hgi hownI hbx
            go_wp2
            go_roundw
            case rel => exact ⟨seen.push k, A2, cap2, ps2, rfl, HIA.out, HGI.out, hsz5, HOW.out, HOUT.out⟩
            case measure => rw [HIA.out.seen, HI0.out.seen]; exact hmeas
          · have hR12 : w1.heap.size ≠ W3.heap.size := by omega
            have hbR : wo.heap.size ≠ W3.heap.size := by omega
            obtain ⟨hitB2, hb5, hz5, hoth5⟩ := step_book hitB hw5
            have hgr5 := step_grown (r := W3.heap.size) (o := .mapIter (some m) bk.length (seen2.push j) bk.length) hw5
            generalize setBlock w5' W3.heap.size (.mapIter (some m) bk.length (seen2.push j) bk.length) = w5 at hn hitB2 hb5 hz5 hoth5 hgr5
            have hnx : ∀ ty, (Instr.next (.pointer (some ⟨W3.heap.size, 0, none⟩)) false ty).run Tryz.prog wr = _ := fun _ => hn
            have hmr2 : m ≠ W3.heap.size := by have := HBK.out.lt; have := hgw3.size; omega
            have hbk5 : BookAt w5 m bk := (hoth5 m hmr2).trans hbki
            have hen := entry_book hitB2 hbk5 hy
            have hown5 := hownI.kept hgr5 (.inr (own_not_iter hownI hitB))
            have hitA5 : IterAt w5 w1.heap.size m bk.length (seen.push k) := (hoth5 w1.heap.size hR12).trans hitA
            have hbx5 : BlockIs w5 wo.heap.size 62 (cellsE x) := (hoth5 wo.heap.size hbR).trans hbx
            have hgi5 : Grow w1 w5 := Below.trans hgi (hb5.mono (by have := hgw3.size; omega))
            have HIB0 := Lib.hid hitB
            have HINN := Lib.hid hin
            clear hn hoth5 hw5 hownI hitB hbki hgr5 hb5 hin hgi hitA hbx
            go_upto_region 11 with fail
            obtain ⟨W6, hW6, hg6, hf6, hsz6⟩ := one_block w5 62 (cellsE y)
            rw [hz5] at hf6 hsz6
            rw [hW6]
            clear hW6
            have hgw6 : Grow w1 W6 := hgi5.trans hg6
            have hitA6 := hitA5.grow hg6
            have hitB6 := hitB2.grow hg6
            have hown6 := own_grow hown5 hg6
            have hbx6 := hg6.block hbx5
            have hyin := List.mem_of_getElem? hy
            have hmv6 := HMV.out.grow hgw6
            have HSH := Lib.hid (sameShown_any x y W6 (hmv6 x hxin).1 (hmv6 y hyin).1 (hmv6 x hxin).2 (hmv6 y hyin).2)
            have hmeas2 := left_book hy hj
            have HY := Lib.hid hy
            have HJ := Lib.hid hj
            have hcx := hbx6.cell
            have hcy := hf6.cell
            have HIA6 := Lib.hid hitA6
            have HIB6 := Lib.hid hitB6
            have HOW6 := Lib.hid hown6
            have HBX6 := Lib.hid hbx6
            have HFY6 := Lib.hid hf6
            have HGW6 := Lib.hid hgw6
            have hlt6 : W3.heap.size < W6.heap.size := hitB6.lt
            clear hen hnx hbk5 hitB2 hown5 hitA5 hbx5 hgi5 hz5 hg6 hitA6 hitB6 hown6 hbx6 hf6 hgw6 hmv6 hy hj hyin
            by_cases hsg : x.d.sign < y.d.sign
            · have HSG := Lib.hid hsg
              have hsg2 : decide (x.d.sign < y.d.sign) = true := by simpa using hsg
              go_wp2_with fail
              refine HSH.out.mono ?_
              rintro e w7 ⟨rfl, hb7⟩
              have hg7 : Grow W6 w7 := hb7
              have hcx7 := (hg7.block HBX6.out).cell
              have hcy7 := (hg7.block HFY6.out).cell
              have HIA7 := Lib.hid (HIA6.out.grow hg7)
              have HIB7 := Lib.hid (HIB6.out.grow hg7)
              have hown7 := own_grow HOW6.out hg7
              have HBX7 := Lib.hid (hg7.block HBX6.out)
              have HGW7 := Lib.hid (HGW6.out.trans hg7)
              have hlt7 : W3.heap.size < w7.heap.size := (HIB6.out.grow hg7).lt
              clear hg7 hb7 hcx hcy
              cases hshn : shownD x.d y.d with
              | false =>
                have HT : Hid (¬twinOf x.d y.d = true) := by refine Lib.hid ?_; simp [twinOf, hshn]
                have HO7 := Lib.hid hown7
                clear hshn hown7
                go_wp2
                go_roundw
                case rel => exact ⟨seen2.push j, A2, cap2, ps2, rfl, HIA7.out, HIB7.out, HBX7.out, HGW7.out, hlt7, HO7.out, HINN.out.skip HY.out HJ.out HT.out⟩
                case measure => rw [HIB7.out.seen, HIB0.out.seen]; exact hmeas2
              | true =>
                have HT : Hid (twinOf x.d y.d = true) := by refine Lib.hid ?_; simp [twinOf, hshn, HSG.out]
                have hpl : ps2.length ≤ 1000000 := by have := HINN.out.1; have := HL2.out; omega
                have hge : w1.heap.size + 1 ≤ w7.heap.size := by have := HIA7.out.lt; omega
                clear hshn
                go_wp2_with (at_builtin; refine wpList_append_own _ rfl _ _ 39 rfl (w1.heap.size + 1) 76 i0 (.agg #[.int .i64 0, .int .i64 0]) 2 16 Tryz.underlying39 hi hz0 hz1 hz2 rfl (by decide) _ _ _ rfl (hown7.alloc _) ⟨w7.heap.size, 0, none⟩ 1 1 (encP (x.d.sign, y.d.sign)) rfl rfl ?c1 ?c2 ?c3 ?c4 ?c5 ?_)
                case c1 => exact news_pair (x.d.sign, y.d.sign) _
                case c2 => simp [encP, Value.oneCell']
                case c3 => unfold maxLen; omega
                case c4 => omega
                case c5 => simp; omega
                intro v' w8 hown8 hgrow _
                obtain ⟨A8, cap8, rfl⟩ := own_form hown8
                have hneA : some w1.heap.size ≠ Value.ownBlock (.slice A2 ps2.length cap2) := (own_not_iter hown7 HIA7.out).symm
                have hneB : some W3.heap.size ≠ Value.ownBlock (.slice A2 ps2.length cap2) := (own_not_iter hown7 HIB7.out).symm
                have hneX : some wo.heap.size ≠ Value.ownBlock (.slice A2 ps2.length cap2) := (own_not_block hown7 HBX7.out (by decide)).symm
                have HIA8 : Hid (IterAt w8 w1.heap.size m bk.length (seen.push k)) := (hgrow.block w1.heap.size (by simp; omega) hneA).trans (HIA7.out.grow (Grow.alloc _ _))
                have HIB8 : Hid (IterAt w8 W3.heap.size m bk.length (seen2.push j)) := (hgrow.block W3.heap.size (by simp; omega) hneB).trans (HIB7.out.grow (Grow.alloc _ _))
                have HBX8 : Hid (BlockIs w8 wo.heap.size 62 (cellsE x)) := (hgrow.block wo.heap.size (by have := HBX7.out.lt; simp; omega) hneX).trans (HBX7.out.old _)
                have HGW8 : Hid (Grow w1 w8) := Below.grown (HGW7.out.trans (Grow.alloc _ _)) hgrow (by simp; omega) (fun q hq => by have := own_ge hown7 q hq; omega)
                have HO8 : Hid (w8.ownsRow (w1.heap.size + 1) 76 2 (.slice A8 (ps2.length + 1) cap8) (ps2.length + 1) ((ps2 ++ [(x.d.sign, y.d.sign)]).flatMap encP)) := by
                  refine Lib.hid ?_
                  rw [flatP_snoc]
                  exact hown8
                have hlt8 : W3.heap.size < w8.heap.size := HIB8.out.lt
                clear hown8 hgrow hown7 hneA hneB hneX hcx7 hcy7
                go_wp2
                go_roundw
                case rel => exact ⟨seen2.push j, A8, cap8, ps2 ++ [(x.d.sign, y.d.sign)], by simp, HIA8.out, HIB8.out, HBX8.out, HGW8.out, hlt8, by simpa using HO8.out, HINN.out.take HY.out HJ.out HT.out⟩
                case measure => rw [HIB8.out.seen, HIB0.out.seen]; exact hmeas2
            · have HT : Hid (¬twinOf x.d y.d = true) := by refine Lib.hid ?_; simp [twinOf, hsg]
              have hsg2 : decide (x.d.sign < y.d.sign) = false := by simpa using hsg
              go_wp2
              go_roundw
              case rel => exact ⟨seen2.push j, A2, cap2, ps2, rfl, HIA6.out, HIB6.out, HBX6.out, HGW6.out, hlt6, HOW6.out, HINN.out.skip HY.out HJ.out HT.out⟩
              case measure => rw [HIB6.out.seen, HIB0.out.seen]; exact hmeas2

end Go.Proofs.YtfpmkolaiomabaaGreat

