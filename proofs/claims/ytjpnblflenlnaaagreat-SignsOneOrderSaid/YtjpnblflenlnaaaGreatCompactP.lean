/- slices.Compact at pairs, on a row of the call's own. -/
import Derived.Test.YtjpnblflenlnaaaGreatSortK
import Derived.Test.YtjpnblflenlnaaaGreatEqP
import Derived.Lib.SlicesCompact
import Derived.Lib.SliceRun
import Derived.Deep.LoopGhost
import Derived.WalkKit
import Derived.Deep.QuietTactic
import Derived.BigQuiet
namespace Go.Proofs.YtjpnblflenlnaaaGreat
open Go.RowKit Go.Sort Go.Lib

def encP (p : Int × Int) : List Value := [.int .i64 p.1, .int .i64 p.2]
/-- block g is a row of cap pairs, the first of them d -/
def PairsAt (w : World) (g cap : Nat) (d : Array (Int × Int)) : Prop :=
  ∃ cur, w.heap[g]? = some (.cells cur 76 (0, 0)) ∧ cur.size = cap * 2 ∧ d.size ≤ cap ∧ ∀ j, j < d.size → cur[j * 2]? = some (.int .i64 d[j]!.1) ∧ cur[j * 2 + 1]? = some (.int .i64 d[j]!.2)
theorem PairsAt.cells {w : World} {g cap : Nat} {d : Array (Int × Int)} (h : PairsAt w g cap d) {j : Nat} (hj : j < d.size) :
    w.cell? ⟨g, j * 2, none⟩ = some (.int .i64 d[j]!.1) ∧ w.cell? ⟨g, j * 2 + 1, none⟩ = some (.int .i64 d[j]!.2) ∧ w.frozen? ⟨g, j * 2, none⟩ = false ∧ w.frozen? ⟨g, j * 2 + 1, none⟩ = false := by
  obtain ⟨cur, h1, _, _, h3⟩ := h
  obtain ⟨h4, h5⟩ := h3 j hj
  refine ⟨?_, ?_, ?_, ?_⟩ <;> simp [World.cell?, World.frozen?, h1, h4, h5]
theorem PairsAt.drew {w : World} {g cap : Nat} {d : Array (Int × Int)} (h : PairsAt w g cap d) : PairsAt w.drew g cap d := h
theorem PairsAt.set {w : World} {g cap : Nat} {d : Array (Int × Int)} (h : PairsAt w g cap d) {k : Nat} (hk : k < d.size) (p : Int × Int) :
    PairsAt ((w.setCell ⟨g, k * 2, none⟩ (.int .i64 p.1)).setCell ⟨g, k * 2 + 1, none⟩ (.int .i64 p.2)) g cap (d.setIfInBounds k p) := by
  obtain ⟨cur, h1, h2, h3, h4⟩ := h
  have b1 : BlockIs w g 76 cur := h1
  refine ⟨_, (b1.near (k * 2) (.int .i64 p.1)).near (k * 2 + 1) (.int .i64 p.2), by simp [h2], by simpa using h3, fun j hj => ?_⟩
  have hj' : j < d.size := by simpa using hj
  obtain ⟨h5, h6⟩ := h4 j hj'
  by_cases e : j = k
  · subst e
    rw [getElem!_set_same d j p hj']
    constructor
    · rw [Array.getElem?_setIfInBounds_ne (by omega), Array.getElem?_setIfInBounds_self_of_lt (by omega)]
    · rw [Array.getElem?_setIfInBounds_self_of_lt (by simp; omega)]
  · rw [getElem!_set_other d k j p e]
    constructor
    · rw [Array.getElem?_setIfInBounds_ne (by omega), Array.getElem?_setIfInBounds_ne (by omega)]; exact h5
    · rw [Array.getElem?_setIfInBounds_ne (by omega), Array.getElem?_setIfInBounds_ne (by omega)]; exact h6

theorem grown_drew' {w a : World} {r : Option Nat} (h : w.grownBy a r) : w.grownBy a.drew r := ⟨h.os, h.tape, h.output, h.size, h.block⟩
theorem grown_set (w : World) (p : Addr) (v : Value) : w.grownBy (w.setCell p v) (some p.block) :=
  ⟨rfl, rfl, rfl, by simp [World.setCell], fun k _ hk => Below.heap_setCell _ _ _ k (fun e => hk (by rw [e]))⟩
theorem grown_sets (g : Nat) : ∀ (vs : List Value) (o : Nat) (w : World), w.grownBy (w.setCells g o vs) (some g)
  | [], _, w => World.grownBy.refl _ _
  | v :: r, o, w => (grown_set w ⟨g, o, none⟩ v).trans (grown_sets g r (o + 1) _)
theorem BlockIs.sets {t : TypeId} {g : Nat} : ∀ (vs : List Value) (o : Nat) (w : World) (cur : Array Value), BlockIs w g t cur → ∃ cur', BlockIs (w.setCells g o vs) g t cur' ∧ cur'.size = cur.size ∧ ∀ j, j < o → cur'[j]? = cur[j]?
  | [], _, _, cur, h => ⟨cur, h, rfl, fun _ _ => rfl⟩
  | v :: r, o, w, cur, h => by
    obtain ⟨cur', h1, h2, h3⟩ := BlockIs.sets r (o + 1) _ _ (h.near o v)
    refine ⟨cur', h1, by rw [h2]; simp, fun j hj => ?_⟩
    rw [h3 j (by omega), Array.getElem?_setIfInBounds_ne (by omega)]
theorem zeroP (w : World) : (zeroValue 76).run Tryz.prog w = .ok (.agg #[.int .i64 0, .int .i64 0]) w := by kernel_rfl
theorem run_clearP {w : World} {g cap kk m c : Nat} {dk : Array (Int × Int)} (ty : TypeId) (hP : PairsAt w g cap dk) (hm : 0 < m) (hk : kk + m = dk.size) :
    (Builtin.clear_ #[39] ty #[.slice (some ⟨g, kk * 2, none⟩) m c]).run Tryz.prog w = .ok (.tuple #[]) (w.setCells g (kk * 2) (List.replicate (m * 2) (.int .i64 0))) := by
  have hzc : (Builtin.zeroCells (Value.agg #[.int .i64 0, .int .i64 0]).cells m).toList = List.replicate (m * 2) (Value.int .i64 0) := by
    apply List.ext_getElem
    · simp [Builtin.zeroCells, Value.cells]
    · intro i h1 h2
      have : i % 2 = 0 ∨ i % 2 = 1 := by omega
      rcases this with h | h <;> simp [Builtin.zeroCells, Value.cells, h]
  have hcl : ∀ j, j < m * 2 → (w.cell? ⟨g, kk * 2 + j, none⟩).isSome = true ∧ w.frozen? ⟨g, kk * 2 + j, none⟩ = false := fun j hj => by
    obtain ⟨c0, c1, f0, f1⟩ := hP.cells (show kk + j / 2 < dk.size by omega)
    have : j % 2 = 0 ∨ j % 2 = 1 := by omega
    rcases this with h | h
    · rw [show kk * 2 + j = (kk + j / 2) * 2 by omega]; exact ⟨by rw [c0]; rfl, f0⟩
    · rw [show kk * 2 + j = (kk + j / 2) * 2 + 1 by omega]; exact ⟨by rw [c1]; rfl, f1⟩
  have hst := run_storeCells_cells (P := Tryz.prog) g (kk * 2) (List.replicate (m * 2) (.int .i64 0)) 0 w (fun j hj => by simpa using (hcl j (by simpa using hj)).1) (fun j hj => by simpa using (hcl j (by simpa using hj)).2) (by intro v hv'; rw [List.eq_of_mem_replicate hv']; rfl)
  simp only [Nat.add_zero] at hst
  obtain ⟨m', rfl⟩ : ∃ m', m = m' + 1 := ⟨m - 1, by omega⟩
  simp only [Builtin.clear_, Sem.run_bind, run_underlying Tryz.underlying39, Result.andThen_ok]
  simp [zeroP, hzc, hst]

set_option maxRecDepth 100000 in
set_option maxHeartbeats 4000000 in
theorem compactP_any (g cap : Nat) (d : Array (Int × Int)) (w : World) (hP : PairsAt w g cap d) (hsz : d.size ≤ 1000000) :
    Calls Tryz.prog 68 #[.slice (some ⟨g, 0, none⟩) d.size cap] w fun e w' => e = .returned (.slice (some ⟨g, 0, none⟩) (compactUpTo d d.size).length cap) ∧
      ∃ dk : Array (Int × Int), (compactUpTo d d.size).length ≤ dk.size ∧ (∀ j, j < (compactUpTo d d.size).length → (compactUpTo d d.size)[j]? = some dk[j]!) ∧ PairsAt w' g cap dk ∧ w.grownBy w' (some g) := by
  have hcap := hP.choose_spec.2.2.1
  have heqP := run_eqP
  have HALL : Hid ((∀ j, j < d.size → keeps d j = true) → (compactUpTo d d.size).length = d.size ∧ (∀ j, j < d.size → (compactUpTo d d.size)[j]? = some d[j]!)) := by
    intro hall
    have e : compactUpTo d d.size = d.toList := by rw [compactUpTo_all d _ hall, range_map_get]
    rw [e]
    exact ⟨by simp, fun j hj => by rw [Array.getElem?_toList, Array.getElem?_eq_getElem hj, getElem!_pos d j hj]⟩
  by_cases h2 : d.size < 2
  · have HP := Lib.hid hP
    clear hP
    go_enter Tryz.func68, Tryz.ntmps68
    go_wp2
    go_ret
    obtain ⟨e1, e2⟩ := HALL.out (fun j hj => keeps_lt_one d j (by omega))
    exact ⟨by rw [e1]; rfl, d, by omega, fun j hj => e2 j (by omega), HP.out, World.grownBy.refl _ _⟩
  · go_enter Tryz.func68, Tryz.ntmps68
    go_wp2
    go_loopg [3] d.size (fun g0 s3 wr => ∃ k : Nat, 1 ≤ k ∧ k ≤ d.size ∧ d.size - k ≤ g0 ∧ s3 = .int .i64 k ∧ PairsAt wr g cap d ∧ w.grownBy wr (some g) ∧ ∀ j, j < k → keeps d j = true)
    case atStart => exact ⟨1, Nat.le_refl _, by omega, by omega, rfl, hP, World.grownBy.refl _ _, keeps_lt_one d⟩
    case round =>
      obtain ⟨k, hk1, hk, hg, rfl, hPr, hgr, hall⟩ := hrel
      by_cases hlt : k < d.size
      · obtain ⟨c0, c1, f0, f1⟩ := hPr.cells hlt
        obtain ⟨c2, c3, f2, f3⟩ := hPr.cells (show k - 1 < d.size by omega)
        have AL := Lib.hid hall
        have HP := Lib.hid hPr
        have HGR := Lib.hid hgr
        clear hall hPr hP hgr
        generalize hx : d[k]! = x at *
        generalize hy : d[k - 1]! = y at *
        have HX := Lib.hid hx
        have HY := Lib.hid hy
        clear hx hy
        obtain ⟨x1, x2⟩ := x
        obtain ⟨y1, y2⟩ := y
        dsimp only at *
        by_cases hdup : x1 = y1 ∧ x2 = y2
        · obtain ⟨rfl, rfl⟩ := hdup
          go_wp2_with fail
          go_region
          go_wp2
          clear c0 c1 c2 c3 f0 f1 f2 f3
          go_loopg [3, 5] d.size (fun g0 s3 s5 wr => ∃ (kk k2 : Nat) (dk : Array (Int × Int)), s3 = .int .i64 kk ∧ s5 = .int .i64 k2 ∧ 1 ≤ k2 ∧ k + k2 ≤ d.size ∧ d.size - (k + k2) ≤ g0 ∧ PairsAt wr g cap dk ∧ w.grownBy wr (some g) ∧ CompInv d (k + k2) kk dk)
          case atStart => exact ⟨k, 1, d, rfl, rfl, Nat.le_refl _, by omega, by omega, HP.out.drew, ⟨HGR.out.os, HGR.out.tape, HGR.out.output, HGR.out.size, HGR.out.block⟩, CompInv.start AL.out (keeps_neg (by omega) (by rw [HX.out, HY.out]))⟩
          case round =>
            obtain ⟨kk, k2, dk, rfl, rfl, h1, hle, hg2, hPk, hgrk, hI⟩ := hrel
            have hkk := hI.lt
            have hds := hI.size
            have HPK := Lib.hid hPk
            have HGK := Lib.hid hgrk
            have I2 := Lib.hid hI
            clear hgrk
            by_cases hlt2 : k + k2 < d.size
            · obtain ⟨m0, m1, mf0, mf1⟩ := hPk.cells (show k + k2 < dk.size by omega)
              obtain ⟨p0, p1, pf0, pf1⟩ := hPk.cells (show k + k2 - 1 < dk.size by omega)
              obtain ⟨q0, q1, qf0, qf1⟩ := hPk.cells (show kk < dk.size by omega)
              rw [hI.high (k + k2) (by omega)] at m0 m1
              rw [hI.high (k + k2 - 1) (by omega)] at p0 p1
              rw [show (k + k2) * 2 = k * 2 + k2 * 2 by omega] at m0 m1
              rw [show (k + k2 - 1) * 2 = k * 2 + (k2 - 1) * 2 by omega] at p0 p1
              clear hPk hI mf0 mf1 pf0 pf1
              generalize hu : d[k + k2]! = u at m0 m1
              generalize hv : d[k + k2 - 1]! = v at p0 p1
              generalize dk[kk]! = old at q0 q1
              have HU := Lib.hid hu
              have HV := Lib.hid hv
              clear hu hv hds
              obtain ⟨u1, u2⟩ := u
              obtain ⟨v1, v2⟩ := v
              dsimp only at *
              by_cases huv : u1 = v1 ∧ u2 = v2
              · obtain ⟨rfl, rfl⟩ := huv
                go_wp2_with fail
                go_region
                go_wp2
                go_roundg (d.size - (k + (k2 + 1)))
                case measure => omega
                case rel => exact ⟨kk, k2 + 1, dk, rfl, by go_num, by omega, by omega, Nat.le_refl _, HPK.out.drew, ⟨HGK.out.os, HGK.out.tape, HGK.out.output, HGK.out.size, HGK.out.block⟩, I2.out.skip (keeps_neg (by omega) (by rw [HU.out, HV.out]))⟩
              · go_wp2_with fail
                go_region
                go_wp2
                go_roundg (d.size - (k + (k2 + 1)))
                case measure => omega
                case rel => exact ⟨kk + 1, k2 + 1, dk.setIfInBounds kk (u1, u2), by go_num, by go_num, by omega, by omega, Nat.le_refl _, (HPK.out.set (by have := I2.out.size; omega) (u1, u2)).drew, grown_drew' (HGK.out.trans ((grown_set _ ⟨g, kk * 2, none⟩ _).trans (grown_set _ ⟨g, kk * 2 + 1, none⟩ _))),
                  by have := I2.out.keep hlt2 (keeps_pos (by rw [HU.out, HV.out]; intro he; injection he with e1 e2; exact huv ⟨e1, e2⟩)); rwa [HU.out] at this⟩
            · have hend : k + k2 = d.size := by omega
              have hcl : ∀ ty c, (Builtin.clear_ #[39] ty #[.slice (some ⟨g, kk * 2, none⟩) (d.size - kk) c]).run Tryz.prog wr = _ := fun ty c => run_clearP ty hPk (by omega) (by omega)
              clear hPk hI hds
              go_wp2
              go_ret
              have hI := I2.out
              rw [hend] at hI
              have hsz := hI.size
              have hln := hI.len
              refine ⟨by rw [hln]; rfl, dk.extract 0 kk, by rw [hln]; simp; omega, fun j hj => ?_, ?_, HGK.out.trans (grown_sets g _ _ _)⟩
              · rw [hln] at hj
                rw [hI.low j hj, getElem!_pos dk j (by omega), getElem!_pos (dk.extract 0 kk) j (by simp; omega)]
                simp
              · obtain ⟨cur, b1, b2, b3, b4⟩ := HPK.out
                obtain ⟨cur', e1, e2, e3⟩ := BlockIs.sets (List.replicate ((d.size - kk) * 2) (Value.int .i64 0)) (kk * 2) _ _ (show BlockIs _ g 76 cur from b1)
                refine ⟨cur', e1, by rw [e2]; exact b2, by simp; omega, fun j hj => ?_⟩
                have hj' : j < kk := by simp at hj; omega
                rw [e3 _ (by omega), e3 _ (by omega), getElem!_pos (dk.extract 0 kk) j hj]
                have := b4 j (by omega)
                rw [getElem!_pos dk j (by omega)] at this
                simpa using this
        · go_wp2_with fail
          go_region
          go_wp2
          go_roundg (d.size - (k + 1))
          case measure => omega
          case rel =>
            refine ⟨k + 1, by omega, by omega, Nat.le_refl _, by go_num, HP.out.drew, ⟨HGR.out.os, HGR.out.tape, HGR.out.output, HGR.out.size, HGR.out.block⟩, fun j hj => ?_⟩
            by_cases e : j = k
            · subst e
              exact keeps_pos (by rw [HX.out, HY.out]; intro he; injection he with e1 e2; exact hdup ⟨e1, e2⟩)
            · exact AL.out j (by omega)
      · obtain rfl : k = d.size := by omega
        have HP := Lib.hid hPr
        have HGR := Lib.hid hgr
        have AL := Lib.hid hall
        clear hPr hP hgr hall
        go_wp2
        go_ret
        obtain ⟨e1, e2⟩ := HALL.out AL.out
        exact ⟨by rw [e1]; rfl, d, by omega, fun j hj => e2 j (by omega), HP.out, HGR.out⟩

end Go.Proofs.YtjpnblflenlnaaaGreat
