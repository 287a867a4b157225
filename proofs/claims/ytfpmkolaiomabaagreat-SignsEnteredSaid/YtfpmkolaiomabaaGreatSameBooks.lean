/- SameBooks: two books of equal entries are the same. -/
import Derived.Test.YtfpmkolaiomabaaGreatAlike
import Derived.Test.YtfpmkolaiomabaaGreatOrder
namespace Go.Proofs.YtfpmkolaiomabaaGreat
open Go.RowKit

set_option maxRecDepth 100000 in
set_option maxHeartbeats 16000000 in
theorem sameBooks_eq (A A' : Option Addr) (cap cap' : Nat) (xs ys : List EntryR) (w : World) (hA : Ents w w.heap.size A xs) (hA' : Ents w w.heap.size A' ys) (hl : xs.length ≤ 1000000) (he : xs.map (fun y : EntryR => y.d) = ys.map (fun y : EntryR => y.d)) :
    Calls Tryz.prog 34 #[.slice A xs.length cap, .slice A' ys.length cap'] w fun e w' => e = .returned (.bool true) ∧ Below w.heap.size w w' := by
  have hlen : xs.length = ys.length := by
    have := congrArg List.length he
    simpa using this
  have hq : (!((xs.length : Int) == ys.length)) = false := by simp [hlen]
  have hq2 : ((xs.length : Int) != ys.length) = false := by simp [hlen]
  have HA := Lib.hid hA
  have HA' := Lib.hid hA'
  have HL := Lib.hid hlen
  have HEQ := Lib.hid he
  clear hA hA' hlen he
  go_enter Tryz.func34, Tryz.ntmps34
  go_wp2_with fail
  go_loopw [5] (fun iv wr => ∃ m : Nat, m ≤ xs.length ∧ iv = .int .i64 m ∧ Grow w wr) (fun i _ => xs.length - (intOf i).toNat)
  case atStart => exact ⟨0, Nat.zero_le _, rfl, Grow.refl _⟩
  case round =>
    obtain ⟨m, hm, rfl, hgr⟩ := hrel
    rename World => wr
    have HG := Lib.hid hgr
    clear hgr
    by_cases hlt : m < xs.length
    · have hlt' : m < ys.length := by have := HL.out; omega
      have hi1 : (m : Int) < xs.length := by omega
      have hi2 : (m : Int) < ys.length := by omega
      obtain ⟨b, off, x, rfl, hb, hcx, hmx, HX⟩ := HA.out.at_ hlt
      obtain ⟨b', off', y, rfl, hb', hcy, hmy, HY⟩ := HA'.out.at_ hlt'
      have hxy : x.d = y.d := by
        have h := congrArg (fun z : List EntryD => z[m]?) HEQ.out
        simp only [List.getElem?_map] at h
        rw [HX.out, HY.out] at h
        exact Option.some.inj h
      obtain ⟨yd, yA, ycap⟩ := y
      dsimp only at hxy hmy hcy
      subst hxy
      have HCX := Lib.hid hcx
      have HCY := Lib.hid hcy
      have heqS := run_eqS x.d.low x.d.high x.d.low x.d.high
      have hdS : decide (x.d.low = x.d.low ∧ x.d.high = x.d.high) = true := decide_eq_true ⟨rfl, rfl⟩
      rw [hdS] at heqS
      have HSF := Lib.hid (fun (w0 : World) (h : Grow wr w0) => by
        have hg : Grow w w0 := HG.out.trans h
        have k := sameForms_any x.d.form x.d.form x.A yA x.cap ycap w0 ((hmx.1.below hg).more hg.size) ((hmy.1.below hg).more hg.size) hmx.2 hmx.2
        rw [decide_eq_true rfl] at k
        exact k)
      clear hcx hcy hmx hmy HX HY hdS
      go_upto_region 6 with fail
      refine wp_region_lit 64 [[], [], [(0, 17), (1, 18)], [(2, 19)], [(3, 20)], [], [], [(5, 22), (6, 23)], [(7, 24)], [(8, 25)], [(4, 21), (9, 26)], [(10, 27)], [(11, 28)], [(11, 28)], [(11, 28), (12, 29), (13, 30)], [(11, 28), (14, 31)], [(11, 28), (15, 32)], [(11, 28)], [(11, 28)], [(11, 28), (17, 34), (18, 35)], [(11, 28), (19, 36)], [(11, 28), (20, 37)], [(11, 28), (16, 33), (21, 38)], [(11, 28), (22, 39)], [(23, 40)], [(24, 41)], [(24, 41)], [(24, 41), (25, 42), (26, 43)], [(24, 41), (27, 44)], [(24, 41), (28, 45)], [(24, 41)], [(24, 41)], [(24, 41), (30, 47), (31, 48)], [(24, 41), (32, 49)], [(24, 41), (33, 50)], [(24, 41), (29, 46), (34, 51)], [(24, 41), (35, 52)], [(36, 53)], [(37, 54)], [(37, 54)], [(37, 54), (38, 55), (39, 56)], [(37, 54), (40, 57)], [(37, 54), (41, 58)], [(37, 54)], [(37, 54)], [(37, 54), (43, 60), (44, 61)], [(37, 54), (45, 62)], [(37, 54), (46, 63)], [(37, 54), (42, 59), (47, 64)], [(37, 54), (48, 65)], [(49, 66)], [(50, 67)], [(50, 67)], [(50, 67), (51, 68), (52, 69)], [(50, 67), (53, 70)], [(50, 67), (54, 71)], [(50, 67)], [(50, 67)], [(50, 67), (56, 73), (57, 74)], [(50, 67), (58, 75)], [(50, 67), (59, 76)], [(50, 67), (55, 72), (60, 77)], [(50, 67), (61, 78)], [(50, 67), (62, 79)]] Grow (fun i v w' => match i with
          | 0 => v = .slice (some ⟨b, off, none⟩) xs.length cap
          | 1 => v = .int .i64 m
          | 2 => v = .pointer (some ⟨b, off + m * 11, none⟩)
          | 3 => v = .pointer (some ⟨b, off + m * 11, none⟩)
          | 4 => v = .int .i64 x.d.id
          | 5 => v = .slice (some ⟨b', off', none⟩) ys.length cap'
          | 6 => v = .int .i64 m
          | 7 => v = .pointer (some ⟨b', off' + m * 11, none⟩)
          | 8 => v = .pointer (some ⟨b', off' + m * 11, none⟩)
          | 9 => v = .int .i64 x.d.id
          | 10 => v = .bool false
          | 11 => v = .bool false
          | 12 => v = .slice (some ⟨b, off, none⟩) xs.length cap
          | 13 => v = .int .i64 m
          | 14 => v = .pointer (some ⟨b, off + m * 11, none⟩)
          | 15 => v = .pointer (some ⟨b, off + m * 11 + 1, none⟩)
          | 16 => v = .int .i64 x.d.sign
          | 17 => v = .slice (some ⟨b', off', none⟩) ys.length cap'
          | 18 => v = .int .i64 m
          | 19 => v = .pointer (some ⟨b', off' + m * 11, none⟩)
          | 20 => v = .pointer (some ⟨b', off' + m * 11 + 1, none⟩)
          | 21 => v = .int .i64 x.d.sign
          | 22 => v = .bool false
          | 23 => v = .bool false
          | 24 => v = .bool false
          | 25 => v = .slice (some ⟨b, off, none⟩) xs.length cap
          | 26 => v = .int .i64 m
          | 27 => v = .pointer (some ⟨b, off + m * 11, none⟩)
          | 28 => v = .pointer (some ⟨b, off + m * 11 + 2, none⟩)
          | 29 => v = .int .i64 x.d.regions
          | 30 => v = .slice (some ⟨b', off', none⟩) ys.length cap'
          | 31 => v = .int .i64 m
          | 32 => v = .pointer (some ⟨b', off' + m * 11, none⟩)
          | 33 => v = .pointer (some ⟨b', off' + m * 11 + 2, none⟩)
          | 34 => v = .int .i64 x.d.regions
          | 35 => v = .bool false
          | 36 => v = .bool false
          | 37 => v = .bool false
          | 38 => v = .slice (some ⟨b, off, none⟩) xs.length cap
          | 39 => v = .int .i64 m
          | 40 => v = .pointer (some ⟨b, off + m * 11, none⟩)
          | 41 => v = .pointer (some ⟨b, off + m * 11 + 9, none⟩)
          | 42 => v = .agg #[.int .i64 x.d.low, .int .i64 x.d.high]
          | 43 => v = .slice (some ⟨b', off', none⟩) ys.length cap'
          | 44 => v = .int .i64 m
          | 45 => v = .pointer (some ⟨b', off' + m * 11, none⟩)
          | 46 => v = .pointer (some ⟨b', off' + m * 11 + 9, none⟩)
          | 47 => v = .agg #[.int .i64 x.d.low, .int .i64 x.d.high]
          | 48 => v = .bool false
          | 49 => v = .bool false
          | 50 => v = .bool false
          | 51 => v = .slice (some ⟨b, off, none⟩) xs.length cap
          | 52 => v = .int .i64 m
          | 53 => v = .pointer (some ⟨b, off + m * 11, none⟩)
          | 54 => v = .pointer (some ⟨b, off + m * 11 + 3, none⟩)
          | 55 => v = formV x.d.form x.A x.cap
          | 56 => v = .slice (some ⟨b', off', none⟩) ys.length cap'
          | 57 => v = .int .i64 m
          | 58 => v = .pointer (some ⟨b', off' + m * 11, none⟩)
          | 59 => v = .pointer (some ⟨b', off' + m * 11 + 3, none⟩)
          | 60 => v = formV x.d.form yA ycap
          | 61 => v = .bool true
          | 62 => v = .bool false
          | 63 => v = .bool false
          | _ => False) (by kernel_rfl) (by kernel_rfl) (fun _ _ _ => Grow.trans) Grow.refl ?_ ?_ ?_
      · intro i v y y' h k
        match i, h with
        | 0, h | 1, h | 2, h | 3, h | 4, h | 5, h | 6, h | 7, h | 8, h | 9, h | 10, h | 11, h | 12, h | 13, h | 14, h | 15, h | 16, h | 17, h | 18, h | 19, h | 20, h | 21, h | 22, h | 23, h | 24, h | 25, h | 26, h | 27, h | 28, h | 29, h | 30, h | 31, h | 32, h | 33, h | 34, h | 35, h | 36, h | 37, h | 38, h | 39, h | 40, h | 41, h | 42, h | 43, h | 44, h | 45, h | 46, h | 47, h | 48, h | 49, h | 50, h | 51, h | 52, h | 53, h | 54, h | 55, h | 56, h | 57, h | 58, h | 59, h | 60, h | 61, h | 62, h | 63, h => exact h
      · all_goals
          simp only [StepsLit, List.take_succ_cons, List.take_zero]
          refine ⟨?_, ?_, ?_, ?_, ?_, ?_, ?_, ?_, ?_, ?_, ?_, ?_, ?_, ?_, ?_, ?_, ?_, ?_, ?_, ?_, ?_, ?_, ?_, ?_, ?_, ?_, ?_, ?_, ?_, ?_, ?_, ?_, ?_, ?_, ?_, ?_, ?_, ?_, ?_, ?_, ?_, ?_, ?_, ?_, ?_, ?_, ?_, ?_, ?_, ?_, ?_, ?_, ?_, ?_, ?_, ?_, ?_, ?_, ?_, ?_, ?_, ?_, ?_, ?_, trivial⟩
        all_goals
          intro w5 hR
          have HG5 := Lib.hid hR.of_drew
          have hxc : ∀ j, j < 11 → w5.cell? ⟨b, off + m * 11 + j, none⟩ = (cellsE x)[j]? := fun j hj => (Below.cell (p := ⟨b, off + m * 11 + j, none⟩) (HG.out.trans HG5.out) hb).trans (HCX.out j hj)
          have hyc : ∀ j, j < 11 → w5.cell? ⟨b', off' + m * 11 + j, none⟩ = (cellsE ⟨x.d, yA, ycap⟩)[j]? := fun j hj => (Below.cell (p := ⟨b', off' + m * 11 + j, none⟩) (HG.out.trans HG5.out) hb').trans (HCY.out j hj)
          clear hR
          have hx0 : w5.cell? ⟨b, off + m * 11, none⟩ = some (.int .i64 x.d.id) := hxc 0 (by omega)
          have hx1 : w5.cell? ⟨b, off + m * 11 + 1, none⟩ = some (.int .i64 x.d.sign) := hxc 1 (by omega)
          have hx2 : w5.cell? ⟨b, off + m * 11 + 2, none⟩ = some (.int .i64 x.d.regions) := hxc 2 (by omega)
          have hx3 : w5.cell? ⟨b, off + m * 11 + 3, none⟩ = some (.int .i64 x.d.form.right) := hxc 3 (by omega)
          have hx4 : w5.cell? ⟨b, off + m * 11 + 4, none⟩ = some (.int .i64 x.d.form.left) := hxc 4 (by omega)
          have hx5 : w5.cell? ⟨b, off + m * 11 + 5, none⟩ = some (.int .i64 x.d.form.column) := hxc 5 (by omega)
          have hx6 : w5.cell? ⟨b, off + m * 11 + 6, none⟩ = some (.int .i64 x.d.form.row) := hxc 6 (by omega)
          have hx7 : w5.cell? ⟨b, off + m * 11 + 7, none⟩ = some (.int .i64 x.d.form.face) := hxc 7 (by omega)
          have hx8 : w5.cell? ⟨b, off + m * 11 + 8, none⟩ = some (.slice x.A x.d.form.moves.length x.cap) := hxc 8 (by omega)
          have hx9 : w5.cell? ⟨b, off + m * 11 + 9, none⟩ = some (.int .i64 x.d.low) := hxc 9 (by omega)
          have hx10 : w5.cell? ⟨b, off + m * 11 + 10, none⟩ = some (.int .i64 x.d.high) := hxc 10 (by omega)
          have hy0 : w5.cell? ⟨b', off' + m * 11, none⟩ = some (.int .i64 x.d.id) := hyc 0 (by omega)
          have hy1 : w5.cell? ⟨b', off' + m * 11 + 1, none⟩ = some (.int .i64 x.d.sign) := hyc 1 (by omega)
          have hy2 : w5.cell? ⟨b', off' + m * 11 + 2, none⟩ = some (.int .i64 x.d.regions) := hyc 2 (by omega)
          have hy3 : w5.cell? ⟨b', off' + m * 11 + 3, none⟩ = some (.int .i64 x.d.form.right) := hyc 3 (by omega)
          have hy4 : w5.cell? ⟨b', off' + m * 11 + 4, none⟩ = some (.int .i64 x.d.form.left) := hyc 4 (by omega)
          have hy5 : w5.cell? ⟨b', off' + m * 11 + 5, none⟩ = some (.int .i64 x.d.form.column) := hyc 5 (by omega)
          have hy6 : w5.cell? ⟨b', off' + m * 11 + 6, none⟩ = some (.int .i64 x.d.form.row) := hyc 6 (by omega)
          have hy7 : w5.cell? ⟨b', off' + m * 11 + 7, none⟩ = some (.int .i64 x.d.form.face) := hyc 7 (by omega)
          have hy8 : w5.cell? ⟨b', off' + m * 11 + 8, none⟩ = some (.slice yA x.d.form.moves.length ycap) := hyc 8 (by omega)
          have hy9 : w5.cell? ⟨b', off' + m * 11 + 9, none⟩ = some (.int .i64 x.d.low) := hyc 9 (by omega)
          have hy10 : w5.cell? ⟨b', off' + m * 11 + 10, none⟩ = some (.int .i64 x.d.high) := hyc 10 (by omega)
          clear hxc hyc
          simp only [depV, Region.wanted, yielded, cond_true]
          repeat (rintro _ rfl)
          try go_simp
        all_goals first
          | (with_reducible exact Grow.refl _)
          | skip
        · refine (HSF.out _ HG5.out).mono ?_
          rintro e w6 ⟨rfl, hb6⟩
          exact ⟨hb6, rfl⟩
      · intro w5 hR
        have HG5 := Lib.hid (HG.out.trans hR.of_drew)
        clear hR HSF
        simp only [finVC, List.take_succ_cons, List.take_zero, List.drop_succ_cons, List.drop_zero]
        rintro _ rfl
        rintro _ rfl
        rintro _ rfl
        rintro _ rfl
        rintro _ rfl
        rintro _ rfl
        rintro _ rfl
        rintro _ rfl
        rintro _ rfl
        rintro _ rfl
        rintro _ rfl
        rintro _ rfl
        rintro _ rfl
        rintro _ rfl
        rintro _ rfl
        rintro _ rfl
        rintro _ rfl
        rintro _ rfl
        rintro _ rfl
        rintro _ rfl
        rintro _ rfl
        rintro _ rfl
        rintro _ rfl
        rintro _ rfl
        rintro _ rfl
        rintro _ rfl
        rintro _ rfl
        rintro _ rfl
        rintro _ rfl
        rintro _ rfl
        rintro _ rfl
        rintro _ rfl
        rintro _ rfl
        rintro _ rfl
        rintro _ rfl
        rintro _ rfl
        rintro _ rfl
        rintro _ rfl
        rintro _ rfl
        rintro _ rfl
        rintro _ rfl
        rintro _ rfl
        rintro _ rfl
        rintro _ rfl
        rintro _ rfl
        rintro _ rfl
        rintro _ rfl
        rintro _ rfl
        rintro _ rfl
        rintro _ rfl
        rintro _ rfl
        rintro _ rfl
        rintro _ rfl
        rintro _ rfl
        rintro _ rfl
        rintro _ rfl
        rintro _ rfl
        rintro _ rfl
        rintro _ rfl
        rintro _ rfl
        rintro _ rfl
        rintro _ rfl
        rintro _ rfl
        rintro _ rfl
        simp only [Act.put, List.setIfInBounds_toArray, List.set_cons_succ, List.set_cons_zero]
        go_wp2
        go_roundw
        case rel => exact ⟨m + 1, by omega, by go_num, HG5.out⟩
        case measure => simp [intOf]; omega
    · obtain rfl : m = xs.length := by omega
      go_wp2
      go_ret
      exact ⟨rfl, HG.out⟩

end Go.Proofs.YtfpmkolaiomabaaGreat
