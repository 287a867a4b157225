/- RBook: the specification's IsEntry and IsBook. Clash: the specification's clash and Check. Ready: Far and ready; the specification's Check where the moves may be of any number. -/
import Derived.Test.YtfpmkolaiomabaaGreatEntry
import Derived.Test.YtfpmkolaiomabaaGreatForms
import Derived.Deep.DeepCutAuto
import Derived.Test.YtfpmkolaiomabaaGreatAlike
import Derived.Test.YtfpmkolaiomabaaGreatFits
import Derived.Test.YtfpmkolaiomabaaGreatOpens2
namespace Go.Proofs.YtfpmkolaiomabaaGreat
open Go.RowKit

set_option maxRecDepth 100000 in
set_option maxHeartbeats 4000000 in
theorem rIsEntry_any (x : EntryR) (B : Nat) (w : World) (hm : MovesAt w B x) (hB : B ≤ w.heap.size) :
    Calls Tryz.prog 86 #[entryV x] w fun e w' => e = .returned (.bool (okEntry x.d)) ∧ Below w.heap.size w w' := by
  obtain ⟨⟨id, sign, regions, f, low, high⟩, A, cap⟩ := x
  obtain ⟨hA, hl⟩ := hm
  dsimp only at *
  have HA := Lib.hid (hA.more hB)
  clear hA
  go_enter Tryz.func86, Tryz.ntmps86
  go_upto_region 1 with fail
  obtain ⟨W, hW, hg, hf, hsz⟩ := one_block w 62 (cellsE ⟨⟨id, sign, regions, f, low, high⟩, A, cap⟩)
  rw [hW]
  clear hW
  have hfc := hf.cell
  have HV := Lib.hid (fun w0 (h : Grow W w0) => IsForm_any f A cap w.heap.size w0 (HA.out.below (hg.trans h)) hl (hg.trans h).size)
  have HF := Lib.hid hf
  have HG := Lib.hid hg
  clear hf hg
  go_wp2_with (first
    | (go_at_call 78; refine (rwithin_any _ _ _ _).mono ?_; rintro e w' ⟨rfl, rfl⟩)
    | (go_at_call 40; refine (HV.out _ (Grow.refl _)).mono ?_; rintro e w2 ⟨rfl, hb2⟩; have hfc2 := (Grow.block hb2 HF.out).cell; have HB2 : Hid (Grow W w2) := hb2; clear hb2))
  all_goals go_ret
  all_goals refine ⟨ret_bool ?_, ?_⟩
  all_goals first
    | exact HG.out.trans HB2.out
    | exact HG.out
    | (simp [okEntry, *]; done)
    | (simp [okEntry, inB, *]; done)
    | (simp [okEntry, inB, *] at *; omega)

def isBookD (l : List EntryD) : Bool := l.all okEntry && decide (l.length ≤ 40)
theorem all_take {l : List EntryR} {k : Nat} {x : EntryR} (h : l[k]? = some x) (hx : okEntry x.d = true) (hq : ((l.take k).map (·.d)).all okEntry = true) : ((l.take (k + 1)).map (·.d)).all okEntry = true := by
  rw [List.take_add_one, h]
  simp only [Option.toList_some, List.map_append, List.all_append, hq, Bool.true_and]
  simpa using hx
theorem all_not {l : List EntryR} {k : Nat} {x : EntryR} (h : l[k]? = some x) (hx : okEntry x.d = false) : isBookD (l.map (·.d)) = false := by
  have : (l.map (·.d)).all okEntry = false := by
    rw [List.all_eq_false]
    exact ⟨x.d, List.mem_map.2 ⟨x, List.mem_of_getElem? h, rfl⟩, by simp [hx]⟩
  simp [isBookD, this]

set_option maxRecDepth 100000 in
set_option maxHeartbeats 4000000 in
theorem rIsBook_any (A : Option Addr) (cap B : Nat) (l : List EntryR) (w : World) (hA : Ents w B A l) (hl : l.length ≤ 1000000) (hB : B ≤ w.heap.size) :
    Calls Tryz.prog 54 #[.slice A l.length cap] w fun e w' => e = .returned (.bool (isBookD (l.map (·.d)))) ∧ Below w.heap.size w w' := by
  have HA := Lib.hid (hA.more hB)
  clear hA
  go_enter Tryz.func54, Tryz.ntmps54
  go_wp2
  go_loopw [3] (fun i wr => ∃ k : Nat, k ≤ l.length ∧ i = .int .i64 k ∧ ((l.take k).map (·.d)).all okEntry = true ∧ Grow w wr) (fun i _ => l.length - (intOf i).toNat)
  case atStart => exact ⟨0, Nat.zero_le _, rfl, rfl, Grow.refl _⟩
  case round =>
    obtain ⟨k, hk, rfl, hq, hgr⟩ := hrel
    rename_i wr
    have HQ := Lib.hid hq
    have HGR := Lib.hid hgr
    clear hq hgr
    by_cases hlt : k < l.length
    · obtain ⟨b, off, x, rfl, hb, hc, hm, HX⟩ := (HA.out.below HGR.out).at_ hlt
      have HE := Lib.hid (rIsEntry_any x w.heap.size wr hm HGR.out.size)
      have hc0 := hc 0 (by omega)
      have hc1 := hc 1 (by omega)
      have hc2 := hc 2 (by omega)
      have hc3 := hc 3 (by omega)
      have hc4 := hc 4 (by omega)
      have hc5 := hc 5 (by omega)
      have hc6 := hc 6 (by omega)
      have hc7 := hc 7 (by omega)
      have hc8 := hc 8 (by omega)
      have hc9 := hc 9 (by omega)
      have hc10 := hc 10 (by omega)
      simp at hc0 hc1 hc2 hc3 hc4 hc5 hc6 hc7 hc8 hc9 hc10
      clear hc hm
      go_wp2_with fail
      refine HE.out.mono ?_
      rintro e w2 ⟨rfl, hb2⟩
      have HG2 : Hid (Grow w w2) := HGR.out.trans hb2
      clear hb2
      cases hok : okEntry x.d with
      | false =>
        have HOK := Lib.hid hok
        clear hok
        go_wp2
        go_ret
        exact ⟨ret_bool (all_not HX.out HOK.out).symm, HG2.out⟩
      | true =>
        have HOK := Lib.hid hok
        clear hok
        go_wp2
        go_roundw
        case rel => exact ⟨k + 1, by omega, by go_num, all_take HX.out HOK.out HQ.out, HG2.out⟩
        case measure => simp [intOf]; omega
    · obtain rfl : k = l.length := by omega
      go_wp2
      go_ret
      exact ⟨ret_bool (by have := HQ.out; rw [List.take_length] at this; simp only [isBookD, this, Bool.true_and, List.length_map, decide_eq_decide]; omega), HGR.out⟩

end Go.Proofs.YtfpmkolaiomabaaGreat

namespace Go.Proofs.YtfpmkolaiomabaaGreat
open Go.RowKit

/-- no entry before k has the Id of an earlier one that is not like it -/
def ClearTo (l : List EntryR) (k : Nat) : Prop := ∀ (i j : Nat) x y, i < k → j < i → l[i]? = some x → l[j]? = some y → x.d.id = y.d.id → alikeD x.d y.d = true
/-- the entry k has not the Id of one before m that is not like it -/
def ClearAt (l : List EntryR) (k m : Nat) : Prop := ∀ (j : Nat) x y, j < m → l[k]? = some x → l[j]? = some y → x.d.id = y.d.id → alikeD x.d y.d = true
theorem ClearTo.zero (l : List EntryR) : ClearTo l 0 := fun i j x y h => by omega
theorem ClearAt.zero (l : List EntryR) (k : Nat) : ClearAt l k 0 := fun j x y h => by omega
theorem ClearTo.succ {l : List EntryR} {k : Nat} (h : ClearTo l k) (g : ClearAt l k k) : ClearTo l (k + 1) := fun i j x y hi hj hx hy hid => by
  by_cases he : i < k
  · exact h i j x y he hj hx hy hid
  · obtain rfl : i = k := by omega
    exact g j x y hj hx hy hid
theorem ClearAt.succ {l : List EntryR} {k m : Nat} {x y : EntryR} (h : ClearAt l k m) (hx : l[k]? = some x) (hy : l[m]? = some y) (g : (x.d.id == y.d.id && !alikeD x.d y.d) = false) : ClearAt l k (m + 1) := fun j x' y' hj hx' hy' hid => by
  by_cases he : j < m
  · exact h j x' y' he hx' hy' hid
  · obtain rfl : j = m := by omega
    rw [hx] at hx'; rw [hy] at hy'
    injection hx' with hx'; injection hy' with hy'
    subst hx'; subst hy'
    simpa [hid] using g
theorem ClearTo.clash {l : List EntryR} (h : ClearTo l l.length) : clashD (l.map (·.d)) = false := by
  refine clash_false fun i k x y hki hx hy hid => ?_
  rw [List.getElem?_map] at hx hy
  cases h1 : l[i]? with
  | none => rw [h1] at hx; cases hx
  | some x' =>
    cases h2 : l[k]? with
    | none => rw [h2] at hy; cases hy
    | some y' =>
      rw [h1] at hx; rw [h2] at hy
      injection hx with hx; injection hy with hy
      subst hx; subst hy
      exact h i k x' y' (List.getElem?_eq_some_iff.1 h1).1 hki h1 h2 hid
theorem clash_at {l : List EntryR} {k m : Nat} {x y : EntryR} (hx : l[k]? = some x) (hy : l[m]? = some y) (g : (x.d.id == y.d.id && !alikeD x.d y.d) = true) : clashD (l.map (·.d)) = true := by
  simp only [Bool.and_eq_true, beq_iff_eq, Bool.not_eq_true'] at g
  exact clash_true (List.mem_map.2 ⟨x, List.mem_of_getElem? hx, rfl⟩) (List.mem_map.2 ⟨y, List.mem_of_getElem? hy, rfl⟩) g.1 g.2

set_option maxRecDepth 100000 in
set_option maxHeartbeats 8000000 in
/-- the test of two entries, in the inner loop -/
theorem rclash_any (A : Option Addr) (cap B : Nat) (l : List EntryR) (w : World) (hA : Ents w B A l) (hl : l.length ≤ 1000000) (hB : B ≤ w.heap.size) (hok : ∀ x ∈ l, okEntry x.d = true) :
    Calls Tryz.prog 56 #[.slice A l.length cap] w fun e w' => e = .returned (.bool (clashD (l.map (·.d)))) ∧ Below w.heap.size w w' := by
  have HA := Lib.hid (hA.more hB)
  have HOK := Lib.hid hok
  clear hA hok
  go_enter Tryz.func56, Tryz.ntmps56
  go_wp2
  go_loopw [3] (fun i wr => ∃ k : Nat, k ≤ l.length ∧ i = .int .i64 k ∧ ClearTo l k ∧ Grow w wr) (fun i _ => l.length - (intOf i).toNat)
  case atStart => exact ⟨0, Nat.zero_le _, rfl, ClearTo.zero l, Grow.refl _⟩
  case round =>
    obtain ⟨k, hk, rfl, hq, hgr⟩ := hrel
    rename_i wo
    have HQ := Lib.hid hq
    have HGR := Lib.hid hgr
    clear hq hgr
    by_cases hlt : k < l.length
    · go_wp2
      go_loopw [4] (fun j wr => ∃ m : Nat, m ≤ k ∧ j = .int .i64 m ∧ ClearAt l k m ∧ Grow w wr) (fun j _ => k - (intOf j).toNat)
      case atStart => exact ⟨0, Nat.zero_le _, rfl, ClearAt.zero l k, HGR.out⟩
      case round =>
        obtain ⟨m, hm, rfl, hq, hgr⟩ := hrel
        rename_i wr _
        have HQI := Lib.hid hq
        have HGI := Lib.hid hgr
        clear hq hgr
        by_cases hlt2 : m < k
        · obtain ⟨b, off, x, hAe, hb, hcx, hmx, HX⟩ := (HA.out.below HGI.out).at_ hlt
          obtain ⟨b', off', y, hAe', hb', hcy, hmy, HY⟩ := (HA.out.below HGI.out).at_ (k := m) (by omega)
          obtain ⟨rfl, rfl⟩ : b = b' ∧ off = off' := by rw [hAe] at hAe'; injection hAe' with h; injection h with h1 h2; exact ⟨h1, h2⟩
          subst hAe
          have HCX := Lib.hid hcx
          have HCY := Lib.hid hcy
          have HOX : Hid (okForm x.d.form = true) := okEntry_okForm (HOK.out x (List.mem_of_getElem? HX.out))
          have HOY : Hid (okForm y.d.form = true) := okEntry_okForm (HOK.out y (List.mem_of_getElem? HY.out))
          have HMX := Lib.hid (hmx.more HGI.out.size)
          have HMY := Lib.hid (hmy.more HGI.out.size)
          have HAL := Lib.hid (fun (w0 : World) (h : Grow wr w0) => rAlike_any x y w0 ((HMX.out.below h).more h.size) ((HMY.out.below h).more h.size) HOX.out HOY.out)
          have hbw : b < wr.heap.size := by have := HGI.out.size; omega
          clear hcx hcy hmx hmy hAe' HOX HOY HMX HMY
          have HR : Hid ((x.d.id == y.d.id && !alikeD x.d y.d) = true → clashD (l.map (·.d)) = true) := fun h => clash_at HX.out HY.out h
          have HS : Hid ((x.d.id == y.d.id && !alikeD x.d y.d) = false → ClearAt l k (m + 1)) := fun h => HQI.out.succ HX.out HY.out h
          generalize alikeD x.d y.d = al at HAL HR HS
          generalize hq : (x.d.id == y.d.id) = q at HR HS
          have HQQ := Lib.hid hq
          clear hq
          have hlt3 : (m : Int) < k := by omega
          have hl1 : (k : Int) < l.length := by omega
          have hl2 : (m : Int) < l.length := by omega
          go_upto_region 7 with fail
          refine wp_region_lit 23 [[], [], [(0, 16), (1, 17)], [(2, 18)], [(3, 19)], [], [], [(5, 21), (6, 22)], [(7, 23)], [(8, 24)], [(4, 20), (9, 25)], [(10, 26)], [(11, 27)], [(11, 27)], [(11, 27), (12, 28), (13, 29)], [(11, 27), (14, 30)], [(11, 27)], [(11, 27)], [(11, 27), (16, 32), (17, 33)], [(11, 27), (18, 34)], [(11, 27), (15, 31), (19, 35)], [(11, 27), (20, 36)], [(11, 27), (21, 37)]] Grow (fun i v w' => match i with
            | 0 | 5 => v = .slice (some ⟨b, off, none⟩) l.length cap
            | 1 => v = .int .i64 k
            | 6 => v = .int .i64 m
            | 2 | 3 => v = .pointer (some ⟨b, off + k * 11, none⟩)
            | 7 | 8 => v = .pointer (some ⟨b, off + m * 11, none⟩)
            | 4 => v = .int .i64 x.d.id
            | 9 => v = .int .i64 y.d.id
            | 10 | 11 => v = .bool q
            | 12 | 16 => v = bif q then .slice (some ⟨b, off, none⟩) l.length cap else undef
            | 13 => v = bif q then .int .i64 k else undef
            | 17 => v = bif q then .int .i64 m else undef
            | 14 => v = bif q then .pointer (some ⟨b, off + k * 11, none⟩) else undef
            | 18 => v = bif q then .pointer (some ⟨b, off + m * 11, none⟩) else undef
            | 15 => v = bif q then entryV x else undef
            | 19 => v = bif q then entryV y else undef
            | 20 => v = bif q then .bool al else undef
            | 21 => v = bif q then .bool (!al) else undef
            | 22 => v = .bool (q && !al)
            | _ => False) (by kernel_rfl) (by kernel_rfl) (fun _ _ _ => Grow.trans) Grow.refl ?_ ?_ ?_
          · intro i v y y' h k
            match i, h with
            | 0, h | 1, h | 2, h | 3, h | 4, h | 5, h | 6, h | 7, h | 8, h | 9, h | 10, h | 11, h | 12, h | 13, h | 14, h | 15, h | 16, h | 17, h | 18, h | 19, h | 20, h | 21, h | 22, h => exact h
          · cases q
            all_goals simp only [Bool.true_and, Bool.false_and, cond_true, cond_false]
            all_goals
              simp only [StepsLit, List.take_succ_cons, List.take_zero]
              refine ⟨?_, ?_, ?_, ?_, ?_, ?_, ?_, ?_, ?_, ?_, ?_, ?_, ?_, ?_, ?_, ?_, ?_, ?_, ?_, ?_, ?_, ?_, ?_, trivial⟩
            all_goals
              intro w3 hR
              have HG := Lib.hid hR.of_drew
              have hcx : ∀ j, j < 11 → w3.cell? ⟨b, off + k * 11 + j, none⟩ = (cellsE x)[j]? := fun j hj => (Below.cell (p := ⟨b, off + k * 11 + j, none⟩) HG.out hbw).trans (HCX.out j hj)
              have hcy : ∀ j, j < 11 → w3.cell? ⟨b, off + m * 11 + j, none⟩ = (cellsE y)[j]? := fun j hj => (Below.cell (p := ⟨b, off + m * 11 + j, none⟩) HG.out hbw).trans (HCY.out j hj)
              clear hR
              have hx0 := hcx 0 (by omega)
              have hx1 := hcx 1 (by omega)
              have hx2 := hcx 2 (by omega)
              have hx3 := hcx 3 (by omega)
              have hx4 := hcx 4 (by omega)
              have hx5 := hcx 5 (by omega)
              have hx6 := hcx 6 (by omega)
              have hx7 := hcx 7 (by omega)
              have hx8 := hcx 8 (by omega)
              have hx9 := hcx 9 (by omega)
              have hx10 := hcx 10 (by omega)
              simp at hx0 hx1 hx2 hx3 hx4 hx5 hx6 hx7 hx8 hx9 hx10
              have hy0 := hcy 0 (by omega)
              have hy1 := hcy 1 (by omega)
              have hy2 := hcy 2 (by omega)
              have hy3 := hcy 3 (by omega)
              have hy4 := hcy 4 (by omega)
              have hy5 := hcy 5 (by omega)
              have hy6 := hcy 6 (by omega)
              have hy7 := hcy 7 (by omega)
              have hy8 := hcy 8 (by omega)
              have hy9 := hcy 9 (by omega)
              have hy10 := hcy 10 (by omega)
              simp at hy0 hy1 hy2 hy3 hy4 hy5 hy6 hy7 hy8 hy9 hy10
              clear hcx hcy
              simp only [depV, Region.wanted, yielded, cond_true]
              repeat (rintro _ rfl)
              try go_simp
            all_goals first
              | (with_reducible exact Grow.refl _)
              | (with_reducible refine ⟨Grow.refl _, ?_⟩; have h := HQQ.out; simpa using h)
              | (intro h; exact absurd h (by simp [undef]))
              | skip
            · refine (HAL.out _ HG.out).mono ?_
              rintro e w4 ⟨rfl, hb4⟩
              exact ⟨hb4, rfl⟩
          · intro w3 hR
            have HG := Lib.hid (HGI.out.trans hR.of_drew)
            clear hR HAL
            simp only [finVC, List.take_succ_cons, List.take_zero, List.drop_succ_cons, List.drop_zero]
            repeat (rintro _ rfl)
            simp only [Act.put, List.setIfInBounds_toArray, List.set_cons_succ, List.set_cons_zero]
            generalize hqa : (q && !al) = qa at HR HS ⊢
            clear hqa
            cases qa with
            | true =>
              go_wp2
              go_ret
              exact ⟨ret_bool (HR.out (by trivial)).symm, HG.out⟩
            | false =>
              have HS2 := Lib.hid (HS.out rfl)
              go_wp2
              go_roundw
              case rel => exact ⟨m + 1, by omega, by go_num, HS2.out, HG.out⟩
              case measure => simp [intOf]; omega
        · obtain rfl : m = k := by omega
          go_wp2
          go_roundw
          case rel => exact ⟨m + 1, by omega, by go_num, HQ.out.succ HQI.out, HGI.out⟩
          case measure => simp [intOf]; omega
    · obtain rfl : k = l.length := by omega
      go_wp2
      go_ret
      exact ⟨ret_bool HQ.out.clash.symm, HGR.out⟩

set_option maxHeartbeats 800000 in
theorem rCheck_any (A : Option Addr) (cap B : Nat) (l : List EntryR) (w : World) (hA : Ents w B A l) (hl : l.length ≤ 1000000) (hB : B ≤ w.heap.size) :
    Calls Tryz.prog 24 #[.slice A l.length cap] w fun e w' => e = .returned (.int .i64 (bookErr (l.map (·.d)))) ∧ Below w.heap.size w w' := by
  have HBK := Lib.hid (rIsBook_any A cap w.heap.size l w (hA.more hB) hl (Nat.le_refl _))
  have HA := Lib.hid (hA.more hB)
  clear hA
  have HE := Lib.hid (bookErr_eq (l.map (·.d)))
  have hbd : isBookD (l.map (·.d)) = (decide ((l.map (·.d)).length ≤ 40) && (l.map (·.d)).all okEntry) := by unfold isBookD; rw [Bool.and_comm]
  rw [← hbd] at HE
  clear hbd
  go_enter Tryz.func24, Tryz.ntmps24
  go_wp2_with fail
  refine HBK.out.mono ?_
  rintro e w2 ⟨rfl, hb2⟩
  have HG2 : Hid (Grow w w2) := hb2
  clear hb2
  cases hok : isBookD (l.map (·.d)) with
  | false =>
    have HQ := Lib.hid hok
    clear hok
    go_wp2
    go_ret
    exact ⟨ret_int (by rw [HE.out, HQ.out]; rfl), HG2.out⟩
  | true =>
    have HCL := Lib.hid (rclash_any A cap w.heap.size l w2 (HA.out.below HG2.out) hl HG2.out.size (fun x hx => by
      simp only [isBookD, Bool.and_eq_true, List.all_eq_true] at hok
      exact hok.1 x.d (List.mem_map.2 ⟨x, hx, rfl⟩)))
    have HQ := Lib.hid hok
    clear hok
    go_wp2_with fail
    refine HCL.out.mono ?_
    rintro e w3 ⟨rfl, hb3⟩
    have HG3 : Hid (Grow w w3) := HG2.out.trans hb3
    clear hb3
    cases hcl : clashD (l.map (·.d)) with
    | false =>
      have HC := Lib.hid hcl
      clear hcl
      go_wp2
      go_ret
      exact ⟨ret_int (by rw [HE.out, HQ.out, HC.out]; rfl), HG3.out⟩
    | true =>
      have HC := Lib.hid hcl
      clear hcl
      go_wp2
      go_ret
      exact ⟨ret_int (by rw [HE.out, HQ.out, HC.out]; rfl), HG3.out⟩

end Go.Proofs.YtfpmkolaiomabaaGreat

namespace Go.Proofs.YtfpmkolaiomabaaGreat
open Go.RowKit

def farD (l : List EntryD) : Bool := longD l || (isBookD l && decide (12 < l.length))
def readyD (l : List EntryD) : Bool := !farD l && decide (bookErr l = 0)
theorem EntsO.short {w : World} {B : Nat} {A : Option Addr} {l : List EntryR} (h : EntsO w B A l) (hl : longD (l.map (·.d)) = false) : Ents w B A l ∧ l.length ≤ 60 :=
  ⟨h.ents fun x hx => by have := (longD_false hl).2 x hx; omega, (longD_false hl).1⟩

set_option maxHeartbeats 800000 in
theorem Far_any (A : Option Addr) (cap B : Nat) (l : List EntryR) (w : World) (hA : EntsO w B A l) (hl : l.length ≤ 9223372036854775807) (hB : B ≤ w.heap.size) :
    Calls Tryz.prog 21 #[.slice A l.length cap] w fun e w' => e = .returned (.bool (farD (l.map (·.d)))) ∧ Below w.heap.size w w' := by
  have HL := Lib.hid (fun (w0 : World) => long_any A cap B l w0)
  have HA := Lib.hid hA
  have HB := Lib.hid hB
  have HLL := Lib.hid hl
  clear hA hB
  have HLO := Lib.hid (long_any A cap B l w HA.out hl)
  clear HL
  cases hlo : longD (l.map (·.d)) with
  | true =>
    have HF : Hid (farD (l.map (·.d)) = true) := by rw [Hid, farD, hlo]; rfl
    rw [hlo] at HLO
    clear hlo
    go_enter Tryz.func21, Tryz.ntmps21
    go_wp2_with fail
    refine HLO.out.mono ?_
    rintro e w2 ⟨rfl, rfl⟩
    go_wp2
    go_ret
    exact ⟨ret_bool HF.out.symm, Below.refl _ _⟩
  | false =>
    obtain ⟨he, h60⟩ := HA.out.short hlo
    have HBK := Lib.hid (rIsBook_any A cap B l w he (by omega) HB.out)
    have HF : Hid (farD (l.map (·.d)) = (isBookD (l.map (·.d)) && decide (12 < l.length))) := by rw [Hid, farD, hlo, Bool.false_or, List.length_map]
    rw [hlo] at HLO
    clear hlo he
    generalize isBookD (l.map (·.d)) = bk at HF HBK
    go_enter Tryz.func21, Tryz.ntmps21
    go_wp2_with fail
    refine HLO.out.mono ?_
    rintro e w2 ⟨rfl, rfl⟩
    go_wp2_with fail
    refine HBK.out.mono ?_
    rintro e w2 ⟨rfl, hb2⟩
    have HG2 : Hid (Below w.heap.size w w2) := hb2
    clear hb2
    cases bk
    all_goals go_wp2
    all_goals go_ret
    all_goals exact ⟨ret_bool (by rw [HF.out]; first | (simp; done) | (simp; omega)), HG2.out⟩

set_option maxHeartbeats 800000 in
theorem ready_any (A : Option Addr) (cap B : Nat) (l : List EntryR) (w : World) (hA : EntsO w B A l) (hl : l.length ≤ 9223372036854775807) (hB : B ≤ w.heap.size) :
    Calls Tryz.prog 42 #[.slice A l.length cap] w fun e w' => e = .returned (.bool (readyD (l.map (·.d)))) ∧ Below w.heap.size w w' := by
  have HFA := Lib.hid (Far_any A cap B l w hA hl hB)
  have HCH : Hid (∀ w0, Grow w w0 → farD (l.map (·.d)) = false → Calls Tryz.prog 24 #[.slice A l.length cap] w0 fun e w' => e = .returned (.int .i64 (bookErr (l.map (·.d)))) ∧ Below w0.heap.size w0 w') := fun w0 h hf => by
    have hlo : longD (l.map (·.d)) = false := by
      unfold farD at hf
      simp only [Bool.or_eq_false_iff] at hf
      exact hf.1
    obtain ⟨he, h60⟩ := hA.short hlo
    exact rCheck_any A cap w.heap.size l w0 ((he.more hB).below h) (by omega) h.size
  have HR : Hid (readyD (l.map (·.d)) = (!farD (l.map (·.d)) && decide (bookErr (l.map (·.d)) = 0))) := rfl
  clear hA
  generalize readyD (l.map (·.d)) = rd at HR ⊢
  generalize farD (l.map (·.d)) = fa at HFA HCH HR
  generalize bookErr (l.map (·.d)) = be at HCH HR
  go_enter Tryz.func42, Tryz.ntmps42
  go_wp2_with fail
  refine HFA.out.mono ?_
  rintro e w2 ⟨rfl, hb2⟩
  have HG2 : Hid (Grow w w2) := hb2
  clear hb2
  cases fa with
  | true =>
    go_wp2
    go_ret
    exact ⟨ret_bool (by rw [HR.out]; rfl), HG2.out⟩
  | false =>
    go_wp2_with fail
    refine (HCH.out _ HG2.out (by trivial)).mono ?_
    rintro e w3 ⟨rfl, hb3⟩
    have HG3 : Hid (Grow w w3) := HG2.out.trans hb3
    clear hb3
    go_wp2
    go_ret
    exact ⟨ret_bool (by rw [HR.out, Bool.not_false, Bool.true_and]; by_cases h : be = 0 <;> simp [h]), HG3.out⟩

theorem ready_ok {l : List EntryD} (h : readyD l = true) : l.length ≤ 12 ∧ (∀ x ∈ l, okEntry x = true) ∧ Agreed l ∧ bookErr l = 0 ∧ longD l = false := by
  unfold readyD farD at h
  simp only [Bool.and_eq_true, Bool.not_eq_true', Bool.or_eq_false_iff, decide_eq_true_eq] at h
  obtain ⟨⟨h1, h2⟩, h3⟩ := h
  have hb : (decide (l.length ≤ 40) && l.all okEntry) = true := by
    unfold bookErr at h3
    split at h3
    · assumption
    · omega
  rw [Bool.and_eq_true, decide_eq_true_eq, List.all_eq_true] at hb
  have hbk : isBookD l = true := by
    unfold isBookD
    rw [Bool.and_eq_true, decide_eq_true_eq, List.all_eq_true]
    exact ⟨hb.2, hb.1⟩
  have hag : Agreed l := by
    refine readD_isSome.1 ?_
    unfold bookErr at h3
    split at h3
    · split at h3
      · assumption
      · omega
    · omega
  rw [hbk, Bool.true_and] at h2
  exact ⟨by simpa using h2, hb.2, hag, h3, h1⟩

end Go.Proofs.YtfpmkolaiomabaaGreat

