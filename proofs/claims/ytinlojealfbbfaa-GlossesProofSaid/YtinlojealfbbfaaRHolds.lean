/- RHolds: the specification's Holds. -/
import Derived.Test.YtinlojealfbbfaaROver
namespace Go.Proofs.Ytinlojealfbbfaa
open Go.RowKit

/-- y stands in the way of x, as the specification has it -/
def rReplD (x y : GlossD) : Bool := (decide (y.author = x.author) && decide (x.stamp < y.stamp)) && overD y x
def rHoldsD (l : List GlossD) (x : GlossD) : Bool := !l.any (rReplD x) && decide (x.signs ≠ 0)

set_option maxRecDepth 100000 in
set_option maxHeartbeats 4000000 in
theorem rHolds_any (x : GlossD) (l : List GlossD) (A : Option Addr) (cap n : Nat) (w : World) (hA : GlossAt w n A l) (hn : n ≤ w.heap.size) (hl : l.length ≤ 1000) :
    Calls Try.prog 68 #[.slice A l.length cap, glossV x] w fun e w' => e = .returned (.bool (rHoldsD l x)) ∧ Below w.heap.size w w' := by
  have HO : Hid (rHoldsD l x = (!l.any (rReplD x) && decide (x.signs ≠ 0))) := rfl
  have HC := Lib.hid (fun (y : GlossD) (w0 : World) => rOverlap_any y x w0)
  generalize rHoldsD l x = r at HO ⊢
  go_enter Try.func68, Try.ntmps68
  go_upto_region 1 with fail
  obtain ⟨W, hW, hg, hf, hsz⟩ := one_block w 55 (cellsG x)
  rw [hW]
  clear hW
  go_wp2
  go_loopw [5] (fun i wr => ∃ k : Nat, k ≤ l.length ∧ i = .int .i64 k ∧ (l.take k).any (rReplD x) = false ∧ Grow w wr ∧ BlockIs wr w.heap.size 55 (cellsG x)) (fun i _ => l.length - (intOf i).toNat)
  case atStart => exact ⟨0, Nat.zero_le _, rfl, rfl, hg, hf⟩
  case round =>
    obtain ⟨k, hk, rfl, hor, hgr, hfr⟩ := hrel
    rename World => wr
    by_cases hlt : k < l.length
    · obtain ⟨b, off, y, rfl, hb, hc, HX⟩ := (hA.below (Below.mono hgr hn)).at_ hlt
      have HT := Lib.hid (any_take_succ (rReplD x) HX.out hor)
      have HG := Lib.hid hgr
      have e0 := hc 0 (by omega); have e1 := hc 1 (by omega); have e2 := hc 2 (by omega); have e3 := hc 3 (by omega); have e4 := hc 4 (by omega); have e5 := hc 5 (by omega)
      rw [Nat.add_zero] at e0
      clear hA hor hgr hc hg hf
      have HO2 : Hid (rReplD x y = ((decide (y.author = x.author) && decide (x.stamp < y.stamp)) && overD y x)) := rfl
      have HNO : Hid (rReplD x y = true → r = false) := Lib.hid (fun h => by
        rw [HO.out, any_of_take (k := k + 1) (rReplD x) (by rw [HT.out]; exact h)]; rfl)
      have HGO : Hid (rReplD x y = false → (l.take (k + 1)).any (rReplD x) = false) := Lib.hid (fun h => by rw [HT.out]; exact h)
      clear HT
      have HOV := Lib.hid (fun w0 => HC.out y w0)
      generalize rReplD x y = p at HO2 HNO HGO
      generalize overD y x = ov at HOV HO2
      go_upto_region 5 with fail
      obtain ⟨W2, hW2, hg2, hf2, hsz2⟩ := one_block wr 55 (cellsG y)
      rw [hW2]
      clear hW2
      have hxc := (Grow.block hg2 hfr).cell
      have hyc := hf2.cell
      have HB2 : Hid (BlockIs W2 w.heap.size 55 (cellsG x)) := Grow.block hg2 hfr
      have HG2 := Lib.hid (HG.out.trans hg2)
      clear hfr hf2 hg2 e0 e1 e2 e3 e4 e5
      by_cases h1 : y.author = x.author
      · have d1 : decide (y.author = x.author) = true := decide_eq_true h1
        have b1 : (y.author == x.author) = true := by simpa using h1
        clear h1
        by_cases h2 : x.stamp < y.stamp
        · have d2 : decide (x.stamp < y.stamp) = true := decide_eq_true h2
          have HR : Hid (p = ov) := Lib.hid (by rw [HO2.out, d1, d2]; rfl)
          clear h2
          go_wp2_with fail
          refine (HOV.out _).mono ?_
          rintro e w2 ⟨rfl, hb2⟩
          have HG3 : Hid (Grow W2 w2) := hb2
          clear hb2 hxc hyc
          cases ov
          · go_wp2
            go_roundw
            case rel => exact ⟨k + 1, by omega, by go_num, HGO.out HR.out, HG2.out.trans HG3.out, Grow.block HG3.out HB2.out⟩
            case measure => simp [intOf]; omega
          · go_wp2
            go_ret
            exact ⟨ret_bool (HNO.out HR.out).symm, HG2.out.trans HG3.out⟩
        · have d2 : decide (x.stamp < y.stamp) = false := decide_eq_false h2
          have HR : Hid (p = false) := Lib.hid (by rw [HO2.out, d2]; simp)
          clear h2
          go_wp2
          go_roundw
          case rel => exact ⟨k + 1, by omega, by go_num, HGO.out HR.out, HG2.out, HB2.out⟩
          case measure => simp [intOf]; omega
      · have d1 : decide (y.author = x.author) = false := decide_eq_false h1
        have b1 : (y.author == x.author) = false := by simpa using h1
        have HR : Hid (p = false) := Lib.hid (by rw [HO2.out, d1]; simp)
        clear h1
        go_wp2
        go_roundw
        case rel => exact ⟨k + 1, by omega, by go_num, HGO.out HR.out, HG2.out, HB2.out⟩
        case measure => simp [intOf]; omega
    · obtain rfl : k = l.length := by omega
      have HT : Hid (l.any (rReplD x) = false) := Lib.hid (by rw [← hor, List.take_length])
      have HR : Hid (r = decide (x.signs ≠ 0)) := Lib.hid (by rw [HO.out, HT.out]; rfl)
      have hcc := hfr.cell
      have HG := Lib.hid hgr
      clear hor hA hgr hfr hg hf
      have HR2 : Hid ((x.signs != 0) = r) := Lib.hid (by rw [HR.out]; by_cases h : x.signs = 0 <;> simp [h])
      go_wp2
      go_ret
      exact ⟨ret_bool HR2.out, HG.out⟩

end Go.Proofs.Ytinlojealfbbfaa
