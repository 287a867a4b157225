/- Whether a form is valid: the program's answer and the specification's. -/
import Derived.Test.YtjpnblflenlnaaaGreatForms
namespace Go.Proofs.YtjpnblflenlnaaaGreat
open Go.RowKit

set_option maxHeartbeats 400000 in
theorem IsForm_any (f : FormD) (A : Option Addr) (cap B : Nat) (w : World) (hA : Ints w B A f.moves) (hl : f.moves.length ≤ 1000000) (hB : B ≤ w.heap.size) :
    Calls Tryz.prog 40 #[formV f A cap] w fun e w' => e = .returned (.bool (okForm f)) ∧ Below w.heap.size w w' := by
  obtain ⟨r, l, c, row, face, ms⟩ := f
  dsimp only at *
  have hA1 := (hA.more hB).below ((Below.refl _ _).alloc (Nat.le_refl _) (.cells #[.int .i64 r, .int .i64 l, .int .i64 c, .int .i64 row, .int .i64 face, .slice A ms.length cap] 24))
  clear hA
  go_enter Tryz.func40, Tryz.ntmps40
  go_wp2
  go_loop [3] (fun i => ∃ k : Nat, k ≤ ms.length ∧ i = .int .i64 k ∧ movesOk (ms.take k) = true) (fun i => ms.length - (intOf i).toNat)
  case atStart => exact ⟨0, Nat.zero_le _, rfl, rfl⟩
  case round =>
    obtain ⟨k, hk, rfl, hmk⟩ := hrel
    by_cases hlt : k < ms.length
    · obtain ⟨b, off, x, rfl, hb, hc, HX⟩ := hA1.at_ hlt
      have HM := Lib.hid (movesOk_take HX.out hmk)
      clear hA1 hmk
      go_wp2_with (first | (go_at_call 78; refine (rwithin_any _ _ _ _).mono ?_; rintro e w' ⟨rfl, rfl⟩))
      · go_ret
        exact ⟨ret_bool (by
          have h1 : inB x 0 7 = false := by simpa using ‹(!inB x 0 7) = true›
          have h2 := movesOk_false ms (k + 1) (by rw [HM.out]; exact h1)
          simp [okForm, h2]), by (repeat (first | (with_reducible exact Below.refl _ _) | (with_reducible assumption) | (with_reducible refine Below.drewN_ ?_ _) | (with_reducible refine Below.drew ?_) | (with_reducible refine Below.alloc ?_ (by first | omega | (simp <;> omega)) _) | (with_reducible refine Below.setCell ?_ (by first | omega | (simp <;> omega)) _)))⟩
      · go_round
        case rel => exact ⟨k + 1, by omega, by go_num, by rw [HM.out]; simpa using ‹(!inB x 0 7) = false›⟩
        case measure => simp [intOf]; omega
    · obtain rfl : k = ms.length := by omega
      have HM := Lib.hid hmk
      clear hmk hA1
      go_wp2_with (first | (go_at_call 78; refine (rwithin_any _ _ _ _).mono ?_; rintro e w' ⟨rfl, rfl⟩))
      all_goals go_ret
      all_goals refine ⟨ret_bool ?_, ?_⟩
      all_goals first
        | (repeat (first | (with_reducible exact Below.refl _ _) | (with_reducible assumption) | (with_reducible refine Below.drewN_ ?_ _) | (with_reducible refine Below.drew ?_) | (with_reducible refine Below.alloc ?_ (by first | omega | (simp <;> omega)) _) | (with_reducible refine Below.setCell ?_ (by first | omega | (simp <;> omega)) _))); done
        | (have h := HM.out; rw [List.take_length] at h; simp [okForm, *]; done)
        | (have h := HM.out; rw [List.take_length] at h; have hw := wrap_hands ‹inB r (-1) 31 = true› ‹inB l (-1) 31 = true›; have hq : r + l ≤ -2 := by (rw [← hw]; assumption)
           have hq2 : decide (-2 < r + l) = false := by simp; omega
           simp [okForm, hq2]; done)
        | (have h := HM.out; rw [List.take_length] at h; have hw := wrap_hands ‹inB r (-1) 31 = true› ‹inB l (-1) 31 = true›; have hq : -2 < r + l := by (rw [← hw]; assumption)
           have hq2 : decide (-2 < r + l) = true := by simp; omega
           simp [okForm, *]; done)
        | (have h := HM.out; rw [List.take_length] at h; have hw := wrap_hands ‹inB r (-1) 31 = true› ‹inB l (-1) 31 = true›; have hq : -2 < r + l := by (rw [← hw]; assumption)
           simp [okForm, *]; omega)

end Go.Proofs.YtjpnblflenlnaaaGreat
