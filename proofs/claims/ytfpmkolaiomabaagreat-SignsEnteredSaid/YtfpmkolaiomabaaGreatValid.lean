/- signs.validForm, and the slices' functions that it calls. -/
import Derived.Test.YtfpmkolaiomabaaGreatForms
namespace Go.Proofs.YtfpmkolaiomabaaGreat
open Go.RowKit

set_option maxHeartbeats 400000 in
theorem validMove_any (x : Int) (w : World) :
    Calls Tryz.prog 82 #[.int .i64 x] w fun e w' => e = .returned (.bool (inB x 0 7)) ∧ w = w' := by
  go_enter Tryz.func82, Tryz.ntmps82
  go_wp2_with (first | (go_at_call 81; refine (within_any _ _ _ _).mono ?_; rintro e w' ⟨rfl, rfl⟩))
  go_ret
  exact ⟨rfl, rfl⟩

set_option maxHeartbeats 400000 in
theorem indexFuncInt_any (A : Option Addr) (cap B : Nat) (xs : List Int) (w : World) (hA : Ints w B A xs) (hl : xs.length ≤ 1000000) (c : Value) (q : Int → Bool)
    (hp : ∀ x, Calls Tryz.prog 104 #[.int .i64 x, c] w fun e w' => e = .returned (.bool (q x)) ∧ w = w') :
    Calls Tryz.prog 126 #[.slice A xs.length cap, .func (.func 104) #[] #[c]] w (IndexPost (xs.any q) w) := by
  have HP := Lib.hid hp
  clear hp
  go_enter Tryz.func126, Tryz.ntmps126
  go_wp2
  go_loop [8] (fun i => ∃ k : Nat, k ≤ xs.length ∧ i = .int .i64 k ∧ (xs.take k).any q = false) (fun i => xs.length - (intOf i).toNat)
  case atStart => exact ⟨0, Nat.zero_le _, rfl, rfl⟩
  case round =>
    obtain ⟨k, hk, rfl, hor⟩ := hrel
    by_cases hlt : k < xs.length
    · obtain ⟨b, off, x, rfl, hb, hc, HX⟩ := hA.at_ hlt
      have HT := Lib.hid (any_take_succ q HX.out hor)
      clear hA hor
      go_wp2_with (first | (go_at_call 104; refine (HP.out _).mono ?_; rintro e w' ⟨rfl, rfl⟩))
      · go_ret
        exact ⟨k, by rw [any_of_take q (by rw [HT.out]; assumption)]; simp, rfl, rfl⟩
      · go_round
        case rel => exact ⟨k + 1, by omega, by go_num, by rw [HT.out]; assumption⟩
        case measure => simp [intOf]; omega
    · obtain rfl : k = xs.length := by omega
      have HO := Lib.hid hor
      clear hor hA
      go_wp2
      go_ret
      exact ⟨-1, by have := HO.out; rw [List.take_length] at this; rw [this]; rfl, rfl, rfl⟩

set_option maxHeartbeats 400000 in
theorem containsFuncInt_any (A : Option Addr) (cap B : Nat) (xs : List Int) (w : World) (hA : Ints w B A xs) (hl : xs.length ≤ 1000000) (c : Value) (q : Int → Bool)
    (hp : ∀ x, Calls Tryz.prog 104 #[.int .i64 x, c] w fun e w' => e = .returned (.bool (q x)) ∧ w = w') :
    Calls Tryz.prog 103 #[.slice A xs.length cap, .func (.func 104) #[] #[c]] w fun e w' => e = .returned (.bool (xs.any q)) ∧ w = w' := by
  have HI := Lib.hid (indexFuncInt_any A cap B xs w hA hl c q hp)
  clear hp hA
  go_enter Tryz.func103, Tryz.ntmps103
  go_wp2_with (first | (go_at_call 126; refine HI.out.mono ?_; rintro e w' ⟨n, hn, rfl, rfl⟩; have HN := Lib.hid hn; clear hn))
  go_ret
  exact ⟨ret_bool HN.out, rfl⟩

set_option maxHeartbeats 400000 in
theorem allOf1_any (x : Int) (b : Nat) (g : Nat) (q : Int → Bool) (w : World) (hc : w.cell? ⟨b, 0, none⟩ = some (.func (.func g) #[] #[]))
    (eg : ∀ args w, (callFunc g args).run Tryz.prog w = .ok (.enter g args) w)
    (hq : Calls Tryz.prog g #[.int .i64 x] w fun e w' => e = .returned (.bool (q x)) ∧ w = w') :
    Calls Tryz.prog 104 #[.int .i64 x, .pointer (some ⟨b, 0, none⟩)] w fun e w' => e = .returned (.bool (!q x)) ∧ w = w' := by
  have HQ := Lib.hid hq
  clear hq
  go_enter Tryz.func104, Tryz.ntmps104
  go_wp2_with (first | (refine HQ.out.mono ?_; rintro e w' ⟨rfl, rfl⟩))
  go_ret
  exact ⟨rfl, rfl⟩

set_option maxHeartbeats 400000 in
theorem allOfInt_any (A : Option Addr) (cap B : Nat) (xs : List Int) (m : Int) (w : World) (hA : Ints w B A xs) (hl : xs.length ≤ 1000000) (hB : B ≤ w.heap.size) (g : Nat) (q : Int → Bool)
    (eg : ∀ args w, (callFunc g args).run Tryz.prog w = .ok (.enter g args) w)
    (hq : ∀ x w, Calls Tryz.prog g #[.int .i64 x] w fun e w' => e = .returned (.bool (q x)) ∧ w = w') :
    Calls Tryz.prog 83 #[.slice A xs.length cap, .int .i64 m, .func (.func g) #[] #[]] w fun e w' => e = .returned (.bool (decide ((xs.length : Int) ≤ m) && xs.all q)) ∧ Below w.heap.size w w' := by
  have hb : Below w.heap.size w (w.alloc (.cells #[.func (.func g) #[] #[]] 110)) := (Below.refl _ _).alloc (Nat.le_refl _) _
  have hC := containsFuncInt_any A cap w.heap.size xs _ ((hA.more hB).below hb) hl (.pointer (some ⟨w.heap.size, 0, none⟩)) (fun x => !q x)
    (fun x => allOf1_any x w.heap.size g q _ (by simp) eg (hq x _))
  have HC := Lib.hid hC
  clear hC hA hq
  go_enter Tryz.func83, Tryz.ntmps83
  go_wp2_with (first | (go_at_call 103; refine HC.out.mono ?_; rintro e w' ⟨rfl, rfl⟩))
  all_goals go_ret
  all_goals refine ⟨ret_bool ?_, by (repeat (first | (with_reducible exact Below.refl _ _) | (with_reducible assumption) | (with_reducible refine Below.drewN_ ?_ _) | (with_reducible refine Below.drew ?_) | (with_reducible refine Below.alloc ?_ (by first | omega | (simp <;> omega)) _) | (with_reducible refine Below.setCell ?_ (by first | omega | (simp <;> omega)) _)))⟩
  · simp [List.not_any_eq_all_not, *]
  · have h : decide ((xs.length : Int) ≤ m) = false := by simp; omega
    rw [h]; rfl

set_option maxHeartbeats 800000 in
theorem validForm_any (f : FormD) (A : Option Addr) (cap B : Nat) (w : World) (hA : Ints w B A f.moves) (hl : f.moves.length ≤ 1000000) (hB : B ≤ w.heap.size) :
    Calls Tryz.prog 49 #[formV f A cap] w fun e w' => e = .returned (.bool (okForm f)) ∧ Below w.heap.size w w' := by
  obtain ⟨r, l, c, row, face, ms⟩ := f
  dsimp only at *
  have hA1 := (hA.more hB).below ((Below.refl _ _).alloc (Nat.le_refl _) (.cells #[.int .i64 r, .int .i64 l, .int .i64 c, .int .i64 row, .int .i64 face, .slice A ms.length cap] 24))
  clear hA
  have HC := Lib.hid (allOfInt_any A cap w.heap.size ms 6 _ hA1 hl (by simp) 82 (fun d => inB d 0 7) (fun _ _ => by kernel_rfl) (fun x w => validMove_any x w))
  go_enter Tryz.func49, Tryz.ntmps49
  go_wp2_with (first
    | (go_at_call 81; refine (within_any _ _ _ _).mono ?_; rintro e w' ⟨rfl, rfl⟩)
    | (go_at_call 83; refine HC.out.mono ?_; rintro e w1 ⟨rfl, hb1⟩; have hb2 := hb1.mono (B' := w.heap.size) (by simp)))
  all_goals go_ret
  all_goals refine ⟨ret_bool ?_, ?_⟩
  all_goals first
    | ((repeat (first | (with_reducible exact Below.refl _ _) | (with_reducible assumption) | (with_reducible refine Below.drewN_ ?_ _) | (with_reducible refine Below.drew ?_) | (with_reducible refine Below.alloc ?_ (by first | omega | (simp <;> omega)) _) | (with_reducible refine Below.setCell ?_ (by first | omega | (simp <;> omega)) _))); done)
    | (exact Below.trans (by (repeat (first | (with_reducible exact Below.refl _ _) | (with_reducible assumption) | (with_reducible refine Below.drewN_ ?_ _) | (with_reducible refine Below.drew ?_) | (with_reducible refine Below.alloc ?_ (by first | omega | (simp <;> omega)) _) | (with_reducible refine Below.setCell ?_ (by first | omega | (simp <;> omega)) _)))) hb2)
    | (clear HC hA1
       simp only [okForm, movesOk]
       generalize (ms.all fun d => inB d 0 7) = M
       cases M <;> simp [inB] at * <;> (first | omega | (rw [Bool.eq_iff_iff]; simp; omega)))

end Go.Proofs.YtfpmkolaiomabaaGreat
