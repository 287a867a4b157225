/- Slices: slices.IndexFunc and slices.ContainsFunc. -/
import Derived.Test.YthlihchndmbkaaaCourse
namespace Go.Proofs.Ythlihchndmbkaaa
open Go.RowKit

set_option maxHeartbeats 800000 in
theorem indexInt0_any (A : Option Addr) (cap B : Nat) (xs : List Int) (w : World) (hA : Ints w B A xs) (hl : xs.length ≤ 1000000) (g : Nat) (q : Int → Bool) (eg : ∀ args w, (callFunc g args).run Try.prog w = .ok (.enter g args) w)
    (hp : ∀ x, Calls Try.prog g #[.int .i64 x] w fun e w' => e = .returned (.bool (q x)) ∧ w = w') :
    Calls Try.prog 79 #[.slice A xs.length cap, .func (.func g) #[] #[]] w (IndexPost (xs.any q) w) := by
  have HP := Lib.hid hp
  clear hp
  go_enter Try.func79, Try.ntmps79
  go_wp2
  go_loop [8] (fun i => ∃ k : Nat, k ≤ xs.length ∧ i = .int .i64 k ∧ (xs.take k).any q = false) (fun i => xs.length - (intOf i).toNat)
  case atStart => exact ⟨0, Nat.zero_le _, rfl, rfl⟩
  case round =>
    obtain ⟨k, hk, rfl, hor⟩ := hrel
    by_cases hlt : k < xs.length
    · obtain ⟨b, off, x, rfl, hb, hc, HX⟩ := hA.at_ hlt
      have HT := Lib.hid (any_take_succ q HX.out hor)
      clear hA hor
      go_wp2_with (first | (refine (HP.out _).mono ?_; rintro e w' ⟨rfl, rfl⟩))
      · go_ret
        exact ⟨k, by rw [any_of_take q (by rw [HT.out]; assumption)]; simp, rfl, rfl⟩
      · go_round
        case rel => exact ⟨k + 1, by omega, by go_num, by rw [HT.out]; assumption⟩
        case measure => simp [intOf]; omega
    · obtain rfl : k = xs.length := by omega
      have HO := Lib.hid hor
      clear hor hA
      go_wp2
      go_ret
      exact ⟨-1, by have := HO.out; rw [List.take_length] at this; rw [this]; rfl, rfl, rfl⟩
set_option maxHeartbeats 800000 in
theorem containsInt0_any (A : Option Addr) (cap B : Nat) (xs : List Int) (w : World) (hA : Ints w B A xs) (hl : xs.length ≤ 1000000) (g : Nat) (q : Int → Bool) (eg : ∀ args w, (callFunc g args).run Try.prog w = .ok (.enter g args) w)
    (hp : ∀ x, Calls Try.prog g #[.int .i64 x] w fun e w' => e = .returned (.bool (q x)) ∧ w = w') :
    Calls Try.prog 66 #[.slice A xs.length cap, .func (.func g) #[] #[]] w fun e w' => e = .returned (.bool (xs.any q)) ∧ w = w' := by
  have HI := Lib.hid (indexInt0_any A cap B xs w hA hl g q eg hp)
  clear hp hA eg
  go_enter Try.func66, Try.ntmps66
  go_wp2_with (first | (go_at_call 79; refine HI.out.mono ?_; rintro e w' ⟨n, hn, rfl, rfl⟩; have HN := Lib.hid hn; clear hn))
  go_ret
  exact ⟨ret_bool HN.out, rfl⟩

set_option maxHeartbeats 800000 in
theorem indexInt1_any (A : Option Addr) (cap B : Nat) (xs : List Int) (w : World) (hA : Ints w B A xs) (hl : xs.length ≤ 1000000) (g : Nat) (c : Value) (q : Int → Bool) (eg : ∀ args w, (callFunc g args).run Try.prog w = .ok (.enter g args) w)
    (hp : ∀ x, Calls Try.prog g #[.int .i64 x, c] w fun e w' => e = .returned (.bool (q x)) ∧ w = w') :
    Calls Try.prog 79 #[.slice A xs.length cap, .func (.func g) #[] #[c]] w (IndexPost (xs.any q) w) := by
  have HP := Lib.hid hp
  clear hp
  go_enter Try.func79, Try.ntmps79
  go_wp2
  go_loop [8] (fun i => ∃ k : Nat, k ≤ xs.length ∧ i = .int .i64 k ∧ (xs.take k).any q = false) (fun i => xs.length - (intOf i).toNat)
  case atStart => exact ⟨0, Nat.zero_le _, rfl, rfl⟩
  case round =>
    obtain ⟨k, hk, rfl, hor⟩ := hrel
    by_cases hlt : k < xs.length
    · obtain ⟨b, off, x, rfl, hb, hc, HX⟩ := hA.at_ hlt
      have HT := Lib.hid (any_take_succ q HX.out hor)
      clear hA hor
      go_wp2_with (first | (refine (HP.out _).mono ?_; rintro e w' ⟨rfl, rfl⟩))
      · go_ret
        exact ⟨k, by rw [any_of_take q (by rw [HT.out]; assumption)]; simp, rfl, rfl⟩
      · go_round
        case rel => exact ⟨k + 1, by omega, by go_num, by rw [HT.out]; assumption⟩
        case measure => simp [intOf]; omega
    · obtain rfl : k = xs.length := by omega
      have HO := Lib.hid hor
      clear hor hA
      go_wp2
      go_ret
      exact ⟨-1, by have := HO.out; rw [List.take_length] at this; rw [this]; rfl, rfl, rfl⟩
set_option maxHeartbeats 800000 in
theorem containsInt1_any (A : Option Addr) (cap B : Nat) (xs : List Int) (w : World) (hA : Ints w B A xs) (hl : xs.length ≤ 1000000) (g : Nat) (c : Value) (q : Int → Bool) (eg : ∀ args w, (callFunc g args).run Try.prog w = .ok (.enter g args) w)
    (hp : ∀ x, Calls Try.prog g #[.int .i64 x, c] w fun e w' => e = .returned (.bool (q x)) ∧ w = w') :
    Calls Try.prog 66 #[.slice A xs.length cap, .func (.func g) #[] #[c]] w fun e w' => e = .returned (.bool (xs.any q)) ∧ w = w' := by
  have HI := Lib.hid (indexInt1_any A cap B xs w hA hl g c q eg hp)
  clear hp hA eg
  go_enter Try.func66, Try.ntmps66
  go_wp2_with (first | (go_at_call 79; refine HI.out.mono ?_; rintro e w' ⟨n, hn, rfl, rfl⟩; have HN := Lib.hid hn; clear hn))
  go_ret
  exact ⟨ret_bool HN.out, rfl⟩

set_option maxRecDepth 100000 in
set_option maxHeartbeats 2000000 in
theorem indexHand_any (A : Option Addr) (cap B : Nat) (l : List HandD) (w : World) (hA : HandsAt w B A l) (hl : l.length ≤ 1000000) (hB : B ≤ w.heap.size) (g : Nat) (q : HandD → Bool) (eg : ∀ args w, (callFunc g args).run Try.prog w = .ok (.enter g args) w)
    (hp : ∀ x w', Calls Try.prog g #[handV x] w' fun e w'' => e = .returned (.bool (q x)) ∧ Below w'.heap.size w' w'') :
    Calls Try.prog 84 #[.slice A l.length cap, .func (.func g) #[] #[]] w (IndexPostB (l.any q) w) := by
  have HP := Lib.hid hp
  clear hp
  go_enter Try.func84, Try.ntmps84
  go_wp2
  go_loopw [8] (fun i wr => ∃ k : Nat, k ≤ l.length ∧ i = .int .i64 k ∧ (l.take k).any q = false ∧ Grow w wr) (fun i _ => l.length - (intOf i).toNat)
  case atStart => exact ⟨0, Nat.zero_le _, rfl, rfl, Grow.refl _⟩
  case round =>
    obtain ⟨k, hk, rfl, hor, hg⟩ := hrel
    rename World => wr
    by_cases hlt : k < l.length
    · obtain ⟨b, off, x, rfl, hb, hc, HX⟩ := (hA.below (Below.mono hg hB)).at_ hlt
      have HT := Lib.hid (any_take_succ q HX.out hor)
      have HG := Lib.hid hg
      have e0 := hc 0 (by omega); have e1 := hc 1 (by omega); have e2 := hc 2 (by omega); have e3 := hc 3 (by omega); have e4 := hc 4 (by omega); have e5 := hc 5 (by omega); have e6 := hc 6 (by omega)
      rw [Nat.add_zero] at e0
      clear hA hor hg hc
      go_wp2_with fail
      refine (HP.out x wr).mono ?_
      rintro e w2 ⟨rfl, hb2⟩
      have HG2 := Lib.hid (HG.out.trans hb2)
      clear hb2
      go_wp2
      · go_ret
        exact ⟨k, by rw [any_of_take q (by rw [HT.out]; assumption)]; simp, rfl, HG2.out⟩
      · go_roundw
        case rel => exact ⟨k + 1, by omega, by go_num, by rw [HT.out]; assumption, HG2.out⟩
        case measure => simp [intOf]; omega
    · obtain rfl : k = l.length := by omega
      have HO := Lib.hid hor
      have HG := Lib.hid hg
      clear hor hA hg
      go_wp2
      go_ret
      exact ⟨-1, by have := HO.out; rw [List.take_length] at this; rw [this]; rfl, rfl, HG.out⟩
set_option maxHeartbeats 400000 in
theorem containsHand_any (A : Option Addr) (cap B : Nat) (l : List HandD) (w : World) (hA : HandsAt w B A l) (hl : l.length ≤ 1000000) (hB : B ≤ w.heap.size) (g : Nat) (q : HandD → Bool) (eg : ∀ args w, (callFunc g args).run Try.prog w = .ok (.enter g args) w)
    (hp : ∀ x w', Calls Try.prog g #[handV x] w' fun e w'' => e = .returned (.bool (q x)) ∧ Below w'.heap.size w' w'') :
    Calls Try.prog 77 #[.slice A l.length cap, .func (.func g) #[] #[]] w fun e w' => e = .returned (.bool (l.any q)) ∧ Below w.heap.size w w' := by
  have HI := Lib.hid (indexHand_any A cap B l w hA hl hB g q eg hp)
  clear hp hA eg
  go_enter Try.func77, Try.ntmps77
  go_wp2_with fail
  refine HI.out.mono ?_
  rintro e w' ⟨n, hn, rfl, hb⟩
  have HN := Lib.hid hn
  have HB := Lib.hid hb
  clear hn hb
  go_wp2
  go_ret
  exact ⟨ret_bool HN.out, HB.out⟩

end Go.Proofs.Ythlihchndmbkaaa
