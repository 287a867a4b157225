/- RFilms: the specification's AreAuthors and checkFilms. -/
import Derived.Test.YtinlojealfbbfaaROver
namespace Go.Proofs.Ytinlojealfbbfaa
open Go.RowKit

def rAuthD (a b : Int) : Bool := (inB a 0 7 && inB b 0 7) && decide (a ≠ b)

set_option maxHeartbeats 800000 in
theorem rAre_any (a b : Int) (w : World) :
    Calls Try.prog 29 #[.int .i64 a, .int .i64 b] w fun e w' => e = .returned (.bool (rAuthD a b)) ∧ w = w' := by
  have HA := Lib.hid (fun w0 => rwithin_any a 0 7 w0)
  have HB := Lib.hid (fun w0 => rwithin_any b 0 7 w0)
  have HO : Hid (rAuthD a b = ((inB a 0 7 && inB b 0 7) && decide (a ≠ b))) := rfl
  have HN : Hid ((a != b) = decide (a ≠ b)) := Lib.hid (by by_cases h : a = b <;> simp [h])
  generalize rAuthD a b = r at HO ⊢
  generalize inB a 0 7 = x at HA HO
  generalize inB b 0 7 = y at HB HO
  go_enter Try.func29, Try.ntmps29
  cases x
  · go_wp2_with fail
    refine (HA.out _).mono ?_
    rintro e w2 ⟨rfl, rfl⟩
    go_wp2
    go_ret
    exact ⟨ret_bool (by rw [HO.out]; rfl), rfl⟩
  · go_wp2_with fail
    refine (HA.out _).mono ?_
    rintro e w2 ⟨rfl, rfl⟩
    cases y
    · go_wp2_with fail
      refine (HB.out _).mono ?_
      rintro e w2 ⟨rfl, rfl⟩
      go_wp2
      go_ret
      exact ⟨ret_bool (by rw [HO.out]; rfl), rfl⟩
    · go_wp2_with fail
      refine (HB.out _).mono ?_
      rintro e w2 ⟨rfl, rfl⟩
      go_wp2
      go_ret
      exact ⟨ret_bool (by rw [HO.out, ← HN.out]; rfl), rfl⟩

set_option maxRecDepth 100000 in
set_option maxHeartbeats 2000000 in
theorem rFilms_any (f : FilmsR) (n : Nat) (w : World) (hf : Ints w n f.A f.d.frames) (hn : n ≤ w.heap.size) (hl : f.d.frames.length ≤ 1000000) :
    Calls Try.prog 53 #[filmsV f] w fun e w' => e = .returned (.bool (okFilms f.d)) ∧ Below w.heap.size w w' := by
  obtain ⟨⟨frames, signs⟩, A, ca⟩ := f
  dsimp only at hf hl
  have HI := Lib.hid (hf.more hn)
  have HO : Hid (okFilms ⟨frames, signs⟩ = ((inB frames.length 1 4 && inB signs 1 10) && frames.all fun n => inB n 1 200)) := rfl
  have HA := Lib.hid (fun w0 => rwithin_any frames.length 1 4 w0)
  have HB := Lib.hid (fun w0 => rwithin_any signs 1 10 w0)
  have HC := Lib.hid (fun (x : Int) w0 => rwithin_any x 1 200 w0)
  dsimp only
  generalize okFilms ⟨frames, signs⟩ = r at HO ⊢
  generalize inB frames.length 1 4 = a at HO HA
  generalize inB signs 1 10 = b at HO HB
  have HQ : Hid (∀ x : Int, (fun n => inB n 1 200) x = inB x 1 200) := Lib.hid (fun _ => rfl)
  generalize (fun n => inB n 1 200) = q at HO HQ
  clear hf hn
  go_enter Try.func53, Try.ntmps53
  go_upto_region 1 with fail
  obtain ⟨W, hW, hg, hf, hsz⟩ := one_block w 24 (cellsF ⟨⟨frames, signs⟩, A, ca⟩)
  rw [hW]
  clear hW
  have hcc := hf.cell
  have HG := Lib.hid hg
  have hA := HI.out.below hg
  clear hf hg
  go_wp2
  go_loop [3] (fun i => ∃ k : Nat, k ≤ frames.length ∧ i = .int .i64 k ∧ (frames.take k).all q = true) (fun i => frames.length - (intOf i).toNat)
  case atStart => exact ⟨0, Nat.zero_le _, rfl, rfl⟩
  case round =>
    obtain ⟨k, hk, rfl, hor⟩ := hrel
    by_cases hlt : k < frames.length
    · obtain ⟨bb, off, x, rfl, hb, hc, HX⟩ := hA.at_ hlt
      have HT : Hid ((frames.take (k + 1)).all q = inB x 1 200) := Lib.hid (by rw [all_take_succ q HX.out hor]; exact HQ.out x)
      have HCX := Lib.hid (fun w0 => HC.out x w0)
      clear hA hor
      generalize inB x 1 200 = c at HT HCX
      go_wp2_with fail
      refine (HCX.out _).mono ?_
      rintro e w2 ⟨rfl, rfl⟩
      cases c
      · have HF : Hid (r = false) := Lib.hid (by rw [HO.out, all_of_take q HT.out]; simp)
        go_wp2
        go_ret
        exact ⟨ret_bool HF.out.symm, HG.out⟩
      · go_wp2
        go_round
        case rel => exact ⟨k + 1, by omega, by go_num, HT.out⟩
        case measure => simp [intOf]; omega
    · obtain rfl : k = frames.length := by omega
      rw [List.take_length] at hor
      have HF : Hid (r = (a && b)) := Lib.hid (by rw [HO.out, hor, Bool.and_true])
      clear hor hA
      cases a
      · go_wp2_with fail
        refine (HA.out _).mono ?_
        rintro e w2 ⟨rfl, rfl⟩
        go_wp2
        go_ret
        exact ⟨ret_bool (by rw [HF.out]; rfl), HG.out⟩
      · go_wp2_with fail
        refine (HA.out _).mono ?_
        rintro e w2 ⟨rfl, rfl⟩
        go_wp2_with fail
        refine (HB.out _).mono ?_
        rintro e w2 ⟨rfl, rfl⟩
        go_wp2
        go_ret
        exact ⟨ret_bool (by rw [HF.out]; rfl), HG.out⟩

end Go.Proofs.Ytinlojealfbbfaa
