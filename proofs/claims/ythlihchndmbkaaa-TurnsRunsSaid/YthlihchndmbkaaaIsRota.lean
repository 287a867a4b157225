/- IsRota: the specification's IsRota and IsRight. -/
import Derived.Test.YthlihchndmbkaaaLawFar
import Derived.Test.YthlihchndmbkaaaIsRightM
namespace Go.Proofs.Ythlihchndmbkaaa
open Go.RowKit

theorem quiet_same {P : Program} {f : FuncId} {args : Array Value} {w : World} {n : Nat} {v : Value} (h : Calls P f args (w.drewN n) fun e w' => e = .returned v ∧ w.drewN n = w') :
    Calls P f args (w.drewN n) fun e w' => e = .returned v ∧ ∃ k, w' = (w.drewN n).drewN k := h.mono fun _ _ ⟨h1, h2⟩ => ⟨h1, 0, h2.symm⟩

set_option maxRecDepth 100000 in
set_option maxHeartbeats 4000000 in
theorem isRota_any (t : TaskR) (xs : List Int) (A1 : Option Addr) (c1 n : Nat) (w : World) (h1 : Ints w n A1 xs) (hn : n ≤ w.heap.size) (hl : xs.length ≤ 20) (hh : t.d.hands.length ≤ 3) :
    Calls Try.prog 14 #[taskV t, .slice A1 xs.length c1] w fun e w' => e = .returned (.bool (okRota t.d xs)) ∧ Below w.heap.size w w' := by
  have HI := Lib.hid (h1.more hn)
  clear h1 hn
  obtain ⟨⟨hs, ps, limit, rest, swap⟩, A, ca, B, cb⟩ := t
  dsimp only at hh
  have HO : Hid (okRota ⟨hs, ps, limit, rest, swap⟩ xs = (decide (xs.length = ps.length) && xs.all fun x => inB x 0 ((hs.length : Int) - 1))) := rfl
  generalize okRota ⟨hs, ps, limit, rest, swap⟩ xs = ok at HO ⊢
  go_enter Try.func14, Try.ntmps14
  go_upto_region 1 with fail
  obtain ⟨W, hW, hg, hf, hsz⟩ := one_block w 25 (cellsT ⟨⟨hs, ps, limit, rest, swap⟩, A, ca, B, cb⟩)
  rw [hW]
  clear hW
  have hcc := hf.cell
  have HG := Lib.hid hg
  have HIW := Lib.hid (HI.out.below hg)
  clear hf hg
  go_wp2_with fail
  go_loopw [5] (fun iv wr => ∃ k q : Nat, k ≤ xs.length ∧ iv = .int .i64 k ∧ (xs.take k).all (fun x => inB x 0 ((hs.length : Int) - 1)) = true ∧ wr = W.drewN q) (fun i _ => xs.length - (intOf i).toNat)
  case atStart => exact ⟨0, 0, Nat.zero_le _, rfl, rfl, rfl⟩
  case round =>
    obtain ⟨k, q, hk, rfl, hall, rfl⟩ := hrel
    have HALL := Lib.hid hall
    clear hall
    have hcq : ∀ j, (W.drewN q).cell? ⟨w.heap.size, j, none⟩ = (cellsT ⟨⟨hs, ps, limit, rest, swap⟩, A, ca, B, cb⟩)[j]? := hcc
    by_cases hlt : k < xs.length
    · obtain ⟨b, off, y, hAe, hb, hcy, HY⟩ := HIW.out.at_ hlt
      have hki : (k : Int) < xs.length := by omega
      have hk0 : (0 : Int) ≤ (k : Int) := by omega
      subst hAe
      have HN : Hid ((xs.take (k + 1)).all (fun x => inB x 0 ((hs.length : Int) - 1)) = inB y 0 ((hs.length : Int) - 1)) := Lib.hid (by rw [take_snoc HY.out, List.all_append, HALL.out, Bool.true_and]; simp)
      have HNO : Hid (inB y 0 ((hs.length : Int) - 1) = false → ok = false) := fun h => by
        have : (xs.all fun x => inB x 0 ((hs.length : Int) - 1)) = false := List.all_eq_false.2 ⟨_, List.mem_of_getElem? HY.out, by rw [h]; simp⟩
        rw [HO.out, this, Bool.and_false]
      have HW := Lib.hid (fun w0 => rwithin_any y 0 ((hs.length : Int) - 1) w0)
      generalize inB y 0 ((hs.length : Int) - 1) = oy at HN HNO HW
      clear hb hlt
      go_upto_region 4 with fail
      cases oy
      · have HF0 : Hid (ok = false) := Lib.hid (HNO.out rfl)
        go_quiet ((go_at_call 42; exact quiet_left_add (HW.out _)))
        go_wp2
        go_ret
        exact ⟨ret_bool HF0.out.symm, HG.out.trans (Below.drewN_ (Below.refl _ _) _)⟩
      · go_quiet ((go_at_call 42; exact quiet_left_add (HW.out _)))
        go_wp2
        go_roundw
        case rel => exact ⟨k + 1, _, by omega, by go_num, HN.out, rfl⟩
        case measure => simp [intOf]; omega
    · obtain rfl : k = xs.length := by omega
      have HA : Hid ((xs.all fun x => inB x 0 ((hs.length : Int) - 1)) = true) := Lib.hid (by have := HALL.out; rwa [List.take_length] at this)
      by_cases hlen : xs.length = ps.length
      · have hq : decide ((xs.length : Int) = (ps.length : Int)) = true := decide_eq_true (by omega)
        have hq2 : ((xs.length : Int) == (ps.length : Int)) = true := by simpa using hq
        have HF1 : Hid (ok = true) := Lib.hid (by rw [HO.out, HA.out, decide_eq_true hlen]; rfl)
        clear hlen
        go_wp2
        go_ret
        exact ⟨ret_bool HF1.out.symm, HG.out.trans (Below.drewN_ (Below.refl _ _) _)⟩
      · have hq : decide ((xs.length : Int) = (ps.length : Int)) = false := decide_eq_false (by omega)
        have hq2 : ((xs.length : Int) == (ps.length : Int)) = false := by simpa using hq
        have HF1 : Hid (ok = false) := Lib.hid (by rw [HO.out, decide_eq_false hlen]; rfl)
        clear hlen
        go_wp2
        go_ret
        exact ⟨ret_bool HF1.out.symm, HG.out.trans (Below.drewN_ (Below.refl _ _) _)⟩

end Go.Proofs.Ythlihchndmbkaaa
