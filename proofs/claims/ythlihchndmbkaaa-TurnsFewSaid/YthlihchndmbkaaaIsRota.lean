/- IsRota: the specification's IsRota and IsRight. IsRight: the specification's IsRight. -/
import Derived.Test.YthlihchndmbkaaaFar
import Derived.Test.YthlihchndmbkaaaBest
namespace Go.Proofs.Ythlihchndmbkaaa
open Go.RowKit

theorem quiet_same {P : Program} {f : FuncId} {args : Array Value} {w : World} {n : Nat} {v : Value} (h : Calls P f args (w.drewN n) fun e w' => e = .returned v ∧ w.drewN n = w') :
    Calls P f args (w.drewN n) fun e w' => e = .returned v ∧ ∃ k, w' = (w.drewN n).drewN k := h.mono fun _ _ ⟨h1, h2⟩ => ⟨h1, 0, h2.symm⟩

set_option maxRecDepth 100000 in
set_option maxHeartbeats 4000000 in
theorem isRota_any (t : TaskR) (xs : List Int) (A1 : Option Addr) (c1 n : Nat) (w : World) (h1 : Ints w n A1 xs) (hn : n ≤ w.heap.size) (hl : xs.length ≤ 20) (hh : t.d.hands.length ≤ 3) :
    Calls Try.prog 14 #[taskV t, .slice A1 xs.length c1] w fun e w' => e = .returned (.bool (okRota t.d xs)) ∧ Below w.heap.size w w' := by
  have HI := Lib.hid (h1.more hn)
  clear h1 hn
  obtain ⟨⟨hs, ps, limit, rest, swap⟩, A, ca, B, cb⟩ := t
  dsimp only at hh
  have HO : Hid (okRota ⟨hs, ps, limit, rest, swap⟩ xs = (decide (xs.length = ps.length) && xs.all fun x => inB x 0 ((hs.length : Int) - 1))) := rfl
  generalize okRota ⟨hs, ps, limit, rest, swap⟩ xs = ok at HO ⊢
  go_enter Try.func14, Try.ntmps14
  go_upto_region 1 with fail
  obtain ⟨W, hW, hg, hf, hsz⟩ := one_block w 25 (cellsT ⟨⟨hs, ps, limit, rest, swap⟩, A, ca, B, cb⟩)
  rw [hW]
  clear hW
  have hcc := hf.cell
  have HG := Lib.hid hg
  have HIW := Lib.hid (HI.out.below hg)
  clear hf hg
  go_wp2_with fail
  go_loopw [5] (fun iv wr => ∃ k q : Nat, k ≤ xs.length ∧ iv = .int .i64 k ∧ (xs.take k).all (fun x => inB x 0 ((hs.length : Int) - 1)) = true ∧ wr = W.drewN q) (fun i _ => xs.length - (intOf i).toNat)
  case atStart => exact ⟨0, 0, Nat.zero_le _, rfl, rfl, rfl⟩
  case round =>
    obtain ⟨k, q, hk, rfl, hall, rfl⟩ := hrel
    have HALL := Lib.hid hall
    clear hall
    have hcq : ∀ j, (W.drewN q).cell? ⟨w.heap.size, j, none⟩ = (cellsT ⟨⟨hs, ps, limit, rest, swap⟩, A, ca, B, cb⟩)[j]? := hcc
    by_cases hlt : k < xs.length
    · obtain ⟨b, off, y, hAe, hb, hcy, HY⟩ := HIW.out.at_ hlt
      have hki : (k : Int) < xs.length := by omega
      have hk0 : (0 : Int) ≤ (k : Int) := by omega
      subst hAe
      have HN : Hid ((xs.take (k + 1)).all (fun x => inB x 0 ((hs.length : Int) - 1)) = inB y 0 ((hs.length : Int) - 1)) := Lib.hid (by rw [take_snoc HY.out, List.all_append, HALL.out, Bool.true_and]; simp)
      have HNO : Hid (inB y 0 ((hs.length : Int) - 1) = false → ok = false) := fun h => by
        have : (xs.all fun x => inB x 0 ((hs.length : Int) - 1)) = false := List.all_eq_false.2 ⟨_, List.mem_of_getElem? HY.out, by rw [h]; simp⟩
        rw [HO.out, this, Bool.and_false]
      have HW := Lib.hid (fun w0 => rwithin_any y 0 ((hs.length : Int) - 1) w0)
      generalize inB y 0 ((hs.length : Int) - 1) = oy at HN HNO HW
      clear hb hlt
      go_upto_region 4 with fail
      cases oy
      · have HF0 : Hid (ok = false) := Lib.hid (HNO.out rfl)
        go_quiet ((go_at_call 42; exact quiet_left_add (HW.out _)))
        go_wp2
        go_ret
        exact ⟨ret_bool HF0.out.symm, HG.out.trans (Below.drewN_ (Below.refl _ _) _)⟩
      · go_quiet ((go_at_call 42; exact quiet_left_add (HW.out _)))
        go_wp2
        go_roundw
        case rel => exact ⟨k + 1, _, by omega, by go_num, HN.out, rfl⟩
        case measure => simp [intOf]; omega
    · obtain rfl : k = xs.length := by omega
      have HA : Hid ((xs.all fun x => inB x 0 ((hs.length : Int) - 1)) = true) := Lib.hid (by have := HALL.out; rwa [List.take_length] at this)
      by_cases hlen : xs.length = ps.length
      · have hq : decide ((xs.length : Int) = (ps.length : Int)) = true := decide_eq_true (by omega)
        have hq2 : ((xs.length : Int) == (ps.length : Int)) = true := by simpa using hq
        have HF1 : Hid (ok = true) := Lib.hid (by rw [HO.out, HA.out, decide_eq_true hlen]; rfl)
        clear hlen
        go_wp2
        go_ret
        exact ⟨ret_bool HF1.out.symm, HG.out.trans (Below.drewN_ (Below.refl _ _) _)⟩
      · have hq : decide ((xs.length : Int) = (ps.length : Int)) = false := decide_eq_false (by omega)
        have hq2 : ((xs.length : Int) == (ps.length : Int)) = false := by simpa using hq
        have HF1 : Hid (ok = false) := Lib.hid (by rw [HO.out, decide_eq_false hlen]; rfl)
        clear hlen
        go_wp2
        go_ret
        exact ⟨ret_bool HF1.out.symm, HG.out.trans (Below.drewN_ (Below.refl _ _) _)⟩

end Go.Proofs.Ythlihchndmbkaaa

namespace Go.Proofs.Ythlihchndmbkaaa
open Go.RowKit

theorem scanD_none {t : TaskD} {h : Int} {xs : List Int} {k : Nat} (hs : scanD t h (xs.take k) = none) : scanD t h xs = none := by
  have e : xs = xs.take k ++ xs.drop k := (List.take_append_drop k xs).symm
  rw [e]
  unfold scanD at *
  rw [List.foldl_append, hs]
  generalize xs.drop k = ys
  induction ys with
  | nil => rfl
  | cons y ys ih => rw [List.foldl_cons]; exact ih
set_option maxRecDepth 100000 in
set_option maxHeartbeats 8000000 in
theorem isRight_any (t : TaskR) (xs : List Int) (A1 : Option Addr) (c1 n : Nat) (w : World) (h1 : Ints w n A1 xs) (hn : n ≤ w.heap.size) (hl : xs.length ≤ 20) (hh : t.d.hands.length ≤ 3) (hrest : 0 ≤ t.d.rest ∧ t.d.rest ≤ 10) :
    Calls Try.prog 15 #[taskV t, .slice A1 xs.length c1] w fun e w' => e = .returned (.bool (isRightD t.d xs)) ∧ Below w.heap.size w w' := by
  have HI := Lib.hid (h1.more hn)
  clear h1 hn
  obtain ⟨⟨hs, ps, limit, rest, swap⟩, A, ca, B, cb⟩ := t
  dsimp only at hh hrest
  have HO : Hid (isRightD ⟨hs, ps, limit, rest, swap⟩ xs = (List.range hs.length).all fun h => (scanD ⟨hs, ps, limit, rest, swap⟩ (h : Int) xs).isSome) := rfl
  generalize isRightD ⟨hs, ps, limit, rest, swap⟩ xs = ok at HO ⊢
  have HBAD : Hid (∀ h : Nat, h < hs.length → ∀ k, k < xs.length → scanD ⟨hs, ps, limit, rest, swap⟩ (h : Int) (xs.take (k + 1)) = none → ok = false) := fun h hh' k _ hn => by
    rw [HO.out]
    exact List.all_eq_false.2 ⟨h, List.mem_range.2 hh', by rw [scanD_none hn]; simp⟩
  go_enter Try.func15, Try.ntmps15
  go_upto_region 1 with fail
  obtain ⟨W, hW, hg, hf, hsz⟩ := one_block w 25 (cellsT ⟨⟨hs, ps, limit, rest, swap⟩, A, ca, B, cb⟩)
  rw [hW]
  clear hW
  have hcc := hf.cell
  have HG := Lib.hid hg
  have HIW := Lib.hid (HI.out.below hg)
  clear hf hg
  go_wp2_with fail
  go_loopw [5] (fun hv wr => ∃ h q : Nat, h ≤ hs.length ∧ hv = .int .i64 h ∧ ((List.range h).all fun h => (scanD ⟨hs, ps, limit, rest, swap⟩ (h : Int) xs).isSome) = true ∧ wr = W.drewN q) (fun i _ => hs.length - (intOf i).toNat)
  case atStart => exact ⟨0, 0, Nat.zero_le _, rfl, rfl, rfl⟩
  case round =>
    obtain ⟨h, q, hk, rfl, hall, rfl⟩ := hrel
    have HALL := Lib.hid hall
    clear hall
    have hcq : ∀ j, (W.drewN q).cell? ⟨w.heap.size, j, none⟩ = (cellsT ⟨⟨hs, ps, limit, rest, swap⟩, A, ca, B, cb⟩)[j]? := hcc
    by_cases hlt : h < hs.length
    · have HLTH := Lib.hid hlt
      go_upto_region 4 with fail
      go_quiet (fail)
      go_upto_region 6 with fail
      go_loopw [6, 7, 8] (fun rv sv iv wi => ∃ (k : Nat) (row rst : Int) (q' : Nat), k ≤ xs.length ∧ iv = .int .i64 k ∧ rv = .int .i64 row ∧ sv = .int .i64 rst ∧ scanD ⟨hs, ps, limit, rest, swap⟩ (h : Int) (xs.take k) = some (row, rst) ∧ (0 ≤ row ∧ row ≤ k) ∧ (0 ≤ rst ∧ rst ≤ 10 + (k : Int)) ∧ wi = W.drewN q') (fun _ _ i _ => xs.length - (intOf i).toNat)
      case atStart => exact ⟨0, 0, rest, _, Nat.zero_le _, rfl, rfl, rfl, rfl, by omega, by omega, World.drewN_drewN ..⟩
      case round =>
        obtain ⟨k, row, rst, q', hk', rfl, rfl, rfl, hscan, hrow, hrst, rfl⟩ := hrel
        have HSC := Lib.hid hscan
        clear hscan hcq
        have hcq : ∀ j, (W.drewN q').cell? ⟨w.heap.size, j, none⟩ = (cellsT ⟨⟨hs, ps, limit, rest, swap⟩, A, ca, B, cb⟩)[j]? := hcc
        by_cases hkt : k < xs.length
        · obtain ⟨b, off, y, hAe, hb, hcy, HY⟩ := HIW.out.at_ hkt
          have HKT := Lib.hid hkt
          have hki : (k : Int) < xs.length := by omega
          have hk0 : (0 : Int) ≤ (k : Int) := by omega
          subst hAe
          clear hb
          have HTAKE : Hid (scanD ⟨hs, ps, limit, rest, swap⟩ (h : Int) (xs.take (k + 1)) = scanStep ⟨hs, ps, limit, rest, swap⟩ (h : Int) (some (row, rst)) y) := Lib.hid (by rw [take_snoc HY.out, scanD_snoc, HSC.out])
          by_cases hy : y = (h : Int)
          · subst hy
            have hyd : (!decide ((h : Int) = (h : Int))) = false := by simp
            have hyb : ((h : Int) != (h : Int)) = false := by simp
            by_cases r0 : row = 0
            · have dr0 : decide (row = 0) = true := decide_eq_true r0
              have br0 : (row == 0) = true := by simpa using dr0
              by_cases r1 : rst < rest
              · have dr1 : decide (rst < rest) = true := decide_eq_true r1
                have HST : Hid (scanStep ⟨hs, ps, limit, rest, swap⟩ (h : Int) (some (row, rst)) (h : Int) = none) := Lib.hid (by
                  unfold scanStep
                  dsimp only
                  rw [if_neg (by simp), if_pos (by omega)])
                clear r0 r1
                have HNO : Hid (ok = false) := Lib.hid (HBAD.out h HLTH.out k HKT.out (by rw [HTAKE.out, HST.out]))
                go_wp2
                go_ret
                exact ⟨ret_bool HNO.out.symm, HG.out.trans (Below.drewN_ (Below.refl _ _) _)⟩
              · have dr1 : decide (rst < rest) = false := decide_eq_false r1
                by_cases r2 : row = limit
                · have dr2 : decide (row = limit) = true := decide_eq_true r2
                  have br2 : (row == limit) = true := by simpa using dr2
                  have HST : Hid (scanStep ⟨hs, ps, limit, rest, swap⟩ (h : Int) (some (row, rst)) (h : Int) = none) := Lib.hid (by
                    unfold scanStep
                    dsimp only
                    rw [if_neg (by simp), if_pos (by omega)])
                  clear r0 r1 r2
                  have HNO : Hid (ok = false) := Lib.hid (HBAD.out h HLTH.out k HKT.out (by rw [HTAKE.out, HST.out]))
                  go_wp2
                  go_ret
                  exact ⟨ret_bool HNO.out.symm, HG.out.trans (Below.drewN_ (Below.refl _ _) _)⟩
                · have dr2 : decide (row = limit) = false := decide_eq_false r2
                  have br2 : (row == limit) = false := by simpa using dr2
                  have HST : Hid (scanStep ⟨hs, ps, limit, rest, swap⟩ (h : Int) (some (row, rst)) (h : Int) = some (row + 1, 0)) := Lib.hid (by
                    unfold scanStep
                    dsimp only
                    rw [if_neg (by simp), if_neg (by omega)])
                  clear r0 r1 r2
                  go_wp2
                  go_roundw
                  case rel => exact ⟨k + 1, row + 1, 0, _, by omega, by go_num, rfl, rfl, by rw [HTAKE.out, HST.out], by omega, by omega, rfl⟩
                  case measure => simp [intOf]; omega
            · have dr0 : decide (row = 0) = false := decide_eq_false r0
              have br0 : (row == 0) = false := by simpa using dr0
              by_cases r2 : row = limit
              · have dr2 : decide (row = limit) = true := decide_eq_true r2
                have br2 : (row == limit) = true := by simpa using dr2
                have HST : Hid (scanStep ⟨hs, ps, limit, rest, swap⟩ (h : Int) (some (row, rst)) (h : Int) = none) := Lib.hid (by
                  unfold scanStep
                  dsimp only
                  rw [if_neg (by simp), if_pos (by omega)])
                clear r0 r2
                have HNO : Hid (ok = false) := Lib.hid (HBAD.out h HLTH.out k HKT.out (by rw [HTAKE.out, HST.out]))
                go_wp2
                go_ret
                exact ⟨ret_bool HNO.out.symm, HG.out.trans (Below.drewN_ (Below.refl _ _) _)⟩
              · have dr2 : decide (row = limit) = false := decide_eq_false r2
                have br2 : (row == limit) = false := by simpa using dr2
                have HST : Hid (scanStep ⟨hs, ps, limit, rest, swap⟩ (h : Int) (some (row, rst)) (h : Int) = some (row + 1, 0)) := Lib.hid (by
                  unfold scanStep
                  dsimp only
                  rw [if_neg (by simp), if_neg (by omega)])
                clear r0 r2
                go_wp2
                go_roundw
                case rel => exact ⟨k + 1, row + 1, 0, _, by omega, by go_num, rfl, rfl, by rw [HTAKE.out, HST.out], by omega, by omega, rfl⟩
                case measure => simp [intOf]; omega
          · have hyd : decide (y = (h : Int)) = false := decide_eq_false hy
            have hyb : (y != (h : Int)) = true := by simpa using hy
            have HST : Hid (scanStep ⟨hs, ps, limit, rest, swap⟩ (h : Int) (some (row, rst)) y = some (0, rst + 1)) := Lib.hid (by
              unfold scanStep
              dsimp only
              rw [if_pos hy])
            clear hy
            go_wp2
            go_roundw
            case rel => exact ⟨k + 1, 0, rst + 1, _, by omega, by go_num, rfl, rfl, by rw [HTAKE.out, HST.out], by omega, by omega, rfl⟩
            case measure => simp [intOf]; omega
        · obtain rfl : k = xs.length := by omega
          have HALLN : Hid (((List.range (h + 1)).all fun h => (scanD ⟨hs, ps, limit, rest, swap⟩ (h : Int) xs).isSome) = true) := Lib.hid (by
            have e := HSC.out
            rw [List.take_length] at e
            rw [List.range_succ, List.all_append, HALL.out]
            simp [e])
          go_wp2
          go_roundw
          case rel => exact ⟨h + 1, _, by omega, by go_num, HALLN.out, rfl⟩
          case measure => simp [intOf]; omega
    · obtain rfl : h = hs.length := by omega
      have HF1 : Hid (ok = true) := Lib.hid (by rw [HO.out]; exact HALL.out)
      go_wp2
      go_ret
      exact ⟨ret_bool HF1.out.symm, HG.out.trans (Below.drewN_ (Below.refl _ _) _)⟩

end Go.Proofs.Ythlihchndmbkaaa

