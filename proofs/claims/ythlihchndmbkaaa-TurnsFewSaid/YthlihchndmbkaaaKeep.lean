/- Keep: keeps and before of the laws. -/
import Derived.Test.YthlihchndmbkaaaIsRota
namespace Go.Proofs.Ythlihchndmbkaaa
open Go.RowKit

/-- how many parts in a row the hand of the part before the k-th has signed -/
def kRow (xs : List Int) : Nat → Nat
  | 0 => 0
  | k + 1 => if 0 < k ∧ xs[k]? = xs[k - 1]? then kRow xs k + 1 else 1
theorem kRow_row {xs : List Int} : ∀ {k : Nat} {y : Int}, xs[k]? = some y → kRow xs (k + 1) = rowD (xs.take (k + 1)) y
  | 0, y, hy => by
    rw [take_snoc hy, rowD_snoc]
    simp [kRow, rowD]
  | k + 1, y, hy => by
    have hl := lt_of_at hy
    obtain ⟨z, hz⟩ : ∃ z, xs[k]? = some z := ⟨_, List.getElem?_eq_getElem (by omega)⟩
    rw [take_snoc hy, rowD_snoc, if_pos rfl]
    show (if 0 < k + 1 ∧ xs[k + 1]? = xs[k + 1 - 1]? then kRow xs (k + 1) + 1 else 1) = _
    rw [Nat.add_sub_cancel, hy, hz]
    by_cases e : y = z
    · subst e
      rw [if_pos ⟨by omega, rfl⟩, kRow_row hz]
    · rw [if_neg (fun g => e (Option.some.inj g.2)), take_snoc hz, rowD_snoc, if_neg (fun g => e g.symm)]
theorem scan_prefix {t : TaskD} {h : Int} {xs : List Int} (hs : (scanD t h xs).isSome = true) (k : Nat) : ∃ row rest, scanD t h (xs.take k) = some (row, rest) := by
  cases e : scanD t h (xs.take k) with
  | none =>
    have : scanD t h xs = none := by
      have e2 : xs = xs.take k ++ xs.drop k := (List.take_append_drop k xs).symm
      rw [e2]
      unfold scanD at *
      rw [List.foldl_append, e]
      generalize xs.drop k = ys
      induction ys with
      | nil => rfl
      | cons y ys ih => rw [List.foldl_cons]; exact ih
    rw [this] at hs
    simp at hs
  | some p => exact ⟨p.1, p.2, rfl⟩
/-- nobody signs in more than Limit parts in a row -/
theorem keep_row {t : TaskD} (hlim : 1 ≤ t.limit) {xs : List Int} {k : Nat} {y : Int} (hy : xs[k]? = some y) (hs : (scanD t y xs).isSome = true) : (kRow xs (k + 1) : Int) ≤ t.limit := by
  obtain ⟨row, rest, e⟩ := scan_prefix hs (k + 1)
  obtain ⟨h1, _, h3⟩ := scanD_state hlim y _ _ _ e
  rw [kRow_row hy]
  omega
/-- nobody signs again within Rest parts after a stop -/
theorem keep_rest {t : TaskD} (hlim : 1 ≤ t.limit) {xs : List Int} {i : Nat} {y z : Int} (hy : xs[i]? = some y) (hz : xs[i + 1]? = some z) (hne : z ≠ y) (hs : (scanD t y xs).isSome = true) :
    ∀ j, i + 2 + j ≤ xs.length → (j : Int) + 1 ≤ t.rest → scanD t y (xs.take (i + 2 + j)) = some (0, (j : Int) + 1)
  | 0, hj, _ => by
    obtain ⟨row, rest, e⟩ := scan_prefix hs (i + 1)
    obtain ⟨h1, h2, h3⟩ := scanD_state hlim y _ _ _ e
    have e2 := take_snoc hy
    rw [e2] at h2
    rw [restsD_snoc] at h2
    have hr : rest = 0 := by rw [h2]; simp
    rw [Nat.add_zero, take_snoc hz, scanD_snoc, e]
    unfold scanStep
    dsimp only
    rw [if_pos hne, hr]
    rfl
  | j + 1, hj, hr => by
    have ih := keep_rest hlim hy hz hne hs j (by omega) (by omega)
    obtain ⟨u, hu⟩ : ∃ u, xs[i + 2 + j]? = some u := ⟨_, List.getElem?_eq_getElem (by omega)⟩
    obtain ⟨row, rest, e⟩ := scan_prefix hs (i + 2 + j + 1)
    have e1 := e
    rw [take_snoc hu, scanD_snoc, ih] at e
    have hne2 : u ≠ y := fun g => by
      subst g
      unfold scanStep at e
      dsimp only at e
      rw [if_neg (by simp), if_pos (by omega)] at e
      simp at e
    rw [show i + 2 + (j + 1) = i + 2 + j + 1 by omega, take_snoc hu, scanD_snoc, ih]
    unfold scanStep
    dsimp only
    rw [if_pos hne2]
    simp
theorem keep_rest' {t : TaskD} (hlim : 1 ≤ t.limit) {xs : List Int} {i m : Nat} {y z u : Int} (hy : xs[i]? = some y) (hz : xs[i + 1]? = some z) (hne : z ≠ y) (hs : (scanD t y xs).isSome = true) (hm : i + 2 ≤ m) (hu : xs[m]? = some u) (hr : (m : Int) ≤ i + t.rest) : u ≠ y := fun g => by
  subst g
  have hl := lt_of_at hu
  obtain ⟨j, rfl⟩ : ∃ j, m = i + 2 + j := ⟨m - (i + 2), by omega⟩
  have h := keep_rest hlim hy hz hne hs j (by omega) (by omega)
  obtain ⟨row, rest, e⟩ := scan_prefix hs (i + 2 + j + 1)
  rw [take_snoc hu, scanD_snoc, h] at e
  unfold scanStep at e
  dsimp only at e
  rw [if_neg (by simp), if_pos (by omega)] at e
  simp at e

theorem beforeL_diff {xs ys : List Int} {k : Nat} {x y : Int} (h : agreeL xs ys k) (hx : xs[k]? = some x) (hy : ys[k]? = some y) (hne : x ≠ y) : beforeL xs ys = decide (x < y) := by
  obtain ⟨_, _, h3⟩ := h
  have e1 : xs = xs.take k ++ x :: xs.drop (k + 1) := by
    obtain ⟨hl, rfl⟩ := List.getElem?_eq_some_iff.1 hx
    rw [← List.drop_eq_getElem_cons hl, List.take_append_drop]
  have e2 : ys = ys.take k ++ y :: ys.drop (k + 1) := by
    obtain ⟨hl, rfl⟩ := List.getElem?_eq_some_iff.1 hy
    rw [← List.drop_eq_getElem_cons hl, List.take_append_drop]
  rw [e1, e2, ← h3]
  generalize xs.take k = ps
  induction ps with
  | nil => show beforeL (x :: _) (y :: _) = _; unfold beforeL; rw [if_neg hne]
  | cons p ps ih => show beforeL (p :: _) (p :: _) = _; unfold beforeL; rw [if_pos rfl]; exact ih

set_option maxRecDepth 100000 in
set_option maxHeartbeats 4000000 in
theorem before_any (A A' : Option Addr) (cap cap' B B' : Nat) (xs ys : List Int) (w : World) (hA : Ints w B A xs) (hA' : Ints w B' A' ys) (hl : xs.length = ys.length) (hl' : ys.length ≤ 20) :
    Calls Try.prog 19 #[.slice A xs.length cap, .slice A' ys.length cap'] w fun e w' => e = .returned (.bool (beforeL xs ys)) ∧ ∃ n, w' = w.drewN n := by
  have HA := Lib.hid hA
  have HA' := Lib.hid hA'
  have HLL := Lib.hid hl
  have HBD := Lib.hid (fun (k : Nat) (x y : Int) => beforeL_diff (xs := xs) (ys := ys) (k := k) (x := x) (y := y))
  have HBS : Hid (xs = ys → beforeL xs ys = false) := fun e => by subst e; exact beforeL_self _
  generalize beforeL xs ys = bv at HBD HBS ⊢
  clear hA hA' hl
  go_enter Try.func19, Try.ntmps19
  go_wp2
  go_loopw [5] (fun i wr => ∃ k n : Nat, agreeL xs ys k ∧ i = .int .i64 k ∧ wr = w.drewN n) (fun i _ => xs.length - (intOf i).toNat)
  case atStart => exact ⟨0, 0, agreeL_zero _ _, rfl, rfl⟩
  case round =>
    obtain ⟨k, q, hag, rfl, rfl⟩ := hrel
    have hk := hag.1
    have hk' := hag.2.1
    have HAG := Lib.hid hag
    clear hag
    by_cases hlt : k < xs.length
    · have hlt' : k < ys.length := by have := HLL.out; omega
      obtain ⟨b, off, x, hAe, hb, hcx, HX⟩ := HA.out.at_ hlt
      obtain ⟨b', off', y, hAe', hb', hcy, HY⟩ := HA'.out.at_ hlt'
      subst hAe
      subst hAe'
      have hki : (k : Int) < xs.length := by omega
      have hki' : (k : Int) < ys.length := by omega
      have hk0 : (0 : Int) ≤ (k : Int) := by omega
      clear hb hb'
      by_cases hne : x = y
      · subst hne
        have hnd : (!decide (x = x)) = false := by simp
        have hnb : (x != x) = false := by simp
        have HAN := Lib.hid (agreeL_succ HAG.out HX.out HY.out rfl)
        go_wp2
        go_quiet (fail)
        go_wp2
        go_roundw
        case rel => exact ⟨k + 1, _, HAN.out, by go_num, rfl⟩
        case measure => simp [intOf]; omega
      · have hnd : decide (x = y) = false := decide_eq_false hne
        have hnb : (x != y) = true := by simpa using hne
        have HV := Lib.hid (HBD.out k x y HAG.out HX.out HY.out hne)
        clear hne
        go_wp2
        go_quiet (fail)
        go_upto_region 5 with fail
        go_quiet (fail)
        go_wp2
        go_ret
        exact ⟨ret_bool HV.out.symm, _, by rw [World.drewN_drewN, World.drewN_drewN]⟩
    · obtain rfl : k = xs.length := by omega
      have HEQ : Hid (bv = false) := Lib.hid (HBS.out (agreeL_all HAG.out HLL.out))
      go_wp2
      go_ret
      exact ⟨ret_bool HEQ.out.symm, _, rfl⟩

set_option maxRecDepth 100000 in
set_option maxHeartbeats 8000000 in
theorem keeps_any (t : TaskR) (xs : List Int) (A1 : Option Addr) (c1 n : Nat) (w : World) (h1 : Ints w n A1 xs) (hn : n ≤ w.heap.size) (hl : xs.length ≤ 20) (hlim : 1 ≤ t.d.limit) (hrest : 0 ≤ t.d.rest ∧ t.d.rest ≤ 10) (hall : ∀ y ∈ xs, (scanD t.d y xs).isSome = true) :
    Calls Try.prog 18 #[taskV t, .slice A1 xs.length c1] w fun e w' => e = .returned (.bool true) ∧ Below w.heap.size w w' := by
  have HI := Lib.hid (h1.more hn)
  clear h1 hn
  obtain ⟨⟨hs, ps, limit, rest, swap⟩, A, ca, B, cb⟩ := t
  dsimp only at hlim hrest hall
  have HROW : Hid (∀ (k : Nat) (y : Int), xs[k]? = some y → (kRow xs (k + 1) : Int) ≤ limit) := fun k y hy => keep_row (t := ⟨hs, ps, limit, rest, swap⟩) hlim hy (hall y (List.mem_of_getElem? hy))
  have HREST : Hid (∀ (i m : Nat) (y z u : Int), xs[i]? = some y → xs[i + 1]? = some z → z ≠ y → i + 2 ≤ m → xs[m]? = some u → (m : Int) ≤ i + rest → u ≠ y) := fun i m y z u hy hz hne hm hu hr => keep_rest' (t := ⟨hs, ps, limit, rest, swap⟩) hlim hy hz hne (hall y (List.mem_of_getElem? hy)) hm hu hr
  have HKS : Hid (∀ k, kRow xs (k + 1) = if 0 < k ∧ xs[k]? = xs[k - 1]? then kRow xs k + 1 else 1) := fun k => rfl
  have HKL : Hid (∀ k, kRow xs k ≤ k) := fun k => by
    induction k with
    | zero => exact Nat.le_refl _
    | succ k ih => show (if 0 < k ∧ xs[k]? = xs[k - 1]? then kRow xs k + 1 else 1) ≤ k + 1; split <;> omega
  clear hall
  go_enter Try.func18, Try.ntmps18
  go_upto_region 1 with fail
  obtain ⟨W, hW, hg, hf, hsz⟩ := one_block w 25 (cellsT ⟨⟨hs, ps, limit, rest, swap⟩, A, ca, B, cb⟩)
  rw [hW]
  clear hW
  have hcc := hf.cell
  have HG := Lib.hid hg
  have HIW := Lib.hid (HI.out.below hg)
  clear hf hg
  go_wp2_with fail
  go_loopw [5, 6] (fun rv iv wr => ∃ k q : Nat, k ≤ xs.length ∧ iv = .int .i64 k ∧ rv = .int .i64 (kRow xs k) ∧ wr = W.drewN q) (fun _ i _ => xs.length - (intOf i).toNat)
  case atStart => exact ⟨0, 0, Nat.zero_le _, rfl, rfl, rfl⟩
  case round =>
    obtain ⟨i, q, hk, rfl, rfl, rfl⟩ := hrel
    by_cases hlt : i < xs.length
    · have HLT := Lib.hid hlt
      obtain ⟨b, off, y, hAe, hb, hcy, HY⟩ := HIW.out.at_ hlt
      subst hAe
      have hki : (i : Int) < xs.length := by omega
      have hk0 : (0 : Int) ≤ (i : Int) := by omega
      have HR := Lib.hid (HROW.out i y HY.out)
      have hkl := HKL.out i
      clear hb
      by_cases hi0 : 0 < i
      · obtain ⟨b0, off0, y0, e0, hb0, hc0, HY0⟩ := HIW.out.at_ (k := i - 1) (by omega)
        obtain ⟨rfl, rfl⟩ : b = b0 ∧ off = off0 := by injection e0 with e; injection e with a b; exact ⟨a, b⟩
        clear e0 hb0
        have hd0 : decide ((0 : Int) < (i : Int)) = true := decide_eq_true (by omega)
        have hdn : decide (0 < i) = true := decide_eq_true hi0
        have HI0 := Lib.hid hi0
        have hi1 : (i : Int) - 1 < xs.length := by omega
        have hi1' : (0 : Int) ≤ (i : Int) - 1 := by omega
        have hti : ((i : Int) - 1).toNat = i - 1 := by omega
        by_cases hyy : y = y0
        · subst hyy
          have hyd : decide (y = y) = true := by simp
          have HKR : Hid ((kRow xs i : Int) + 1 = (kRow xs (i + 1) : Int)) := Lib.hid (by rw [HKS.out i, if_pos ⟨hi0, HY.out.trans HY0.out.symm⟩]; omega)
          clear hi0
          go_upto_region 5 with fail
          go_quiet (fail)
          go_upto_region 8 with fail
          rw [HKR.out]
          have hgt : decide (limit < (kRow xs (i + 1) : Int)) = false := decide_eq_false (by have := HR.out; omega)
          have hkl2 := HKL.out (i + 1)
          go_upto_region 11 with fail
          go_loopw [7] (fun kv wi => ∃ m q' : Nat, i + 2 ≤ m ∧ kv = .int .i64 m ∧ m ≤ xs.length + 1 ∧ wi = W.drewN q') (fun kv _ => xs.length + 2 - (intOf kv).toNat)
          case atStart => exact ⟨i + 2, _, Nat.le_refl _, by go_num, by omega, rfl⟩
          case round =>
            obtain ⟨m, q', hm, rfl, hm2, rfl⟩ := hrel
            by_cases hmt : m < xs.length
            · have hmi : (m : Int) < xs.length := by omega
              have hmd : decide ((m : Int) < (xs.length : Int)) = true := decide_eq_true hmi
              have hmn : decide (m < xs.length) = true := decide_eq_true hmt
              by_cases hmr : (m : Int) ≤ i + rest
              · have hrd : decide ((m : Int) ≤ (i : Int) + rest) = true := decide_eq_true hmr
                obtain ⟨b1, off1, z, e1, hb1, hcz, HZ⟩ := HIW.out.at_ (k := i + 1) (by omega)
                obtain ⟨b2, off2, u, e2, hb2, hcu, HU⟩ := HIW.out.at_ hmt
                obtain ⟨rfl, rfl⟩ : b = b1 ∧ off = off1 := by injection e1 with e; injection e with a b; exact ⟨a, b⟩
                obtain ⟨rfl, rfl⟩ : b = b2 ∧ off = off2 := by injection e2 with e; injection e with a b; exact ⟨a, b⟩
                clear e1 e2 hb1 hb2
                have hi1 : (i : Int) + 1 < xs.length := by omega
                have hi1' : (0 : Int) ≤ (i : Int) + 1 := by omega
                have hti : ((i : Int) + 1).toNat = i + 1 := by omega
                by_cases hzy : z = y
                · have hzd : decide (z = y) = true := decide_eq_true hzy
                  have hzb : (z != y) = false := by simpa using hzy
                  clear hzy
                  go_upto_region 11 with fail
                  go_quiet (fail)
                  go_wp2
                  go_roundw
                  case rel => exact ⟨i + 1, _, by omega, by go_num, by first | rfl | rw [HKR.out]; rfl, rfl⟩
                  case measure => simp [intOf]; omega
                · have hzd : decide (z = y) = false := decide_eq_false hzy
                  have hzb : (z != y) = true := by simpa using hzy
                  have huy := HREST.out i m y z u HY.out HZ.out hzy hm HU.out hmr
                  have hud : decide (u = y) = false := decide_eq_false huy
                  have hub : (u == y) = false := by simpa using huy
                  clear hzy huy
                  have hm0 : (0 : Int) ≤ (m : Int) := by omega
                  go_upto_region 11 with fail
                  go_quiet (fail)
                  go_upto_region 13 with fail
                  go_quiet (fail)
                  go_wp2
                  go_roundw
                  case rel => exact ⟨m + 1, _, by omega, by go_num, by omega, rfl⟩
                  case measure => simp [intOf]; omega
              · have hrd : decide ((m : Int) ≤ (i : Int) + rest) = false := decide_eq_false hmr
                clear hmr
                go_upto_region 11 with fail
                go_quiet (fail)
                go_wp2
                go_roundw
                case rel => exact ⟨i + 1, _, by omega, by go_num, by first | rfl | rw [HKR.out]; rfl, rfl⟩
                case measure => simp [intOf]; omega
            · have hmd : decide ((m : Int) < (xs.length : Int)) = false := decide_eq_false (by omega)
              have hmn : decide (m < xs.length) = false := decide_eq_false hmt
              go_upto_region 11 with fail
              go_quiet (fail)
              go_wp2
              go_roundw
              case rel => exact ⟨i + 1, _, by omega, by go_num, by first | rfl | rw [HKR.out]; rfl, rfl⟩
              case measure => simp [intOf]; omega
        · have hyd : decide (y = y0) = false := decide_eq_false hyy
          have hyb : (y == y0) = false := by simpa using hyy
          have HKR : Hid (kRow xs (i + 1) = 1) := Lib.hid (by rw [HKS.out i, if_neg (fun g => hyy (Option.some.inj (HY.out.symm.trans (g.2.trans HY0.out))))])
          clear hi0 hyy
          go_upto_region 5 with fail
          go_quiet (fail)
          go_upto_region 8 with fail
          have hgt : decide (limit < (1 : Int)) = false := decide_eq_false (by have := HR.out; rw [HKR.out] at this; omega)
          have hkl2 := HKL.out (i + 1)
          go_upto_region 11 with fail
          go_loopw [7] (fun kv wi => ∃ m q' : Nat, i + 2 ≤ m ∧ kv = .int .i64 m ∧ m ≤ xs.length + 1 ∧ wi = W.drewN q') (fun kv _ => xs.length + 2 - (intOf kv).toNat)
          case atStart => exact ⟨i + 2, _, Nat.le_refl _, by go_num, by omega, rfl⟩
          case round =>
            obtain ⟨m, q', hm, rfl, hm2, rfl⟩ := hrel
            by_cases hmt : m < xs.length
            · have hmi : (m : Int) < xs.length := by omega
              have hmd : decide ((m : Int) < (xs.length : Int)) = true := decide_eq_true hmi
              have hmn : decide (m < xs.length) = true := decide_eq_true hmt
              by_cases hmr : (m : Int) ≤ i + rest
              · have hrd : decide ((m : Int) ≤ (i : Int) + rest) = true := decide_eq_true hmr
                obtain ⟨b1, off1, z, e1, hb1, hcz, HZ⟩ := HIW.out.at_ (k := i + 1) (by omega)
                obtain ⟨b2, off2, u, e2, hb2, hcu, HU⟩ := HIW.out.at_ hmt
                obtain ⟨rfl, rfl⟩ : b = b1 ∧ off = off1 := by injection e1 with e; injection e with a b; exact ⟨a, b⟩
                obtain ⟨rfl, rfl⟩ : b = b2 ∧ off = off2 := by injection e2 with e; injection e with a b; exact ⟨a, b⟩
                clear e1 e2 hb1 hb2
                have hi1 : (i : Int) + 1 < xs.length := by omega
                have hi1' : (0 : Int) ≤ (i : Int) + 1 := by omega
                have hti : ((i : Int) + 1).toNat = i + 1 := by omega
                by_cases hzy : z = y
                · have hzd : decide (z = y) = true := decide_eq_true hzy
                  have hzb : (z != y) = false := by simpa using hzy
                  clear hzy
                  go_upto_region 11 with fail
                  go_quiet (fail)
                  go_wp2
                  go_roundw
                  case rel => exact ⟨i + 1, _, by omega, by go_num, by first | rfl | rw [HKR.out]; rfl, rfl⟩
                  case measure => simp [intOf]; omega
                · have hzd : decide (z = y) = false := decide_eq_false hzy
                  have hzb : (z != y) = true := by simpa using hzy
                  have huy := HREST.out i m y z u HY.out HZ.out hzy hm HU.out hmr
                  have hud : decide (u = y) = false := decide_eq_false huy
                  have hub : (u == y) = false := by simpa using huy
                  clear hzy huy
                  have hm0 : (0 : Int) ≤ (m : Int) := by omega
                  go_upto_region 11 with fail
                  go_quiet (fail)
                  go_upto_region 13 with fail
                  go_quiet (fail)
                  go_wp2
                  go_roundw
                  case rel => exact ⟨m + 1, _, by omega, by go_num, by omega, rfl⟩
                  case measure => simp [intOf]; omega
              · have hrd : decide ((m : Int) ≤ (i : Int) + rest) = false := decide_eq_false hmr
                clear hmr
                go_upto_region 11 with fail
                go_quiet (fail)
                go_wp2
                go_roundw
                case rel => exact ⟨i + 1, _, by omega, by go_num, by first | rfl | rw [HKR.out]; rfl, rfl⟩
                case measure => simp [intOf]; omega
            · have hmd : decide ((m : Int) < (xs.length : Int)) = false := decide_eq_false (by omega)
              have hmn : decide (m < xs.length) = false := decide_eq_false hmt
              go_upto_region 11 with fail
              go_quiet (fail)
              go_wp2
              go_roundw
              case rel => exact ⟨i + 1, _, by omega, by go_num, by first | rfl | rw [HKR.out]; rfl, rfl⟩
              case measure => simp [intOf]; omega
      · have hd0 : decide ((0 : Int) < (i : Int)) = false := decide_eq_false (by omega)
        have hdn : decide (0 < i) = false := decide_eq_false hi0
        have HKR : Hid (kRow xs (i + 1) = 1) := Lib.hid (by rw [HKS.out i, if_neg (fun g => hi0 g.1)])
        clear hi0
        go_upto_region 5 with fail
        go_quiet (fail)
        go_upto_region 8 with fail
        have hgt : decide (limit < (1 : Int)) = false := decide_eq_false (by have := HR.out; rw [HKR.out] at this; omega)
        have hkl2 := HKL.out (i + 1)
        go_upto_region 11 with fail
        go_loopw [7] (fun kv wi => ∃ m q' : Nat, i + 2 ≤ m ∧ kv = .int .i64 m ∧ m ≤ xs.length + 1 ∧ wi = W.drewN q') (fun kv _ => xs.length + 2 - (intOf kv).toNat)
        case atStart => exact ⟨i + 2, _, Nat.le_refl _, by go_num, by omega, rfl⟩
        case round =>
          obtain ⟨m, q', hm, rfl, hm2, rfl⟩ := hrel
          by_cases hmt : m < xs.length
          · have hmi : (m : Int) < xs.length := by omega
            have hmd : decide ((m : Int) < (xs.length : Int)) = true := decide_eq_true hmi
            have hmn : decide (m < xs.length) = true := decide_eq_true hmt
            by_cases hmr : (m : Int) ≤ i + rest
            · have hrd : decide ((m : Int) ≤ (i : Int) + rest) = true := decide_eq_true hmr
              obtain ⟨b1, off1, z, e1, hb1, hcz, HZ⟩ := HIW.out.at_ (k := i + 1) (by omega)
              obtain ⟨b2, off2, u, e2, hb2, hcu, HU⟩ := HIW.out.at_ hmt
              obtain ⟨rfl, rfl⟩ : b = b1 ∧ off = off1 := by injection e1 with e; injection e with a b; exact ⟨a, b⟩
              obtain ⟨rfl, rfl⟩ : b = b2 ∧ off = off2 := by injection e2 with e; injection e with a b; exact ⟨a, b⟩
              clear e1 e2 hb1 hb2
              have hi1 : (i : Int) + 1 < xs.length := by omega
              have hi1' : (0 : Int) ≤ (i : Int) + 1 := by omega
              have hti : ((i : Int) + 1).toNat = i + 1 := by omega
              by_cases hzy : z = y
              · have hzd : decide (z = y) = true := decide_eq_true hzy
                have hzb : (z != y) = false := by simpa using hzy
                clear hzy
                go_upto_region 11 with fail
                go_quiet (fail)
                go_wp2
                go_roundw
                case rel => exact ⟨i + 1, _, by omega, by go_num, by first | rfl | rw [HKR.out]; rfl, rfl⟩
                case measure => simp [intOf]; omega
              · have hzd : decide (z = y) = false := decide_eq_false hzy
                have hzb : (z != y) = true := by simpa using hzy
                have huy := HREST.out i m y z u HY.out HZ.out hzy hm HU.out hmr
                have hud : decide (u = y) = false := decide_eq_false huy
                have hub : (u == y) = false := by simpa using huy
                clear hzy huy
                have hm0 : (0 : Int) ≤ (m : Int) := by omega
                go_upto_region 11 with fail
                go_quiet (fail)
                go_upto_region 13 with fail
                go_quiet (fail)
                go_wp2
                go_roundw
                case rel => exact ⟨m + 1, _, by omega, by go_num, by omega, rfl⟩
                case measure => simp [intOf]; omega
            · have hrd : decide ((m : Int) ≤ (i : Int) + rest) = false := decide_eq_false hmr
              clear hmr
              go_upto_region 11 with fail
              go_quiet (fail)
              go_wp2
              go_roundw
              case rel => exact ⟨i + 1, _, by omega, by go_num, by first | rfl | rw [HKR.out]; rfl, rfl⟩
              case measure => simp [intOf]; omega
          · have hmd : decide ((m : Int) < (xs.length : Int)) = false := decide_eq_false (by omega)
            have hmn : decide (m < xs.length) = false := decide_eq_false hmt
            go_upto_region 11 with fail
            go_quiet (fail)
            go_wp2
            go_roundw
            case rel => exact ⟨i + 1, _, by omega, by go_num, by first | rfl | rw [HKR.out]; rfl, rfl⟩
            case measure => simp [intOf]; omega
    · obtain rfl : i = xs.length := by omega
      go_wp2
      go_ret
      exact ⟨rfl, HG.out.trans (Below.drewN_ (Below.refl _ _) _)⟩

end Go.Proofs.Ythlihchndmbkaaa
