/- May: turns.maySign: mathematics and contract. -/
import Derived.Test.YthlihchndmbkaaaRota
import Derived.BigQuiet
namespace Go.Proofs.Ythlihchndmbkaaa
open Go.RowKit

/-- for how many of the last parts someone else signed -/
def restsD (xs : List Int) (h : Int) : Nat := (xs.reverse.takeWhile fun x => decide (x ≠ h)).length
def maySignD (t : TaskD) (xs : List Int) (h : Int) : Bool :=
  if 0 < restsD xs h then decide (restsD xs h = xs.length) || decide (t.rest ≤ restsD xs h)
  else decide ((xs.length : Int) < t.limit) || (xs.drop (xs.length - t.limit.toNat)).any fun x => decide (x ≠ h)
theorem takeWhile_len {α : Type} {p : α → Bool} : ∀ {l : List α} {k : Nat}, k ≤ l.length → (l.take k).all p = true → (k = l.length ∨ ∃ x, l[k]? = some x ∧ p x = false) → (l.takeWhile p).length = k
  | [], k, hk, _, _ => by simp at hk; subst hk; rfl
  | a :: l, 0, _, _, he => by
    rcases he with h | ⟨x, hx, hp⟩
    · simp at h
    · simp at hx; subst hx; simp [List.takeWhile, hp]
  | a :: l, k + 1, hk, ha, he => by
    simp only [List.take_succ_cons, List.all_cons, Bool.and_eq_true] at ha
    have ih := takeWhile_len (p := p) (l := l) (k := k) (by simpa using hk) ha.2 (by simpa using he)
    simp [List.takeWhile, ha.1, ih]
theorem reverse_at {xs : List Int} {k : Nat} (hk : k < xs.length) : xs.reverse[k]? = xs[xs.length - 1 - k]? := by
  rw [List.getElem?_reverse hk]

theorem Ints.drop_at {w : World} {B : Nat} {A : Option Addr} {xs : List Int} (h : Ints w B A xs) {s : Nat} (hs : s < xs.length) : ∃ b off, A = some ⟨b, off, none⟩ ∧ Hid (Ints w B (some ⟨b, off + s, none⟩) (xs.drop s)) := by
  rcases h with rfl | ⟨b, off, rfl, hl, hc⟩
  · simp at hs
  · refine ⟨b, off, rfl, .inr ⟨b, off + s, rfl, hl, fun i x hi => ?_⟩⟩
    rw [Nat.add_assoc]
    exact hc (s + i) x (by rwa [List.getElem?_drop] at hi)
set_option maxHeartbeats 400000 in
theorem other_any (x h : Int) (b : Nat) (w : World) (hb : w.cell? ⟨b, 0, none⟩ = some (.int .i64 h)) :
    Calls Try.prog 78 #[.int .i64 x, .pointer (some ⟨b, 0, none⟩)] w fun e w' => e = .returned (.bool (decide (x ≠ h))) ∧ w = w' := by
  go_enter Try.func78, Try.ntmps78
  go_wp2
  go_ret
  exact ⟨ret_bool (by by_cases h' : x = h <;> simp [h']), rfl⟩

set_option maxRecDepth 100000 in
set_option maxHeartbeats 8000000 in
theorem maySign_any (t : TaskR) (xs : List Int) (h : Int) (A1 : Option Addr) (c1 n : Nat) (w : World) (h1 : Ints w n A1 xs) (hn : n ≤ w.heap.size) (hl : xs.length ≤ 10) (hc : xs.length ≤ c1) (hlim : 1 ≤ t.d.limit ∧ t.d.limit ≤ 10) :
    Calls Try.prog 62 #[taskV t, .slice A1 xs.length c1, .int .i64 h] w fun e w' => e = .returned (.bool (maySignD t.d xs h)) ∧ Below w.heap.size w w' := by
  obtain ⟨⟨hs, ps, limit, rest, swap⟩, A, ca, B, cb⟩ := t
  dsimp only at hlim
  have HI := Lib.hid (h1.more hn)
  clear h1 hn
  obtain ⟨md, HMD⟩ : ∃ md, Hid (maySignD ⟨hs, ps, limit, rest, swap⟩ xs h = md) := ⟨_, rfl⟩
  dsimp only
  rw [HMD.out]
  go_enter Try.func62, Try.ntmps62
  go_upto_region 1 with fail
  obtain ⟨W, hW, hg, hf, hf', hsz⟩ := two_blocks w 67 3 (cellsT ⟨⟨hs, ps, limit, rest, swap⟩, A, ca, B, cb⟩) #[.int .i64 h]
  rw [hW]
  clear hW
  obtain ⟨b1, e1⟩ : ∃ b, w.heap.size + 1 = b := ⟨_, rfl⟩
  rw [e1] at hf' hsz ⊢
  clear e1
  have hcc := hf.cell
  have hhc : W.cell? ⟨b1, 0, none⟩ = some (.int .i64 h) := hf'.cell 0
  have HG := Lib.hid hg
  have HIW := Lib.hid (HI.out.below hg)
  clear hf hf' hg
  go_wp2_with fail
  go_loopw [7] (fun iv wr => ∃ k q : Nat, k ≤ xs.length ∧ iv = .int .i64 k ∧ (xs.reverse.take k).all (fun x => decide (x ≠ h)) = true ∧ wr = W.drewN q) (fun i _ => xs.length - (intOf i).toNat)
  case atStart => exact ⟨0, 0, Nat.zero_le _, rfl, rfl, rfl⟩
  case round =>
    obtain ⟨k, q, hk, rfl, hall, rfl⟩ := hrel
    have HALL := Lib.hid hall
    clear hall
    by_cases hlt : k < xs.length
    · obtain ⟨m, hm⟩ : ∃ m, xs.length - 1 - k = m := ⟨_, rfl⟩
      obtain ⟨b, off, y, hAe, hb, hcy, HY⟩ := HIW.out.at_ (k := m) (by omega)
      have HR : Hid (xs.reverse[k]? = some y) := (reverse_at hlt).trans (by rw [hm]; exact HY.out)
      have hmi : (xs.length : Int) - 1 - (k : Int) = (m : Int) := by omega
      have hml : m < xs.length := by omega
      subst hAe
      clear hm
      by_cases hy : y = h
      · have hdy : decide (y = h) = true := decide_eq_true hy
        have hdn : (!decide (y = h)) = false := by rw [hdy]; rfl
        have hby : (y != h) = false := by simpa using hy
        have HEND := Lib.hid (show restsD xs h = k from takeWhile_len (Nat.le_of_lt (by rw [List.length_reverse]; exact hlt)) HALL.out (.inr ⟨y, HR.out, by simpa using hy⟩))
        clear hy
        go_wp2
        go_quiet (fail)
        go_upto_region 4 with fail
        have HIQ := Lib.hid (HIW.out.below (show Below w.heap.size W (W.drewN (q + nq)) from Below.drewN_ (Below.refl _ _) _))
        by_cases hk0 : 0 < k
        · have hgt : decide ((0 : Int) < (k : Int)) = true := decide_eq_true (by omega)
          by_cases hkl : k = xs.length
          · have hkd : decide ((k : Int) = (xs.length : Int)) = true := decide_eq_true (by omega)
            have hkb : ((k : Int) == (xs.length : Int)) = true := by simpa using hkd
            have HF : Hid (md = true) := by
              show _ = _
              rw [← HMD.out]
              simp [maySignD, HEND.out, hkl]
              try omega
            clear hkl
            go_wp2
            go_ret
            exact ⟨ret_bool (by rw [HF.out]), HG.out.trans (Below.drewN_ (Below.refl _ _) _)⟩
          · have hkd : decide ((k : Int) = (xs.length : Int)) = false := decide_eq_false (by omega)
            have hkb : ((k : Int) == (xs.length : Int)) = false := by simpa using hkd
            have HF : Hid (md = decide (rest ≤ (k : Int))) := by
              show _ = _
              rw [← HMD.out]
              simp [maySignD, HEND.out, hk0, hkl]
            clear hkl
            go_wp2
            go_ret
            exact ⟨ret_bool (by rw [HF.out]), HG.out.trans (Below.drewN_ (Below.refl _ _) _)⟩
        · obtain rfl : k = 0 := by omega
          have hgt : decide ((0 : Int) < ((0 : Nat) : Int)) = false := decide_eq_false (by omega)
          by_cases hxl : (xs.length : Int) < limit
          · have hxd : decide ((xs.length : Int) < limit) = true := decide_eq_true hxl
            have HF : Hid (md = true) := by
              show _ = _
              rw [← HMD.out]
              simp [maySignD, HEND.out, hxl]
            go_wp2
            go_ret
            exact ⟨ret_bool (by rw [HF.out]), HG.out.trans (Below.drewN_ (Below.refl _ _) _)⟩
          · have hxd : decide ((xs.length : Int) < limit) = false := decide_eq_false hxl
            obtain ⟨s, hs'⟩ : ∃ s, xs.length - limit.toNat = s := ⟨_, rfl⟩
            have hsi : (xs.length : Int) - limit = (s : Int) := by omega
            have hsl : s ≤ xs.length := by omega
            have hsc : s ≤ c1 := by omega
            obtain ⟨bq, oq, hAq, HID⟩ := Ints.drop_at HIQ.out (s := s) (by omega)
            have HCO := Lib.hid (containsInt1_any (some ⟨bq, oq + s, none⟩) (c1 - s) w.heap.size (xs.drop s) (W.drewN (q + nq)) HID.out (by rw [List.length_drop]; omega) 78 (.pointer (some ⟨b1, 0, none⟩)) (fun x => decide (x ≠ h)) (fun _ _ => by kernel_rfl) (fun x => other_any x h b1 _ hhc))
            rw [List.length_drop] at HCO
            have HF : Hid (md = (xs.drop s).any fun x => decide (x ≠ h)) := by
              show _ = _
              rw [← HMD.out]
              simp [maySignD, HEND.out, hxl, hs']
            generalize ((xs.drop s).any fun x => decide (x ≠ h)) = av at HF HCO
            obtain ⟨rfl, rfl⟩ : bq = b ∧ oq = off := by
              simp only [Option.some.injEq, Addr.mk.injEq] at hAq
              exact ⟨hAq.1.symm, hAq.2.1.symm⟩
            clear hs' hxl
            go_wp2_with fail
            refine HCO.out.mono ?_
            rintro e w9 ⟨rfl, rfl⟩
            go_wp2
            go_ret
            exact ⟨ret_bool (by rw [HF.out]), HG.out.trans (Below.drewN_ (Below.refl _ _) _)⟩
      · have hdy : decide (y = h) = false := decide_eq_false hy
        have hby : (y != h) = true := by simpa using hy
        have HN : Hid ((xs.reverse.take (k + 1)).all (fun x => decide (x ≠ h)) = true) := by
          show _ = _
          rw [take_snoc HR.out, List.all_append, HALL.out]
          simp [hy]
        clear hy
        go_wp2
        go_quiet (fail)
        go_wp2
        go_roundw
        case rel => exact ⟨k + 1, _, by omega, by go_num, HN.out, rfl⟩
        case measure => simp [intOf]; omega
    · obtain rfl : k = xs.length := by omega
      have hd : decide ((xs.length : Int) < (xs.length : Int)) = false := decide_eq_false (by omega)
      have HEND := Lib.hid (show restsD xs h = xs.length from takeWhile_len (by rw [List.length_reverse]; exact Nat.le_refl _) HALL.out (.inl (by rw [List.length_reverse])))
      clear hlt
      generalize hkk : xs.length = k at HEND hd ⊢
      go_wp2
      go_quiet (fail)
      go_upto_region 4 with fail
      have HF : Hid (md = true) := by
        show _ = _
        rw [← HMD.out]
        by_cases hk0 : 0 < k
        · simp [maySignD, HEND.out, hk0, hkk]
        · simp [maySignD, HEND.out, hk0, hkk]
          omega
      by_cases hk0 : 0 < k
      · have hgt : decide ((0 : Int) < (k : Int)) = true := decide_eq_true (by omega)
        have hkb : ((k : Int) == (k : Int)) = true := by simp
        clear hkk
        go_wp2
        go_ret
        exact ⟨ret_bool (by rw [HF.out]), HG.out.trans (Below.drewN_ (Below.refl _ _) _)⟩
      · obtain rfl : k = 0 := by omega
        have hgt : decide ((0 : Int) < ((0 : Nat) : Int)) = false := decide_eq_false (by omega)
        have hxd : decide (((0 : Nat) : Int) < limit) = true := decide_eq_true (by omega)
        have hxd2 : decide ((0 : Int) < limit) = true := decide_eq_true (by omega)
        have hxd3 : 0 < limit := by omega
        clear hkk
        go_wp2
        go_ret
        exact ⟨ret_bool (by rw [HF.out]), HG.out.trans (Below.drewN_ (Below.refl _ _) _)⟩

end Go.Proofs.Ythlihchndmbkaaa
