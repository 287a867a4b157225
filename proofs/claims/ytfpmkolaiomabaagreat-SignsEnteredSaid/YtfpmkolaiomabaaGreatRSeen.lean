/- RSeen: the specification's Has, IsSeen and fits. -/
import Derived.Test.YtfpmkolaiomabaaGreatSeen
import Derived.Test.YtfpmkolaiomabaaGreatForms
import Derived.Test.YtfpmkolaiomabaaGreatFits
import Derived.Deep.DeepCutAuto
namespace Go.Proofs.YtfpmkolaiomabaaGreat
open Go.RowKit

set_option maxHeartbeats 400000 in
theorem rHas_any (s e : Int) (w : World) (h0 : 0 ≤ s) (h1 : s < 8589934592) (h2 : 0 ≤ e) (h3 : e ≤ 32) :
    Calls Tryz.prog 80 #[.int .i64 s, .int .i64 e] w fun x w' => x = .returned (.bool (hasD s e)) ∧ w = w' := by
  have HB : Hid (bits .and .i64 (s / 2 ^ e.toNat) 1 = s / 2 ^ e.toNat % 2) := and_one (shr_bounds h0 h1).1 (shr_bounds h0 h1).2
  go_enter Tryz.func80, Tryz.ntmps80
  go_wp2
  all_goals go_ret
  all_goals refine ⟨ret_bool ?_, rfl⟩
  all_goals first
    | omega
    | (show (bits .and .i64 (s / 2 ^ e.toNat) 1 == 1) = _
       rw [HB.out]
       rfl)

theorem okSeen_bad {s : SeenD} {k : Nat} {x : Int} (h : s.moves[k]? = some x) (hx : inB x 1 255 = false) : okSeen s = false := by
  have : (s.moves.all fun x => inB x 1 255) = false := by
    rw [List.all_eq_false]
    exact ⟨x, List.mem_of_getElem? h, by simp [hx]⟩
  simp [okSeen, this]
theorem all_take_in {l : List Int} {k : Nat} {x : Int} (h : l[k]? = some x) (hx : inB x 1 255 = true) (hq : ((l.take k).all fun x => inB x 1 255) = true) : ((l.take (k + 1)).all fun x => inB x 1 255) = true := by
  rw [take_snoc h, List.all_append, hq]
  simpa using hx

set_option maxRecDepth 100000 in
set_option maxHeartbeats 4000000 in
theorem rIsSeen_any (s : SeenD) (A : Option Addr) (cap B : Nat) (w : World) (hA : Ints w B A s.moves) (hl : s.moves.length ≤ 9223372036854775807) (hB : B ≤ w.heap.size) :
    Calls Tryz.prog 43 #[seenV s A cap] w fun e w' => e = .returned (.bool (okSeen s)) ∧ Below w.heap.size w w' := by
  have HA := Lib.hid (hA.more hB)
  clear hA
  go_enter Tryz.func43, Tryz.ntmps43
  go_upto_region 1 with fail
  obtain ⟨W, hW, hg, hf, hsz⟩ := one_block w 50 (cellsS s A cap)
  rw [hW]
  clear hW
  have hAW := HA.out.below hg
  have HG := Lib.hid hg
  have hfc := hf.cell
  clear hf hg HA
  go_wp2
  go_loopw [3] (fun i wr => ∃ k : Nat, k ≤ s.moves.length ∧ i = .int .i64 k ∧ ((s.moves.take k).all fun x => inB x 1 255) = true ∧ wr = W) (fun i _ => s.moves.length - (intOf i).toNat)
  case atStart => exact ⟨0, Nat.zero_le _, rfl, rfl, rfl⟩
  case round =>
    obtain ⟨k, hk, rfl, hq, rfl⟩ := hrel
    have HQ := Lib.hid hq
    clear hq
    by_cases hlt : k < s.moves.length
    · obtain ⟨b, off, x, rfl, hb, hc, HX⟩ := hAW.at_ hlt
      clear hAW
      go_wp2_with (first | (go_at_call 78; refine (rwithin_any _ _ _ _).mono ?_; rintro e w' ⟨rfl, rfl⟩))
      · go_ret
        exact ⟨ret_bool (okSeen_bad HX.out (by simpa using ‹(!inB x 1 255) = true›)).symm, HG.out⟩
      · go_roundw
        case rel => exact ⟨k + 1, by omega, by go_num, all_take_in HX.out (by simpa using ‹(!inB x 1 255) = false›) HQ.out, trivial⟩
        case measure => simp [intOf]; omega
    · obtain rfl : k = s.moves.length := by omega
      rw [List.take_length] at HQ
      have HO : Hid (okSeen s = (inB s.rights 1 8589934591 && (inB s.lefts 1 8589934591 && (inB s.faces 1 255 && (inB s.regions 1 255 && (decide (s.cl ≤ s.ch) && (decide (s.rl ≤ s.rh) && (decide (s.al ≤ s.ah) && (decide ((s.moves.length : Int) ≤ 6) && inB s.lost 0 6))))))))) := by
        rw [Hid, okSeen, HQ.out, Bool.and_true]
        cases inB s.rights 1 8589934591 <;> cases inB s.lefts 1 8589934591 <;> cases inB s.faces 1 255 <;> cases inB s.regions 1 255 <;> cases decide (s.cl ≤ s.ch) <;> cases decide (s.rl ≤ s.rh) <;> cases decide (s.al ≤ s.ah) <;> cases decide ((s.moves.length : Int) ≤ 6) <;> cases inB s.lost 0 6 <;> rfl
      clear hAW
      go_wp2_with (first | (go_at_call 78; refine (rwithin_any _ _ _ _).mono ?_; rintro e w' ⟨rfl, rfl⟩))
      all_goals go_ret
      all_goals refine ⟨ret_bool ?_, HG.out⟩
      all_goals rw [HO.out]
      all_goals first
        | (simp [*]; done)
        | (simp_all; done)
        | (simp_all; omega)

theorem Ints.tail {w : World} {B : Nat} {b off : Nat} {x : Int} {xs : List Int} (h : Ints w B (some ⟨b, off, none⟩) (x :: xs)) : Ints w B (some ⟨b, off + 1, none⟩) xs := by
  rcases h with h | ⟨b', off', e, hb, hc⟩
  · cases h
  · injection e with e; injection e with e1 e2; subst e1; subst e2
    exact .inr ⟨b, off + 1, rfl, hb, fun j y hj => by
      have := hc (j + 1) y (by simpa using hj)
      rwa [show off + 1 + j = off + (j + 1) by omega]⟩
theorem Ints.head {w : World} {B : Nat} {A : Option Addr} {x : Int} {xs : List Int} (h : Ints w B A (x :: xs)) : ∃ b off, A = some ⟨b, off, none⟩ ∧ b < B ∧ w.cell? ⟨b, off, none⟩ = some (.int .i64 x) := by
  rcases h with h | ⟨b, off, rfl, hb, hc⟩
  · cases h
  · exact ⟨b, off, rfl, hb, hc 0 x rfl⟩

theorem quiet_same {P : Program} {f : FuncId} {args : Array Value} {w : World} {n : Nat} {v : Value} (h : Calls P f args (w.drewN n) fun e w' => e = .returned v ∧ w.drewN n = w') :
    Calls P f args (w.drewN n) fun e w'' => e = .returned v ∧ ∃ m, w'' = w.drewN m := h.mono fun _ _ ⟨he, hk⟩ => ⟨he, n, hk.symm⟩
theorem Ints.drewN {w : World} {B : Nat} {A : Option Addr} {xs : List Int} (h : Ints w B A xs) (n : Nat) : Ints (w.drewN n) B A xs := h.below (Below.drewN_ (Below.refl _ _) _)

set_option maxRecDepth 100000 in
set_option maxHeartbeats 1600000 in
theorem rfits_any : ∀ (ms ss : List Int) (A A' : Option Addr) (cap cap' B B' : Nat) (lost : Int) (w : World) (_ : Ints w B A ms) (_ : Ints w B' A' ss) (_ : ms.length ≤ 20) (_ : ss.length ≤ 20) (_ : -100 ≤ lost) (_ : lost ≤ 100)
    (_ : ∀ x ∈ ss, 1 ≤ x ∧ x ≤ 255) (_ : ∀ x ∈ ms, 0 ≤ x ∧ x ≤ 7) (_ : ms.length ≤ cap) (_ : ss.length ≤ cap'),
    Calls Tryz.prog 102 #[.slice A ms.length cap, .slice A' ss.length cap', .int .i64 lost] w fun e w' => e = .returned (.bool (fitsD ms ss lost)) ∧ ∃ n, w' = w.drewN n
  | [], ss, A, A', cap, cap', B, B', lost, w, hA, hA', hm, hs, h0, h1, hs1, hm1, hc, hc' => by
    have HF : Hid (fitsD [] ss lost = ((ss.length : Int) == 0)) := by
      rw [Hid, fitsD]; cases ss <;> simp <;> omega
    go_enter Tryz.func102, Tryz.ntmps102
    go_wp2
    all_goals go_ret
    all_goals exact ⟨ret_bool HF.out.symm, 0, rfl⟩
  | m :: ms, [], A, A', cap, cap', B, B', lost, w, hA, hA', hm, hs, h0, h1, hs1, hm1, hc, hc' => by
    obtain ⟨b, off, rfl, hb, hcell⟩ := hA.head
    have HI := Lib.hid (fun (n : Nat) (A2 : Option Addr) (c : Nat) (hcc : ms.length ≤ c) (hA2 : Ints w B A2 ms) (h : 0 < lost) => rfits_any ms [] A2 A' c cap' B B' (lost - 1) (w.drewN n) (hA2.drewN n) (hA'.drewN n) (by simp at hm; omega) hs (by omega) (by omega) hs1 (fun x hx => hm1 x (List.mem_cons_of_mem _ hx)) hcc hc')
    have HF : Hid (fitsD (m :: ms) [] lost = (decide (0 < lost) && fitsD ms [] (lost - 1))) := rfl
    have HTA := Lib.hid hA.tail
    clear hA hA' hs1 hm1
    generalize fitsD (m :: ms) [] lost = res at HF ⊢
    generalize fitsD ms [] (lost - 1) = c2 at HF HI
    simp only [List.length_cons, List.length_nil] at *
    rcases (show (cap = 1 ∧ ms = []) ∨ ∃ c, cap = c + 2 by rcases (show cap = 1 ∨ 2 ≤ cap by omega) with h | h; exact .inl ⟨h, List.eq_nil_of_length_eq_zero (by omega)⟩; exact .inr ⟨cap - 2, by omega⟩) with ⟨rfl, rfl⟩ | ⟨c, rfl⟩
    · try simp only [List.length_nil] at *
      go_enter Tryz.func102, Tryz.ntmps102
      go_wp2_with fail
      go_quiet (fail)
      by_cases hlo : 0 < lost
      · go_wp2_with fail
        refine (HI.out _ _ _ (by omega) (by first | exact HTA.out | exact Ints.nil) hlo).mono ?_
        rintro e w2 ⟨rfl, n2, rfl⟩
        go_wp2
        go_ret
        exact ⟨ret_bool (by rw [HF.out]; simp [hlo]), by first | exact ⟨_, rfl⟩ | exact ⟨_, World.drewN_drewN _ _ _⟩⟩
      · have hlo2 : decide (0 < lost) = false := by simpa using hlo
        go_wp2
        go_ret
        exact ⟨ret_bool (by rw [HF.out, hlo2]; rfl), _, rfl⟩
    · try simp only [List.length_nil] at *
      go_enter Tryz.func102, Tryz.ntmps102
      go_wp2_with fail
      go_quiet (fail)
      by_cases hlo : 0 < lost
      · go_wp2_with fail
        refine (HI.out _ _ _ (by omega) (by first | exact HTA.out | exact Ints.nil) hlo).mono ?_
        rintro e w2 ⟨rfl, n2, rfl⟩
        go_wp2
        go_ret
        exact ⟨ret_bool (by rw [HF.out]; simp [hlo]), by first | exact ⟨_, rfl⟩ | exact ⟨_, World.drewN_drewN _ _ _⟩⟩
      · have hlo2 : decide (0 < lost) = false := by simpa using hlo
        go_wp2
        go_ret
        exact ⟨ret_bool (by rw [HF.out, hlo2]; rfl), _, rfl⟩
  | m :: ms, s :: ss, A, A', cap, cap', B, B', lost, w, hA, hA', hm, hs, h0, h1, hs1, hm1, hc, hc' => by
    obtain ⟨b, off, rfl, hb, hcell⟩ := hA.head
    obtain ⟨b', off', rfl, hb', hcell'⟩ := hA'.head
    have HI2 := Lib.hid (fun (n : Nat) (A2 : Option Addr) (c : Nat) (hcc : ms.length ≤ c) (hA2 : Ints w B A2 ms) (h : 0 < lost) => rfits_any ms (s :: ss) A2 (some ⟨b', off', none⟩) c cap' B B' (lost - 1) (w.drewN n) (hA2.drewN n) (hA'.drewN n) (by simp at hm; omega) hs (by omega) (by omega) hs1 (fun x hx => hm1 x (List.mem_cons_of_mem _ hx)) hcc hc')
    have HI1 := Lib.hid (fun (n : Nat) (A2 A3 : Option Addr) (c c' : Nat) (hcc : ms.length ≤ c) (hcc' : ss.length ≤ c') (hA2 : Ints w B A2 ms) (hA3 : Ints w B' A3 ss) => rfits_any ms ss A2 A3 c c' B B' lost (w.drewN n) (hA2.drewN n) (hA3.drewN n) (by simp at hm; omega) (by simp at hs; omega) (by omega) (by omega) (fun x hx => hs1 x (List.mem_cons_of_mem _ hx)) (fun x hx => hm1 x (List.mem_cons_of_mem _ hx)) hcc hcc')
    have hs3 := hs1 s List.mem_cons_self
    have hm3 := hm1 m List.mem_cons_self
    have HH := Lib.hid (fun (w0 : World) => rHas_any s m w0 (by omega) (by omega) (by omega) (by omega))
    have HF : Hid (fitsD (m :: ms) (s :: ss) lost = ((hasD s m && fitsD ms ss lost) || (decide (0 < lost) && fitsD ms (s :: ss) (lost - 1)))) := rfl
    have HTA := Lib.hid hA.tail
    have HTA' := Lib.hid hA'.tail
    clear hA hA' hs1 hm1 hs3 hm3
    generalize fitsD (m :: ms) (s :: ss) lost = res at HF ⊢
    generalize fitsD ms (s :: ss) (lost - 1) = c2 at HF HI2
    generalize fitsD ms ss lost = c1 at HF HI1
    generalize hasD s m = hh at HF HH
    simp only [List.length_cons] at *
    rcases (show (cap = 1 ∧ ms = []) ∨ ∃ c, cap = c + 2 by rcases (show cap = 1 ∨ 2 ≤ cap by omega) with h | h; exact .inl ⟨h, List.eq_nil_of_length_eq_zero (by omega)⟩; exact .inr ⟨cap - 2, by omega⟩) with ⟨rfl, rfl⟩ | ⟨c, rfl⟩
    all_goals rcases (show (cap' = 1 ∧ ss = []) ∨ ∃ c, cap' = c + 2 by rcases (show cap' = 1 ∨ 2 ≤ cap' by omega) with h | h; exact .inl ⟨h, List.eq_nil_of_length_eq_zero (by omega)⟩; exact .inr ⟨cap' - 2, by omega⟩) with ⟨rfl, rfl⟩ | ⟨c', rfl⟩
    all_goals try simp only [List.length_nil] at *
    all_goals try (have hl0 : (0 : Int) < (ss.length : Int) + 1 := by omega)
    all_goals try (have hl1 : (0 : Int) < (ms.length : Int) + 1 := by omega)
    all_goals
      go_enter Tryz.func102, Tryz.ntmps102
      go_wp2_with fail
      cases hh
      · go_quiet (first | (go_at_call 80; exact quiet_same (HH.out _)))
        by_cases hlo : 0 < lost
        · go_wp2_with fail
          refine (HI2.out _ _ _ (by omega) (by first | exact HTA.out | exact Ints.nil) hlo).mono ?_
          rintro e w2 ⟨rfl, n2, rfl⟩
          go_wp2
          go_ret
          exact ⟨ret_bool (by rw [HF.out]; simp [hlo]), by first | exact ⟨_, rfl⟩ | exact ⟨_, World.drewN_drewN _ _ _⟩⟩
        · have hlo2 : decide (0 < lost) = false := by simpa using hlo
          go_wp2
          go_ret
          exact ⟨ret_bool (by rw [HF.out, hlo2]; rfl), _, rfl⟩
      · cases c1
        · go_quiet (first | (go_at_call 80; exact quiet_same (HH.out _)) | (go_at_call 102; exact Calls.quiet_of (HI1.out _ _ _ _ _ (by omega) (by omega) (by first | exact HTA.out | exact Ints.nil) (by first | exact HTA'.out | exact Ints.nil))))
          by_cases hlo : 0 < lost
          · go_wp2_with fail
            refine (HI2.out _ _ _ (by omega) (by first | exact HTA.out | exact Ints.nil) hlo).mono ?_
            rintro e w2 ⟨rfl, n2, rfl⟩
            go_wp2
            go_ret
            exact ⟨ret_bool (by rw [HF.out]; simp [hlo]), by first | exact ⟨_, rfl⟩ | exact ⟨_, World.drewN_drewN _ _ _⟩⟩
          · have hlo2 : decide (0 < lost) = false := by simpa using hlo
            go_wp2
            go_ret
            exact ⟨ret_bool (by rw [HF.out, hlo2]; rfl), _, rfl⟩
        · go_quiet (first | (go_at_call 80; exact quiet_same (HH.out _)) | (go_at_call 102; exact Calls.quiet_of (HI1.out _ _ _ _ _ (by omega) (by omega) (by first | exact HTA.out | exact Ints.nil) (by first | exact HTA'.out | exact Ints.nil))))
          go_wp2
          go_ret
          exact ⟨ret_bool (by rw [HF.out]; rfl), _, rfl⟩

end Go.Proofs.YtfpmkolaiomabaaGreat
