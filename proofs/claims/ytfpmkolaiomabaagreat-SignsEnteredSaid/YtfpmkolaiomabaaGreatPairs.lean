/- Pairs: whether two slices of pairs are equal, and two books. -/
import Derived.Test.YtfpmkolaiomabaaGreatTwinsWalk
namespace Go.Proofs.YtfpmkolaiomabaaGreat
open Go.RowKit

/-- pairs that lie at A, in a block below B -/
def PairsL (w : World) (B : Nat) (A : Option Addr) (ps : List (Int × Int)) : Prop :=
  ps = [] ∨ ∃ b, A = some ⟨b, 0, none⟩ ∧ b < B ∧ ∀ k p, ps[k]? = some p → w.cell? ⟨b, k * 2, none⟩ = some (.int .i64 p.1) ∧ w.cell? ⟨b, k * 2 + 1, none⟩ = some (.int .i64 p.2)
theorem PairsL.below {w w' : World} {B : Nat} {A : Option Addr} {ps : List (Int × Int)} (h : PairsL w B A ps) (hb : Below B w w') : PairsL w' B A ps := by
  rcases h with h | ⟨b, h1, h2, h3⟩
  · exact .inl h
  · exact .inr ⟨b, h1, h2, fun k p hp => ⟨(hb.cell (p := ⟨b, k * 2, none⟩) h2).trans (h3 k p hp).1, (hb.cell (p := ⟨b, k * 2 + 1, none⟩) h2).trans (h3 k p hp).2⟩⟩
theorem PairsL.at_ {w : World} {B : Nat} {A : Option Addr} {ps : List (Int × Int)} (h : PairsL w B A ps) {k : Nat} (hk : k < ps.length) :
    ∃ b p, A = some ⟨b, 0, none⟩ ∧ b < B ∧ Hid (ps[k]? = some p) ∧ w.cell? ⟨b, k * 2, none⟩ = some (.int .i64 p.1) ∧ w.cell? ⟨b, k * 2 + 1, none⟩ = some (.int .i64 p.2) := by
  rcases h with rfl | ⟨b, h1, h2, h3⟩
  · simp at hk
  · have hp := List.getElem?_eq_getElem hk
    exact ⟨b, ps[k], h1, h2, hp, h3 k _ hp⟩
theorem own_pairsL {w : World} {lo n cap : Nat} {A : Option Addr} {ps : List (Int × Int)} (h : w.ownsRow lo 76 2 (.slice A n cap) n (ps.flatMap encP)) : PairsL w w.heap.size A ps ∧ n = ps.length := by
  have hl : n = ps.length := by
    have := h.1
    rw [flat_length (k := 2) (fun _ => rfl)] at this
    omega
  refine ⟨?_, hl⟩
  rcases h.2 with ⟨h0, h2⟩ | ⟨g, c, cur, hv, hg, hh, h2, h3, h4, h5⟩
  · exact .inl (List.eq_nil_of_length_eq_zero (by omega))
  · injection hv with e1 e2 e3
    subst e1 e3
    refine .inr ⟨g, rfl, (Array.getElem?_eq_some_iff.1 hh).1, fun k p hp => ?_⟩
    obtain ⟨p1, p2⟩ := p
    have key : ∀ j (hj : j < 2), w.cell? ⟨g, k * 2 + j, none⟩ = (encP (p1, p2))[j]? := fun j hj => by
      have hf := flat_get (enc := encP) (k := 2) (fun _ => rfl) ps k j hj
      rw [hp, Option.bind_some] at hf
      have hjl : j < (encP (p1, p2)).length := hj
      have hc := h.cells (g := g) rfl (k * 2 + j) ((encP (p1, p2))[j]) (by rw [hf]; exact List.getElem?_eq_getElem hjl)
      rw [show (⟨g, 0, none⟩ : Addr).add (k * 2 + j) = ⟨g, k * 2 + j, none⟩ by (simp [Addr.add]; omega)] at hc
      rw [hc, ← List.getElem?_eq_getElem hjl]
    exact ⟨key 0 (by omega), key 1 (by omega)⟩
theorem run_neP (a b c d : Int) (w : World) : (Op.equalIn 10000 76 (.agg #[.int .i64 a, .int .i64 b]) (.agg #[.int .i64 c, .int .i64 d])).run Tryz.prog w = .ok (decide (a = c ∧ b = d)) w := run_eqP a b c d w

set_option maxHeartbeats 1000000 in
theorem samePairs_any (A A' : Option Addr) (cap cap' B B' : Nat) (xs ys : List (Int × Int)) (w : World) (hA : PairsL w B A xs) (hA' : PairsL w B' A' ys) (hl : xs.length ≤ 10000000) (_ : ys.length ≤ 10000000) :
    Calls Tryz.prog 30 #[.slice A xs.length cap, .slice A' ys.length cap'] w fun e w' => e = .returned (.bool (decide (xs = ys))) ∧ ∃ n, w' = w.drewN n := by
  have HA := Lib.hid hA
  have HA' := Lib.hid hA'
  clear hA hA'
  by_cases hlen : xs.length = ys.length
  · have hq : (!((xs.length : Int) == ys.length)) = false := by simp [hlen]
    have hq2 : ((xs.length : Int) != ys.length) = false := by simp [hlen]
    have HL := Lib.hid hlen
    clear hlen
    go_enter Tryz.func30, Tryz.ntmps30
    go_wp2_with fail
    go_loopw [5] (fun iv wr => ∃ k n : Nat, k ≤ xs.length ∧ iv = .int .i64 k ∧ Hid (xs.take k = ys.take k) ∧ wr = w.drewN n) (fun i _ => xs.length - (intOf i).toNat)
    case atStart => exact ⟨0, 0, Nat.zero_le _, rfl, rfl, rfl⟩
    case round =>
      obtain ⟨k, n, hk, rfl, HT, rfl⟩ := hrel
      by_cases hlt : k < xs.length
      · have hlt' : k < ys.length := by have := HL.out; omega
        have hi1 : (k : Int) < xs.length := by omega
        have hi2 : (k : Int) < ys.length := by omega
        obtain ⟨b, p, rfl, hb, HP, hp1, hp2⟩ := HA.out.at_ hlt
        obtain ⟨b', q, rfl, hb', HQ, hq1, hq2⟩ := HA'.out.at_ hlt'
        obtain ⟨p1, p2⟩ := p
        obtain ⟨q1, q2⟩ := q
        have HT2 : Hid (xs.take (k + 1) = ys.take (k + 1) ↔ p1 = q1 ∧ p2 = q2) := by
          refine Lib.hid ?_
          rw [take_snoc HP.out, take_snoc HQ.out, HT.out]
          simp
        have hrun := run_eqP p1 p2 q1 q2
        generalize hres : decide (p1 = q1 ∧ p2 = q2) = res at hrun
        have HRES := Lib.hid hres
        clear hres
        dsimp only at hp1 hp2 hq1 hq2
        go_wp2_with fail
        go_quiet (fail)
        cases res with
        | false =>
          have HNE : Hid (decide (xs = ys) = false) := by
            refine Lib.hid (decide_eq_false fun h => ?_)
            have := HRES.out
            simp only [decide_eq_false_iff_not] at this
            exact this (HT2.out.1 (by rw [h]))
          go_wp2
          go_ret
          exact ⟨ret_bool HNE.out.symm, _, World.drewN_drewN _ _ _⟩
        | true =>
          have HT3 : Hid (xs.take (k + 1) = ys.take (k + 1)) := HT2.out.2 (by simpa using HRES.out)
          go_wp2
          go_roundw
          case rel => exact ⟨k + 1, _, by omega, by go_num, HT3, rfl⟩
          case measure => simp [intOf]; omega
      · obtain rfl : k = xs.length := by omega
        have HEQ : Hid (decide (xs = ys) = true) := by
          refine Lib.hid (decide_eq_true ?_)
          have h := HT.out
          rw [List.take_length, HL.out, List.take_length] at h
          exact h
        go_wp2
        go_ret
        exact ⟨ret_bool HEQ.out.symm, _, rfl⟩
  · have HNE : Hid (decide (xs = ys) = false) := Lib.hid (decide_eq_false fun h => hlen (by rw [h]))
    have hq : ((xs.length : Int) != ys.length) = true := by simp; omega
    clear hlen
    go_enter Tryz.func30, Tryz.ntmps30
    go_wp2
    go_ret
    exact ⟨ret_bool HNE.out.symm, 0, rfl⟩

end Go.Proofs.YtfpmkolaiomabaaGreat
