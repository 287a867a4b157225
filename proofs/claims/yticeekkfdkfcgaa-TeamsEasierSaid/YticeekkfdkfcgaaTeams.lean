/- Teams: all teams with some member, in ascending order, as the program yields them. -/
import Derived.Test.YticeekkfdkfcgaaMeth
namespace Go.Proofs.Yticeekkfdkfcgaa
open Go.RowKit Go.Shelf

attribute [local go_sem] Oper.semAt_some

theorem round_wide {P : Program} {n m l : Nat} {f : FuncId} {tmps : Array Value} {assign body : Code} {w : World} {R : Ending → World → Prop} (h : RoundIn Fence.wide n P l f tmps assign body w R) : RoundIn Fence.wide m P l f tmps assign body w R :=
  ⟨h.1, fun c cs _ => h.2 c cs (by simp [Fence.room, Fence.wide])⟩
/-- the teams from 1 on below k -/
def tmTo : Nat → List (Fin 1024)
  | 0 => []
  | k + 1 => if h : 1 ≤ k ∧ k < 1024 then tmTo k ++ [⟨k, h.2⟩] else tmTo k
theorem tmTo_succ {k : Nat} (h1 : 1 ≤ k) (h2 : k < 1024) : tmTo (k + 1) = tmTo k ++ [⟨k, h2⟩] := by rw [tmTo, dif_pos ⟨h1, h2⟩]
theorem tmTo_one : tmTo 1 = [] := by rw [tmTo, dif_neg (by omega), tmTo]
theorem tmTo_len : ∀ k, (tmTo k).length ≤ k - 1
  | 0 => Nat.le_refl _
  | k + 1 => by
    have ih := tmTo_len k
    by_cases h : 1 ≤ k ∧ k < 1024
    · rw [tmTo_succ h.1 h.2, List.length_append, List.length_singleton]; omega
    · rw [tmTo, dif_neg h]; omega
theorem tmTo_mem {x : Fin 1024} : ∀ k, x ∈ tmTo k ↔ 1 ≤ x.val ∧ x.val < k
  | 0 => by simp [tmTo]
  | k + 1 => by
    have ih := tmTo_mem (x := x) k
    by_cases h : 1 ≤ k ∧ k < 1024
    · rw [tmTo_succ h.1 h.2, List.mem_append, ih, List.mem_singleton]
      constructor
      · rintro (⟨a, b⟩ | rfl)
        · exact ⟨a, by omega⟩
        · exact ⟨h.1, by simp⟩
      · rintro ⟨a, b⟩
        rcases Nat.lt_or_ge x.val k with g | g
        · exact .inl ⟨a, g⟩
        · exact .inr (Fin.ext (show x.val = k by omega))
    · rw [tmTo, dif_neg h, ih]
      have := x.isLt
      constructor
      · rintro ⟨a, b⟩; exact ⟨a, by omega⟩
      · rintro ⟨a, b⟩; exact ⟨a, by omega⟩

set_option maxRecDepth 100000 in
set_option maxHeartbeats 2000000 in
theorem teams_stops (c : CrewR) (j : JobD) (lw : LawD) (bA : Option Addr) (bc n₀ q : Nat) (hl : c.people.length ≤ 8) (w : World) (hn0 : n₀ ≤ w.heap.size) :
    SeqM Try.prog 63 (fun y => #[taskV c j lw bA bc] ++ #[y] ++ #[]) (fun x : Fin 1024 => #[.int .i64 (x.val : Nat)]) n₀ q (fun ys => ys = tmTo (2 ^ c.people.length)) (fun pre => ∃ k, k ≤ 2 ^ c.people.length ∧ pre = tmTo k) 1024 w := by
  intro l J Jx W hW hJ _ hY h0
  show CallsIn Fence.wide 8 Try.prog 63 #[taskV c j lw bA bc, .func (.yield l) #[] #[]] W _
  have hro : Fence.wide.round = none := rfl
  have hn1 : n₀ ≤ W.heap.size := Nat.le_trans hn0 hW.size
  have hpl : 2 ^ c.people.length ≤ 256 := Nat.pow_le_pow_right (n := 2) (by omega) hl
  have hp1 : 1 ≤ 2 ^ c.people.length := Nat.one_le_two_pow
  have hpI : ((2 : Int) ^ c.people.length) = ((2 ^ c.people.length : Nat) : Int) := (Int.natCast_pow 2 _).symm
  have hl0 : (0 : Int) ≤ (c.people.length : Int) := by omega
  have hl64 : c.people.length ≤ 64 := by omega
  obtain ⟨m, hm⟩ : ∃ z, 2 ^ c.people.length = z := ⟨_, rfl⟩
  rw [hm] at hpl hp1 hpI ⊢
  have hwr : IntKind.i64.wrap ((2 : Int) ^ c.people.length) = (m : Int) := by
    rw [hpI]
    exact IntWalk.i64_in _ (by omega)
  clear hpI hm
  refine callsIn_of_wp Try.func63 rfl trivial ?_ hro
  simp only [Try.ntmps63, List.size_toArray, List.length_cons, List.length_nil, Nat.reduceAdd, Nat.reduceSub, Array.replicate_succ, Array.replicate_zero, List.push_toArray, List.append_toArray, List.nil_append, List.cons_append]
  gi_wp2
  obtain ⟨W2, hW2, hg2, hf2, hsz2⟩ := one_block W 63 (cellsT c j lw bA bc)
  have hJ2 : J [] W2 := by rw [← hW2]; exact hJ.alloc _ h0
  rw [hW2]
  clear hW2 h0
  have HF := Lib.hid hf2
  clear hf2
  gi_loopw [4] (fun i wr => ∃ k : Nat, 1 ≤ k ∧ k ≤ m ∧ i = .int .i64 k ∧ J (tmTo k) wr ∧ KeepM n₀ q W.heap.size W2 wr)
    (fun i _ => m - (intOf i).toNat)
  case atStart => exact ⟨1, Nat.le_refl _, hp1, rfl, by rw [tmTo_one]; exact hJ2, KeepM.refl _ _ _ _⟩
  case round =>
    obtain ⟨k, hk1, hk, rfl, hJs, hnx⟩ := hrel
    have hfr := hnx.block (Nat.le_refl _) HF.out
    have hc := hfr.cell
    by_cases hlt : k < m
    · have hd : decide ((k : Int) < (m : Int)) = true := decide_eq_true (by omega)
      have hlen : (tmTo k).length < 1024 := by have := tmTo_len k; omega
      have hk4 : k < 1024 := by omega
      obtain ⟨fn, tmps, assign, body, hy, hR⟩ := hY _ (⟨k, hk4⟩ : Fin 1024) wr hJs hlen
      dsimp only at hy
      gi_wp2
      refine (round_wide hR).mono ?_
      rintro e W3 ⟨hkk, (⟨rfl, hJ3⟩ | ⟨rfl, hJx3⟩)⟩
      · gi_wp2
        go_roundw
        case rel => exact ⟨k + 1, by omega, by omega, by simp, by rw [tmTo_succ hk1 hk4]; exact hJ3, hnx.trans hkk⟩
        case measure => simp [intOf]; omega
      · gi_wp2
        refine bodyPost_ret (results_none rfl _ _ _) rfl ?_
        exact ⟨⟨_, rfl⟩, .inr ⟨_, ⟨k + 1, by omega, (tmTo_succ hk1 hk4).symm⟩, hJx3⟩⟩
    · obtain rfl : k = m := by omega
      have hd : decide ((k : Int) < (k : Int)) = false := decide_eq_false (by omega)
      gi_wp2
      go_end0
      exact ⟨⟨_, rfl⟩, .inl ⟨_, rfl, hJs⟩⟩

end Go.Proofs.Yticeekkfdkfcgaa
