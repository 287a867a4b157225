/- LongM: mathematics of Longest. -/
import Derived.Test.YthlihchndmbkaaaJoined
namespace Go.Proofs.Ythlihchndmbkaaa
open Go.RowKit

/-- a hand alone, for n parts -/
def stA (t : TaskD) (hand n : Nat) : StD := afterD true t (List.replicate n hand)
def misA (t : TaskD) (hand n : Nat) : Int := (stA t hand n).mis
def limA (t : TaskD) : Nat := min t.limit.toNat t.parts.length
theorem stA_succ (t : TaskD) (hand n : Nat) : stA t hand (n + 1) = signD true t (stA t hand n) hand := by
  unfold stA
  rw [List.replicate_succ', afterD_snoc]
theorem stA_ok {t : TaskD} (ht : okTask t = true) {hand : Nat} (hh : hand < t.hands.length) {n : Nat} (hn : n ≤ t.parts.length) : StOK (stA t hand n) ∧ (stA t hand n).parts = n := by
  have h := afterD_ok' (hi := true) ht (first := List.replicate n hand) (fun x hx => by rw [(List.mem_replicate.1 hx).2]; exact hh) (by rw [List.length_replicate]; exact hn)
  rwa [List.length_replicate] at h
theorem misA_mono {t : TaskD} (ht : okTask t = true) {hand : Nat} (hh : hand < t.hands.length) : ∀ {n m : Nat}, n ≤ m → m ≤ t.parts.length → misA t hand n ≤ misA t hand m
  | n, 0, h, _ => by
    obtain rfl : n = 0 := by omega
    exact Int.le_refl _
  | n, m + 1, h, hm => by
    by_cases e : n = m + 1
    · subst e; exact Int.le_refl _
    · refine Int.le_trans (misA_mono ht hh (n := n) (m := m) (by omega) (by omega)) ?_
      unfold misA
      rw [stA_succ, signD_mis]
      exact misD_ge ht (stA_ok ht hh (by omega)).1 hand hh
/-- for k parts, and no longer, a hand can sign alone -/
def LongIs (t : TaskD) (hand : Nat) (most : Int) (k : Nat) : Prop := k ≤ limA t ∧ misA t hand k ≤ most ∧ (k = limA t ∨ most < misA t hand (k + 1))
theorem longIs_iff {t : TaskD} (ht : okTask t = true) {hand : Nat} (hh : hand < t.hands.length) {most : Int} {k : Nat} (h : LongIs t hand most k) {n : Nat} (hn : n ≤ limA t) (hk : n ≤ k + 1) : misA t hand n ≤ most ↔ n ≤ k := by
  obtain ⟨h1, h2, h3⟩ := h
  have hl : limA t ≤ t.parts.length := Nat.min_le_right _ _
  constructor
  · intro g
    by_cases e : n ≤ k
    · exact e
    · obtain rfl : n = k + 1 := by omega
      omega
  · intro g
    have := misA_mono ht hh g (by omega)
    omega
/-- the first n parts of a task -/
def cutT (t : TaskD) (n : Nat) : TaskD := ⟨t.hands, t.parts.take n, t.limit, t.rest, t.swap⟩
theorem runM_cut {t : TaskD} {W : Nat → Nat → Int} {rota : List Nat} {n : Nat} : ∀ i, i ≤ n → runM (cutT t n) W rota i = runM t W rota i
  | 0, _ => rfl
  | i + 1, hi => by
    unfold runM partM
    rw [runM_cut i (by omega)]
    have e : (cutT t n).parts.getD i 0 = t.parts.getD i 0 := by
      show (t.parts.take n).getD i 0 = _
      unfold List.getD
      rw [List.getElem?_take_of_lt (by omega)]
    rw [e]
    rfl
theorem cutT_ok {t : TaskD} (ht : okTask t = true) {n : Nat} (h1 : 1 ≤ n) (hn : n ≤ t.parts.length) : okTask (cutT t n) = true := by
  have hp := okTask_parts ht
  simp only [okTask, cutT, Bool.and_eq_true, inB_iff, List.all_eq_true, List.length_take]
  refine ⟨⟨⟨⟨by omega, hp.2.1⟩, by omega, fun p hpp => hp.2.2.2.1 p (List.mem_of_mem_take hpp)⟩, by omega, by omega⟩, by omega⟩
theorem alone_mist {t : TaskD} (ht : okTask t = true) {hand : Nat} (hh : hand < t.hands.length) {n : Nat} (h1 : 1 ≤ n) (hn : n ≤ t.parts.length) : ∃ b, mistD (cutT t n) (List.replicate n (hand : Int)) = (b, misA t hand n, 0) := by
  have hok := cutT_ok ht h1 hn
  have hl : (t.parts.take n).length = n := by rw [List.length_take]; omega
  have e : List.replicate n (hand : Int) = natsL (List.replicate n hand) := by simp
  have hf : ∀ h ∈ List.replicate n hand, h < t.hands.length := fun x hx => by rw [(List.mem_replicate.1 hx).2]; exact hh
  have ho := okRota_natsL hok (ms := List.replicate n hand) (by rw [List.length_replicate]; exact hl.symm) hf
  rw [e]
  have r1 := (after_run (hi := true) (t := cutT t n) (okTask_parts ht).1.2 hf (by rw [List.length_replicate]; exact Nat.le_of_eq hl.symm) n (by rw [List.length_replicate]; exact Nat.le_refl _)).2.1
  have r2 := (after_run (hi := true) (t := t) (okTask_parts ht).1.2 hf (by rw [List.length_replicate]; exact hn) n (by rw [List.length_replicate]; exact Nat.le_refl _)).2.1
  have e2 : (List.replicate n hand).take n = List.replicate n hand := List.take_of_length_le (by rw [List.length_replicate]; exact Nat.le_refl _)
  rw [e2] at r1 r2
  have e3 : misOf (cutT t n) (List.replicate n hand) = misA t hand n := by
    unfold misOf misA stA
    rw [r1, r2]
    exact runM_cut n (Nat.le_refl _)
  exact ⟨_, by rw [mistD_ok hok ho, natsOf_natsL, e3]⟩
theorem misA_zero (t : TaskD) (hand : Nat) : misA t hand 0 = 0 := (beginTo_zero true t.hands t.hands.length).1

end Go.Proofs.Ythlihchndmbkaaa
