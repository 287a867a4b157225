/- ChainG: what the laws need of chains: no chain means no way; the way back is as long; with more joints no chain is longer. -/
import Derived.Test.YticeekkfdkfcgaaChainF
import Derived.Test.YticeekkfdkfcgaaJoins
namespace Go.Proofs.Yticeekkfdkfcgaa

theorem joinsL_symm {P : List PersonR} (lv : Int) (l : List (Mem P)) (a b : Nat) : joinsL lv a b l = joinsL lv b a l := by
  unfold joinsL bothD
  congr 1
  funext x
  rw [Int.min_comm]
section
variable {n : Nat} (h2 : 2 ≤ n) (h5 : n ≤ 5) {adj : Nat → Nat → Bool} (hs : ∀ a b, adj a b = adj b a) {fr dst : Nat} (hf : fr < n) (hd : dst < n) (hne : fr ≠ dst)
include h2 h5 hs hf hd hne
theorem far_none : dig (farD n adj fr) dst = 0 ↔ chainD n adj fr dst = none := by
  have F := chain_facts h2 h5 hs hf hd hne
  constructor
  · intro h
    cases hc : chainD n adj fr dst with
    | none => rfl
    | some l =>
      obtain ⟨q1, _, _, _, _, _, q7, _⟩ := F.some l hc
      omega
  · exact fun h => (F.none h).1
theorem back_none : dig (farD n adj dst) fr = 0 ↔ chainD n adj fr dst = none := by
  have F := chain_facts h2 h5 hs hf hd hne
  constructor
  · intro h
    cases hc : chainD n adj fr dst with
    | none => rfl
    | some l =>
      obtain ⟨q1, _, _, _, _, _, _, q8⟩ := F.some l hc
      omega
  · exact fun h => (F.none h).2
/-- the way back has as many languages -/
theorem chain_back {l : List Nat} (hc : chainD n adj fr dst = some l) : ∃ l', chainD n adj dst fr = some l' ∧ l'.length = l.length := by
  have F := chain_facts h2 h5 hs hf hd hne
  have B := chain_facts h2 h5 hs hd hf (fun e => hne e.symm)
  obtain ⟨q1, _, _, _, _, _, _, q8⟩ := F.some l hc
  cases hb : chainD n adj dst fr with
  | none => have := (B.none hb).1; omega
  | some l' =>
    obtain ⟨_, _, _, _, _, _, r7, _⟩ := B.some l' hb
    exact ⟨l', rfl, by omega⟩
end
/-- along a chain the steps grow by at most one each -/
theorem along_steps {n : Nat} {adj : Nat → Nat → Bool} {f : Nat} (hstep : ∀ a b, a < n → b < n → a ≠ b → adj a b = true → dig f a ≠ 0 → 1 ≤ dig f b ∧ dig f b ≤ dig f a + 1) : ∀ (l : List Nat) (a k : Nat), (∀ x ∈ a :: l, x < n) → alongC adj (a :: l) = true → 1 ≤ dig f a → dig f a ≤ k → 1 ≤ dig f ((a :: l).getLastD 0) ∧ dig f ((a :: l).getLastD 0) ≤ k + l.length
  | [], a, k, _, _, h1, hk => by simpa using ⟨h1, hk⟩
  | b :: l, a, k, hx, hl, h1, hk => by
    have hl' : (adj a b && alongC adj (b :: l)) = true := hl
    rw [Bool.and_eq_true] at hl'
    have hb : 1 ≤ dig f b ∧ dig f b ≤ k + 1 := by
      by_cases e : a = b
      · subst e; omega
      · have := hstep a b (hx a (by simp)) (hx b (by simp)) e hl'.1 (by omega)
        omega
    have ih := along_steps hstep l b (k + 1) (fun x hm => hx x (List.mem_cons_of_mem _ hm)) hl'.2 hb.1 hb.2
    have e : (a :: b :: l).getLastD 0 = (b :: l).getLastD 0 := by simp
    rw [e, List.length_cons]
    omega
theorem along_mono {adj adj' : Nat → Nat → Bool} (h : ∀ a b, adj a b = true → adj' a b = true) : ∀ (l : List Nat), alongC adj l = true → alongC adj' l = true
  | [], _ => rfl
  | [_], _ => rfl
  | a :: b :: l, hl => by
    have hl' : (adj a b && alongC adj (b :: l)) = true := hl
    rw [Bool.and_eq_true] at hl'
    show (adj' a b && alongC adj' (b :: l)) = true
    rw [h a b hl'.1, along_mono h (b :: l) hl'.2]
    rfl
/-- with more joints no chain is longer -/
theorem chain_mono {n : Nat} (h2 : 2 ≤ n) (h5 : n ≤ 5) {adj adj' : Nat → Nat → Bool} (hs : ∀ a b, adj a b = adj b a) (hs' : ∀ a b, adj' a b = adj' b a) (h : ∀ a b, adj a b = true → adj' a b = true) {fr dst : Nat} (hf : fr < n) (hd : dst < n) (hne : fr ≠ dst) {l : List Nat} (hc : chainD n adj fr dst = some l) : ∃ l', chainD n adj' fr dst = some l' ∧ l'.length ≤ l.length := by
  have F := chain_facts h2 h5 hs hf hd hne
  have F' := chain_facts h2 h5 hs' hf hd hne
  obtain ⟨q1, _, q3, q4, q5, q6, _, _⟩ := F.some l hc
  obtain ⟨p1, p2⟩ := far_facts h2 h5 hs' hf
  cases l with
  | nil => cases q3
  | cons a l =>
    obtain rfl : a = fr := by simpa using q3
    have hl := along_steps p2 l a 1 q5 (along_mono h _ q6) (by omega) (by omega)
    have e : (a :: l).getLastD 0 = dst := by rw [List.getLastD_eq_getLast?, q4]; rfl
    rw [e] at hl
    cases hb : chainD n adj' a dst with
    | none => have := (F'.none hb).1; omega
    | some l' =>
      obtain ⟨_, _, _, _, _, _, r7, _⟩ := F'.some l' hb
      exact ⟨l', rfl, by rw [List.length_cons]; omega⟩

end Go.Proofs.Yticeekkfdkfcgaa
