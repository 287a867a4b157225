/- A sorted list, compacted, ascends and has the same members. -/
import Derived.Test.YtjpnblflenlnaaaGreatOwnSort
namespace Go.Proofs.YtjpnblflenlnaaaGreat
open Go.RowKit

theorem compactUpTo_spec (d : Array Int) (hm : ∀ i j, i ≤ j → j < d.size → d[i]! ≤ d[j]!) : ∀ m, m ≤ d.size →
    (Lib.compactUpTo d m).Pairwise (· < ·) ∧ (Lib.compactUpTo d m).length ≤ m ∧ (∀ x, x ∈ Lib.compactUpTo d m ↔ ∃ j, j < m ∧ d[j]! = x)
  | 0, _ => ⟨by simp [Lib.compactUpTo], by simp [Lib.compactUpTo], by simp [Lib.compactUpTo]⟩
  | m + 1, hle => by
    obtain ⟨h1, h2, h3⟩ := compactUpTo_spec d hm m (by omega)
    rw [Lib.compactUpTo_succ]
    by_cases hk : Lib.keeps d m = true
    · rw [if_pos hk]
      refine ⟨List.pairwise_append.2 ⟨h1, by simp, ?_⟩, by simp; exact h2, fun x => ?_⟩
      · intro a ha b hb
        have hb : b = d[m]! := by simpa using hb
        obtain ⟨j, hj, rfl⟩ := (h3 a).1 ha
        subst hb
        have hk' : m = 0 ∨ d[m]! ≠ d[m - 1]! := by simpa [Lib.keeps] using hk
        have e1 := hm j (m - 1) (by omega) (by omega)
        have e2 := hm (m - 1) m (by omega) (by omega)
        rcases hk' with hk' | hk' <;> omega
      · rw [List.mem_append, h3 x]
        constructor
        · rintro (⟨j, hj, hx⟩ | hx)
          · exact ⟨j, by omega, hx⟩
          · exact ⟨m, by omega, (List.mem_singleton.1 hx).symm⟩
        · rintro ⟨j, hj, hx⟩
          by_cases hjm : j = m
          · subst hjm
            exact .inr (List.mem_singleton.2 hx.symm)
          · exact .inl ⟨j, by omega, hx⟩
    · rw [if_neg hk, List.append_nil]
      refine ⟨h1, by omega, fun x => ?_⟩
      rw [h3 x]
      have hk' : ¬(m = 0 ∨ d[m]! ≠ d[m - 1]!) := by simpa [Lib.keeps] using hk
      have hk1 : m ≠ 0 := fun h => hk' (.inl h)
      have hk2 : d[m]! = d[m - 1]! := Classical.byContradiction fun h => hk' (.inr h)
      constructor
      · rintro ⟨j, hj, hx⟩
        exact ⟨j, by omega, hx⟩
      · rintro ⟨j, hj, hx⟩
        by_cases hjm : j = m
        · subst hjm
          exact ⟨j - 1, by omega, by rw [← hk2]; exact hx⟩
        · exact ⟨j, by omega, hx⟩
theorem mono_of_sorted (zs : List Int) (h : zs.Pairwise (· ≤ ·)) : ∀ i j, i ≤ j → j < zs.toArray.size → zs.toArray[i]! ≤ zs.toArray[j]! := by
  intro i j hij hj
  have hj' : j < zs.length := by simpa using hj
  by_cases e : i = j
  · subst e; exact Int.le_refl _
  · have := List.pairwise_iff_getElem.1 h i j (by omega) hj' (by omega)
    simpa [getElem!_pos, hj', show i < zs.length by omega] using this
theorem compact_len (zs : List Int) : (Lib.compact zs).length ≤ zs.length := by
  simp only [Lib.compact, Lib.compactUpTo, List.length_map]
  exact Nat.le_trans (List.length_filter_le _ _) (by simp)
/-- sorted, then compacted: ascending, with the members of before -/
theorem sorted_compact (xs : List Int) : (Lib.compact (sortedL xs)).Pairwise (· < ·) ∧ ∀ x, x ∈ Lib.compact (sortedL xs) ↔ x ∈ xs := by
  have hs : (sortedL xs).Pairwise (· ≤ ·) := by
    have := List.pairwise_mergeSort (le := fun x y : Int => decide (x ≤ y)) (by simp; omega) (by simp; omega) xs
    exact this.imp (fun h => by simpa using h)
  obtain ⟨h1, _, h3⟩ := compactUpTo_spec (sortedL xs).toArray (mono_of_sorted _ hs) (sortedL xs).length (by simp)
  have hp := List.mergeSort_perm xs fun x y => decide (x ≤ y)
  refine ⟨h1, fun x => (h3 x).trans ((show (∃ j, j < (sortedL xs).length ∧ (sortedL xs).toArray[j]! = x) ↔ x ∈ sortedL xs from ?_).trans hp.mem_iff)⟩
  clear hp h3 h1 hs
  generalize sortedL xs = ys
  constructor
  · rintro ⟨j, hj, rfl⟩
    rw [getElem!_pos ys.toArray j (by simpa using hj)]
    simp
  · intro hx
    obtain ⟨j, hj, rfl⟩ := List.getElem_of_mem hx
    exact ⟨j, hj, by rw [getElem!_pos ys.toArray j (by simpa using hj)]; simp⟩

end Go.Proofs.YtjpnblflenlnaaaGreat
