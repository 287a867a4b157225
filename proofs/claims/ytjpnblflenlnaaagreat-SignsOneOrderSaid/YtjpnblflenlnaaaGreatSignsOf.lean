/- The signs of a book that agree with what was seen: the walk. -/
import Derived.Test.YtjpnblflenlnaaaGreatSigns
import Derived.Test.YtjpnblflenlnaaaGreatAppend
import Derived.Test.YtjpnblflenlnaaaGreatMirror
namespace Go.Proofs.YtjpnblflenlnaaaGreat
open Go.RowKit
open Go.ChangeMaps (setBlock)

/-- what the loop keeps: xs holds just the signs of the entries that were handed out and agree -/
def Gathered (s : SeenD) (l : List EntryR) (seen : Array Nat) (xs : List Int) : Prop := xs.length + (leftOf (entsM l) seen).size ≤ l.length ∧
  ∀ x, x ∈ xs ↔ ∃ k y, k ∈ seen ∧ l[k]? = some y ∧ agreesD s y.d = true ∧ y.d.sign = x
theorem Gathered.start (s : SeenD) (l : List EntryR) : Gathered s l #[] [] := by
  refine ⟨?_, fun x => by simp⟩
  have : (leftOf (entsM l) #[]).size ≤ (entsM l).size := by unfold leftOf; exact Array.size_filter_le
  simpa [entsM] using this
theorem Gathered.take {s : SeenD} {l : List EntryR} {seen : Array Nat} {xs : List Int} (h : Gathered s l seen xs) {k : Nat} {y : EntryR} (hy : l[k]? = some y) (hk : k ∉ seen) (ha : agreesD s y.d = true) : Gathered s l (seen.push k) (xs ++ [y.d.sign]) := by
  refine ⟨?_, fun x => ?_⟩
  · have := left_book hy hk
    have := h.1
    simp
    omega
  · rw [List.mem_append, h.2 x]
    constructor
    · rintro (⟨j, z, hj, hz⟩ | hx)
      · exact ⟨j, z, by simp [hj], hz⟩
      · exact ⟨k, y, by simp, hy, ha, (List.mem_singleton.1 hx).symm⟩
    · rintro ⟨j, z, hj, hz, h1, h2⟩
      rcases Array.mem_push.1 hj with hj | rfl
      · exact .inl ⟨j, z, hj, hz, h1, h2⟩
      · rw [hy] at hz
        obtain rfl := Option.some.inj hz
        exact .inr (by simp [h2])
theorem Gathered.skip {s : SeenD} {l : List EntryR} {seen : Array Nat} {xs : List Int} (h : Gathered s l seen xs) {k : Nat} {y : EntryR} (hy : l[k]? = some y) (hk : k ∉ seen) (ha : ¬agreesD s y.d = true) : Gathered s l (seen.push k) xs := by
  refine ⟨?_, fun x => ?_⟩
  · have := left_book hy hk
    have := h.1
    omega
  · rw [h.2 x]
    constructor
    · rintro ⟨j, z, hj, hz⟩
      exact ⟨j, z, by simp [hj], hz⟩
    · rintro ⟨j, z, hj, hz, h1, h2⟩
      rcases Array.mem_push.1 hj with hj | rfl
      · exact ⟨j, z, hj, hz, h1, h2⟩
      · rw [hy] at hz
        obtain rfl := Option.some.inj hz
        exact absurd h1 ha
theorem Gathered.all {s : SeenD} {l : List EntryR} {seen : Array Nat} {xs : List Int} (h : Gathered s l seen xs) (hall : ∀ k x, l[k]? = some x → k ∈ seen) (x : Int) : x ∈ xs ↔ ∃ y ∈ l, agreesD s y.d = true ∧ y.d.sign = x := by
  rw [h.2 x]
  constructor
  · rintro ⟨k, y, _, hy, h1, h2⟩
    exact ⟨y, List.mem_of_getElem? hy, h1, h2⟩
  · rintro ⟨y, hy, h1, h2⟩
    obtain ⟨k, hk⟩ := List.getElem?_of_mem hy
    exact ⟨k, y, hall k y hk, hk, h1, h2⟩

end Go.Proofs.YtjpnblflenlnaaaGreat
