/- TwLen: how many twins there are at most. -/
import Derived.Test.YtfpmkolaiomabaaGreatTwL
import Derived.Test.YtfpmkolaiomabaaGreatDist
namespace Go.Proofs.YtfpmkolaiomabaaGreat
open Go.RowKit

theorem nodup_range {r : List Int} (h : r.Nodup) (N : Nat) (hr : ∀ x ∈ r, 0 ≤ x ∧ x < N) : r.length ≤ N := by
  have h1 : (r.map Int.toNat).Nodup := by
    rw [List.Nodup, List.pairwise_map]
    exact List.Pairwise.imp_of_mem (fun {a b} ha hb hab e => hab (by have := hr a ha; have := hr b hb; omega)) h
  have h2 : (r.map Int.toNat).length ≤ (List.range N).length := List.Nodup.length_le_of_subset h1 (fun x hx => by
    obtain ⟨y, hy, rfl⟩ := List.mem_map.1 hx
    have := hr y hy
    exact List.mem_range.2 (by omega))
  simpa using h2
theorem IsBookOf_length {l zs : List EntryD} (h : IsBookOf l zs) (hl : ∀ x ∈ l, okEntry x = true) : zs.length ≤ 100 := by
  have h1 := nodup_range h.once 100 (fun i hi => by
    obtain ⟨y, hy, rfl⟩ := List.mem_map.1 hi
    obtain ⟨x, hx, rfl⟩ := (h.mem y).1 hy
    have := okEntry_id (hl x hx)
    exact ⟨this.1, by rw [canonE_id]; omega⟩)
  simpa using h1
theorem TwinsD_length {l : List EntryD} {r : List (Int × Int)} (h : TwinsD l r) (hl : ∀ x ∈ l, okEntry x = true) : r.length ≤ 1000000 := by
  have hmem : ∀ p ∈ r, 0 ≤ p.1 ∧ p.1 ≤ 999 ∧ 0 ≤ p.2 ∧ p.2 ≤ 999 := fun p hp => by
    obtain ⟨x, hx, y, hy, _, rfl⟩ := (h.2 p).1 hp
    have := okEntry_sign' (hl x hx)
    have := okEntry_sign' (hl y hy)
    dsimp only
    omega
  have h1 : (r.map fun p => p.1 * 1000 + p.2).Nodup := by
    rw [List.Nodup, List.pairwise_map]
    refine List.Pairwise.imp_of_mem (fun {a b} ha hb hab e => ?_) h.1
    have h2 := hmem a ha
    have h3 := hmem b hb
    have : a = b := Prod.ext (by omega) (by omega)
    rw [this, cmp_cmpP.self] at hab
    omega
  have h2 := nodup_range h1 1000000 (fun i hi => by
    obtain ⟨p, hp, rfl⟩ := List.mem_map.1 hi
    have := hmem p hp
    constructor <;> omega)
  simpa using h2

end Go.Proofs.YtfpmkolaiomabaaGreat
