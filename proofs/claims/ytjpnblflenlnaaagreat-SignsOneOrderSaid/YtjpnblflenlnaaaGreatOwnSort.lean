/- Sorting and compacting a row of the call's own. -/
import Derived.Test.YtjpnblflenlnaaaGreatShelf
import Derived.Test.YtjpnblflenlnaaaGreatSigns
import Derived.Sort.OwnSortedInts
namespace Go.Proofs.YtjpnblflenlnaaaGreat
open Go.RowKit

abbrev sortedL (xs : List Int) : List Int := xs.mergeSort fun x y => decide (x ≤ y)
theorem own_sort {w : World} {base n cap : Nat} {A : Option Addr} {xs : List Int} (h : w.ownsRow base 3 1 (.slice A n cap) n (xs.map (Value.int .i64))) (hn : xs.length ≤ 1000000) :
    Calls Tryz.prog 99 #[.slice A n cap] w fun e w' => e = .returned (.tuple #[]) ∧ w'.ownsRow base 3 1 (.slice A n cap) n ((sortedL xs).map (Value.int .i64)) ∧ w.grownBy w' (Value.ownBlock (.slice A n cap)) := by
  have hlen : n = xs.length := by simpa using h.1.symm
  subst hlen
  rcases h.2 with ⟨h0, h1⟩ | ⟨g, c, cur, hv, hg, hh, h1, h2, h3, h4⟩
  · injection h0 with e1 e2 e3
    subst e1 e3
    have hx : xs = [] := by simpa using e2
    subst hx
    refine (Tryz.slices_Sort_int_none none 0 w).mono ?_
    rintro e w' ⟨rfl, rfl⟩
    exact ⟨rfl, by simpa [sortedL] using h, World.grownBy.refl _ _⟩
  · injection hv with e1 e2 e3
    subst e1 e3
    have hH := holds_of_blockI (w := w) (ss := xs) hh (by simpa using h4)
    refine (Tryz.slices_Sort_int g 0 cap xs w hH (Array.getElem?_eq_some_iff.1 hh).1 (by omega)).mono ?_
    rintro e w' ⟨rfl, m, os, rfl⟩
    exact ⟨rfl, ownsRow_sortedI (by simp) hg hh h1 h2 h3, grownBy_sortedI _⟩

theorem own_compact {w : World} {base n cap : Nat} {A : Option Addr} {xs : List Int} (h : w.ownsRow base 3 1 (.slice A n cap) n (xs.map (Value.int .i64))) (hn : xs.length ≤ 1000000) (hc : (Lib.compact xs).length ≤ xs.length) :
    Calls Tryz.prog 100 #[.slice A n cap] w fun e w' => e = .returned (.slice A (Lib.compact xs).length cap) ∧ w'.ownsRow base 3 1 (.slice A (Lib.compact xs).length cap) (Lib.compact xs).length ((Lib.compact xs).map (Value.int .i64)) ∧ w.grownBy w' (Value.ownBlock (.slice A n cap)) := by
  have hlen : n = xs.length := by simpa using h.1.symm
  subst hlen
  rcases h.2 with ⟨h0, h1⟩ | ⟨g, c, cur, hv, hg, hh, h1, h2, h3, h4⟩
  · injection h0 with e1 e2 e3
    subst e1 e3
    have hx : xs = [] := by simpa using e2
    subst hx
    refine (Tryz.slices_Compact_int_empty none 0 w).mono ?_
    rintro e w' ⟨rfl, rfl⟩
    exact ⟨rfl, by simpa [Lib.compact, Lib.compactUpTo] using h, World.grownBy.refl _ _⟩
  · injection hv with e1 e2 e3
    subst e1 e3
    have hH := holds_of_blockI (w := w) (ss := xs) hh (by simpa using h4)
    refine (Tryz.slices_Compact_int g 0 cap xs w hH (by omega) (by omega)).mono ?_
    rintro e w' ⟨rfl, m, rfl⟩
    have hl : (Lib.compact xs ++ List.replicate (xs.length - (Lib.compact xs).length) 0).length = xs.length := by simp; omega
    have h5 := ownsRow_sortedI (n := m) (os := #[]) hl hg hh h1 h2 h3
    have h6 := grownBy_sortedI (w := w) (g := g) (n := m) (os := #[]) (Lib.compact xs ++ List.replicate (xs.length - (Lib.compact xs).length) 0).toArray
    rw [Sort.grow_empty] at h5 h6
    refine ⟨rfl, ⟨by simp, ?_⟩, h6⟩
    rcases h5.2 with ⟨h0, _⟩ | ⟨g', c', cur', hv', hg', hh', k1, k2, k3, k4⟩
    · cases h0
    · injection hv' with f1 f2 f3
      injection f1 with f1
      injection f1 with f1
      subst f1 f3
      refine .inr ⟨g, cap, cur', rfl, hg', hh', by omega, k2, k3, ?_⟩
      have := congrArg (List.take (Lib.compact xs).length) k4
      rw [List.take_take, List.map_append, List.take_left' (by simp)] at this
      rw [← this]
      congr 1
      omega
end Go.Proofs.YtjpnblflenlnaaaGreat
