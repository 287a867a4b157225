/- AppE: append to an empty slice that has no room: all that was there stays. -/
import Derived.Test.YtfpmkolaiomabaaGreatOrder
namespace Go.Proofs.YtfpmkolaiomabaaGreat
open Go.RowKit

theorem wp_append_empty {P : Program} {w : World} {o : Oper} {a : Act} {K : Act → World → Prop} {Q : Exit → Act → World → Prop} (s x : Operand) (t : TypeId)
    (ho : o.op = .call { callee := .builtin .append, args := #[s, x], argTypes := #[t, t] })
    (base : Nat) (e : TypeId) (i : TypeInfo) (z : Value) (size bytes : Nat) (ht : P.underlying t = some (.slice e)) (hi : P.info? e = some i) (hz : i.zero = some z)
    (hsize : i.size = size) (hby : i.bytes = bytes) (hzs : z.cells.size = size) (hsz : 0 < size)
    (g : Nat) (hs : a.eval s = .slice (some ⟨g, 0, none⟩) 0 0) (hg : BlockIs w g e #[]) (hbg : base ≤ g)
    (ad : Option Addr) (m c : Nat) (news : List Value) (hx : a.eval x = .slice ad m c) (hl : news.length = m * size) (hnews : ∀ j u, news[j]? = some u → ∃ p, ad = some p ∧ w.cell? (p.add j) = some u) (h1 : ∀ u ∈ news, u.oneCell' = true)
    (h63 : m ≤ maxLen) (hbytes : m * bytes ≤ 140737488355328) (hbase : base ≤ w.heap.size)
    (h : ∀ v' w', w'.ownsRow base e size v' m news → Grow w w' → K (a.put o.dst v') w') : o.wp P a w K Q := by
  have key : ∃ v' w', (Builtin.append_ #[t, t] o.type #[.slice (some ⟨g, 0, none⟩) 0 0, .slice ad m c]).run P w = .ok v' w' ∧ w'.ownsRow base e size v' m news ∧ Grow w w' := by
    subst hsize hby
    by_cases hm : m = 0
    · subst hm
      have hn : news = [] := List.eq_nil_of_length_eq_zero (by simpa using hl)
      subst hn
      refine ⟨.slice (some ⟨g, 0, none⟩) 0 0, w, ?_, ⟨by simp, .inr ⟨g, 0, #[], rfl, hbg, hg, Nat.le_refl _, by unfold maxLen; omega, by simp, by simp⟩⟩, Grow.refl _⟩
      cases ad <;> simp [Builtin.append_, run_underlying ht, sizeOf, typeInfo, hi, Builtin.lenOf, Builtin.firstCells, loadCells, loadCellsFrom, Go.storeCells]
    · obtain ⟨u, us, hnu⟩ : ∃ u us, news = u :: us := by
        cases news with
        | nil => have h0 := Nat.mul_pos (show 0 < m by omega) hsz; rw [List.length_nil] at hl; omega
        | cons u us => exact ⟨u, us, rfl⟩
      obtain ⟨p, rfl, -⟩ := hnews 0 u (by rw [hnu]; rfl)
      have hnews' : ∀ j u, news[j]? = some u → w.cell? (p.add j) = some u := fun j u hu => by
        obtain ⟨q, hq, h⟩ := hnews j u hu
        injection hq with hq
        rw [hq]; exact h
      have hr := run_append_grow (P := P) w t o.type e i z ht hi hz ⟨g, 0, none⟩ 0 0 [] (by simp) (by simp) p m c news hl hnews' (by omega) (by simp only [maxLen] at h63; show ((0 + m : Nat) : Int) ≤ 9223372036854775807; omega) (growslice_fits (by omega) (by rw [Nat.zero_add]; exact hbytes))
      refine ⟨_, _, hr, ⟨hl, .inr ⟨w.heap.size, _, _, by rw [Nat.zero_add], hbase, heap_alloc_new w.drew _, ?_, grownCap_le_maxLen w _ 0 e h63, ?_, ?_⟩⟩, ?_⟩
      · have := grownCap_ge w m 0 e; omega
      · have := grownCap_ge w (0 + m) 0 e
        simp only [Array.size_append, List.size_toArray, size_zeroCells, hzs, hl, ← Nat.add_mul, List.length_nil, Nat.zero_add] at this ⊢
        congr 1
        omega
      · simp only [Array.toList_append, List.nil_append, ← hl]
        exact List.take_left
      · exact ⟨rfl, rfl, rfl, by simp, fun k hk => heap_alloc_old w.drew _ k hk⟩
  obtain ⟨v', w', hr, h2, h3⟩ := key
  unfold Oper.wp execOp
  simp only [ho, resolve, invoke, builtin, Sem.run_bind, Sem.run_pure, Result.andThen_ok, List.map_toArray, List.map_cons, List.map_nil, hs, hx, hr]
  exact h v' w' h2 h3

end Go.Proofs.YtfpmkolaiomabaaGreat
