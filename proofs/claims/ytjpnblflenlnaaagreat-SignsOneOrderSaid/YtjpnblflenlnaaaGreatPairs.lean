/- Rows of pairs of the call's own: sorted and compacted. -/
import Derived.Test.YtjpnblflenlnaaaGreatCompactP
import Derived.Test.YtjpnblflenlnaaaGreatForms
import Derived.Test.YtjpnblflenlnaaaGreatRegion
import Derived.Deep.DeepCutAuto
namespace Go.Proofs.YtjpnblflenlnaaaGreat
open Go.RowKit Go.Sort Go.Shelf

def cmpP (p q : Int × Int) : Int := cmpL [p.1, p.2] [q.1, q.2]
theorem cmp_cmpP : Cmp cmpP := cmp_cmpL.on fun p : Int × Int => [p.1, p.2]
theorem cmpP_eq0 {p q : Int × Int} (h : cmpP p q = 0) : p = q := by
  have := cmpL_eq0 h
  injection this with h1 h2
  injection h2 with h2
  exact Prod.ext h1 h2

theorem compact_spec {α : Type} [Inhabited α] [DecidableEq α] {c : α → α → Int} (h : Cmp c) (h0 : ∀ x y, c x y = 0 → x = y) (d : Array α) (hm : ∀ i j, i ≤ j → j < d.size → c d[i]! d[j]! ≤ 0) : ∀ m, m ≤ d.size →
    (Lib.compactUpTo d m).Pairwise (fun x y => c x y < 0) ∧ (Lib.compactUpTo d m).length ≤ m ∧ (∀ x, x ∈ Lib.compactUpTo d m ↔ ∃ j, j < m ∧ d[j]! = x)
  | 0, _ => ⟨by simp [Lib.compactUpTo], by simp [Lib.compactUpTo], by simp [Lib.compactUpTo]⟩
  | m + 1, hle => by
    obtain ⟨h1, h2, h3⟩ := compact_spec h h0 d hm m (by omega)
    rw [Lib.compactUpTo_succ]
    by_cases hk : Lib.keeps d m = true
    · rw [if_pos hk]
      refine ⟨List.pairwise_append.2 ⟨h1, by simp, ?_⟩, by simp; exact h2, fun x => ?_⟩
      · intro a ha b hb
        have hb : b = d[m]! := by simpa using hb
        obtain ⟨j, hj, rfl⟩ := (h3 a).1 ha
        subst hb
        have hk' : m = 0 ∨ d[m]! ≠ d[m - 1]! := by simpa [Lib.keeps] using hk
        have e1 := hm j (m - 1) (by omega) (by omega)
        have e2 := hm (m - 1) m (by omega) (by omega)
        rcases hk' with hk' | hk'
        · omega
        · refine h.le_lt e1 ?_
          have : c d[m - 1]! d[m]! ≠ 0 := fun e => hk' (h0 _ _ e).symm
          omega
      · rw [List.mem_append, h3 x]
        constructor
        · rintro (⟨j, hj, hx⟩ | hx)
          · exact ⟨j, by omega, hx⟩
          · exact ⟨m, by omega, (List.mem_singleton.1 hx).symm⟩
        · rintro ⟨j, hj, hx⟩
          by_cases hjm : j = m
          · subst hjm
            exact .inr (List.mem_singleton.2 hx.symm)
          · exact .inl ⟨j, by omega, hx⟩
    · rw [if_neg hk, List.append_nil]
      refine ⟨h1, by omega, fun x => ?_⟩
      rw [h3 x]
      have hk' : ¬(m = 0 ∨ d[m]! ≠ d[m - 1]!) := by simpa [Lib.keeps] using hk
      have hk1 : m ≠ 0 := fun h => hk' (.inl h)
      have hk2 : d[m]! = d[m - 1]! := Classical.byContradiction fun h => hk' (.inr h)
      constructor
      · rintro ⟨j, hj, hx⟩
        exact ⟨j, by omega, hx⟩
      · rintro ⟨j, hj, hx⟩
        by_cases hjm : j = m
        · subst hjm
          exact ⟨j - 1, by omega, by rw [← hk2]; exact hx⟩
        · exact ⟨j, by omega, hx⟩
/-- sorted pairs, compacted: strictly ascending, with the members of before -/
theorem sorted_compactP {xs : List (Int × Int)} (hs : xs.Pairwise fun x y => cmpP x y ≤ 0) : (Lib.compact xs).Pairwise (fun x y => cmpP x y < 0) ∧ (∀ x, x ∈ Lib.compact xs ↔ x ∈ xs) ∧ (Lib.compact xs).length ≤ xs.length := by
  have hm : ∀ i j, i ≤ j → j < xs.toArray.size → cmpP xs.toArray[i]! xs.toArray[j]! ≤ 0 := by
    intro i j hij hj
    have hj' : j < xs.length := by simpa using hj
    by_cases e : i = j
    · subst e; rw [cmp_cmpP.self]; exact Int.le_refl _
    · have := List.pairwise_iff_getElem.1 hs i j (by omega) hj' (by omega)
      rw [getElem!_pos xs.toArray i (by simp; omega), getElem!_pos xs.toArray j hj]
      simpa using this
  obtain ⟨h1, h2, h3⟩ := compact_spec cmp_cmpP (fun _ _ => cmpP_eq0) xs.toArray hm xs.length (by simp)
  refine ⟨h1, fun x => (h3 x).trans ?_, h2⟩
  constructor
  · rintro ⟨j, hj, rfl⟩
    rw [getElem!_pos xs.toArray j (by simpa using hj)]
    simp
  · intro hx
    obtain ⟨j, hj, rfl⟩ := List.getElem_of_mem hx
    exact ⟨j, hj, by rw [getElem!_pos xs.toArray j (by simpa using hj)]; simp⟩

set_option maxRecDepth 100000 in
set_option maxHeartbeats 1000000 in
theorem compactP_nil (w : World) : Calls Tryz.prog 68 #[.slice none 0 0] w fun e w' => e = .returned (.slice none 0 0) ∧ w = w' := by
  go_enter Tryz.func68, Tryz.ntmps68
  go_wp2
  go_ret
  exact ⟨rfl, rfl⟩

theorem own_compactP {w : World} {base n cap : Nat} {A : Option Addr} {xs : List (Int × Int)} (h : w.ownsRow base 76 2 (.slice A n cap) n (xs.flatMap encP)) (hn : xs.length ≤ 1000000) :
    Calls Tryz.prog 68 #[.slice A n cap] w fun e w' => e = .returned (.slice A (Lib.compact xs).length cap) ∧ w'.ownsRow base 76 2 (.slice A (Lib.compact xs).length cap) (Lib.compact xs).length ((Lib.compact xs).flatMap encP) ∧ w.grownBy w' (Value.ownBlock (.slice A n cap)) := by
  have hk2 : ∀ p : Int × Int, (encP p).length = 2 := fun _ => rfl
  have hlen : n = xs.length := by have := h.1; rw [flat_length hk2] at this; omega
  subst hlen
  rcases h.2 with ⟨h0, h1⟩ | ⟨g, c, cur, hv, hg, hh, h1, h2, h3, h4⟩
  · injection h0 with e1 e2 e3
    subst e1 e3
    have hx : xs = [] := List.eq_nil_of_length_eq_zero e2
    subst hx
    refine (compactP_nil w).mono ?_
    rintro e w' ⟨rfl, rfl⟩
    exact ⟨rfl, by simpa [Lib.compact, Lib.compactUpTo] using h, World.grownBy.refl _ _⟩
  · injection hv with e1 e2 e3
    subst e1 e3
    have hP : PairsAt w g cap xs.toArray := by
      refine ⟨cur, hh, h3, by simpa using h1, fun j hj => ?_⟩
      have hj' : j < xs.length := by simpa using hj
      have hx : xs[j]? = some xs.toArray[j]! := by rw [getElem!_pos xs.toArray j hj]; simp [hj']
      have k0 := flat_get hk2 xs j 0 (by omega)
      have k1 := flat_get hk2 xs j 1 (by omega)
      rw [← h4, List.getElem?_take_of_lt (by omega), Array.getElem?_toList, hx, Option.bind_some] at k0 k1
      exact ⟨by simpa [encP] using k0, by simpa [encP] using k1⟩
    refine (compactP_any g cap xs.toArray w hP (by simpa using hn)).mono ?_
    rintro e w' ⟨rfl, dk, hd1, hd2, hPk, hgr⟩
    have hcs : Lib.compactUpTo xs.toArray xs.toArray.size = Lib.compact xs := by simp [Lib.compact]
    rw [hcs] at hd1 hd2 ⊢
    have hsz : (Lib.compact xs).length ≤ cap := by obtain ⟨_, _, _, h5, _⟩ := hPk; omega
    refine ⟨rfl, ⟨by rw [flat_length hk2], .inr ?_⟩, hgr⟩
    obtain ⟨cur', b1, b2, b3, b4⟩ := hPk
    refine ⟨g, cap, cur', rfl, hg, b1, hsz, h2, b2, ?_⟩
    refine List.ext_getElem? fun t => ?_
    by_cases ht : t < (Lib.compact xs).length * 2
    · rw [List.getElem?_take_of_lt ht, Array.getElem?_toList]
      have hj : t / 2 < (Lib.compact xs).length := by omega
      have hx := hd2 (t / 2) hj
      obtain ⟨c0, c1⟩ := b4 (t / 2) (by omega)
      have k0 := flat_get hk2 (Lib.compact xs) (t / 2) 0 (by omega)
      have k1 := flat_get hk2 (Lib.compact xs) (t / 2) 1 (by omega)
      rw [hx, Option.bind_some] at k0 k1
      have : t % 2 = 0 ∨ t % 2 = 1 := by omega
      rcases this with e | e
      · have e' : t = t / 2 * 2 := by omega
        rw [e', c0]
        rw [Nat.add_zero] at k0
        rw [k0]
        rfl
      · have e' : t = t / 2 * 2 + 1 := by omega
        rw [e', c1, k1]
        rfl
    · rw [List.getElem?_take_eq_none (by omega), List.getElem?_eq_none (by rw [flat_length hk2]; omega)]

set_option maxRecDepth 100000 in
set_option maxHeartbeats 1000000 in
theorem twins1_any (p q : Int × Int) (w : World) :
    Calls Tryz.prog 66 #[.agg #[.int .i64 p.1, .int .i64 p.2], .agg #[.int .i64 q.1, .int .i64 q.2]] w fun e w' => e = .returned (.int .i64 (cmpP p q)) ∧ Grew w w' := by
  obtain ⟨a, b⟩ := p
  obtain ⟨c, d⟩ := q
  dsimp only
  go_enter Tryz.func66, Tryz.ntmps66
  go_upto_region 1 with fail
  obtain ⟨W, hW, hWd, hg, hf, hf', hsz⟩ : ∃ W, (w.alloc (.cells #[.int .i64 a, .int .i64 b] 76)).alloc (.cells #[.int .i64 c, .int .i64 d] 76) = W ∧ w.drawn = W.drawn ∧ Grow w W ∧ BlockIs W w.heap.size 76 #[.int .i64 a, .int .i64 b] ∧ BlockIs W (w.heap.size + 1) 76 #[.int .i64 c, .int .i64 d] ∧ w.heap.size + 1 < W.heap.size := by
    obtain ⟨W, h1, h2⟩ := two_blocks w 76 76 #[.int .i64 a, .int .i64 b] #[.int .i64 c, .int .i64 d]
    exact ⟨W, h1, by rw [← h1]; rfl, h2⟩
  rw [hW]
  clear hW
  have HC := Lib.hid (fun w1 (h : Grow W w1) => slicesCompare_any (some ⟨w.heap.size, 0, none⟩) (some ⟨w.heap.size + 1, 0, none⟩) 2 2 w1.heap.size w1.heap.size [a, b] [c, d] w1 (ints_block (h.block hf)) (ints_block (h.block hf')) (by simp) (by simp))
  refine wp_region_lit 3 [[], [], [(0, 5), (1, 6)]] Grew (fun i v _ => match i with
      | 0 => v = .slice (some ⟨w.heap.size, 0, none⟩) 2 2 | 1 => v = .slice (some ⟨w.heap.size + 1, 0, none⟩) 2 2 | 2 => v = .int .i64 (cmpL [a, b] [c, d])
      | _ => False) (by kernel_rfl) (by kernel_rfl) (fun _ _ _ => Grew.trans) Grew.refl (fun _ _ _ _ h _ => h) ?_ ?_
  · simp only [StepsLit, List.take_succ_cons, List.take_zero]
    refine ⟨?_, ?_, ?_, trivial⟩
    all_goals
      intro w1 hR
      have hG := hR.1.of_drew
      have HG := Lib.hid hG
      have hfc := (hG.block hf).cell
      have hgc := (hG.block hf').cell
      clear hG
      simp only [depV, Region.wanted, cond_true]
      repeat (rintro _ rfl)
      go_simp
    all_goals first
      | exact Grew.refl _
      | (refine (HC.out _ HG.out).mono ?_; rintro e w' ⟨rfl, rfl⟩; go_simp; exact Grew.refl _)
  · intro w2 hR2
    have hd2 : w.drawn ≤ w2.drawn := by rw [hWd]; exact hR2.of_drew.2
    have HG : Hid (Grew w w2) := ⟨hg.trans hR2.1.of_drew, hd2⟩
    clear hf hf' hg hR2 hWd hd2
    simp only [finVC, List.take_succ_cons, List.take_zero, List.drop_succ_cons, List.drop_zero]
    repeat (rintro _ rfl)
    simp only [Act.put, List.setIfInBounds_toArray, List.set_cons_succ, List.set_cons_zero]
    go_wp2
    go_ret
    exact ⟨rfl, HG.out⟩

end Go.Proofs.YtjpnblflenlnaaaGreat
