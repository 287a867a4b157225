/- EaseW: memory of a copied pool that is eased: stores into its rows. -/
import Derived.Test.YtcgnibfcjadnjaaRCopy
namespace Go.Proofs.Ytcgnibfcjadnjaa
open Go.RowKit

theorem own_near {w : World} {base e size g n cap : Nat} {xs : List Value} (h : w.ownsRow base e size (.slice (some ⟨g, 0, none⟩) n cap) n xs) (j : Nat) (u : Value) : (w.setCell ⟨g, j, none⟩ u).ownsRow base e size (.slice (some ⟨g, 0, none⟩) n cap) n (xs.set j u) := by
  refine ⟨by rw [List.length_set]; exact h.1, ?_⟩
  rcases h.2 with ⟨h2, _⟩ | ⟨g', c, cur, hv, hg, hh, h1, h2, h3, h4⟩
  · cases h2
  · injection hv with e1 _ e3
    injection e1 with e1
    injection e1 with e1 _ _
    subst e1 e3
    have hb : BlockIs w g e cur := hh
    refine .inr ⟨g, cap, cur.setIfInBounds j u, rfl, hg, hb.near j u, h1, h2, by simpa using h3, ?_⟩
    rw [Array.toList_setIfInBounds, List.take_set, h4]
theorem own_block_is {w : World} {base e size g n cap : Nat} {xs : List Value} (h : w.ownsRow base e size (.slice (some ⟨g, 0, none⟩) n cap) n xs) : base ≤ g ∧ ∃ cs, BlockIs w g e cs := by
  rcases h.2 with ⟨h2, _⟩ | ⟨g', c, cur, hv, hg, hh, h1, h2, h3, h4⟩
  · cases h2
  · injection hv with e1 _ e3
    injection e1 with e1
    injection e1 with e1 _ _
    subst e1
    exact ⟨hg, cur, hh⟩
theorem flat_set3 : ∀ (l : List FolkI) (k : Nat) (t s y : Int), k < l.length →
    (((l.flatMap cellsFL).set (k * 3) (.int .i64 t)).set (k * 3 + 1) (.int .i64 s)).set (k * 3 + 2) (.int .i64 y) = (l.set k ⟨t, s, y⟩).flatMap cellsFL
  | [], k, _, _, _, h => by simp at h
  | x :: l, 0, t, s, y, _ => rfl
  | x :: l, k + 1, t, s, y, h => by
    have ih := flat_set3 l k t s y (by simpa using h)
    rw [show (k + 1) * 3 = k * 3 + 3 by omega, show k * 3 + 3 + 1 = k * 3 + 1 + 3 by omega, show k * 3 + 3 + 2 = k * 3 + 2 + 3 by omega]
    show (((cellsFL x ++ l.flatMap cellsFL).set (k * 3 + 3) _).set (k * 3 + 1 + 3) _).set (k * 3 + 2 + 3) _ = cellsFL x ++ (l.set k _).flatMap cellsFL
    rw [← ih]
    rfl
/-- a copied pool with its own variable -/
structure Eased (w : World) (lo ob : Nat) (h : PoolH) (d : PoolI) : Prop where
  new : NewPool w lo h d
  var : BlockIs w ob 25 (cellsP h d)
  le : lo ≤ ob
theorem BlockIs.farT {w : World} {b : Nat} {t t' : TypeId} {cs cs' : Array Value} {p : Addr} (h : BlockIs w b t cs) (hp : BlockIs w p.block t' cs') (ht : t' ≠ t) (u : Value) : BlockIs (w.setCell p u) b t cs := by
  refine h.far (p := p) (fun q => ht ?_) u
  subst q
  have := hp.symm.trans h
  simp at this
  exact this.2
/-- a store into a block of people -/
theorem Eased.folk {w : World} {lo ob g : Nat} {fc : Nat} {na : Option Addr} {nc : Nat} {d : PoolI} (E : Eased w lo ob ⟨some ⟨g, 0, none⟩, fc, na, nc⟩ d) {k : Nat} (hk : k < d.folk.length) (t s y : Int) :
    Eased (((w.setCell ⟨g, k * 3, none⟩ (.int .i64 t)).setCell ⟨g, k * 3 + 1, none⟩ (.int .i64 s)).setCell ⟨g, k * 3 + 2, none⟩ (.int .i64 y)) lo ob ⟨some ⟨g, 0, none⟩, fc, na, nc⟩ ⟨d.folk.set k ⟨t, s, y⟩, d.needs, d.ill, d.most⟩ ∧
      Below lo w (((w.setCell ⟨g, k * 3, none⟩ (.int .i64 t)).setCell ⟨g, k * 3 + 1, none⟩ (.int .i64 s)).setCell ⟨g, k * 3 + 2, none⟩ (.int .i64 y)) := by
  obtain ⟨⟨hf, us, hn, he, hsep⟩, hv, hle⟩ := E
  have hf : w.ownsRow lo 62 3 (.slice (some ⟨g, 0, none⟩) d.folk.length fc) d.folk.length (d.folk.flatMap cellsFL) := hf
  obtain ⟨hg, cs, hB⟩ := own_block_is hf
  have hB1 := hB.near (k * 3) (.int .i64 t)
  have hB2 := hB1.near (k * 3 + 1) (.int .i64 s)
  refine ⟨⟨⟨?_, us, ?_, fun i xs hi => ?_, hsep⟩, ?_, hle⟩, ?_⟩
  · have h3 := own_near (own_near (own_near hf (k * 3) (.int .i64 t)) (k * 3 + 1) (.int .i64 s)) (k * 3 + 2) (.int .i64 y)
    rw [flat_set3 _ _ _ _ _ hk] at h3
    show World.ownsRow _ lo 62 3 (.slice (some ⟨g, 0, none⟩) (d.folk.set k _).length fc) (d.folk.set k _).length _
    rw [List.length_set]
    exact h3
  · exact own_far (p := ⟨g, _, none⟩) (own_far (p := ⟨g, _, none⟩) (own_far (p := ⟨g, _, none⟩) hn hB (by decide) _) hB1 (by decide) _) hB2 (by decide) _
  · obtain ⟨u, h1, h2⟩ := he i xs hi
    exact ⟨u, h1, ElemI.far (p := ⟨g, _, none⟩) (ElemI.far (p := ⟨g, _, none⟩) (ElemI.far (p := ⟨g, _, none⟩) h2 hB (by decide) _) hB1 (by decide) _) hB2 (by decide) _⟩
  · have h3 := BlockIs.farT (p := ⟨g, k * 3 + 2, none⟩) (BlockIs.farT (p := ⟨g, k * 3 + 1, none⟩) (BlockIs.farT (p := ⟨g, k * 3, none⟩) hv hB (by decide) (.int .i64 t)) hB1 (by decide) (.int .i64 s)) hB2 (by decide) (.int .i64 y)
    show BlockIs _ ob 25 #[.slice (some ⟨g, 0, none⟩) (d.folk.set k _).length fc, _, _, _]
    rw [List.length_set]
    exact h3
  · exact (((Below.refl lo w).setCell (p := ⟨g, k * 3, none⟩) hg _).setCell (p := ⟨g, k * 3 + 1, none⟩) hg _).setCell (p := ⟨g, k * 3 + 2, none⟩) hg _
/-- stores into the pool's own fields -/
theorem Eased.ill {w : World} {lo ob : Nat} {h : PoolH} {d : PoolI} (E : Eased w lo ob h d) (v : Int) : Eased (w.setCell ⟨ob, 2, none⟩ (.int .i64 v)) lo ob h ⟨d.folk, d.needs, v, d.most⟩ ∧ Below lo w (w.setCell ⟨ob, 2, none⟩ (.int .i64 v)) := by
  obtain ⟨⟨hf, us, hn, he, hsep⟩, hv, hle⟩ := E
  refine ⟨⟨⟨own_far (p := ⟨ob, _, none⟩) hf hv (by decide) _, us, own_far (p := ⟨ob, _, none⟩) hn hv (by decide) _, fun i xs hi => ?_, hsep⟩, hv.near 2 (.int .i64 v), hle⟩, (Below.refl lo w).setCell (p := ⟨ob, 2, none⟩) hle _⟩
  obtain ⟨u, h1, h2⟩ := he i xs hi
  exact ⟨u, h1, ElemI.far (p := ⟨ob, _, none⟩) h2 hv (by decide) _⟩
theorem Eased.most {w : World} {lo ob : Nat} {h : PoolH} {d : PoolI} (E : Eased w lo ob h d) (v : Int) : Eased (w.setCell ⟨ob, 3, none⟩ (.int .i64 v)) lo ob h ⟨d.folk, d.needs, d.ill, v⟩ ∧ Below lo w (w.setCell ⟨ob, 3, none⟩ (.int .i64 v)) := by
  obtain ⟨⟨hf, us, hn, he, hsep⟩, hv, hle⟩ := E
  refine ⟨⟨⟨own_far (p := ⟨ob, _, none⟩) hf hv (by decide) _, us, own_far (p := ⟨ob, _, none⟩) hn hv (by decide) _, fun i xs hi => ?_, hsep⟩, hv.near 3 (.int .i64 v), hle⟩, (Below.refl lo w).setCell (p := ⟨ob, 3, none⟩) hle _⟩
  obtain ⟨u, h1, h2⟩ := he i xs hi
  exact ⟨u, h1, ElemI.far (p := ⟨ob, _, none⟩) h2 hv (by decide) _⟩
/-- a store into a row of needs -/
theorem Eased.need {w : World} {lo ob : Nat} {h : PoolH} {d : PoolI} (E : Eased w lo ob h d) {s k : Nat} {xs : List Int} {x : Int} (hs : d.needs[s]? = some xs) (hx : xs[k]? = some x) :
    ∃ g b c, h.na = some ⟨g, 0, none⟩ ∧ w.cell? ⟨g, s, none⟩ = some (.slice (some ⟨b, 0, none⟩) xs.length c) ∧ w.cell? ⟨b, k, none⟩ = some (.int .i64 x) ∧ w.frozen? ⟨b, k, none⟩ = false ∧
      ∀ v : Int, Eased (w.setCell ⟨b, k, none⟩ (.int .i64 v)) lo ob h ⟨d.folk, d.needs.set s (xs.set k v), d.ill, d.most⟩ ∧ Below lo w (w.setCell ⟨b, k, none⟩ (.int .i64 v)) := by
  obtain ⟨⟨hf, us, hn, he, hsep⟩, hv, hle⟩ := E
  obtain ⟨fa, fc, na, nc⟩ := h
  have hsl : s < d.needs.length := (List.getElem?_eq_some_iff.1 hs).1
  have hkl : k < xs.length := (List.getElem?_eq_some_iff.1 hx).1
  have hne : xs ≠ [] := fun q => by rw [q] at hkl; simp at hkl
  obtain ⟨u, hu, a, c, rfl, hI⟩ := he s xs hs
  rcases hI with q | ⟨b, cs, rfl, hlb, hB, hcs⟩
  · exact absurd q hne
  have hn' := hn
  rcases hn.2 with ⟨_, q⟩ | ⟨g, c', cur, hv', hg, hh, _⟩
  · omega
  injection hv' with e1 _ e3
  dsimp only at e1 e3 hn hn'
  subst e1 e3
  refine ⟨g, b, c, rfl, ?_, ?_, hB.frozen k, fun v => ⟨⟨⟨?_, us, ?_, fun i ys hi => ?_, ?_⟩, ?_, hle⟩, ?_⟩⟩
  · have hc := World.ownsRow.cells (g := g) hn' rfl s _ hu
    rwa [show (⟨g, 0, none⟩ : Addr).add s = ⟨g, s, none⟩ by (simp [Addr.add]; try omega)] at hc
  · rw [hB.cell]
    exact hcs k x hx
  · exact own_far (p := ⟨b, k, none⟩) hf hB (by decide) _
  · show World.ownsRow _ lo 26 1 (.slice (some ⟨g, 0, none⟩) (d.needs.set s _).length nc) (d.needs.set s _).length us
    rw [List.length_set]
    exact own_far (p := ⟨b, k, none⟩) hn hB (by decide) _
  · have hi : (d.needs.set s (xs.set k v))[i]? = some ys := hi
    rw [List.getElem?_set] at hi
    by_cases h1 : s = i
    · subst h1
      rw [if_pos rfl, if_pos hsl] at hi
      obtain rfl := Option.some.inj hi
      refine ⟨_, hu, _, c, by rw [List.length_set], .inr ⟨b, _, rfl, hlb, hB.near k _, fun j y hj => ?_⟩⟩
      rw [List.getElem?_set] at hj
      by_cases h2 : k = j
      · subst h2
        rw [if_pos rfl, if_pos hkl] at hj
        obtain rfl := Option.some.inj hj
        have h3 := hcs k x hx
        rw [Array.getElem?_setIfInBounds_self_of_lt (Array.getElem?_eq_some_iff.1 h3).1]
      · rw [if_neg h2] at hj
        rw [Array.getElem?_setIfInBounds_ne h2]
        exact hcs j y hj
    · rw [if_neg h1] at hi
      obtain ⟨u', hu', a', c', rfl, hI'⟩ := he i ys hi
      refine ⟨_, hu', a', c', rfl, ?_⟩
      rcases hI' with q | ⟨b', cs', rfl, hlb', hB', hcs'⟩
      · exact .inl q
      · by_cases hy : ys = []
        · exact .inl hy
        · refine .inr ⟨b', cs', rfl, hlb', hB'.far (p := ⟨b, k, none⟩) (fun q => ?_) _, hcs'⟩
          have q : b' = b := q
          subst q
          rcases Nat.lt_or_gt_of_ne h1 with h5 | h5
          · exact hsep s i xs ys _ _ h5 hs hi hne hy hu hu' rfl
          · exact hsep i s ys xs _ _ h5 hi hs hy hne hu' hu rfl
  · have hat : ∀ i zs, (d.needs.set s (xs.set k v))[i]? = some zs → zs ≠ [] → ∃ ys, d.needs[i]? = some ys ∧ ys ≠ [] := fun i zs hi hz => by
      rw [List.getElem?_set] at hi
      by_cases h1 : s = i
      · subst h1
        exact ⟨xs, hs, hne⟩
      · rw [if_neg h1] at hi
        exact ⟨zs, hi, hz⟩
    intro i j ys zs p q hij hi hj hy hz hp hq
    obtain ⟨ys', hi', hy'⟩ := hat i ys hi hy
    obtain ⟨zs', hj', hz'⟩ := hat j zs hj hz
    exact hsep i j ys' zs' p q hij hi' hj' hy' hz' hp hq
  · show BlockIs _ ob 25 #[_, .slice _ (d.needs.set s _).length nc, _, _]
    rw [List.length_set]
    exact BlockIs.farT (p := ⟨b, k, none⟩) hv hB (by decide) _
  · exact (Below.refl lo w).setCell (p := ⟨b, k, none⟩) hlb _
theorem own_kept {w w' : World} {base e size n : Nat} {v : Value} {xs : List Value} (h : w.ownsRow base e size v n xs) (hk : ∀ b cs, BlockIs w b e cs → BlockIs w' b e cs) : w'.ownsRow base e size v n xs := by
  refine ⟨h.1, ?_⟩
  rcases h.2 with h2 | ⟨g, c, cur, hv, hg, hh, hr⟩
  · exact .inl h2
  · exact .inr ⟨g, c, cur, hv, hg, hk g cur hh, hr⟩
/-- a person more -/
theorem Eased.more {w w' : World} {lo ob fc nc c : Nat} {fa na A : Option Addr} {d : PoolI} {j : FolkI} (E : Eased w lo ob ⟨fa, fc, na, nc⟩ d)
    (hown : w'.ownsRow lo 62 3 (.slice A (d.folk.length + 1) c) (d.folk.length + 1) (d.folk.flatMap cellsFL ++ cellsFL j)) (hgr : w.grownBy w' (Value.slice fa d.folk.length fc).ownBlock) :
    Eased (w'.setCell ⟨ob, 0, none⟩ (.slice A (d.folk.length + 1) c)) lo ob ⟨A, c, na, nc⟩ ⟨d.folk ++ [j], d.needs, d.ill, d.most⟩ := by
  obtain ⟨⟨hf, us, hn, he, hsep⟩, hv, hle⟩ := E
  have hkp : ∀ t, 62 ≠ t → ∀ b cs, BlockIs w b t cs → BlockIs w' b t cs := fun t ht b cs hq => hq.grown hgr (own_block_ne hf hq (fun q => ht q.symm))
  have hv' := hkp _ (by decide) _ _ hv
  have hl : (d.folk ++ [j]).length = d.folk.length + 1 := by simp
  refine ⟨⟨?_, us, own_far (p := ⟨ob, 0, none⟩) (own_kept hn (hkp _ (by decide))) hv' (by decide) _, fun i xs hi => ?_, hsep⟩, ?_, hle⟩
  · show World.ownsRow _ lo 62 3 (.slice A (d.folk ++ [j]).length c) (d.folk ++ [j]).length ((d.folk ++ [j]).flatMap cellsFL)
    rw [hl, List.flatMap_append]
    simpa using own_far (p := ⟨ob, 0, none⟩) hown hv' (by decide) _
  · obtain ⟨u, h1, a, cc, rfl, h2⟩ := he i xs hi
    refine ⟨_, h1, a, cc, rfl, ?_⟩
    have h3 : IntT w' lo a xs := by
      rcases h2 with q | ⟨b, cs, e1, e2, e3, e4⟩
      · exact .inl q
      · exact .inr ⟨b, cs, e1, e2, hkp _ (by decide) _ _ e3, e4⟩
    exact IntT.far (p := ⟨ob, 0, none⟩) h3 hv' (by decide) _
  · show BlockIs _ ob 25 #[.slice A (d.folk ++ [j]).length c, _, _, _]
    rw [hl]
    exact hv'.near 0 (.slice A (d.folk.length + 1) c)
/-- a person fewer -/
theorem Eased.fewer {w : World} {lo ob : Nat} {fc nc : Nat} {fa na : Option Addr} {l : List FolkI} {j : FolkI} {ns : List (List Int)} {i m : Int} (E : Eased w lo ob ⟨fa, fc, na, nc⟩ ⟨l ++ [j], ns, i, m⟩) :
    Eased (w.setCell ⟨ob, 0, none⟩ (.slice fa l.length fc)) lo ob ⟨fa, fc, na, nc⟩ ⟨l, ns, i, m⟩ ∧ Below lo w (w.setCell ⟨ob, 0, none⟩ (.slice fa l.length fc)) := by
  obtain ⟨⟨hf, us, hn, he, hsep⟩, hv, hle⟩ := E
  have hf : w.ownsRow lo 62 3 (.slice fa (l ++ [j]).length fc) (l ++ [j]).length ((l ++ [j]).flatMap cellsFL) := hf
  have hl : (l ++ [j]).length = l.length + 1 := by simp
  rw [hl] at hf
  have hf2 : w.ownsRow lo 62 3 (.slice fa l.length fc) l.length (l.flatMap cellsFL) := by
    refine ⟨flat_length (enc := cellsFL) (k := 3) (fun _ => rfl) _, ?_⟩
    rcases hf.2 with ⟨_, q⟩ | ⟨g, c, cur, e1, h1, h2, h3, h4, h5, h6⟩
    · omega
    · injection e1 with q1 _ q3
      subst q1 q3
      refine .inr ⟨g, fc, cur, rfl, h1, h2, by omega, h4, h5, ?_⟩
      have h7 := congrArg (List.take (l.length * 3)) h6
      rw [List.take_take, Nat.min_eq_left (by omega)] at h7
      rw [h7, List.flatMap_append, List.take_left' (flat_length (enc := cellsFL) (k := 3) (fun _ => rfl) _)]
  refine ⟨⟨⟨own_far (p := ⟨ob, 0, none⟩) hf2 hv (by decide) _, us, own_far (p := ⟨ob, 0, none⟩) hn hv (by decide) _, fun i xs hi => ?_, hsep⟩, hv.near 0 _, hle⟩, (Below.refl lo w).setCell (p := ⟨ob, 0, none⟩) hle _⟩
  obtain ⟨u, h1, h2⟩ := he i xs hi
  exact ⟨u, h1, ElemI.far (p := ⟨ob, _, none⟩) h2 hv (by decide) _⟩
/-- it stays where only blocks ahead of it, and new ones, change -/
theorem Eased.grow {w w' : World} {lo ob : Nat} {h : PoolH} {d : PoolI} (E : Eased w lo ob h d) (hg : Grow w w') : Eased w' lo ob h d := by
  obtain ⟨⟨hf, us, hn, he, hsep⟩, hv, hle⟩ := E
  refine ⟨⟨own_grow hf hg, us, own_grow hn hg, fun i xs hi => ?_, hsep⟩, hg.block hv, hle⟩
  obtain ⟨u, h1, h2⟩ := he i xs hi
  exact ⟨u, h1, h2.grow hg⟩
/-- a person of the copy -/
theorem Eased.look {w : World} {lo ob : Nat} {h : PoolH} {d : PoolI} (E : Eased w lo ob h d) {k : Nat} {f : FolkI} (hk : d.folk[k]? = some f) :
    ∃ g, h.fa = some ⟨g, 0, none⟩ ∧ w.cell? ⟨g, k * 3, none⟩ = some (.int .i64 f.t) ∧ w.cell? ⟨g, k * 3 + 1, none⟩ = some (.int .i64 f.s) ∧ w.cell? ⟨g, k * 3 + 2, none⟩ = some (.int .i64 f.y) ∧ ∀ j, w.frozen? ⟨g, j, none⟩ = false := by
  rcases own_flat (enc := cellsFL) (fun _ => rfl) E.new.folk rfl with e | ⟨b, cs, e, _, hB, _, _, hc⟩
  · rw [e] at hk; simp at hk
  · have h0 := hc k f hk 0 (by omega)
    have h1 := hc k f hk 1 (by omega)
    have h2 := hc k f hk 2 (by omega)
    exact ⟨b, e, (hB.cell _).trans h0, (hB.cell _).trans h1, (hB.cell _).trans h2, hB.frozen⟩
theorem Eased.grow_var {w w' : World} {lo ob : Nat} {h : PoolH} {d : PoolI} (N : NewPool w lo h d) (hg : Grow w w') (hv : BlockIs w' ob 25 (cellsP h d)) (hl : lo ≤ ob) : Eased w' lo ob h d := by
  obtain ⟨hf, us, hn, he, hsep⟩ := N
  refine ⟨⟨own_grow hf hg, us, own_grow hn hg, fun i xs hi => ?_, hsep⟩, hv, hl⟩
  obtain ⟨u, h1, h2⟩ := he i xs hi
  exact ⟨u, h1, h2.grow hg⟩
/-- a row of needs of the copy, in each later world -/
theorem Eased.needG {w : World} {lo ob : Nat} {h : PoolH} {d : PoolI} (E : Eased w lo ob h d) {s k : Nat} {xs : List Int} {x : Int} (hs : d.needs[s]? = some xs) (hx : xs[k]? = some x) :
    ∃ g b c, h.na = some ⟨g, 0, none⟩ ∧ ∀ w', Grow w w' → w'.cell? ⟨g, s, none⟩ = some (.slice (some ⟨b, 0, none⟩) xs.length c) ∧ w'.cell? ⟨b, k, none⟩ = some (.int .i64 x) ∧ w'.frozen? ⟨b, k, none⟩ = false ∧
      ∀ v : Int, Eased (w'.setCell ⟨b, k, none⟩ (.int .i64 v)) lo ob h ⟨d.folk, d.needs.set s (xs.set k v), d.ill, d.most⟩ ∧ Below lo w' (w'.setCell ⟨b, k, none⟩ (.int .i64 v)) := by
  obtain ⟨g, b, c, h1, h2, _, _, _⟩ := E.need hs hx
  refine ⟨g, b, c, h1, fun w' hw => ?_⟩
  obtain ⟨g', b', c', h1', h2', h3', h4', h5'⟩ := (E.grow hw).need hs hx
  rw [h1] at h1'
  injection h1' with e
  injection e with e
  subst e
  have h6 := hw.cell h2
  rw [h6] at h2'
  injection h2' with e
  injection e with e1 _ e3
  injection e1 with e1
  injection e1 with e1
  subst e1 e3
  exact ⟨h6, h3', h4', h5'⟩

end Go.Proofs.Ytcgnibfcjadnjaa
