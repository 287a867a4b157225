/- GapM: mathematics of the weakest gap: the program's search, and what is true of what it finds. -/
import Derived.Test.YtcgnibfcjadnjaaSubs
namespace Go.Proofs.Ytcgnibfcjadnjaa
open Go.RowKit

structure GapN where
  slot : Nat
  ill : Nat
  tongues : Nat
  missing : Int
def noGap : GapN := ⟨0, 0, 0, 0⟩
def gapMore (b : GapN) (c : GapN) : GapN := if b.missing < c.missing then c else b
/-- the first T sets of languages -/
def gT (p : Pool) (s g x : Nat) (b : GapN) : Nat → GapN
  | 0 => b
  | T + 1 => gapMore (gT p s g x b T) ⟨s, x, T, miss p s (diffN g x) T⟩
def gOne (p : Pool) (s g : Nat) (b : GapN) (x : Nat) : GapN := if popD x ≤ p.ill then gT p s g x b (2 ^ p.tn) else b
def gX (p : Pool) (s g : Nat) (b : GapN) (l : List Nat) : GapN := l.foldl (gOne p s g) b
def gS (p : Pool) (gs : List Nat) : Nat → GapN
  | 0 => noGap
  | s + 1 => gX p s (gs.getD s 0) (gS p gs s) (subsL (gs.getD s 0))
def weakD (p : Pool) (gs : List Nat) : GapN := gS p gs gs.length
/-- a gap of a watch -/
def GapOK (p : Pool) (gs : List Nat) (b : GapN) : Prop := b.slot < gs.length ∧ subN b.ill (gs.getD b.slot 0) = true ∧ popD b.ill ≤ p.ill ∧ b.tongues < 2 ^ p.tn ∧ b.missing = miss p b.slot (diffN (gs.getD b.slot 0) b.ill) b.tongues
def GapIs (p : Pool) (gs : List Nat) (b : GapN) : Prop := b = noGap ∨ (0 < b.missing ∧ GapOK p gs b)
theorem gapMore_ge (b c : GapN) : b.missing ≤ (gapMore b c).missing ∧ c.missing ≤ (gapMore b c).missing := by
  unfold gapMore
  split
  · omega
  · omega
theorem GapIs.nonneg {p : Pool} {gs : List Nat} {b : GapN} (h : GapIs p gs b) : 0 ≤ b.missing := by
  rcases h with rfl | h
  · exact Int.le_refl _
  · omega
theorem GapIs.more {p : Pool} {gs : List Nat} {b c : GapN} (h : GapIs p gs b) (hc : GapOK p gs c) : GapIs p gs (gapMore b c) := by
  have h0 := h.nonneg
  unfold gapMore
  split
  · exact .inr ⟨by omega, hc⟩
  · exact h
theorem gT_facts {p : Pool} {gs : List Nat} {s x : Nat} (hs : s < gs.length) (hx : subN x (gs.getD s 0) = true) (hp : popD x ≤ p.ill) {b : GapN} (hb : GapIs p gs b) : ∀ T, T ≤ 2 ^ p.tn →
    GapIs p gs (gT p s (gs.getD s 0) x b T) ∧ b.missing ≤ (gT p s (gs.getD s 0) x b T).missing ∧ ∀ u, u < T → miss p s (diffN (gs.getD s 0) x) u ≤ (gT p s (gs.getD s 0) x b T).missing
  | 0, _ => ⟨hb, Int.le_refl _, fun u hu => by omega⟩
  | T + 1, hT => by
    obtain ⟨h1, h2, h3⟩ := gT_facts hs hx hp hb T (by omega)
    have hm := gapMore_ge (gT p s (gs.getD s 0) x b T) ⟨s, x, T, miss p s (diffN (gs.getD s 0) x) T⟩
    refine ⟨h1.more ⟨hs, hx, hp, by dsimp only; omega, rfl⟩, Int.le_trans h2 hm.1, fun u hu => ?_⟩
    show _ ≤ (gapMore _ _).missing
    by_cases h : u < T
    · exact Int.le_trans (h3 u h) hm.1
    · obtain rfl : u = T := by omega
      exact hm.2
theorem gX_facts {p : Pool} {gs : List Nat} {s : Nat} (hs : s < gs.length) : ∀ (l : List Nat) (b : GapN), (∀ x, x ∈ l → subN x (gs.getD s 0) = true) → GapIs p gs b →
    GapIs p gs (gX p s (gs.getD s 0) b l) ∧ b.missing ≤ (gX p s (gs.getD s 0) b l).missing ∧ ∀ x u, x ∈ l → popD x ≤ p.ill → u < 2 ^ p.tn → miss p s (diffN (gs.getD s 0) x) u ≤ (gX p s (gs.getD s 0) b l).missing
  | [], b, _, hb => ⟨hb, Int.le_refl _, fun x u hx => by cases hx⟩
  | y :: l, b, hl, hb => by
    have h1 : GapIs p gs (gOne p s (gs.getD s 0) b y) ∧ b.missing ≤ (gOne p s (gs.getD s 0) b y).missing ∧ (popD y ≤ p.ill → ∀ u, u < 2 ^ p.tn → miss p s (diffN (gs.getD s 0) y) u ≤ (gOne p s (gs.getD s 0) b y).missing) := by
      unfold gOne
      by_cases hp : popD y ≤ p.ill
      · rw [if_pos hp]
        obtain ⟨a, c, d⟩ := gT_facts hs (hl y (by simp)) hp hb (2 ^ p.tn) (Nat.le_refl _)
        exact ⟨a, c, fun _ => d⟩
      · rw [if_neg hp]
        exact ⟨hb, Int.le_refl _, fun h => absurd h hp⟩
    obtain ⟨a, c, d⟩ := gX_facts hs l (gOne p s (gs.getD s 0) b y) (fun x hx => hl x (by simp [hx])) h1.1
    refine ⟨a, Int.le_trans h1.2.1 c, fun x u hx hp hu => ?_⟩
    show _ ≤ (gX p s (gs.getD s 0) (gOne p s (gs.getD s 0) b y) l).missing
    rcases List.mem_cons.1 hx with rfl | hx
    · exact Int.le_trans (h1.2.2 hp u hu) c
    · exact d x u hx hp hu
theorem gS_facts {p : Pool} {gs : List Nat} : ∀ s, s ≤ gs.length → GapIs p gs (gS p gs s) ∧ ∀ k x u, k < s → subN x (gs.getD k 0) = true → popD x ≤ p.ill → u < 2 ^ p.tn → miss p k (diffN (gs.getD k 0) x) u ≤ (gS p gs s).missing
  | 0, _ => ⟨.inl rfl, fun k x u hk => by omega⟩
  | s + 1, hs => by
    obtain ⟨h1, h2⟩ := gS_facts (p := p) (gs := gs) s (by omega)
    obtain ⟨a, c, d⟩ := gX_facts (gs := gs) (s := s) (by omega) (subsL (gs.getD s 0)) (gS p gs s) (fun x hx => subs_mem.1 hx) h1
    refine ⟨a, fun k x u hk hx hp hu => ?_⟩
    show _ ≤ (gX p s (gs.getD s 0) (gS p gs s) (subsL (gs.getD s 0))).missing
    by_cases h : k < s
    · exact Int.le_trans (h2 k x u h hx hp hu) c
    · obtain rfl : k = s := by omega
      exact d x u (subs_mem.2 hx) hp hu
theorem weak_is (p : Pool) (gs : List Nat) : GapIs p gs (weakD p gs) := (gS_facts gs.length (Nat.le_refl _)).1
theorem weak_most {p : Pool} {gs : List Nat} {s x u : Nat} (hs : s < gs.length) (hx : subN x (gs.getD s 0) = true) (hp : popD x ≤ p.ill) (hu : u < 2 ^ p.tn) : miss p s (diffN (gs.getD s 0) x) u ≤ (weakD p gs).missing :=
  (gS_facts gs.length (Nat.le_refl _)).2 s x u hs hx hp hu
/-- the groups gone through, as the program yields them -/
def gF (p : Pool) (s g : Nat) (b : GapN) (pre : List (Fin 32)) : GapN := gX p s g b (pre.map (·.val))
theorem gF_nil (p : Pool) (s g : Nat) (b : GapN) : gF p s g b [] = b := rfl
theorem gF_snoc (p : Pool) (s g : Nat) (b : GapN) (pre : List (Fin 32)) (x : Fin 32) : gF p s g b (pre ++ [x]) = gOne p s g (gF p s g b pre) x.val := by
  unfold gF gX
  rw [List.map_append, List.foldl_append]
  rfl
theorem gF_all (p : Pool) (s g : Nat) (b : GapN) (hg : g < 32) : gF p s g b (subsF g) = gX p s g b (subsL g) := by
  unfold gF
  rw [subsF_vals g hg]
abbrev cellsGap (b : GapN) : Array Value := #[.int .i64 (b.slot : Nat), .int .i64 (b.ill : Nat), .int .i64 (b.tongues : Nat), .int .i64 b.missing]

end Go.Proofs.Ytcgnibfcjadnjaa
