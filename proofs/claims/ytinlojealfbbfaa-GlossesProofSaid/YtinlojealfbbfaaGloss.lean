/- Gloss: glosses, films and notes, as data and in memory; '==' of glosses. -/
import Derived.Test.YtinlojealfbbfaaMem
import Derived.Test.YtinlojealfbbfaaForms
namespace Go.Proofs.Ytinlojealfbbfaa
open Go.RowKit

structure GlossD where
  author : Int
  stamp : Int
  film : Int
  frm : Int
  to : Int
  signs : Int
  deriving DecidableEq
structure FilmsD where
  frames : List Int
  signs : Int

abbrev cellsG (g : GlossD) : Array Value := #[.int .i64 g.author, .int .i64 g.stamp, .int .i64 g.film, .int .i64 g.frm, .int .i64 g.to, .int .i64 g.signs]
abbrev glossV (g : GlossD) : Value := .agg (cellsG g)
/-- the glosses l lie at A, in a block below B -/
def GlossAt (w : World) (B : Nat) (A : Option Addr) (l : List GlossD) : Prop :=
  l = [] ∨ ∃ b off, A = some ⟨b, off, none⟩ ∧ b < B ∧ ∀ i x, l[i]? = some x → ∀ j, j < 6 → w.cell? ⟨b, off + i * 6 + j, none⟩ = (cellsG x)[j]?
theorem GlossAt.below {w w' : World} {B : Nat} {A : Option Addr} {l : List GlossD} (h : GlossAt w B A l) (hb : Below B w w') : GlossAt w' B A l := by
  rcases h with rfl | ⟨b, off, rfl, hl, hc⟩
  · exact .inl rfl
  · exact .inr ⟨b, off, rfl, hl, fun i x hi j hj => (hb.cell (p := ⟨b, off + i * 6 + j, none⟩) hl).trans (hc i x hi j hj)⟩
theorem GlossAt.more {w : World} {B B' : Nat} {A : Option Addr} {l : List GlossD} (h : GlossAt w B A l) (hb : B ≤ B') : GlossAt w B' A l := by
  rcases h with rfl | ⟨b, off, rfl, hl, hc⟩
  · exact .inl rfl
  · exact .inr ⟨b, off, rfl, by omega, hc⟩
theorem GlossAt.at_ {w : World} {B : Nat} {A : Option Addr} {l : List GlossD} (h : GlossAt w B A l) {k : Nat} (hk : k < l.length) :
    ∃ b off x, A = some ⟨b, off, none⟩ ∧ b < B ∧ (∀ j, j < 6 → w.cell? ⟨b, off + k * 6 + j, none⟩ = (cellsG x)[j]?) ∧ Hid (l[k]? = some x) := by
  rcases h with rfl | ⟨b, off, rfl, hl, hc⟩
  · simp at hk
  · have hx := List.getElem?_eq_getElem hk
    exact ⟨b, off, l[k], rfl, hl, hc k _ hx, hx⟩
/-- films, and where their slice lies -/
structure FilmsR where
  d : FilmsD
  A : Option Addr
  ca : Nat
abbrev cellsF (f : FilmsR) : Array Value := #[.slice f.A f.d.frames.length f.ca, .int .i64 f.d.signs]
abbrev filmsV (f : FilmsR) : Value := .agg (cellsF f)
def FilmsAt (w : World) (B : Nat) (f : FilmsR) : Prop := Ints w B f.A f.d.frames
/-- a row of glosses -/
structure RowG where
  A : Option Addr
  n : Nat
  c : Nat
abbrev rowGV (r : RowG) : Value := .slice r.A r.n r.c
abbrev cellsN (f : FilmsR) (m h : RowG) : Array Value := #[.slice f.A f.d.frames.length f.ca, .int .i64 f.d.signs, .slice m.A m.n m.c, .slice h.A h.n h.c]
abbrev notesV (f : FilmsR) (m h : RowG) : Value := .agg (cellsN f m h)
abbrev nilG : RowG := ⟨none, 0, 0⟩

theorem run_eqG (x y : GlossD) (w : World) : (Op.equalIn 10000 55 (glossV x) (glossV y)).run Try.prog w = .ok (decide (x = y)) w := by
  obtain ⟨a, b, c, d, e, f⟩ := x
  obtain ⟨a', b', c', d', e', f'⟩ := y
  simp only [GlossD.mk.injEq]
  by_cases h1 : a = a'
  · by_cases h2 : b = b'
    · by_cases h3 : c = c'
      · by_cases h4 : d = d'
        · by_cases h5 : e = e'
          · by_cases h6 : f = f'
            · subst h1 h2 h3 h4 h5 h6; simp [go_sem]
            · subst h1 h2 h3 h4 h5; simp [go_sem, h6]
          · subst h1 h2 h3 h4; simp [go_sem, h5]
        · subst h1 h2 h3; simp [go_sem, h4]
      · subst h1 h2; simp [go_sem, h3]
    · subst h1; simp [go_sem, h2]
  · simp [go_sem, h1]

end Go.Proofs.Ytinlojealfbbfaa
