/- GlossM: what valid films and messages are, which glosses hold, as functions. -/
import Derived.Test.YtinlojealfbbfaaRowsG
import Derived.Test.YtinlojealfbbfaaSlicesG
namespace Go.Proofs.Ytinlojealfbbfaa
open Go.RowKit

def okFilms (f : FilmsD) : Bool := (inB f.frames.length 1 4 && inB f.signs 1 10) && f.frames.all fun n => inB n 1 200
def frameOf (f : FilmsD) (k : Int) : Int := (f.frames[k.toNat]?).getD 0
def okGloss (f : FilmsD) (g : GlossD) : Bool := (inB g.author 0 7 && inB g.stamp 0 9999) && (inB g.film 0 (f.frames.length - 1) && (decide (0 ≤ g.frm) && (decide (g.frm < g.to) && (decide (g.to ≤ frameOf f g.film) && inB g.signs 0 (2 ^ f.signs.toNat - 1)))))
def okMsgs (f : FilmsD) (l : List GlossD) : Bool := decide (l.length ≤ 40) && l.all (okGloss f)
theorem okFilms_parts {f : FilmsD} (h : okFilms f = true) : (1 ≤ f.frames.length ∧ f.frames.length ≤ 4) ∧ (1 ≤ f.signs ∧ f.signs ≤ 10) ∧ ∀ n ∈ f.frames, 1 ≤ n ∧ n ≤ 200 := by
  simp only [okFilms, Bool.and_eq_true, inB_iff, List.all_eq_true] at h
  exact ⟨by omega, h.1.2, h.2⟩
theorem okGloss_parts {f : FilmsD} {g : GlossD} (h : okGloss f g = true) : (0 ≤ g.author ∧ g.author ≤ 7) ∧ (0 ≤ g.stamp ∧ g.stamp ≤ 9999) ∧ (0 ≤ g.film ∧ g.film ≤ f.frames.length - 1) ∧ 0 ≤ g.frm ∧ g.frm < g.to ∧ g.to ≤ frameOf f g.film ∧ 0 ≤ g.signs ∧ g.signs ≤ 2 ^ f.signs.toNat - 1 := by
  simp only [okGloss, Bool.and_eq_true, inB_iff, decide_eq_true_eq] at h
  obtain ⟨⟨h1, h2⟩, h3, h4, h5, h6, h7⟩ := h
  exact ⟨h1, h2, h3, h4, h5, h6, h7.1, h7.2⟩
theorem frameOf_at {f : FilmsD} {k : Int} (h : okFilms f = true) (h0 : 0 ≤ k) (h1 : k ≤ f.frames.length - 1) : f.frames[k.toNat]? = some (frameOf f k) ∧ 1 ≤ frameOf f k ∧ frameOf f k ≤ 200 := by
  have hl : k.toNat < f.frames.length := by omega
  have hx := List.getElem?_eq_getElem hl
  have e : frameOf f k = f.frames[k.toNat] := by unfold frameOf; rw [hx]; rfl
  rw [e]
  exact ⟨hx, (okFilms_parts h).2.2 _ (List.getElem_mem hl)⟩
/-- a gloss with frames that are no far numbers -/
def SmallG (x : GlossD) : Prop := (0 ≤ x.frm ∧ x.frm ≤ 1000000) ∧ 0 ≤ x.to ∧ x.to ≤ 1000000
theorem okGloss_small {f : FilmsD} (hf : okFilms f = true) {g : GlossD} (h : okGloss f g = true) : SmallG g := by
  obtain ⟨_, _, h3, h4, h5, h6, _⟩ := okGloss_parts h
  have := (frameOf_at hf h3.1 h3.2).2
  exact ⟨⟨h4, by omega⟩, by omega, by omega⟩
/-- how many frames two glosses of one film have in common -/
def commonD (x y : GlossD) : Int := max 0 (min x.to y.to - max x.frm y.frm)
/-- the gloss y replaces x, as the program tests it -/
def replD (x y : GlossD) : Bool := ((decide (y.author = x.author) && decide (y.film = x.film)) && decide (x.stamp < y.stamp)) && decide (0 < commonD x y)
def holdsD (l : List GlossD) (x : GlossD) : Bool := decide (x.signs ≠ 0) && !l.any (replD x)
/-- a gloss that contains a frame -/
def inD (film frame : Int) (x : GlossD) : Bool := (decide (x.film = film) && decide (x.frm ≤ frame)) && decide (frame < x.to)
/-- the order of messages -/
def cmpG (x y : GlossD) : Int := orL [cmpI x.author y.author, cmpI x.stamp y.stamp]

end Go.Proofs.Ytinlojealfbbfaa
