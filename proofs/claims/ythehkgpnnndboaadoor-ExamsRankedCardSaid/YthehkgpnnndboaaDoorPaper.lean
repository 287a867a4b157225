/- Paper: papers in memory. -/
import Derived.Test.YthehkgpnnndboaaDoorMem
import Derived.Test.YthehkgpnnndboaaDoorMaths
namespace Go.Proofs.YthehkgpnnndboaaDoor
open Go.RowKit

/-- a row of values of k cells each -/
def Flats {α : Type} (enc : α → Array Value) (k : Nat) (w : World) (B : Nat) (A : Option Addr) (l : List α) : Prop :=
  l = [] ∨ ∃ b off, A = some ⟨b, off, none⟩ ∧ b < B ∧ ∀ i x, l[i]? = some x → ∀ j, j < k → w.cell? ⟨b, off + i * k + j, none⟩ = (enc x)[j]?
section
variable {α : Type} {enc : α → Array Value} {k : Nat} {w w' : World} {B B' : Nat} {A : Option Addr} {l : List α}
theorem Flats.below (h : Flats enc k w B A l) (hb : Below B w w') : Flats enc k w' B A l := by
  rcases h with rfl | ⟨b, off, rfl, hl, hc⟩
  · exact .inl rfl
  · exact .inr ⟨b, off, rfl, hl, fun i x hi j hj => (hb.cell (p := ⟨b, off + i * k + j, none⟩) hl).trans (hc i x hi j hj)⟩
theorem Flats.more (h : Flats enc k w B A l) (hb : B ≤ B') : Flats enc k w B' A l := by
  rcases h with rfl | ⟨b, off, rfl, hl, hc⟩
  · exact .inl rfl
  · exact .inr ⟨b, off, rfl, by omega, hc⟩
theorem Flats.at_ (h : Flats enc k w B A l) {i : Nat} (hi : i < l.length) :
    ∃ b off x, A = some ⟨b, off, none⟩ ∧ b < B ∧ (∀ j, j < k → w.cell? ⟨b, off + i * k + j, none⟩ = (enc x)[j]?) ∧ Hid (l[i]? = some x) := by
  rcases h with rfl | ⟨b, off, rfl, hb, hc⟩
  · simp at hi
  · exact ⟨b, off, l[i], rfl, hb, hc i _ (List.getElem?_eq_getElem hi), List.getElem?_eq_getElem hi⟩
end
abbrev cellsI (x : ItemI) : Array Value := #[.int .i64 x.w, .int .i64 x.m]
abbrev itemV (x : ItemI) : Value := .agg (cellsI x)
/-- a judge with the marks' own address -/
structure JudgeR where
  d : JudgeI
  a : Option Addr
  c : Nat
abbrev cellsJ (x : JudgeR) : Array Value := #[.int .i64 x.d.lo, .int .i64 x.d.hi, .int .i64 x.d.err, .slice x.a x.d.marks.length x.c]
abbrev judgeV (x : JudgeR) : Value := .agg (cellsJ x)
structure PaperR where
  items : List ItemI
  judges : List JudgeR
  wrong : Int
  grades : List Int
  ia : Option Addr
  ic : Nat
  ja : Option Addr
  jc : Nat
  ga : Option Addr
  gc : Nat
def PaperR.d (p : PaperR) : PaperI := ⟨p.items, p.judges.map JudgeR.d, p.wrong, p.grades⟩
abbrev cellsP (p : PaperR) : Array Value := #[.slice p.ia p.items.length p.ic, .slice p.ja p.judges.length p.jc, .int .i64 p.wrong, .slice p.ga p.grades.length p.gc]
abbrev paperV (p : PaperR) : Value := .agg (cellsP p)
structure PaperAt (w : World) (B : Nat) (p : PaperR) : Prop where
  items : Flats cellsI 2 w B p.ia p.items
  judges : Flats cellsJ 4 w B p.ja p.judges
  marks : ∀ x ∈ p.judges, Ints w B x.a x.d.marks
  grades : Ints w B p.ga p.grades
theorem PaperAt.below {w w' : World} {B : Nat} {p : PaperR} (h : PaperAt w B p) (hb : Below B w w') : PaperAt w' B p := ⟨h.items.below hb, h.judges.below hb, fun x hx => (h.marks x hx).below hb, h.grades.below hb⟩
theorem PaperAt.more {w : World} {B B' : Nat} {p : PaperR} (h : PaperAt w B p) (hb : B ≤ B') : PaperAt w B' p := ⟨h.items.more hb, h.judges.more hb, fun x hx => (h.marks x hx).more hb, h.grades.more hb⟩
theorem PaperAt.grow {w w' : World} {p : PaperR} (h : PaperAt w w.heap.size p) (hb : Grow w w') : PaperAt w' w'.heap.size p := (h.below hb).more hb.size
/-- no slice of a paper is too long for a walk -/
structure Short (p : PaperR) : Prop where
  items : p.items.length ≤ 1000000
  judges : p.judges.length ≤ 1000000
  grades : p.grades.length ≤ 1000000
  marks : ∀ x ∈ p.judges, x.d.marks.length ≤ 1000000
/-- what is valid -/
def okItem (x : ItemI) : Bool := inB x.w 0 10 && inB x.m 0 30
def okMark (n : Int) : Bool := inB n (-1) 50
def okLimit (n : Int) : Bool := inB n 0 1200
def okJudge (n : Nat) (j : JudgeI) : Bool := (decide (-3 ≤ j.lo) && decide (j.lo ≤ j.hi) && decide (j.hi ≤ 3)) && inB j.err 0 5 && (inB j.marks.length n n && j.marks.all okMark)
def ascL : List Int → Bool
  | a :: b :: l => decide (a < b) && ascL (b :: l)
  | _ => true
def okPaper (d : PaperI) : Bool := ((inB d.items.length 1 4 && d.items.all okItem) && (inB d.judges.length 0 4 && d.judges.all (okJudge d.items.length))) && inB d.wrong 0 2 && (inB d.grades.length 0 5 && d.grades.all okLimit) && ascL d.grades
theorem good_of {d : PaperI} (h : okPaper d = true) : GoodP d := by
  unfold okPaper at h
  simp only [Bool.and_eq_true, List.all_eq_true, inB_iff] at h
  obtain ⟨⟨⟨⟨⟨h1, h2⟩, h3, h4⟩, h5⟩, h6, h7⟩, _⟩ := h
  refine ⟨by omega, by omega, fun x hx => ?_, by omega, fun j hj => ?_, h5, by omega, fun g hg => ?_⟩
  · have := h2 x hx
    unfold okItem at this
    rw [Bool.and_eq_true, inB_iff, inB_iff] at this
    exact this
  · have := h4 j hj
    unfold okJudge at this
    simp only [Bool.and_eq_true, decide_eq_true_eq, List.all_eq_true, inB_iff] at this
    obtain ⟨⟨⟨⟨q1, q2⟩, q3⟩, q4⟩, q5, q6⟩ := this
    refine ⟨⟨q1, q2, q3⟩, q4, by omega, fun m hm => ?_⟩
    have := q6 m hm
    unfold okMark at this
    rw [inB_iff] at this
    exact this
  · have := h7 g hg
    unfold okLimit at this
    rw [inB_iff] at this
    exact this

end Go.Proofs.YthehkgpnnndboaaDoor
