/- Crew: crews and jobs: what they hold, how they lie in memory. -/
import Derived.Test.YticeekkfdkfcgaaForms
namespace Go.Proofs.Yticeekkfdkfcgaa
open Go.RowKit

structure PersonD where
  levels : List Int
  fields : Int
  clears : Int
  ties : List Int
  deaf : Bool
  fee : Int
structure LawD where
  level : Int
  size : Int
  deaf : Bool
structure CrewD where
  languages : Int
  people : List PersonD
  laws : List LawD
structure JobD where
  fr : Int
  dest : Int
  client : Int
  field : Int
  kind : Int
  size : Int
structure PersonR where
  d : PersonD
  la : Option Addr
  lc : Nat
  ta : Option Addr
  tc : Nat
structure CrewR where
  languages : Int
  people : List PersonR
  laws : List LawD
  pa : Option Addr
  pc : Nat
  wa : Option Addr
  wc : Nat
abbrev CrewR.d (c : CrewR) : CrewD := ⟨c.languages, c.people.map (·.d), c.laws⟩

abbrev cellsP (x : PersonR) : Array Value := #[.slice x.la x.d.levels.length x.lc, .int .i64 x.d.fields, .int .i64 x.d.clears, .slice x.ta x.d.ties.length x.tc, .bool x.d.deaf, .int .i64 x.d.fee]
abbrev personV (x : PersonR) : Value := .agg (cellsP x)
abbrev cellsL (x : LawD) : Array Value := #[.int .i64 x.level, .int .i64 x.size, .bool x.deaf]
abbrev lawV (x : LawD) : Value := .agg (cellsL x)
abbrev cellsC (c : CrewR) : Array Value := #[.int .i64 c.languages, .slice c.pa c.people.length c.pc, .slice c.wa c.laws.length c.wc]
abbrev crewV (c : CrewR) : Value := .agg (cellsC c)
abbrev cellsJ (j : JobD) : Array Value := #[.int .i64 j.fr, .int .i64 j.dest, .int .i64 j.client, .int .i64 j.field, .int .i64 j.kind, .int .i64 j.size]
abbrev jobV (j : JobD) : Value := .agg (cellsJ j)
/-- a crew, a job, a law, and the sets of the rules that the people break -/
abbrev cellsT (c : CrewR) (j : JobD) (l : LawD) (bA : Option Addr) (bc : Nat) : Array Value := #[.int .i64 c.languages, .slice c.pa c.people.length c.pc, .slice c.wa c.laws.length c.wc, .int .i64 j.fr, .int .i64 j.dest, .int .i64 j.client, .int .i64 j.field, .int .i64 j.kind, .int .i64 j.size, .int .i64 l.level, .int .i64 l.size, .bool l.deaf, .slice bA c.people.length bc]
abbrev taskV (c : CrewR) (j : JobD) (l : LawD) (bA : Option Addr) (bc : Nat) : Value := .agg (cellsT c j l bA bc)

/-- the levels and ties of a person -/
def PersonAt (w : World) (B : Nat) (x : PersonR) : Prop := Ints w B x.la x.d.levels ∧ Ints w B x.ta x.d.ties
theorem PersonAt.below {w w' : World} {B : Nat} {x : PersonR} (h : PersonAt w B x) (hb : Below B w w') : PersonAt w' B x := ⟨h.1.below hb, h.2.below hb⟩
theorem PersonAt.more {w : World} {B B' : Nat} {x : PersonR} (h : PersonAt w B x) (hb : B ≤ B') : PersonAt w B' x := ⟨h.1.more hb, h.2.more hb⟩

def People (w : World) (B : Nat) (A : Option Addr) (l : List PersonR) : Prop :=
  (l = [] ∨ ∃ b off, A = some ⟨b, off, none⟩ ∧ b < B ∧ ∀ i x, l[i]? = some x → ∀ j, j < 6 → w.cell? ⟨b, off + i * 6 + j, none⟩ = (cellsP x)[j]?) ∧ ∀ x, x ∈ l → PersonAt w B x
theorem People.below {w w' : World} {B : Nat} {A : Option Addr} {l : List PersonR} (h : People w B A l) (hb : Below B w w') : People w' B A l := by
  refine ⟨?_, fun x hx => (h.2 x hx).below hb⟩
  rcases h.1 with rfl | ⟨b, off, rfl, hl, hc⟩
  · exact .inl rfl
  · exact .inr ⟨b, off, rfl, hl, fun i x hi j hj => (hb.cell (p := ⟨b, off + i * 6 + j, none⟩) hl).trans (hc i x hi j hj)⟩
theorem People.more {w : World} {B B' : Nat} {A : Option Addr} {l : List PersonR} (h : People w B A l) (hb : B ≤ B') : People w B' A l := by
  refine ⟨?_, fun x hx => (h.2 x hx).more hb⟩
  rcases h.1 with rfl | ⟨b, off, rfl, hl, hc⟩
  · exact .inl rfl
  · exact .inr ⟨b, off, rfl, by omega, hc⟩
theorem People.at_ {w : World} {B : Nat} {A : Option Addr} {l : List PersonR} (h : People w B A l) {k : Nat} (hk : k < l.length) :
    ∃ b off x, A = some ⟨b, off, none⟩ ∧ b < B ∧ (∀ j, j < 6 → w.cell? ⟨b, off + k * 6 + j, none⟩ = (cellsP x)[j]?) ∧ PersonAt w B x ∧ Hid (l[k]? = some x) := by
  rcases h.1 with rfl | ⟨b, off, rfl, hb, hc⟩
  · simp at hk
  · exact ⟨b, off, l[k], rfl, hb, hc k _ (List.getElem?_eq_getElem hk), h.2 _ (List.getElem_mem hk), List.getElem?_eq_getElem hk⟩
def Laws (w : World) (B : Nat) (A : Option Addr) (l : List LawD) : Prop :=
  l = [] ∨ ∃ b off, A = some ⟨b, off, none⟩ ∧ b < B ∧ ∀ i x, l[i]? = some x → ∀ j, j < 3 → w.cell? ⟨b, off + i * 3 + j, none⟩ = (cellsL x)[j]?
theorem Laws.below {w w' : World} {B : Nat} {A : Option Addr} {l : List LawD} (h : Laws w B A l) (hb : Below B w w') : Laws w' B A l := by
  rcases h with rfl | ⟨b, off, rfl, hl, hc⟩
  · exact .inl rfl
  · exact .inr ⟨b, off, rfl, hl, fun i x hi j hj => (hb.cell (p := ⟨b, off + i * 3 + j, none⟩) hl).trans (hc i x hi j hj)⟩
theorem Laws.more {w : World} {B B' : Nat} {A : Option Addr} {l : List LawD} (h : Laws w B A l) (hb : B ≤ B') : Laws w B' A l := by
  rcases h with rfl | ⟨b, off, rfl, hl, hc⟩
  · exact .inl rfl
  · exact .inr ⟨b, off, rfl, by omega, hc⟩
theorem Laws.at_ {w : World} {B : Nat} {A : Option Addr} {l : List LawD} (h : Laws w B A l) {k : Nat} (hk : k < l.length) :
    ∃ b off x, A = some ⟨b, off, none⟩ ∧ b < B ∧ (∀ j, j < 3 → w.cell? ⟨b, off + k * 3 + j, none⟩ = (cellsL x)[j]?) ∧ Hid (l[k]? = some x) := by
  rcases h with rfl | ⟨b, off, rfl, hb, hc⟩
  · simp at hk
  · exact ⟨b, off, l[k], rfl, hb, hc k _ (List.getElem?_eq_getElem hk), List.getElem?_eq_getElem hk⟩
def CrewAt (w : World) (B : Nat) (c : CrewR) : Prop := People w B c.pa c.people ∧ Laws w B c.wa c.laws
theorem CrewAt.below {w w' : World} {B : Nat} {c : CrewR} (h : CrewAt w B c) (hb : Below B w w') : CrewAt w' B c := ⟨h.1.below hb, h.2.below hb⟩
theorem CrewAt.more {w : World} {B B' : Nat} {c : CrewR} (h : CrewAt w B c) (hb : B ≤ B') : CrewAt w B' c := ⟨h.1.more hb, h.2.more hb⟩

/-- what is valid -/
def okPerson (n : Int) (p : PersonD) : Bool :=
  (decide ((p.levels.length : Int) = n) && p.levels.all fun x => inB x 0 5) && (inB p.fields 0 255 && inB p.clears 0 255) && (decide (p.ties.length ≤ 10) && p.ties.all fun x => inB x 0 99) && inB p.fee 0 1000
def okLaw (l : LawD) : Bool := inB l.level 1 5 && inB l.size 1 8
def okCrew (c : CrewD) : Bool := (inB c.languages 2 5 && (decide (c.people.length ≤ 8) && c.people.all (okPerson c.languages))) && (decide (c.laws.length = 4) && c.laws.all okLaw)
def okJob (n : Int) (j : JobD) : Bool := inB j.fr 0 (n - 1) && inB j.dest 0 (n - 1) && decide (j.fr ≠ j.dest) && (inB j.client 0 99 && inB j.field 0 7 && inB j.kind 0 3 && inB j.size 1 8)
def crewErr (c : CrewD) (j : JobD) : Int := if okCrew c = false then 30 else if okJob c.languages j = false then 31 else 0

end Go.Proofs.Yticeekkfdkfcgaa
