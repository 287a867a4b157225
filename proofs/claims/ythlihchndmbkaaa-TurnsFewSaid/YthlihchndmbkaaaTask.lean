/- Task: tasks, hands and states, as data and in memory. -/
import Derived.Test.YthlihchndmbkaaaMem
import Derived.Test.YthlihchndmbkaaaForms
namespace Go.Proofs.Ythlihchndmbkaaa
open Go.RowKit

structure HandD where
  s0 : Int
  s1 : Int
  t0 : Int
  t1 : Int
  e0 : Int
  e1 : Int
  slip : Int
structure TaskD where
  hands : List HandD
  parts : List Int
  limit : Int
  rest : Int
  swap : Int
def okSpan (lo hi most : Int) : Bool := decide (0 ≤ lo) && (decide (lo ≤ hi) && decide (hi ≤ most))
def okHand (h : HandD) : Bool := okSpan h.s0 h.s1 100 && okSpan h.t0 h.t1 20 && okSpan h.e0 h.e1 20 && inB h.slip 0 100
def okTask (t : TaskD) : Bool := (inB t.hands.length 1 3 && t.hands.all okHand) && (inB t.parts.length 1 10 && t.parts.all fun p => inB p 0 10) && (inB t.limit 1 10 && inB t.rest 1 10) && inB t.swap 0 100
theorem okTask_parts {t : TaskD} (h : okTask t = true) : (1 ≤ t.hands.length ∧ t.hands.length ≤ 3) ∧ (∀ x ∈ t.hands, okHand x = true) ∧ (1 ≤ t.parts.length ∧ t.parts.length ≤ 10) ∧ (∀ p ∈ t.parts, 0 ≤ p ∧ p ≤ 10) ∧ (1 ≤ t.limit ∧ t.limit ≤ 10) ∧ (1 ≤ t.rest ∧ t.rest ≤ 10) ∧ 0 ≤ t.swap ∧ t.swap ≤ 100 := by
  simp only [okTask, Bool.and_eq_true, inB_iff, List.all_eq_true] at h
  obtain ⟨⟨⟨⟨h1, h2⟩, h3, h4⟩, h5, h6⟩, h7⟩ := h
  exact ⟨by omega, h2, by omega, h4, h5, h6, h7⟩
theorem okHand_parts {h : HandD} (k : okHand h = true) : (0 ≤ h.s0 ∧ h.s0 ≤ h.s1 ∧ h.s1 ≤ 100) ∧ (0 ≤ h.t0 ∧ h.t0 ≤ h.t1 ∧ h.t1 ≤ 20) ∧ (0 ≤ h.e0 ∧ h.e0 ≤ h.e1 ∧ h.e1 ≤ 20) ∧ 0 ≤ h.slip ∧ h.slip ≤ 100 := by
  simp only [okHand, okSpan, Bool.and_eq_true, inB_iff, decide_eq_true_eq] at k
  omega

abbrev cellsH (h : HandD) : Array Value := #[.int .i64 h.s0, .int .i64 h.s1, .int .i64 h.t0, .int .i64 h.t1, .int .i64 h.e0, .int .i64 h.e1, .int .i64 h.slip]
abbrev handV (h : HandD) : Value := .agg (cellsH h)
abbrev spanV (lo hi : Int) : Value := .agg #[.int .i64 lo, .int .i64 hi]
/-- the hands hs lie at A, in a block below B -/
def HandsAt (w : World) (B : Nat) (A : Option Addr) (hs : List HandD) : Prop :=
  hs = [] ∨ ∃ b off, A = some ⟨b, off, none⟩ ∧ b < B ∧ ∀ i x, hs[i]? = some x → ∀ j, j < 7 → w.cell? ⟨b, off + i * 7 + j, none⟩ = (cellsH x)[j]?
theorem HandsAt.below {w w' : World} {B : Nat} {A : Option Addr} {hs : List HandD} (h : HandsAt w B A hs) (hb : Below B w w') : HandsAt w' B A hs := by
  rcases h with rfl | ⟨b, off, rfl, hl, hc⟩
  · exact .inl rfl
  · exact .inr ⟨b, off, rfl, hl, fun i x hi j hj => (hb.cell (p := ⟨b, off + i * 7 + j, none⟩) hl).trans (hc i x hi j hj)⟩
theorem HandsAt.more {w : World} {B B' : Nat} {A : Option Addr} {hs : List HandD} (h : HandsAt w B A hs) (hb : B ≤ B') : HandsAt w B' A hs := by
  rcases h with rfl | ⟨b, off, rfl, hl, hc⟩
  · exact .inl rfl
  · exact .inr ⟨b, off, rfl, by omega, hc⟩
theorem HandsAt.at_ {w : World} {B : Nat} {A : Option Addr} {hs : List HandD} (h : HandsAt w B A hs) {k : Nat} (hk : k < hs.length) :
    ∃ b off x, A = some ⟨b, off, none⟩ ∧ b < B ∧ (∀ j, j < 7 → w.cell? ⟨b, off + k * 7 + j, none⟩ = (cellsH x)[j]?) ∧ Hid (hs[k]? = some x) := by
  rcases h with rfl | ⟨b, off, rfl, hl, hc⟩
  · simp at hk
  · have hx := List.getElem?_eq_getElem hk
    exact ⟨b, off, hs[k], rfl, hl, hc k _ hx, hx⟩
/-- a task, and where its slices lie -/
structure TaskR where
  d : TaskD
  A : Option Addr
  ca : Nat
  B : Option Addr
  cb : Nat
abbrev cellsT (t : TaskR) : Array Value := #[.slice t.A t.d.hands.length t.ca, .slice t.B t.d.parts.length t.cb, .int .i64 t.d.limit, .int .i64 t.d.rest, .int .i64 t.d.swap]
abbrev taskV (t : TaskR) : Value := .agg (cellsT t)
def TaskAt (w : World) (n : Nat) (t : TaskR) : Prop := HandsAt w n t.A t.d.hands ∧ Ints w n t.B t.d.parts
theorem TaskAt.below {w w' : World} {n : Nat} {t : TaskR} (h : TaskAt w n t) (hb : Below n w w') : TaskAt w' n t := ⟨h.1.below hb, h.2.below hb⟩
theorem TaskAt.more {w : World} {n n' : Nat} {t : TaskR} (h : TaskAt w n t) (hb : n ≤ n') : TaskAt w n' t := ⟨h.1.more hb, h.2.more hb⟩

/-- a state of a course -/
structure StD where
  w0 : Int
  w1 : Int
  w2 : Int
  parts : Int
  mis : Int
  last : Int
abbrev cellsS (s : StD) : Array Value := #[.int .i64 s.w0, .int .i64 s.w1, .int .i64 s.w2, .int .i64 s.parts, .int .i64 s.mis, .int .i64 s.last]
abbrev stV (s : StD) : Value := .agg (cellsS s)
def StD.get (s : StD) (k : Nat) : Int := if k = 0 then s.w0 else if k = 1 then s.w1 else s.w2
def StD.set (s : StD) (k : Nat) (x : Int) : StD := if k = 0 then { s with w0 := x } else if k = 1 then { s with w1 := x } else { s with w2 := x }
theorem StD.cell (s : StD) {k : Nat} (hk : k < 3) : (cellsS s)[k]? = some (.int .i64 (s.get k)) := by
  match k, hk with
  | 0, _ => rfl
  | 1, _ => rfl
  | 2, _ => rfl
theorem StD.put (s : StD) {k : Nat} (hk : k < 3) (x : Int) : (cellsS s).setIfInBounds k (.int .i64 x) = cellsS (s.set k x) := by
  match k, hk with
  | 0, _ => rfl
  | 1, _ => rfl
  | 2, _ => rfl
theorem StD.get_set (s : StD) {k : Nat} (hk : k < 3) (x : Int) (j : Nat) (hj : j < 3) : (s.set k x).get j = if j = k then x else s.get j := by
  match k, hk with
  | 0, _ | 1, _ | 2, _ =>
    match j, hj with
    | 0, _ | 1, _ | 2, _ => rfl
theorem StD.set_rest (s : StD) (k : Nat) (x : Int) : (s.set k x).parts = s.parts ∧ (s.set k x).mis = s.mis ∧ (s.set k x).last = s.last := by
  unfold StD.set
  split
  · exact ⟨rfl, rfl, rfl⟩
  · split <;> exact ⟨rfl, rfl, rfl⟩

/-- of each span the end that counts: in the worst course (hi) the high ones, but the low one of what a hand recovers -/
def startOf (hi : Bool) (h : HandD) : Int := if hi = true then h.s1 else h.s0
def tireOf (hi : Bool) (h : HandD) : Int := if hi = true then h.t1 else h.t0
def easeOf (hi : Bool) (h : HandD) : Int := if hi = true then h.e0 else h.e1
/-- the weariness of a hand after one more part, in which it signed (is), or did not -/
def newW (hi : Bool) (o : Option HandD) (is : Bool) (g : Int) : Int := match o with
  | some h => if is = true then g + tireOf hi h else max 0 (g - easeOf hi h)
  | none => 0
def startAt (hi : Bool) (o : Option HandD) : Int := match o with
  | some h => startOf hi h
  | none => 0
def zeroS : StD := ⟨0, 0, 0, 0, 0, 0⟩
/-- the state before the part 0, of the first k hands -/
def beginTo (hi : Bool) (hs : List HandD) : Nat → StD
  | 0 => zeroS
  | k + 1 => (beginTo hi hs k).set k (startAt hi hs[k]?)
def beginD (hi : Bool) (t : TaskD) : StD := beginTo hi t.hands t.hands.length
/-- one part more: the weariness of the first k hands -/
def wearTo (hi : Bool) (hs : List HandD) (hand : Nat) (s : StD) : Nat → StD
  | 0 => s
  | k + 1 => (wearTo hi hs hand s k).set k (newW hi hs[k]? (decide (k = hand)) (s.get k))
/-- the mistakes of one part more -/
def misD (t : TaskD) (s : StD) (hand : Nat) : Int :=
  s.mis + (match t.parts[s.parts.toNat]?, t.hands[hand]? with | some p, some h => p * (h.slip + s.get hand) | _, _ => 0) + (if 0 < s.parts ∧ s.last ≠ hand then t.swap else 0)
def signD (hi : Bool) (t : TaskD) (s : StD) (hand : Nat) : StD :=
  let r := wearTo hi t.hands hand { s with mis := misD t s hand } t.hands.length
  { r with parts := s.parts + 1, last := hand }
def afterD (hi : Bool) (t : TaskD) (first : List Nat) : StD := first.foldl (fun s h => signD hi t s h) (beginD hi t)

end Go.Proofs.Ythlihchndmbkaaa
