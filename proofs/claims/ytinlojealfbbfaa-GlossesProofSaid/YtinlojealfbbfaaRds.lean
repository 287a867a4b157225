/- Rds: rows of readings, and how readings are put together frame by frame. -/
import Derived.Test.YtinlojealfbbfaaReadS
import Derived.Test.YtinlojealfbbfaaApi
namespace Go.Proofs.Ytinlojealfbbfaa
open Go.RowKit

structure RdD where
  frm : Int
  till : Int
  signs : Int
  deriving DecidableEq
abbrev cellsRd (r : RdD) : Array Value := #[.int .i64 r.frm, .int .i64 r.till, .int .i64 r.signs]
def cellsRdL (r : RdD) : List Value := (cellsRd r).toList
abbrev rdV (r : RdD) : Value := .agg (cellsRd r)
theorem one_rd (x : RdD) : ∀ u ∈ cellsRdL x, u.oneCell' = true := fun v hv => by
  simp only [cellsRdL, List.mem_cons, List.not_mem_nil, or_false] at hv
  rcases hv with rfl | rfl | rfl <;> rfl
theorem Try.infoRd : (Try.prog.info? 69).map (fun i => (i.zero, i.size, i.bytes)) = some (some (.agg #[.int .i64 0, .int .i64 0, .int .i64 0]), 3, 24) := by kernel_rfl
/-- a row of readings of the call's own -/
def RdT (w : World) (lo : Nat) (A : Option Addr) (cap : Nat) (l : List RdD) : Prop := w.ownsRow lo 69 3 (.slice A l.length cap) l.length (l.flatMap cellsRdL)
theorem RdT.grow {w w' : World} {lo cap : Nat} {A : Option Addr} {l : List RdD} (h : RdT w lo A cap l) (hb : Grow w w') : RdT w' lo A cap l := own_grow h hb
theorem RdT.mono {w : World} {lo lo' cap : Nat} {A : Option Addr} {l : List RdD} (h : RdT w lo A cap l) (hl : lo' ≤ lo) : RdT w lo' A cap l := own_mono h hl
/-- what of a row in memory is known: its block, and the cells of its readings -/
theorem own_rdAt {w : World} {lo cap n : Nat} {A : Option Addr} {l : List RdD} (h : w.ownsRow lo 69 3 (.slice A n cap) n (l.flatMap cellsRdL)) (hn : n = l.length) {k : Nat} {r : RdD} (hk : l[k]? = some r) :
    ∃ g cs, A = some ⟨g, 0, none⟩ ∧ lo ≤ g ∧ BlockIs w g 69 cs ∧ (∀ j, j < 3 → w.cell? ⟨g, k * 3 + j, none⟩ = (cellsRd r)[j]?) := by
  subst hn
  have hlt := lt_of_at hk
  have h' := h
  rcases h.2 with ⟨h0, h2⟩ | ⟨g, c, cur, hv, hg, hh, h2, h3, h4, h5⟩
  · omega
  · injection hv with e1 e2 e3
    subst e1 e3
    refine ⟨g, cur, rfl, hg, hh, fun j hj => ?_⟩
    have hf := flat_get (enc := cellsRdL) (k := 3) (fun _ => rfl) l k j hj
    rw [hk, Option.bind_some] at hf
    have hjl : j < (cellsRdL r).length := hj
    have hc := World.ownsRow.cells (g := g) h' rfl (k * 3 + j) ((cellsRdL r)[j]) (by rw [hf]; exact List.getElem?_eq_getElem hjl)
    rw [show (⟨g, 0, none⟩ : Addr).add (k * 3 + j) = ⟨g, k * 3 + j, none⟩ by (simp [Addr.add]; try omega)] at hc
    rw [hc, ← List.getElem?_eq_getElem hjl]
    exact Array.getElem?_toList
/-- a store into a row of the call's own -/
theorem own_set {w : World} {lo e size n cap g : Nat} {xs : List Value} (h : w.ownsRow lo e size (.slice (some ⟨g, 0, none⟩) n cap) n xs) {p : Nat} (_hp : p < xs.length) (v : Value) :
    (w.setCell ⟨g, p, none⟩ v).ownsRow lo e size (.slice (some ⟨g, 0, none⟩) n cap) n (xs.set p v) := by
  refine ⟨by rw [List.length_set]; exact h.1, ?_⟩
  rcases h.2 with ⟨h0, _⟩ | ⟨g', c, cur, hv, hg, hh, h2, h3, h4, h5⟩
  · cases h0
  · injection hv with e1 e2 e3
    injection e1 with e1
    injection e1 with e1
    subst e1 e3
    have hB : BlockIs w g e cur := hh
    refine .inr ⟨g, cap, _, rfl, hg, hB.near p v, h2, h3, by rw [Array.size_setIfInBounds]; exact h4, ?_⟩
    rw [Array.toList_setIfInBounds, List.take_set, h5]
/-- one more frame -/
def rdStep (l : List RdD) (frame set : Int) : List RdD :=
  if set = 0 then l else match l.getLast? with
    | some r => if r.till = frame ∧ r.signs = set then l.dropLast ++ [⟨r.frm, frame + 1, set⟩] else l ++ [⟨frame, frame + 1, set⟩]
    | none => l ++ [⟨frame, frame + 1, set⟩]
/-- the readings of the first k frames, of the sets that set tells -/
def rdsTo (set : Nat → Nat) : Nat → List RdD
  | 0 => []
  | k + 1 => rdStep (rdsTo set k) k (set k)
theorem rdStep_zero {l : List RdD} {frame : Int} : rdStep l frame 0 = l := if_pos rfl
theorem rdStep_nil {frame set : Int} (h : set ≠ 0) : rdStep [] frame set = [⟨frame, frame + 1, set⟩] := by
  unfold rdStep
  rw [if_neg h]
  rfl
theorem rdStep_join {l : List RdD} {r : RdD} {frame set : Int} (h : set ≠ 0) (h1 : r.till = frame) (h2 : r.signs = set) : rdStep (l ++ [r]) frame set = l ++ [⟨r.frm, frame + 1, set⟩] := by
  unfold rdStep
  rw [if_neg h, List.getLast?_concat, List.dropLast_concat]
  simp [h1, h2]
theorem rdStep_new {l : List RdD} {r : RdD} {frame set : Int} (h : set ≠ 0) (h1 : ¬ (r.till = frame ∧ r.signs = set)) : rdStep (l ++ [r]) frame set = l ++ [r] ++ [⟨frame, frame + 1, set⟩] := by
  unfold rdStep
  rw [if_neg h, List.getLast?_concat]
  simp [h1]
theorem rdsTo_len (set : Nat → Nat) : ∀ k, (rdsTo set k).length ≤ k
  | 0 => Nat.le_refl _
  | k + 1 => by
    have ih := rdsTo_len set k
    show (rdStep (rdsTo set k) k (set k)).length ≤ k + 1
    by_cases h0 : (set k : Int) = 0
    · rw [h0, rdStep_zero]; omega
    · rcases List.eq_nil_or_concat (rdsTo set k) with e | ⟨l', r, e⟩
      · rw [e, rdStep_nil h0]; simp
      · rw [List.concat_eq_append] at e
        rw [e] at ih ⊢
        by_cases h1 : r.till = (k : Int) ∧ r.signs = (set k : Int)
        · rw [rdStep_join h0 h1.1 h1.2]; simp at ih ⊢; omega
        · rw [rdStep_new h0 h1]; simp at ih ⊢; omega
/-- the set of a frame -/
def setAt (n : Nat) (hl : List GlossD) (film : Int) (k : Nat) : Nat := firstD n (hl.filter (inD film k))
/-- the errors of a film -/
def filmErr (f : FilmsD) (l : List GlossD) (film : Int) : Int := if readErr f [l] = 0 then (if inB film 0 (f.frames.length - 1) = true then 0 else 1) else readErr f [l]
theorem readErr_zero {f : FilmsD} {l : List GlossD} (h : readErr f [l] = 0) : okFilms f = true ∧ (∀ x ∈ l, okGloss f x = true) ∧ l.length ≤ 40 ∧ ¬ Clash l := by
  unfold readErr at h
  cases h1 : okFilms f with
  | false => rw [h1] at h; simp at h
  | true =>
    rw [h1, if_pos rfl] at h
    by_cases h2 : listsErr f [l] = 0
    · have h3 : listErr f l = 0 := by
        unfold listsErr at h2
        by_cases e : listErr f l = 0
        · exact e
        · rw [if_neg e] at h2; exact absurd h2 e
      have h4 := listErr_zero h3
      have h5 := h4.1
      simp only [okMsgs, Bool.and_eq_true, decide_eq_true_eq, List.all_eq_true] at h5
      exact ⟨rfl, h5.2, h5.1, fun hc => by rw [clashB_iff.2 hc] at h4; exact absurd h4.2 (by decide)⟩
    · rw [if_neg h2] at h
      exact absurd h h2
/-- facts of glosses that hold -/
theorem held_facts {f : FilmsD} {l all : List GlossD} (h : readErr f [l] = 0) (hs : SortedG l all) : ∀ x ∈ all.filter (holdsD all), SignsOK x ∧ x.signs.toNat ≠ 0 ∧ x.signs.toNat < 2 ^ f.signs.toNat := fun x hx => by
  obtain ⟨h1, h2, _, _⟩ := readErr_zero h
  obtain ⟨hxa, hxh⟩ := List.mem_filter.1 hx
  have hok := h2 x ((hs.2 x).1 hxa)
  have hp := okGloss_parts hok
  have hne : x.signs ≠ 0 := by
    unfold holdsD at hxh
    simp only [Bool.and_eq_true, decide_eq_true_eq] at hxh
    exact hxh.1
  have e : ((2 : Int) ^ f.signs.toNat) = ((2 ^ f.signs.toNat : Nat) : Int) := (Int.natCast_pow 2 _).symm
  have h7 := hp.2.2.2.2.2.2
  rw [e] at h7
  exact ⟨okGloss_signs h1 hok, by omega, by omega⟩

end Go.Proofs.Ytinlojealfbbfaa
