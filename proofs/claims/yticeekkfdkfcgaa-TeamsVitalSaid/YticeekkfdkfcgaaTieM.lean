/- TieM: a copied crew in whose memory one person was stored anew. -/
import Derived.Test.YticeekkfdkfcgaaTieF
import Derived.Test.YticeekkfdkfcgaaRCopy
namespace Go.Proofs.Yticeekkfdkfcgaa
open Go.RowKit

/-- a person stored at a place of a block -/
def sixW (w : World) (b o : Nat) (x : PersonR) : World :=
  ((((((w.setCell ⟨b, o, none⟩ (.slice x.la x.d.levels.length x.lc)).setCell ⟨b, o + 1, none⟩ (.int .i64 x.d.fields)).setCell ⟨b, o + 2, none⟩ (.int .i64 x.d.clears)).setCell ⟨b, o + 3, none⟩ (.slice x.ta x.d.ties.length x.tc)).setCell ⟨b, o + 4, none⟩ (.bool x.d.deaf)).setCell ⟨b, o + 5, none⟩ (.int .i64 x.d.fee))
def sixC (cs : Array Value) (o : Nat) (x : PersonR) : Array Value :=
  (((((cs.setIfInBounds o (.slice x.la x.d.levels.length x.lc)).setIfInBounds (o + 1) (.int .i64 x.d.fields)).setIfInBounds (o + 2) (.int .i64 x.d.clears)).setIfInBounds (o + 3) (.slice x.ta x.d.ties.length x.tc)).setIfInBounds (o + 4) (.bool x.d.deaf)).setIfInBounds (o + 5) (.int .i64 x.d.fee)
theorem six_block {w : World} {b o : Nat} {x : PersonR} {t : TypeId} {cs : Array Value} (h : BlockIs w b t cs) : BlockIs (sixW w b o x) b t (sixC cs o x) :=
  (((((h.near o _).near (o + 1) _).near (o + 2) _).near (o + 3) _).near (o + 4) _).near (o + 5) _
theorem six_keep {t : TypeId} {w : World} {b o : Nat} {x : PersonR} {cs : Array Value} (h : BlockIs w b 52 cs) (hn : t ≠ 52) : KeepTy t w (sixW w b o x) :=
  (KeepTy.store h hn o _).trans ((KeepTy.store (h.near o _) hn (o + 1) _).trans ((KeepTy.store ((h.near o _).near (o + 1) _) hn (o + 2) _).trans ((KeepTy.store (((h.near o _).near (o + 1) _).near (o + 2) _) hn (o + 3) _).trans ((KeepTy.store ((((h.near o _).near (o + 1) _).near (o + 2) _).near (o + 3) _) hn (o + 4) _).trans (KeepTy.store (((((h.near o _).near (o + 1) _).near (o + 2) _).near (o + 3) _).near (o + 4) _) hn (o + 5) _)))))
theorem sixW_below {w : World} {B b o : Nat} {x : PersonR} (hb : B ≤ b) : Below B w (sixW w b o x) :=
  ((((((Below.refl B w).setCell (p := ⟨b, o, none⟩) hb _).setCell (p := ⟨b, o + 1, none⟩) hb _).setCell (p := ⟨b, o + 2, none⟩) hb _).setCell (p := ⟨b, o + 3, none⟩) hb _).setCell (p := ⟨b, o + 4, none⟩) hb _).setCell (p := ⟨b, o + 5, none⟩) hb _
theorem six_at {cs : Array Value} {o : Nat} {x : PersonR} (ho : o + 5 < cs.size) : ∀ j, j < 6 → (sixC cs o x)[o + j]? = (cellsP x)[j]?
  | 0, _ => by unfold sixC; simp [Array.getElem?_setIfInBounds]; omega
  | 1, _ => by unfold sixC; simp [Array.getElem?_setIfInBounds]; omega
  | 2, _ => by unfold sixC; simp [Array.getElem?_setIfInBounds]; omega
  | 3, _ => by unfold sixC; simp [Array.getElem?_setIfInBounds]; omega
  | 4, _ => by unfold sixC; simp [Array.getElem?_setIfInBounds]; omega
  | 5, _ => by unfold sixC; simp [Array.getElem?_setIfInBounds]; omega
  | k + 6, h => by omega
theorem six_else {cs : Array Value} {o q : Nat} {x : PersonR} (h : q < o ∨ o + 5 < q) : (sixC cs o x)[q]? = cs[q]? := by
  unfold sixC
  rw [Array.getElem?_setIfInBounds_ne (by omega), Array.getElem?_setIfInBounds_ne (by omega), Array.getElem?_setIfInBounds_ne (by omega), Array.getElem?_setIfInBounds_ne (by omega), Array.getElem?_setIfInBounds_ne (by omega), Array.getElem?_setIfInBounds_ne (by omega)]
/-- the crew with one person put anew -/
def putP (d : CrewR) (who : Nat) (x : PersonR) : CrewR := { d with people := d.people.set who x }
theorem put_at {w3 w6 : World} {lo pb who : Nat} {d : CrewR} {cs : Array Value} {x : PersonR} (hnew : NewCrew w3 lo d) (hk : ∀ t, KeepTy t w3 w6) (hB : BlockIs w6 pb 52 cs) (hpa : d.pa = some ⟨pb, 0, none⟩)
    (hcs : ∀ i y, d.people[i]? = some y → ∀ j, j < 6 → cs[i * 6 + j]? = (cellsPL y)[j]?) (hw : who < d.people.length) (hx : ∀ V, KeepTy 3 w6 V → w6.heap.size ≤ V.heap.size → PersonAt V V.heap.size x) :
    CrewAt (sixW w6 pb (who * 6) x) (sixW w6 pb (who * 6) x).heap.size (putP d who x) := by
  have hI : KeepTy 3 w6 (sixW w6 pb (who * 6) x) := six_keep hB (by decide)
  have hL : KeepTy 58 w6 (sixW w6 pb (who * 6) x) := six_keep hB (by decide)
  have hsz : (sixW w6 pb (who * 6) x).heap.size = w6.heap.size := by unfold sixW; simp [World.setCell]
  have hS := six_block (o := who * 6) (x := x) hB
  have hlen : who * 6 + 5 < cs.size := by
    have h := hcs who d.people[who] (List.getElem?_eq_getElem hw) 5 (by omega)
    rw [show (cellsPL d.people[who])[5]? = some (.int .i64 (d.people[who]).d.fee) from rfl] at h
    exact (Array.getElem?_eq_some_iff.1 h).1
  refine ⟨⟨.inr ⟨pb, 0, hpa, hS.lt, fun i y hi j hj => ?_⟩, fun y hy => ?_⟩, ?_⟩
  · rw [Nat.zero_add, hS.cell]
    by_cases hiw : i = who
    · subst hiw
      have hy : x = y := by
        rw [show (putP d i x).people[i]? = some x from List.getElem?_set_self hw] at hi
        exact Option.some.inj hi
      rw [← hy]
      exact six_at hlen j hj
    · rw [six_else (by omega)]
      have h2 : d.people[i]? = some y := by
        rw [← hi]
        exact (List.getElem?_set_ne (fun e => hiw e.symm)).symm
      rw [hcs i y h2 j hj]
      exact Array.getElem?_toList
  · rcases List.mem_or_eq_of_mem_set hy with h | rfl
    · exact (hnew.rows.keep ((hk _).trans hI)).mem h
    · exact hx _ hI (by omega)
  · rcases own_flat (enc := cellsLL) (fun _ => rfl) (own_keep hnew.laws ((hk _).trans hL)) rfl with e | ⟨b, cs, e, _, hB, _, _, hc⟩
    · exact .inl e
    · exact .inr ⟨b, 0, e, hB.lt, fun i x hi j hj => by rw [hB.cell, Nat.zero_add, hc i x hi j hj]; exact Array.getElem?_toList⟩
theorem tied_of {c d : CrewR} {who : Nat} {x y : PersonR} {cl : Int} (hd : d.d = c.d) (hy : d.people[who]? = some y) (hx : x.d = { y.d with ties := [cl] }) : TiedC c (putP d who x) who cl := by
  have hp : d.people.map (·.d) = c.people.map (·.d) := congrArg CrewD.people hd
  have hat : ∀ k : Nat, (d.people[k]?).map (·.d) = (c.people[k]?).map (·.d) := fun k => by
    rw [← List.getElem?_map, ← List.getElem?_map, hp]
  have hl : d.people.length = c.people.length := by simpa using congrArg List.length hp
  refine ⟨congrArg CrewD.languages hd, congrArg CrewD.laws hd, by rw [← hl]; exact List.length_set .., fun k hk => ?_, ?_⟩
  · rw [show (putP d who x).people[k]? = d.people[k]? from List.getElem?_set_ne (fun e => hk e.symm)]
    exact hat k
  · have h1 := hat who
    rw [hy] at h1
    cases hc : c.people[who]? with
    | none => rw [hc] at h1; cases h1
    | some z =>
      rw [hc] at h1
      refine ⟨z, x, rfl, List.getElem?_set_self (lt_of_at hy), ?_⟩
      rw [hx, show y.d = z.d from Option.some.inj h1]
theorem short_put {d : CrewR} {who : Nat} {x : PersonR} (hs : Short d) (h1 : x.d.levels.length ≤ 1000000 ∧ x.d.ties.length ≤ 1000000) : Short (putP d who x) := by
  refine ⟨by rw [show (putP d who x).people.length = d.people.length from List.length_set ..]; exact hs.1, hs.2.1, fun y hy => ?_⟩
  rcases List.mem_or_eq_of_mem_set hy with h | rfl
  · exact hs.2.2 y h
  · exact h1

end Go.Proofs.Yticeekkfdkfcgaa
