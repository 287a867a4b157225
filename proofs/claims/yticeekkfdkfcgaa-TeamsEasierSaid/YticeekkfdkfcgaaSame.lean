/- Same: what is found depends on what a crew holds alone; all contracts in flat form. -/
import Derived.Test.YticeekkfdkfcgaaWorks
import Derived.Test.YticeekkfdkfcgaaRCopy
import Derived.Test.YticeekkfdkfcgaaReady
import Derived.Test.YticeekkfdkfcgaaRMay
namespace Go.Proofs.Yticeekkfdkfcgaa
open Go.RowKit

theorem memTo_d {P P' : List PersonR} (h : P.map (·.d) = P'.map (·.d)) (team : Nat) : ∀ k, (memTo P team k).map (fun x => x.1.2.d) = (memTo P' team k).map (fun x => x.1.2.d)
  | 0 => rfl
  | k + 1 => by
    have ih := memTo_d h team k
    have hl : P.length = P'.length := by have := congrArg List.length h; simpa using this
    have hk := congrArg (fun l => l[k]?) h
    simp only [List.getElem?_map] at hk
    by_cases hlt : k < P.length
    · have e1 := List.getElem?_eq_getElem hlt
      have e2 := List.getElem?_eq_getElem (l := P') (i := k) (by omega)
      rw [e1, e2] at hk
      have hd : (P[k]).d = (P'[k]'(by omega)).d := Option.some.inj hk
      cases hb : hasN team k with
      | true =>
        rw [memTo_yes e1 hb, memTo_yes e2 hb, List.map_append, List.map_append, ih]
        show _ ++ [(P[k]).d] = _ ++ [(P'[k]'(by omega)).d]
        rw [hd]
      | false => rw [memTo_no hb, memTo_no hb, ih]
    · rw [memTo_out hlt, memTo_out (by omega), ih]
theorem members_d {c c' : CrewR} (h : c.d = c'.d) (team : Nat) : (membersL c.people team).map (fun x => x.1.2.d) = (membersL c'.people team).map (fun x => x.1.2.d) := by
  have hp : c.people.map (·.d) = c'.people.map (·.d) := congrArg CrewD.people h
  have hl : c.people.length = c'.people.length := by have := congrArg List.length hp; simpa using this
  unfold membersL
  rw [hl]
  exact memTo_d hp team _
section
variable {P : List PersonR}
theorem ruleO_d (j : JobD) (l : List (Mem P)) : ruleO j l = (l.map (fun x => x.1.2.d)).foldl (fun s p => s ||| breakD j p) 0 := by unfold ruleO; rw [List.foldl_map]
theorem deafL_d (l : List (Mem P)) : deafL l = (l.map (fun x => x.1.2.d)).any (·.deaf) := by unfold deafL; rw [List.any_map]; rfl
theorem joinsL_d (lv : Int) (a b : Nat) (l : List (Mem P)) : joinsL lv a b l = (l.map (fun x => x.1.2.d)).any (bothD lv a b) := by unfold joinsL; rw [List.any_map]; rfl
theorem feeL_d (l : List (Mem P)) : feeL l = ((l.map (fun x => x.1.2.d)).map (·.fee)).sum := by unfold feeL; rw [List.map_map]; rfl
end
theorem len_d {c c' : CrewR} (h : c.d = c'.d) : c.people.length = c'.people.length := by
  have hp : c.people.map (·.d) = c'.people.map (·.d) := congrArg CrewD.people h
  have := congrArg List.length hp
  simpa using this
theorem adj_same {c c' : CrewR} (h : c.d = c'.d) (lv : Int) (t : Nat) : (fun a b => joinsL lv a b (membersL c.people t)) = fun a b => joinsL lv a b (membersL c'.people t) := by
  funext a b
  rw [joinsL_d, joinsL_d, members_d h]
theorem chainT_same {c c' : CrewR} (h : c.d = c'.d) (j : JobD) (t : Nat) : chainT c j t = chainT c' j t := by
  have hl : c.languages = c'.languages := congrArg CrewD.languages h
  unfold chainT
  rw [adj_same h, h, hl]
theorem brokenT_same {c c' : CrewR} (h : c.d = c'.d) (j : JobD) (t : Nat) : brokenT c j t = brokenT c' j t := by
  have hl : c.languages = c'.languages := congrArg CrewD.languages h
  unfold brokenT brokenL
  rw [adj_same h, ruleO_d, ruleO_d, deafL_d, deafL_d, members_d h, h, hl]
theorem feeF_same {c c' : CrewR} (h : c.d = c'.d) : feeF c = feeF c' := by
  funext x
  show feeL _ = feeL _
  rw [feeL_d, feeL_d, members_d h]
theorem mayL_same {c c' : CrewR} (h : c.d = c'.d) (j : JobD) : mayL c j = mayL c' j := by
  have hs : setsL c j = setsL c' j := by
    have hp : c.people.map (·.d) = c'.people.map (·.d) := congrArg CrewD.people h
    have e : ∀ q : CrewR, setsL q j = (q.people.map (·.d)).map (breakD j) := fun q => by rw [List.map_map]; rfl
    rw [e, e, hp]
  unfold mayL
  rw [h, hs, len_d h]
theorem chE_same {c c' : CrewR} (h : c.d = c'.d) (j : JobD) (t : Int) : chE c j t = chE c' j t := by unfold chE; rw [h, chainT_same h]
theorem chL_same {c c' : CrewR} (h : c.d = c'.d) (j : JobD) (t : Int) : chL c j t = chL c' j t := by unfold chL; rw [h, chainT_same h]
theorem brokenT_funext {c c' : CrewR} (h : c.d = c'.d) (j : JobD) : brokenT c j = brokenT c' j := funext (brokenT_same h j)
theorem keptP_same {c c' : CrewR} (h : c.d = c'.d) (f : Nat → Nat) : keptP c f = keptP c' f := by funext r; unfold keptP; rw [len_d h]
theorem whE_same {c c' : CrewR} (h : c.d = c'.d) (j : JobD) : whE c j (brokenT c j) = whE c' j (brokenT c' j) := by unfold whE; rw [brokenT_funext h, h, keptP_same h]
theorem whY_same {c c' : CrewR} (h : c.d = c'.d) (j : JobD) : whY c j (brokenT c j) = whY c' j (brokenT c' j) := by unfold whY; rw [brokenT_funext h, h, keptP_same h]
/-- the set that Broken returns -/
def brY (c : CrewR) (j : JobD) (team : Int) : Nat := if teamErr c.d j team ≠ 0 then 0 else brokenT c j team.toNat
theorem brY_same {c c' : CrewR} (h : c.d = c'.d) (j : JobD) (t : Int) : brY c j t = brY c' j t := by unfold brY; rw [h, brokenT_same h]
theorem brY_of {c : CrewR} {j : JobD} {team : Int} {b : Nat} (h1 : teamErr c.d j team ≠ 0 → b = 0) (h2 : teamErr c.d j team = 0 → b = brokenT c j team.toNat) : b = brY c j team := by
  unfold brY
  by_cases h : teamErr c.d j team = 0
  · rw [if_neg (by simp [h])]; exact h2 h
  · rw [if_pos h]; exact h1 h
theorem broken_flat (c : CrewR) (j : JobD) (team : Int) (n : Nat) (w : World) (hA : CrewAt w n c) (hn : n ≤ w.heap.size) (hs : Short c) :
    Calls Try.prog 17 #[crewV c, jobV j, .int .i64 team] w fun e w' => e = .returned (.tuple #[.int .i64 (brY c j team : Nat), .int .i64 (teamErr c.d j team)]) ∧ Below w.heap.size w w' := by
  refine (brokenApi_any c j team n w hA hn hs).mono ?_
  rintro e w' ⟨b, rfl, h1, h2, hb⟩
  rw [brY_of h1 h2]
  exact ⟨rfl, hb⟩
theorem rBroken_flat (c : CrewR) (j : JobD) (team : Int) (n : Nat) (w : World) (hA : CrewAt w n c) (hn : n ≤ w.heap.size) (hs : Short c) :
    Calls Try.prog 18 #[crewV c, jobV j, .int .i64 team] w fun e w' => e = .returned (.tuple #[.int .i64 (brY c j team : Nat), .int .i64 (teamErr c.d j team)]) ∧ Below w.heap.size w w' := by
  refine (rBrokenApi_any c j (brokenT c j) team n w hA hn hs (fun h => rb_any hA hn (teamErr_crew h)) (fun h => (good_ok (crewErr_ok (teamErr_crew h)).1 (crewErr_ok (teamErr_crew h)).2).len)).mono ?_
  rintro e w' ⟨b, rfl, h1, h2, hb⟩
  rw [brY_of h1 h2]
  exact ⟨rfl, hb⟩
/-- the team, the fee and the error of Team -/
def tmT (c : CrewR) (j : JobD) : Nat := if crewErr c.d j ≠ 0 then 0 else (teamD (brokenF c j) (feeF c) c.people.length).1
def tmE (c : CrewR) (j : JobD) : Int := if crewErr c.d j ≠ 0 then crewErr c.d j else if tmT c j = 0 then 3 else 0
def tmF (c : CrewR) (j : JobD) : Int := if tmT c j = 0 then 0 else (teamD (brokenF c j) (feeF c) c.people.length).2
theorem tm_of {c : CrewR} {j : JobD} {t : Nat} {f er : Int} (h1 : crewErr c.d j ≠ 0 → t = 0 ∧ f = 0 ∧ er = crewErr c.d j) (h2 : crewErr c.d j = 0 → t = (teamD (brokenF c j) (feeF c) c.people.length).1 ∧ (t = 0 → f = 0 ∧ er = 3) ∧ (t ≠ 0 → f = (teamD (brokenF c j) (feeF c) c.people.length).2 ∧ er = 0)) : t = tmT c j ∧ f = tmF c j ∧ er = tmE c j := by
  unfold tmF tmE
  by_cases h : crewErr c.d j = 0
  · obtain ⟨q1, q2, q3⟩ := h2 h
    have e : tmT c j = t := by unfold tmT; rw [if_neg (by simp [h]), q1]
    have hnn : ¬ crewErr c.d j ≠ 0 := by simp [h]
    rw [e]
    by_cases ht : t = 0
    · rw [if_pos ht, if_neg hnn, if_pos ht]
      exact ⟨rfl, q2 ht⟩
    · rw [if_neg ht, if_neg hnn, if_neg ht]
      exact ⟨rfl, q3 ht⟩
  · obtain ⟨q1, q2, q3⟩ := h1 h
    have e : tmT c j = 0 := by unfold tmT; rw [if_pos h]
    rw [e, if_pos rfl, if_pos h]
    exact ⟨q1, q2, q3⟩
theorem teamD_same {c c' : CrewR} (h : c.d = c'.d) (j : JobD) : teamD (brokenF c j) (feeF c) c.people.length = teamD (brokenF c' j) (feeF c') c'.people.length := by
  have e : brokenF c j = brokenF c' j := by funext x; exact brokenT_same h j x.val
  rw [e, feeF_same h, len_d h]
theorem tmT_same {c c' : CrewR} (h : c.d = c'.d) (j : JobD) : tmT c j = tmT c' j := by unfold tmT; rw [h, teamD_same h]
theorem tmE_same {c c' : CrewR} (h : c.d = c'.d) (j : JobD) : tmE c j = tmE c' j := by unfold tmE; rw [h, tmT_same h]
theorem tmF_same {c c' : CrewR} (h : c.d = c'.d) (j : JobD) : tmF c j = tmF c' j := by unfold tmF; rw [tmT_same h, teamD_same h]
theorem team_flat (c : CrewR) (j : JobD) (n : Nat) (w : World) (hA : CrewAt w n c) (hn : n ≤ w.heap.size) (hs : Short c) :
    Calls Try.prog 22 #[crewV c, jobV j] w fun e w' => e = .returned (.tuple #[.int .i64 (tmT c j : Nat), .int .i64 (tmF c j), .int .i64 (tmE c j)]) ∧ Below w.heap.size w w' := by
  refine (teamApi_any c j n w hA hn hs).mono ?_
  rintro e w' ⟨t, f, er, rfl, h1, h2, hb⟩
  obtain ⟨rfl, rfl, rfl⟩ := tm_of h1 h2
  exact ⟨rfl, hb⟩
theorem rTeam_flat (c : CrewR) (j : JobD) (n : Nat) (w : World) (hA : CrewAt w n c) (hn : n ≤ w.heap.size) (hs : Short c) :
    Calls Try.prog 23 #[crewV c, jobV j] w fun e w' => e = .returned (.tuple #[.int .i64 (tmT c j : Nat), .int .i64 (tmF c j), .int .i64 (tmE c j)]) ∧ Below w.heap.size w w' := by
  refine (rTeam_any c j (brokenT c j) n w hA hn hs (fun h => rb_any hA hn h) (fun h => ⟨(good_ok (crewErr_ok h).1 (crewErr_ok h).2).len, (good_ok (crewErr_ok h).1 (crewErr_ok h).2).fees⟩)).mono ?_
  rintro e w' ⟨t, f, er, rfl, h1, h2, hb⟩
  obtain ⟨rfl, rfl, rfl⟩ := tm_of h1 h2
  exact ⟨rfl, hb⟩
theorem short_same {c c' : CrewR} (h : c'.d = c.d) (hl : c'.laws.length = c.laws.length) (hs : Short c) : Short c' := by
  refine ⟨by rw [len_d h]; exact hs.1, by rw [hl]; exact hs.2.1, fun x hx => ?_⟩
  have hp : c'.people.map (·.d) = c.people.map (·.d) := congrArg CrewD.people h
  have hm : x.d ∈ c'.people.map (·.d) := List.mem_map.2 ⟨x, hx, rfl⟩
  rw [hp, List.mem_map] at hm
  obtain ⟨y, hy, he⟩ := hm
  rw [← he]
  exact hs.2.2 y hy
theorem far_small {c : CrewR} (h : farC c = false) : c.people.length ≤ 20 ∧ c.laws.length ≤ 20 ∧ ∀ x ∈ c.people, x.d.levels.length ≤ 20 ∧ x.d.ties.length ≤ 30 := by
  unfold farC at h
  simp only [Bool.or_eq_false_iff, decide_eq_false_iff_not] at h
  obtain ⟨⟨⟨h1, h2⟩, h3⟩, _⟩ := h
  refine ⟨by omega, by omega, fun x hx => ?_⟩
  have h := List.any_eq_false.1 h3 x hx
  unfold wideP at h
  simp at h
  omega
/-- two equal lists of integers -/
theorem same_self (A A' : Option Addr) (cap cap' B B' : Nat) (xs : List Int) (w : World) (hA : Ints w B A xs) (hA' : Ints w B' A' xs) (hl : xs.length ≤ 1000000) :
    Calls Try.prog 21 #[.slice A xs.length cap, .slice A' xs.length cap'] w fun e w' => e = .returned (.bool true) ∧ ∃ n, w' = w.drewN n := by
  refine (sameInts_any A A' cap cap' B B' xs xs w hA hA' hl hl).mono ?_
  rintro e w' ⟨rfl, h⟩
  exact ⟨by simp, h⟩
theorem mayL_len (c : CrewR) (j : JobD) : (mayL c j).length ≤ c.people.length := by
  unfold mayL
  split
  · exact Nat.zero_le _
  · exact zeros_len _ _
theorem chL_len {c : CrewR} {j : JobD} {team : Int} : (chL c j team).length ≤ 5 := by
  unfold chL
  by_cases h0 : teamErr c.d j team = 0
  · rw [if_neg (by simp [h0])]
    obtain ⟨h1, h2⟩ := crewErr_ok (teamErr_crew h0)
    have g := good_ok h1 h2
    have hnq : j.fr.toNat ≠ j.dest.toNat := fun e => g.job.ne (by rw [g.frI, g.dstI, e])
    cases hc : chainT c j team.toNat with
    | none => exact Nat.zero_le _
    | some l =>
      have F := chain_facts g.n2 g.n5 (adj := fun a b => joinsL (lawOf c.d j).level a b (membersL c.people team.toNat)) (fun a b => joinsL_symm _ _ a b) g.frn g.dstn hnq
      obtain ⟨_, q2, _⟩ := F.some l hc
      have := g.n5
      show l.length ≤ 5
      omega
  · rw [if_pos h0]; exact Nat.zero_le _

end Go.Proofs.Yticeekkfdkfcgaa
