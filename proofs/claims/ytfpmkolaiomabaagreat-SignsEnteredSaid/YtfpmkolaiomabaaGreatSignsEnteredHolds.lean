/- The law SignsEntered: it answers true at any entries, any sight and any way in which they are entered, and leaves them as they were. -/
import Derived.Test.YtfpmkolaiomabaaGreatOpens2
import Derived.Test.YtfpmkolaiomabaaGreatSignsEntered
namespace Go.Proofs.YtfpmkolaiomabaaGreat
open Go.ChangeShapes Go.WideShapes Go.ChangeAt Go.RowKit

theorem signsEntered_any (A A' : Option Addr) (cap cap' : Nat) (l : List EntryR) (s : SeenD) (x : MessD) (w : World) (hA : EntsO w w.heap.size A l) (hl : l.length ≤ 9223372036854775807) (hA' : Ints w w.heap.size A' s.moves) (hq1 : x.mirrored ≤ 9223372036854775807) :
    Calls Tryz.prog 8 #[.slice A l.length cap, seenV s A' cap', messV x] w fun e w' => e = .returned (.bool true) ∧ Below w.heap.size w w' := by
  by_cases hP : readyD (l.map (·.d)) = true ∧ l.length ≤ 11 ∧ s.moves.length ≤ 20 ∧ okSeen s = true ∧ 0 ≤ x.turn ∧ x.turn ≤ 1000 ∧ 0 ≤ x.twice ∧ 0 ≤ x.mirrored
  · obtain ⟨h1, h2, h3, h4, h5, h6, h7, h8⟩ := hP
    exact signsEntered_ready A A' cap cap' l s x w hA hl hA' h1 h2 h3 h4 h5 h6 h7 h8 hq1
  · exact signsEntered_out A A' cap cap' l s x w hA hl hA' hP

set_option maxRecDepth 100000 in
theorem signsEntered_lifted (os : Os) (started : os.Started) (H : Type) (enc : TypeId × Value → H) :
    ReturnsInHanded {} Tryz.checked os 8 .any (Rows.signsEnteredSpec.pre6 enc Tryz.prog Tryz.f8 Rows.signsEnteredRow.domain false) (Rows.signsEnteredSpec.post enc Tryz.prog Tryz.f8 false true false false) := by
  refine returnsInHanded_of_change (C := Tryz.checked) own started (by kernel_rfl) Tryz.func8
    (ChangeSpec.witness6 (enc := enc) (C := Tryz.checked) false ⟨#[], #[.slice none 0 0, .agg #[.int .i64 0, .int .i64 0, .int .i64 0, .int .i64 0, .int .i64 0, .int .i64 0, .int .i64 0, .int .i64 0, .int .i64 0, .int .i64 0, .int .i64 0, .slice none 0 0], .agg #[.int .i64 0, .int .i64 0, .int .i64 0]], []⟩ 8 (by kernel_rfl) (by kernel_rfl) (by kernel_rfl) (by kernel_rfl)) ?_
  intro W base args ds gs before hval0 hW hcnd _
  have hval : ∀ (j : Nat) t v, Tryz.f8.params[j]? = some t → args[j]? = some v → Value.okWide Tryz.prog W .any base t v := hval0
  have hW' := hW
  obtain ⟨p, q, hA0, hV, rfl, _, _⟩ := hW
  have hA : DataW.TrodAll enc Tryz.prog W 0 (fun _ => true) true Tryz.f8.params.toList args.toList ds p := hA0
  rw [Tryz.params8] at hA hval
  obtain ⟨v0, v1, v2, d0, d1, d2, p0, p1, p2, rfl, rfl, rfl, h0, h1, h2⟩ := trodAll_three hA
  obtain ⟨rfl, rfl⟩ := trodVars_none hV
  clear hA0 hval0
  simp only [List.append_nil, List.append_assoc] at hW'
  have hlt0 : ∀ x ∈ p0, x.block < W.heap.size := fun x hx => hW'.lt x (by simp [hx])
  have hlt1 : ∀ x ∈ p1, x.block < W.heap.size := fun x hx => hW'.lt x (by simp [hx])
  have hlt2 : ∀ x ∈ p2, x.block < W.heap.size := fun x hx => hW'.lt x (by simp [hx])
  obtain ⟨A0, cap0, l0, rfl, hi0, hlen0⟩ := ents_open (hval 0 33 v0 rfl rfl) h0
  obtain ⟨s1, A1, cap1, rfl, hi1, hc1⟩ := seen_open (hval 1 50 v1 rfl rfl) h1
  obtain ⟨x2, rfl, hx2⟩ := mess_open (hval 2 59 v2 rfl rfl) h2
  refine (signsEntered_any A0 A1 cap0 cap1 l0 s1 x2 W hi0 (by unfold maxLen at hlen0; omega) hi1 (by have := bounds_i64 hx2; omega)).mono fun e W' ⟨he, hb⟩ => ?_
  subst he
  exact ⟨_, rfl, post_of_below (pa := p0 ++ (p1 ++ p2)) (pv := []) hW' (fun _ _ _ => trodAll_mk1 (shut_bool Tryz.underlying4 _))
    (fun sp hs => trodAll_mk3 (stays laidOut (by kernel_rfl) (of_decide_eq_true (by kernel_rfl)) h0 hb hlt0 (fun x hx => hs x (by simp [hx]))) (stays laidOut (by kernel_rfl) (of_decide_eq_true (by kernel_rfl)) h1 hb hlt1 (fun x hx => hs x (by simp [hx]))) (stays laidOut (by kernel_rfl) (of_decide_eq_true (by kernel_rfl)) h2 hb hlt2 (fun x hx => hs x (by simp [hx]))))
    (fun _ _ => rfl) (by simp) hb (ok_one (by kernel_rfl) rfl (okWide_bool_mk Tryz.underlying4 _))⟩

theorem signsEntered_holds : Rows.SignsEnteredSaid :=
  OpenClaim.holds_of_wide 8 Tryz.f8 rfl rfl rfl rfl rfl rfl rfl ⟨rfl, rfl, rfl, rfl, rfl⟩ rfl rfl rfl rfl rfl (by kernel_rfl) Tryz.func8 (by kernel_rfl)
    (of_decide_eq_true (by kernel_rfl)) (by unfold Func.isWrapper; first | (rw [if_pos (by decide +kernel)]; kernel_rfl) | (rw [if_neg (by decide +kernel)]; exact ⟨rfl, rfl⟩))
    (fun os started H enc _ => signsEntered_lifted os started H enc)

#print axioms signsEntered_holds
end Go.Proofs.YtfpmkolaiomabaaGreat
