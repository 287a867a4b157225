/- The law SignsMade: it answers true at any entries, sight and signer, and leaves them as they were. -/
import Derived.Test.YtfpmkolaiomabaaGreatOpens2
import Derived.Test.YtfpmkolaiomabaaGreatMadeOff
import Derived.Test.YtfpmkolaiomabaaGreatSignsMade
namespace Go.Proofs.YtfpmkolaiomabaaGreat
open Go.ChangeShapes Go.WideShapes Go.ChangeAt Go.RowKit

theorem signsMade_any (A A' : Option Addr) (cap cap' : Nat) (l : List EntryR) (s : SeenD) (x : SignerD) (w : World) (hA : EntsO w w.heap.size A l) (hl : l.length ≤ 9223372036854775807) (hA' : Ints w w.heap.size A' s.moves) (hq1 : x.missed ≤ 9223372036854775807) :
    Calls Tryz.prog 11 #[.slice A l.length cap, seenV s A' cap', signerV x] w fun e w' => e = .returned (.bool true) ∧ Below w.heap.size w w' := by
  by_cases hP : readyD (l.map (·.d)) = true ∧ s.moves.length ≤ 20 ∧ okSeen s = true ∧ 0 ≤ x.entry ∧ x.entry < l.length ∧ 0 ≤ x.missed
  · obtain ⟨hr, _, hs, hx0, hx1, hq0⟩ := hP
    have hy : l[x.entry.toNat]? = some (l[x.entry.toNat]'(by omega)) := List.getElem?_eq_getElem (by omega)
    generalize l[x.entry.toNat]'(by omega) = y at hy
    by_cases hQ : (0 ≤ x.region ∧ x.region ≤ 7) ∧ hasD y.d.regions x.region = true ∧ y.d.low ≤ x.age ∧ x.age ≤ y.d.high
    · exact signsMade_ready A A' cap cap' l s x y w hA hl hA' hr hs hx0 hx1 hy hq0 hq1 hQ.1 hQ.2.1 hQ.2.2
    · exact signsMade_off A A' cap cap' l s x y w hA hl hA' hr hs hx0 hx1 hy hq0 hQ
  · exact signsMade_out A A' cap cap' l s x w hA hl hA' hP

set_option maxRecDepth 100000 in
theorem signsMade_lifted (os : Os) (started : os.Started) (H : Type) (enc : TypeId × Value → H) :
    ReturnsInHanded {} Tryz.checked os 11 .any (Rows.signsMadeSpec.pre6 enc Tryz.prog Tryz.f11 Rows.signsMadeRow.domain false) (Rows.signsMadeSpec.post enc Tryz.prog Tryz.f11 false true false false) := by
  refine returnsInHanded_of_change (C := Tryz.checked) own started (by kernel_rfl) Tryz.func11
    (ChangeSpec.witness6 (enc := enc) (C := Tryz.checked) false ⟨#[], #[.slice none 0 0, .agg #[.int .i64 0, .int .i64 0, .int .i64 0, .int .i64 0, .int .i64 0, .int .i64 0, .int .i64 0, .int .i64 0, .int .i64 0, .int .i64 0, .int .i64 0, .slice none 0 0], .agg #[.int .i64 0, .int .i64 0, .int .i64 0, .int .i64 0, .bool false]], []⟩ 8 (by kernel_rfl) (by kernel_rfl) (by kernel_rfl) (by kernel_rfl)) ?_
  intro W base args ds gs before hval0 hW hcnd _
  have hval : ∀ (j : Nat) t v, Tryz.f11.params[j]? = some t → args[j]? = some v → Value.okWide Tryz.prog W .any base t v := hval0
  have hW' := hW
  obtain ⟨p, q, hA0, hV, rfl, _, _⟩ := hW
  have hA : DataW.TrodAll enc Tryz.prog W 0 (fun _ => true) true Tryz.f11.params.toList args.toList ds p := hA0
  rw [Tryz.params11] at hA hval
  obtain ⟨v0, v1, v2, d0, d1, d2, p0, p1, p2, rfl, rfl, rfl, h0, h1, h2⟩ := trodAll_three hA
  obtain ⟨rfl, rfl⟩ := trodVars_none hV
  clear hA0 hval0
  simp only [List.append_nil] at hW'
  have hlt0 : ∀ x ∈ p0, x.block < W.heap.size := fun x hx => hW'.lt x (by simp [hx])
  have hlt1 : ∀ x ∈ p1, x.block < W.heap.size := fun x hx => hW'.lt x (by simp [hx])
  have hlt2 : ∀ x ∈ p2, x.block < W.heap.size := fun x hx => hW'.lt x (by simp [hx])
  obtain ⟨A, cap, l, rfl, hi, hlen⟩ := ents_open (hval 0 33 v0 rfl rfl) h0
  obtain ⟨s, A', cap', rfl, hi', -⟩ := seen_open (hval 1 50 v1 rfl rfl) h1
  obtain ⟨x, rfl, hw⟩ := signer_open (hval 2 72 v2 rfl rfl) h2
  refine (signsMade_any A A' cap cap' l s x W hi (by unfold maxLen at hlen; omega) hi' (by have := bounds_i64 hw; omega)).mono fun e W' ⟨he, hb⟩ => ?_
  subst he
  exact ⟨_, rfl, post_of_below (pa := p0 ++ (p1 ++ p2)) (pv := []) hW' (fun _ _ _ => trodAll_mk1 (shut_bool Tryz.underlying4 _))
    (fun sp hs => trodAll_mk3 (stays laidOut (by kernel_rfl) (of_decide_eq_true (by kernel_rfl)) h0 hb hlt0 (fun x hx => hs x (by simp [hx]))) (stays laidOut (by kernel_rfl) (of_decide_eq_true (by kernel_rfl)) h1 hb hlt1 (fun x hx => hs x (by simp [hx]))) (stays laidOut (by kernel_rfl) (of_decide_eq_true (by kernel_rfl)) h2 hb hlt2 (fun x hx => hs x (by simp [hx]))))
    (fun _ _ => rfl) (by simp) hb (ok_one (by kernel_rfl) rfl (okWide_bool_mk Tryz.underlying4 _))⟩

theorem signsMade_holds : Rows.SignsMadeSaid :=
  OpenClaim.holds_of_wide 11 Tryz.f11 rfl rfl rfl rfl rfl rfl rfl ⟨rfl, rfl, rfl, rfl, rfl⟩ rfl rfl rfl rfl rfl (by kernel_rfl) Tryz.func11 (by kernel_rfl)
    (of_decide_eq_true (by kernel_rfl)) (by unfold Func.isWrapper; first | (rw [if_pos (by decide +kernel)]; kernel_rfl) | (rw [if_neg (by decide +kernel)]; exact ⟨rfl, rfl⟩))
    (fun os started H enc _ => signsMade_lifted os started H enc)

#print axioms signsMade_holds
end Go.Proofs.YtfpmkolaiomabaaGreat
