/- The law SignsTwins: it answers true at any entries and any signer, and leaves them as they were. -/
import Derived.Test.YtfpmkolaiomabaaGreatOpens2
import Derived.Test.YtfpmkolaiomabaaGreatSignsTwins
namespace Go.Proofs.YtfpmkolaiomabaaGreat
open Go.ChangeShapes Go.WideShapes Go.ChangeAt Go.RowKit

theorem signsTwins_any (A : Option Addr) (cap : Nat) (l : List EntryR) (x : SignerD) (w : World) (hA : EntsO w w.heap.size A l) (hl : l.length ≤ 9223372036854775807) :
    Calls Tryz.prog 13 #[.slice A l.length cap, signerV x] w fun e w' => e = .returned (.bool true) ∧ Below w.heap.size w w' := by
  by_cases hP : readyD (l.map (·.d)) = true ∧ 0 ≤ x.entry ∧ x.entry < l.length
  · obtain ⟨hr, hx0, hx1⟩ := hP
    have hy : l[x.entry.toNat]? = some (l[x.entry.toNat]'(by omega)) := List.getElem?_eq_getElem (by omega)
    generalize l[x.entry.toNat]'(by omega) = y at hy
    by_cases hQ : (0 ≤ x.region ∧ x.region ≤ 7) ∧ hasD y.d.regions x.region = true ∧ y.d.low ≤ x.age ∧ x.age ≤ y.d.high
    · exact signsTwins_ready A cap l x y w hA hl hr hx0 hx1 hy hQ.1 hQ.2.1 hQ.2.2
    · exact signsTwins_off A cap l x y w hA hl hr hx0 hx1 hy hQ
  · exact signsTwins_out A cap l x w hA hl hP

set_option maxRecDepth 100000 in
theorem signsTwins_lifted (os : Os) (started : os.Started) (H : Type) (enc : TypeId × Value → H) :
    ReturnsInHanded {} Tryz.checked os 13 .any (Rows.signsTwinsSpec.pre6 enc Tryz.prog Tryz.f13 Rows.signsTwinsRow.domain false) (Rows.signsTwinsSpec.post enc Tryz.prog Tryz.f13 false true false false) := by
  refine returnsInHanded_of_change (C := Tryz.checked) own started (by kernel_rfl) Tryz.func13
    (ChangeSpec.witness6 (enc := enc) (C := Tryz.checked) false ⟨#[], #[.slice none 0 0, .agg #[.int .i64 0, .int .i64 0, .int .i64 0, .int .i64 0, .bool false]], []⟩ 8 (by kernel_rfl) (by kernel_rfl) (by kernel_rfl) (by kernel_rfl)) ?_
  intro W base args ds gs before hval0 hW hcnd _
  have hval : ∀ (j : Nat) t v, Tryz.f13.params[j]? = some t → args[j]? = some v → Value.okWide Tryz.prog W .any base t v := hval0
  have hW' := hW
  obtain ⟨p, q, hA0, hV, rfl, _, _⟩ := hW
  have hA : DataW.TrodAll enc Tryz.prog W 0 (fun _ => true) true Tryz.f13.params.toList args.toList ds p := hA0
  rw [Tryz.params13] at hA hval
  obtain ⟨v0, v1, d0, d1, p0, p1, rfl, rfl, rfl, h0, h1⟩ := trodAll_two hA
  obtain ⟨rfl, rfl⟩ := trodVars_none hV
  clear hA0 hval0
  simp only [List.append_nil] at hW'
  have hlt0 : ∀ x ∈ p0, x.block < W.heap.size := fun x hx => hW'.lt x (by simp [hx])
  have hlt1 : ∀ x ∈ p1, x.block < W.heap.size := fun x hx => hW'.lt x (by simp [hx])
  obtain ⟨A, cap, l, rfl, hi, hlen⟩ := ents_open (hval 0 33 v0 rfl rfl) h0
  obtain ⟨x, rfl, -⟩ := signer_open (hval 1 72 v1 rfl rfl) h1
  refine (signsTwins_any A cap l x W hi (by unfold maxLen at hlen; omega)).mono fun e W' ⟨he, hb⟩ => ?_
  subst he
  exact ⟨_, rfl, post_of_below (pa := p0 ++ p1) (pv := []) hW' (fun _ _ _ => trodAll_mk1 (shut_bool Tryz.underlying4 _))
    (fun sp hs => trodAll_mk2 (stays laidOut (by kernel_rfl) (of_decide_eq_true (by kernel_rfl)) h0 hb hlt0 (fun x hx => hs x (by simp [hx]))) (stays laidOut (by kernel_rfl) (of_decide_eq_true (by kernel_rfl)) h1 hb hlt1 (fun x hx => hs x (by simp [hx]))))
    (fun _ _ => rfl) (by simp) hb (ok_one (by kernel_rfl) rfl (okWide_bool_mk Tryz.underlying4 _))⟩

theorem signsTwins_holds : Rows.SignsTwinsSaid :=
  OpenClaim.holds_of_wide 13 Tryz.f13 rfl rfl rfl rfl rfl rfl rfl ⟨rfl, rfl, rfl, rfl, rfl⟩ rfl rfl rfl rfl rfl (by kernel_rfl) Tryz.func13 (by kernel_rfl)
    (of_decide_eq_true (by kernel_rfl)) (by unfold Func.isWrapper; first | (rw [if_pos (by decide +kernel)]; kernel_rfl) | (rw [if_neg (by decide +kernel)]; exact ⟨rfl, rfl⟩))
    (fun os started H enc _ => signsTwins_lifted os started H enc)

#print axioms signsTwins_holds
end Go.Proofs.YtfpmkolaiomabaaGreat
