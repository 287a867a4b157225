/- The law TeamsEasier: it answers true at any crew, any job and any ease, and leaves them as they were. -/
import Derived.Test.YticeekkfdkfcgaaOpens
import Derived.Test.YticeekkfdkfcgaaEasierLaw
namespace Go.Proofs.Yticeekkfdkfcgaa
open Go.ChangeShapes Go.WideShapes Go.ChangeAt Go.RowKit

section
open Go.Joins Go.Deep

theorem cellsEase : Try.prog.cellsOf 54 = 12 := by kernel_rfl

section
variable {H : Type} {enc : TypeId × Value → H} {w : World} {base : Nat} {spare : Nat → Bool} {held : Bool}
set_option maxRecDepth 100000 in
/-- an ease -/
theorem ease_open {r : Reach} {b0 : Nat} {v : Value} {d : DataW H} {p : List MemPlace} (hv : Value.okWide Try.prog w r b0 54 v) (h : DataW.Trod enc Try.prog w base spare held 54 v d p) :
    ∃ e : EaseR, v = easeV e ∧ PersonAt w w.heap.size e.x := by
  obtain ⟨cs, rfl, hsz⟩ := okWide_struct Try.underlying54 hv
  obtain ⟨l⟩ := cs
  match l, hsz.trans cellsEase with
  | [c0, c1, c2, c3, c4, c5, c6, c7, c8, c9, c10, c11], _ =>
    obtain ⟨fuel, hf⟩ := h
    obtain ⟨xs, m, _, _, _, hlen, hg⟩ := DataW.trod_struct Try.underlying54 hf
    have h0 := trod_field hg 0 52 0 _ _ rfl rfl rfl cellsPerson
    have h1 := trod_field hg 1 3 6 _ _ rfl rfl rfl cellsInt
    have h2 := trod_field hg 2 3 7 _ _ rfl rfl rfl cellsInt
    have h3 := trod_field hg 3 3 8 _ _ rfl rfl rfl cellsInt
    have h4 := trod_field hg 4 3 9 _ _ rfl rfl rfl cellsInt
    have h5 := trod_field hg 5 3 10 _ _ rfl rfl rfl cellsInt
    have h6 := trod_field hg 6 3 11 _ _ rfl rfl rfl cellsInt
    simp only [Value.cells, List.drop_succ_cons, List.drop_zero, List.take_succ_cons, List.take_zero] at h0 h1 h2 h3 h4 h5 h6
    have hl : xs.length = 7 := hlen
    obtain ⟨x, hx, hP⟩ := person_cells h0 (isSome_of hl (by omega))
    obtain ⟨n1, rfl, _⟩ := int_open h1 (isSome_of hl (by omega))
    obtain ⟨n2, rfl, _⟩ := int_open h2 (isSome_of hl (by omega))
    obtain ⟨n3, rfl, _⟩ := int_open h3 (isSome_of hl (by omega))
    obtain ⟨n4, rfl, _⟩ := int_open h4 (isSome_of hl (by omega))
    obtain ⟨n5, rfl, _⟩ := int_open h5 (isSome_of hl (by omega))
    obtain ⟨n6, rfl, _⟩ := int_open h6 (isSome_of hl (by omega))
    simp only [List.cons.injEq, and_true] at hx
    obtain ⟨rfl, rfl, rfl, rfl, rfl, rfl⟩ := hx
    exact ⟨⟨x, n1, n2, n3, n4, n5, n6⟩, rfl, hP⟩
end
end

set_option maxRecDepth 100000 in
theorem teamsEasier_lifted (os : Os) (started : os.Started) (H : Type) (enc : TypeId × Value → H) :
    ReturnsInHanded {} Try.checked os 7 .any (Rows.teamsEasierSpec.pre6 enc Try.prog Try.f7 Rows.teamsEasierRow.domain false) (Rows.teamsEasierSpec.post enc Try.prog Try.f7 false true false false) := by
  refine returnsInHanded_of_change (C := Try.checked) own started (by kernel_rfl) Try.func7
    (ChangeSpec.witness6 (enc := enc) (C := Try.checked) false ⟨#[], #[.agg #[.int .i64 0, .slice none 0 0, .slice none 0 0], .agg #[.int .i64 0, .int .i64 0, .int .i64 0, .int .i64 0, .int .i64 0, .int .i64 0], .agg #[.slice none 0 0, .int .i64 0, .int .i64 0, .slice none 0 0, .bool false, .int .i64 0, .int .i64 0, .int .i64 0, .int .i64 0, .int .i64 0, .int .i64 0, .int .i64 0]], []⟩ 8 (by kernel_rfl) (by kernel_rfl) (by kernel_rfl) (by kernel_rfl)) ?_
  intro W base args ds gs before hval0 hW hcnd _
  have hval : ∀ (j : Nat) t v, Try.f7.params[j]? = some t → args[j]? = some v → Value.okWide Try.prog W .any base t v := hval0
  have hW' := hW
  obtain ⟨p, q, hA0, hV, rfl, _, _⟩ := hW
  have hA : DataW.TrodAll enc Try.prog W 0 (fun _ => true) true Try.f7.params.toList args.toList ds p := hA0
  rw [Try.params7] at hA hval
  obtain ⟨v0, v1, v2, d0, d1, d2, p0, p1, p2, rfl, rfl, rfl, h0, h1, h2⟩ := trodAll_three hA
  obtain ⟨rfl, rfl⟩ := trodVars_none hV
  clear hA0 hval0
  simp only [List.append_nil, List.append_assoc] at hW'
  have hlt0 : ∀ x ∈ p0, x.block < W.heap.size := fun x hx => hW'.lt x (by simp [hx])
  have hlt1 : ∀ x ∈ p1, x.block < W.heap.size := fun x hx => hW'.lt x (by simp [hx])
  have hlt2 : ∀ x ∈ p2, x.block < W.heap.size := fun x hx => hW'.lt x (by simp [hx])
  obtain ⟨c0, rfl, hc0⟩ := crew_open (hval 0 25 v0 rfl rfl) h0
  obtain ⟨j1, rfl⟩ := job_open (hval 1 27 v1 rfl rfl) h1
  obtain ⟨x2, rfl, hx2⟩ := ease_open (hval 2 54 v2 rfl rfl) h2
  refine (easierLaw_any c0 j1 x2 _ W hc0 hx2 (Nat.le_refl _)).mono fun e W' ⟨he, hb⟩ => ?_
  subst he
  exact ⟨_, rfl, post_of_below (pa := p0 ++ (p1 ++ p2)) (pv := []) hW' (fun _ _ _ => trodAll_mk1 (shut_bool Try.underlying4 _))
    (fun sp hs => trodAll_mk3 (stays laidOut (by kernel_rfl) (of_decide_eq_true (by kernel_rfl)) h0 hb hlt0 (fun x hx => hs x (by simp [hx]))) (stays laidOut (by kernel_rfl) (of_decide_eq_true (by kernel_rfl)) h1 hb hlt1 (fun x hx => hs x (by simp [hx]))) (stays laidOut (by kernel_rfl) (of_decide_eq_true (by kernel_rfl)) h2 hb hlt2 (fun x hx => hs x (by simp [hx]))))
    (fun _ _ => rfl) (by simp) hb (ok_one (by kernel_rfl) rfl (okWide_bool_mk Try.underlying4 _))⟩

theorem teamsEasier_holds : Rows.TeamsEasierSaid :=
  OpenClaim.holds_of_wide 7 Try.f7 rfl rfl rfl rfl rfl rfl rfl ⟨rfl, rfl, rfl, rfl, rfl⟩ rfl rfl rfl rfl rfl (by kernel_rfl) Try.func7 (by kernel_rfl)
    (of_decide_eq_true (by kernel_rfl)) (by unfold Func.isWrapper; first | (rw [if_pos (by decide +kernel)]; kernel_rfl) | (rw [if_neg (by decide +kernel)]; exact ⟨rfl, rfl⟩))
    (fun os started H enc _ => teamsEasier_lifted os started H enc)

#print axioms teamsEasier_holds
end Go.Proofs.Yticeekkfdkfcgaa
