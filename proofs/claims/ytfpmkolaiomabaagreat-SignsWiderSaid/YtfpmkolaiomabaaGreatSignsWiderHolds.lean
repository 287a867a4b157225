/- The law SignsWider: it answers true at any entries, sight and what makes it less sure, and leaves them as they were. -/
import Derived.Test.YtfpmkolaiomabaaGreatOpens2
import Derived.Test.YtfpmkolaiomabaaGreatSignsWider
import Derived.Test.YtfpmkolaiomabaaGreatWiderOut
import Derived.Test.YtfpmkolaiomabaaGreatWiderOffA
import Derived.Test.YtfpmkolaiomabaaGreatWiderOffB
import Derived.Test.YtfpmkolaiomabaaGreatWiderOffC
namespace Go.Proofs.YtfpmkolaiomabaaGreat
open Go.ChangeShapes Go.WideShapes Go.ChangeAt Go.RowKit

theorem eleven {p0 p1 p2 p3 p4 p5 p6 p7 p8 p9 p10 : Prop} (h : ¬(¬p0 ∧ ¬p1 ∧ ¬p2 ∧ ¬p3 ∧ ¬p4 ∧ ¬p5 ∧ ¬p6 ∧ ¬p7 ∧ ¬p8 ∧ ¬p9 ∧ ¬p10)) :
    ((p0) ∨ (¬ (p0) ∧ p1) ∨ (¬ (p0) ∧ ¬ (p1) ∧ p2) ∨ (¬ (p0) ∧ ¬ (p1) ∧ ¬ (p2) ∧ p3)) ∨ ((¬ (p0) ∧ ¬ (p1) ∧ ¬ (p2) ∧ ¬ (p3) ∧ p4) ∨ (¬ (p0) ∧ ¬ (p1) ∧ ¬ (p2) ∧ ¬ (p3) ∧ ¬ (p4) ∧ p5) ∨ (¬ (p0) ∧ ¬ (p1) ∧ ¬ (p2) ∧ ¬ (p3) ∧ ¬ (p4) ∧ ¬ (p5) ∧ p6) ∨ (¬ (p0) ∧ ¬ (p1) ∧ ¬ (p2) ∧ ¬ (p3) ∧ ¬ (p4) ∧ ¬ (p5) ∧ ¬ (p6) ∧ p7)) ∨ ((¬ (p0) ∧ ¬ (p1) ∧ ¬ (p2) ∧ ¬ (p3) ∧ ¬ (p4) ∧ ¬ (p5) ∧ ¬ (p6) ∧ ¬ (p7) ∧ p8) ∨ (¬ (p0) ∧ ¬ (p1) ∧ ¬ (p2) ∧ ¬ (p3) ∧ ¬ (p4) ∧ ¬ (p5) ∧ ¬ (p6) ∧ ¬ (p7) ∧ ¬ (p8) ∧ p9) ∨ (¬ (p0) ∧ ¬ (p1) ∧ ¬ (p2) ∧ ¬ (p3) ∧ ¬ (p4) ∧ ¬ (p5) ∧ ¬ (p6) ∧ ¬ (p7) ∧ ¬ (p8) ∧ ¬ (p9) ∧ p10)) := by
  by_cases g0 : p0
  · exact .inl (.inl g0)
  by_cases g1 : p1
  · exact .inl (.inr (.inl ⟨g0, g1⟩))
  by_cases g2 : p2
  · exact .inl (.inr (.inr (.inl ⟨g0, g1, g2⟩)))
  by_cases g3 : p3
  · exact .inl (.inr (.inr (.inr (⟨g0, g1, g2, g3⟩))))
  by_cases g4 : p4
  · exact .inr (.inl (.inl ⟨g0, g1, g2, g3, g4⟩))
  by_cases g5 : p5
  · exact .inr (.inl (.inr (.inl ⟨g0, g1, g2, g3, g4, g5⟩)))
  by_cases g6 : p6
  · exact .inr (.inl (.inr (.inr (.inl ⟨g0, g1, g2, g3, g4, g5, g6⟩))))
  by_cases g7 : p7
  · exact .inr (.inl (.inr (.inr (.inr (⟨g0, g1, g2, g3, g4, g5, g6, g7⟩)))))
  by_cases g8 : p8
  · exact .inr (.inr (.inl ⟨g0, g1, g2, g3, g4, g5, g6, g7, g8⟩))
  by_cases g9 : p9
  · exact .inr (.inr (.inr (.inl ⟨g0, g1, g2, g3, g4, g5, g6, g7, g8, g9⟩)))
  by_cases g10 : p10
  · exact .inr (.inr (.inr (.inr (⟨g0, g1, g2, g3, g4, g5, g6, g7, g8, g9, g10⟩))))
  exact absurd ⟨g0, g1, g2, g3, g4, g5, g6, g7, g8, g9, g10⟩ h
set_option maxHeartbeats 2000000 in
theorem signsWider_any (A A' : Option Addr) (cap cap' : Nat) (l : List EntryR) (s : SeenD) (x : WiderD) (w : World) (hA : EntsO w w.heap.size A l) (hl : l.length ≤ 9223372036854775807) (hA' : Ints w w.heap.size A' s.moves) (hE0 : Ints w w.heap.size x.e.A x.e.d.form.moves) (hwf : Lit.wf (.int .i64 x.rights) = true ∧ Lit.wf (.int .i64 x.lefts) = true ∧ Lit.wf (.int .i64 x.faces) = true ∧ Lit.wf (.int .i64 x.regions) = true) :
    Calls Tryz.prog 10 #[.slice A l.length cap, seenV s A' cap', widerV x] w fun e w' => e = .returned (.bool true) ∧ Below w.heap.size w w' := by
  by_cases hP : readyD (l.map (·.d)) = true ∧ l.length ≤ 11 ∧ s.moves.length ≤ 20 ∧ okSeen s = true
  · obtain ⟨hr, hl11, _, hs⟩ := hP
    by_cases hQ : (0 ≤ x.lost ∧ x.lost ≤ 6) ∧ (0 ≤ x.spans ∧ x.spans ≤ 100) ∧ x.e.d.form.moves.length ≤ 20 ∧ (-1000 ≤ s.cl ∧ s.ch ≤ 1000) ∧ (-1000 ≤ s.rl ∧ s.rh ≤ 1000) ∧ (-1000 ≤ s.al ∧ s.ah ≤ 1000)
    · exact signsWider_ready A A' cap cap' l s x w hA hl hA' hr hs hl11 hE0 hwf hQ.1 hQ.2.1 hQ.2.2.1 hQ.2.2.2.1 hQ.2.2.2.2.1 hQ.2.2.2.2.2
    · have hcase := eleven (p0 := x.lost < 0) (p1 := 6 < x.lost) (p2 := x.spans < 0) (p3 := 100 < x.spans) (p4 := 20 < (x.e.d.form.moves.length : Int)) (p5 := s.cl < -1000) (p6 := 1000 < s.ch) (p7 := s.rl < -1000) (p8 := 1000 < s.rh) (p9 := s.al < -1000) (p10 := 1000 < s.ah) (fun ⟨a0, a1, a2, a3, a4, a5, a6, a7, a8, a9, a10⟩ => hQ ⟨⟨by omega, by omega⟩, ⟨by omega, by omega⟩, by omega, ⟨by omega, by omega⟩, ⟨by omega, by omega⟩, by omega, by omega⟩)
      rcases hcase with h | h | h
      · exact signsWider_offA A A' cap cap' l s x w hA hl hA' hr hs hl11 h
      · exact signsWider_offB A A' cap cap' l s x w hA hl hA' hr hs hl11 h
      · exact signsWider_offC A A' cap cap' l s x w hA hl hA' hr hs hl11 h
  · exact signsWider_out A A' cap cap' l s x w hA hl hA' hP

set_option maxRecDepth 100000 in
theorem signsWider_lifted (os : Os) (started : os.Started) (H : Type) (enc : TypeId × Value → H) :
    ReturnsInHanded {} Tryz.checked os 10 .any (Rows.signsWiderSpec.pre6 enc Tryz.prog Tryz.f10 Rows.signsWiderRow.domain false) (Rows.signsWiderSpec.post enc Tryz.prog Tryz.f10 false true false false) := by
  refine returnsInHanded_of_change (C := Tryz.checked) own started (by kernel_rfl) Tryz.func10
    (ChangeSpec.witness6 (enc := enc) (C := Tryz.checked) false ⟨#[], #[.slice none 0 0, .agg #[.int .i64 0, .int .i64 0, .int .i64 0, .int .i64 0, .int .i64 0, .int .i64 0, .int .i64 0, .int .i64 0, .int .i64 0, .int .i64 0, .int .i64 0, .slice none 0 0], .agg #[.int .i64 0, .int .i64 0, .int .i64 0, .int .i64 0, .int .i64 0, .int .i64 0, .int .i64 0, .int .i64 0, .int .i64 0, .int .i64 0, .int .i64 0, .int .i64 0, .int .i64 0, .int .i64 0, .slice none 0 0, .int .i64 0, .int .i64 0]], []⟩ 8 (by kernel_rfl) (by kernel_rfl) (by kernel_rfl) (by kernel_rfl)) ?_
  intro W base args ds gs before hval0 hW hcnd _
  have hval : ∀ (j : Nat) t v, Tryz.f10.params[j]? = some t → args[j]? = some v → Value.okWide Tryz.prog W .any base t v := hval0
  have hW' := hW
  obtain ⟨p, q, hA0, hV, rfl, _, _⟩ := hW
  have hA : DataW.TrodAll enc Tryz.prog W 0 (fun _ => true) true Tryz.f10.params.toList args.toList ds p := hA0
  rw [Tryz.params10] at hA hval
  obtain ⟨v0, v1, v2, d0, d1, d2, p0, p1, p2, rfl, rfl, rfl, h0, h1, h2⟩ := trodAll_three hA
  obtain ⟨rfl, rfl⟩ := trodVars_none hV
  clear hA0 hval0
  simp only [List.append_nil] at hW'
  have hlt0 : ∀ x ∈ p0, x.block < W.heap.size := fun x hx => hW'.lt x (by simp [hx])
  have hlt1 : ∀ x ∈ p1, x.block < W.heap.size := fun x hx => hW'.lt x (by simp [hx])
  have hlt2 : ∀ x ∈ p2, x.block < W.heap.size := fun x hx => hW'.lt x (by simp [hx])
  obtain ⟨A, cap, l, rfl, hi, hlen⟩ := ents_open (hval 0 33 v0 rfl rfl) h0
  obtain ⟨s, A', cap', rfl, hi', -⟩ := seen_open (hval 1 50 v1 rfl rfl) h1
  obtain ⟨x, rfl, hie, -, hw⟩ := wider_open (hval 2 68 v2 rfl rfl) h2
  refine (signsWider_any A A' cap cap' l s x W hi (by unfold maxLen at hlen; omega) hi' hie hw).mono fun e W' ⟨he, hb⟩ => ?_
  subst he
  exact ⟨_, rfl, post_of_below (pa := p0 ++ (p1 ++ p2)) (pv := []) hW' (fun _ _ _ => trodAll_mk1 (shut_bool Tryz.underlying4 _))
    (fun sp hs => trodAll_mk3 (stays laidOut (by kernel_rfl) (of_decide_eq_true (by kernel_rfl)) h0 hb hlt0 (fun x hx => hs x (by simp [hx]))) (stays laidOut (by kernel_rfl) (of_decide_eq_true (by kernel_rfl)) h1 hb hlt1 (fun x hx => hs x (by simp [hx]))) (stays laidOut (by kernel_rfl) (of_decide_eq_true (by kernel_rfl)) h2 hb hlt2 (fun x hx => hs x (by simp [hx]))))
    (fun _ _ => rfl) (by simp) hb (ok_one (by kernel_rfl) rfl (okWide_bool_mk Tryz.underlying4 _))⟩

theorem signsWider_holds : Rows.SignsWiderSaid :=
  OpenClaim.holds_of_wide 10 Tryz.f10 rfl rfl rfl rfl rfl rfl rfl ⟨rfl, rfl, rfl, rfl, rfl⟩ rfl rfl rfl rfl rfl (by kernel_rfl) Tryz.func10 (by kernel_rfl)
    (of_decide_eq_true (by kernel_rfl)) (by unfold Func.isWrapper; first | (rw [if_pos (by decide +kernel)]; kernel_rfl) | (rw [if_neg (by decide +kernel)]; exact ⟨rfl, rfl⟩))
    (fun os started H enc _ => signsWider_lifted os started H enc)

#print axioms signsWider_holds
end Go.Proofs.YtfpmkolaiomabaaGreat
