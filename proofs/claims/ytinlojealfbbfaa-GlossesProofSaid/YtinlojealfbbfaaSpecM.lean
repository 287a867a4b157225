/- SpecM: what the specification's sorted, held and At give, in the program's words. -/
import Derived.Test.YtinlojealfbbfaaRAt
import Derived.Test.YtinlojealfbbfaaReadM
namespace Go.Proofs.Ytinlojealfbbfaa
open Go.RowKit

theorem drewN_two (w : World) (a b : Nat) : (w.drewN a).drewN b = w.drewN (a + b) := by simp [World.drewN, Nat.add_assoc]
theorem beforeG_iff {x y : GlossD} : beforeG x y = true ↔ cmpG x y < 0 := by
  simp only [beforeG, cmpG, orL, Bool.or_eq_true, Bool.and_eq_true, decide_eq_true_eq]
  by_cases h1 : cmpI x.author y.author = 0
  · have e := cmpI_eq0 h1
    rw [if_pos h1]
    by_cases h2 : cmpI x.stamp y.stamp = 0
    · have e2 := cmpI_eq0 h2
      rw [if_pos h2]; omega
    · rw [if_neg h2, cmpI_neg]; omega
  · have e : x.author ≠ y.author := fun e => h1 (by rw [e]; exact cmpI_self _)
    rw [if_neg h1, cmpI_neg]; omega
theorem takeWhile_cut {α : Type} (q : α → Bool) (l : List α) : l.take (l.takeWhile q).length = l.takeWhile q ∧ l.drop (l.takeWhile q).length = l.dropWhile q := by
  have e := List.takeWhile_append_dropWhile (p := q) (l := l)
  constructor
  · conv => lhs; rw [← e]
    conv => lhs; arg 1; rw [e]
    exact List.take_left' rfl
  · conv => lhs; rw [← e]
    conv => lhs; arg 1; rw [e]
    exact List.drop_left' rfl
theorem head_dropWhile {α : Type} (q : α → Bool) : ∀ l : List α, ∀ d, (l.dropWhile q).head? = some d → q d = false
  | [], d, h => by simp at h
  | a :: l, d, h => by
    cases hq : q a with
    | true => rw [List.dropWhile_cons, if_pos hq] at h; exact head_dropWhile q l d h
    | false =>
      rw [List.dropWhile_cons, if_neg (by rw [hq]; decide)] at h
      obtain rfl : a = d := by simpa using h
      exact hq
theorem mem_takeWhile {α : Type} (q : α → Bool) : ∀ (l : List α) (x : α), x ∈ l.takeWhile q → q x = true
  | [], x, h => by simp at h
  | a :: l, x, h => by
    cases hq : q a with
    | false => rw [List.takeWhile_cons, if_neg (by rw [hq]; decide)] at h; cases h
    | true =>
      rw [List.takeWhile_cons, if_pos hq] at h
      rcases List.mem_cons.1 h with rfl | h
      · exact hq
      · exact mem_takeWhile q l x h
theorem insU_sorted {ms acc : List GlossD} {x : GlossD} (hc : ¬ Clash ms) (hs : acc.Pairwise fun x y => cmpG x y < 0) (ha : ∀ y ∈ acc, y ∈ ms) (hx : x ∈ ms) :
    (insU acc x).Pairwise (fun x y => cmpG x y < 0) ∧ ∀ y, y ∈ insU acc x ↔ y ∈ acc ∨ y = x := by
  have e := List.takeWhile_append_dropWhile (p := fun y => beforeG y x) (l := acc)
  obtain ⟨e1, e2⟩ := takeWhile_cut (fun y => beforeG y x) acc
  have hd := head_dropWhile (fun y => beforeG y x) acc
  have ht : ∀ y ∈ acc.takeWhile fun y => beforeG y x, cmpG y x < 0 := fun y hy => beforeG_iff.1 (mem_takeWhile (fun y => beforeG y x) _ y hy)
  have hg : acc[posU acc x]? = (acc.dropWhile fun y => beforeG y x).head? := by
    unfold posU
    rw [← e2, List.head?_drop]
  unfold insU
  rw [hg]
  unfold posU
  rw [e1, e2]
  generalize acc.takeWhile (fun y => beforeG y x) = T at e ht
  generalize acc.dropWhile (fun y => beforeG y x) = D at e hd
  subst e
  split
  · rename_i h
    refine ⟨hs, fun y => ⟨.inl, fun h1 => ?_⟩⟩
    rcases h1 with h1 | rfl
    · exact h1
    · cases D with
      | nil => simp at h
      | cons d D =>
        obtain rfl : d = y := by simpa using h
        simp
  · rename_i h
    obtain ⟨p1, p2, p3⟩ := List.pairwise_append.1 hs
    refine ⟨List.pairwise_append.2 ⟨p1, List.pairwise_cons.2 ⟨fun d hd' => ?_, p2⟩, fun a ha' b hb => ?_⟩, fun y => ?_⟩
    · cases D with
      | nil => cases hd'
      | cons d0 D =>
        have h0 := hd d0 rfl
        have h1 : ¬ cmpG d0 x < 0 := fun hh => by rw [beforeG_iff.2 hh] at h0; cases h0
        have hne : d0 ≠ x := fun hh => h (by rw [hh]; rfl)
        have h2 : cmpG d0 x ≠ 0 := fun hh => by
          have h3 := cmpG_eq0 hh
          exact hc ⟨d0, ha d0 (by simp), x, hx, h3.1, h3.2, hne⟩
        have h4 : cmpG x d0 < 0 := by have := cmp_cmpG.neg x d0; omega
        rcases List.mem_cons.1 hd' with rfl | hd'
        · exact h4
        · exact cmp_cmpG.lt_le h4 (by have := (List.pairwise_cons.1 p2).1 d hd'; omega)
    · rcases List.mem_cons.1 hb with rfl | hb
      · exact ht a ha'
      · exact p3 a ha' b hb
    · simp only [List.mem_append, List.mem_cons]
      exact ⟨fun hh => by rcases hh with hh | rfl | hh <;> simp_all, fun hh => by rcases hh with (hh | hh) | rfl <;> simp_all⟩
theorem sortU_sorted {ms : List GlossD} (hc : ¬ Clash ms) : SortedG ms (sortU ms) := by
  have g : ∀ (l acc : List GlossD), (∀ y ∈ l, y ∈ ms) → (∀ y ∈ acc, y ∈ ms) → acc.Pairwise (fun x y => cmpG x y < 0) → (l.foldl insU acc).Pairwise (fun x y => cmpG x y < 0) ∧ ∀ y, y ∈ l.foldl insU acc ↔ y ∈ acc ∨ y ∈ l := by
    intro l
    induction l with
    | nil => intro acc _ _ h; exact ⟨h, by simp⟩
    | cons x l ih =>
      intro acc hl ha h
      obtain ⟨h1, h2⟩ := insU_sorted hc h ha (hl x (by simp))
      obtain ⟨h3, h4⟩ := ih (insU acc x) (fun y hy => hl y (by simp [hy])) (fun y hy => by rcases (h2 y).1 hy with hy | rfl; exact ha y hy; exact hl _ (by simp)) h1
      exact ⟨h3, fun y => by rw [List.foldl_cons, h4, h2, List.mem_cons]; exact or_assoc⟩
  obtain ⟨h1, h2⟩ := g ms [] (fun _ h => h) (by simp) List.Pairwise.nil
  exact ⟨h1, fun x => by rw [show sortU ms = ms.foldl insU [] from rfl, h2]; simp⟩
theorem any_congr_mem {α : Type} {a b : List α} (q : α → Bool) (h : ∀ x, x ∈ a ↔ x ∈ b) : a.any q = b.any q := by
  rw [Bool.eq_iff_iff, List.any_eq_true, List.any_eq_true]
  exact ⟨fun ⟨x, h1, h2⟩ => ⟨x, (h x).1 h1, h2⟩, fun ⟨x, h1, h2⟩ => ⟨x, (h x).2 h1, h2⟩⟩
theorem any_congr_on {α : Type} {a : List α} {p q : α → Bool} (h : ∀ x ∈ a, p x = q x) : a.any p = a.any q := by
  rw [Bool.eq_iff_iff, List.any_eq_true, List.any_eq_true]
  exact ⟨fun ⟨x, h1, h2⟩ => ⟨x, h1, (h x h1) ▸ h2⟩, fun ⟨x, h1, h2⟩ => ⟨x, h1, (h x h1).symm ▸ h2⟩⟩
/-- frames that are some -/
def SpanG (x : GlossD) : Prop := x.frm < x.to
theorem rRepl_eq {x y : GlossD} (hx : SpanG x) (hy : SpanG y) : rReplD x y = replD x y := by
  unfold SpanG at hx hy
  rw [Bool.eq_iff_iff]
  have e : 0 < commonD x y ↔ y.frm < x.to ∧ x.frm < y.to := by unfold commonD; constructor <;> intro h <;> omega
  simp only [rReplD, replD, overD, Bool.and_eq_true, decide_eq_true_eq]
  rw [e]
  constructor <;> intro h <;> omega
theorem rHolds_eq {ms all : List GlossD} (hs : SortedG ms all) (h : ∀ x ∈ ms, SpanG x) {x : GlossD} (hx : x ∈ ms) : rHoldsD ms x = holdsD all x := by
  unfold rHoldsD holdsD
  rw [any_congr_on (q := replD x) (fun y hy => rRepl_eq (h x hx) (h y hy)), any_congr_mem (replD x) (fun y => (hs.2 y).symm), Bool.and_comm]
theorem rheld_eq {ms all : List GlossD} (hc : ¬ Clash ms) (hs : SortedG ms all) (h : ∀ x ∈ ms, SpanG x) : rheldD ms = all.filter (holdsD all) := by
  unfold rheldD
  rw [(sortU_sorted hc).unique hs]
  exact List.filter_congr fun x hx => rHolds_eq hs h ((hs.2 x).1 hx)
theorem rAt_eq {ms all : List GlossD} (hc : ¬ Clash ms) (hs : SortedG ms all) (h : ∀ x ∈ ms, SpanG x) (fm fr : Int) : rAtD ms fm fr = (all.filter (holdsD all)).filter (inD fm fr) := by
  unfold rAtD
  rw [rheld_eq hc hs h]
  refine List.filter_congr fun x _ => ?_
  rw [Bool.eq_iff_iff]
  simp only [rinD, inD, inB, Bool.and_eq_true, decide_eq_true_eq]
  constructor <;> intro h <;> omega

end Go.Proofs.Ytinlojealfbbfaa
