/- A row of entries of the call's own, sorted. -/
import Derived.Test.YtjpnblflenlnaaaGreatSortK
import Derived.Test.YtjpnblflenlnaaaGreatOrder1
namespace Go.Proofs.YtjpnblflenlnaaaGreat
open Go.RowKit Go.Sort Go.Shelf

/-- entries whose moves lie in blocks below base -/
structure EntIn (w : World) (base : Nat) where
  val : EntryR
  ok : MovesAt w base val ∧ val.d.form.moves.length ≤ 6
instance (w : World) (base : Nat) : Inhabited (EntIn w base) :=
  ⟨⟨⟨⟨0, 0, 0, ⟨0, 0, 0, 0, 0, []⟩, 0, 0⟩, none, 0⟩, ⟨.inl rfl, by simp⟩, by simp⟩⟩
def cellsL (x : EntryR) : List Value := (cellsE x).toList
theorem Ints.sortWorld {α : Type} [Inhabited α] {enc : α → List Value} {k : Nat} {w : World} {base g m : Nat} {os : Array Obj} {dk : Array α} {A : Option Addr} {xs : List Int} (h : Ints w base A xs) (hg : base ≤ g) (hgl : g < w.heap.size) :
    Ints (sortWorldK enc k w g 0 m dk os) base A xs := by
  rcases h with h | ⟨b, off, rfl, hl, hc⟩
  · exact .inl h
  · refine .inr ⟨b, off, rfl, hl, fun j x hj => ?_⟩
    rw [cell?_sortWorldK_other enc k w g 0 m dk os ⟨b, off + j, none⟩ (by show b ≠ g; omega) (by show b < w.heap.size; omega)]
    exact hc j x hj

theorem sortE_any {w : World} {base n cap : Nat} {A : Option Addr} {xs : List EntryR} (h : w.ownsRow base 62 11 (.slice A n cap) n (xs.flatMap cellsL)) (hx : xs.length ≤ 1000000)
    (hm : ∀ x ∈ xs, MovesAt w base x ∧ x.d.form.moves.length ≤ 6) (cf : EntryD → EntryD → Int) (hO : Cmp cf) (f : Nat) (ef : ∀ args w, (callFunc f args).run Tryz.prog w = .ok (.enter f args) w)
    (hf : ∀ (x y : EntryR) (w : World), MovesAt w w.heap.size x → MovesAt w w.heap.size y → x.d.form.moves.length ≤ 6 → y.d.form.moves.length ≤ 6 → Calls Tryz.prog f #[entryV x, entryV y] w fun e w' => e = .returned (.int .i64 (cf x.d y.d)) ∧ Grew w w') :
    Calls Tryz.prog 92 #[.slice A n cap, .func (.func f) #[] #[]] w fun r w' => r = .returned (.tuple #[]) ∧ ∃ ys : List EntryR, ys.Perm xs ∧ ys.Pairwise (fun x y => cf x.d y.d ≤ 0) ∧
      w'.ownsRow base 62 11 (.slice A n cap) n (ys.flatMap cellsL) ∧ w.grownBy w' (Value.ownBlock (.slice A n cap)) := by
  obtain ⟨zs, hz⟩ : ∃ zs : List (EntIn w base), zs.map EntIn.val = xs := ⟨xs.pmap (fun x h => ⟨x, h⟩) hm, by rw [List.map_pmap]; simp⟩
  have hfl : ∀ zs : List (EntIn w base), zs.flatMap (fun z => cellsL z.1) = (zs.map EntIn.val).flatMap cellsL := fun zs => by rw [List.flatMap_map]
  have hl : zs.length = xs.length := by rw [← hz]; simp
  refine (own_sortK (enc := fun z : EntIn w base => cellsL z.1) (k := 11) (ρ := _) Tryz.sortEntry Tryz.isAgg62 Tryz.sizeOf62 (fun _ => rfl) (by omega) (fun z v hv => ?_) (fun x y => cf x.1.d y.1.d) (hO.on fun z : EntIn w base => z.1.d) f ef (xs := zs) (e := 62) (base := base) (by rw [hfl, hz]; exact h) (by omega) ?_).mono ?_
  · simp only [cellsL] at hv
    simp at hv
    rcases hv with rfl | rfl | rfl | rfl | rfl | rfl | rfl | rfl | rfl | rfl | rfl <;> rfl
  · intro g hg hgl m os dk _ x y
    have h1 := x.2.1.1.sortWorld (enc := fun z : EntIn w base => cellsL z.1) (k := 11) (m := m) (os := os) (dk := dk) hg hgl
    have h2 := y.2.1.1.sortWorld (enc := fun z : EntIn w base => cellsL z.1) (k := 11) (m := m) (os := os) (dk := dk) hg hgl
    have hs := size_sortWorldK_c (fun z : EntIn w base => cellsL z.1) 11 w g 0 m dk os
    generalize sortWorldK (fun z : EntIn w base => cellsL z.1) 11 w g 0 m dk os = W at *
    exact (hf x.1 y.1 W ⟨h1.more (by omega), x.2.1.2⟩ ⟨h2.more (by omega), y.2.1.2⟩ x.2.2 y.2.2).mono fun _ _ ⟨he, hg⟩ => ⟨he, hg.form⟩
  · rintro r w' ⟨rfl, ys, hp, hs, ho, hg⟩
    refine ⟨rfl, ys.map EntIn.val, by rw [← hz]; exact hp.map _, ?_, by rw [← hfl]; exact ho, hg⟩
    rw [List.pairwise_map]
    exact hs

end Go.Proofs.YtjpnblflenlnaaaGreat
