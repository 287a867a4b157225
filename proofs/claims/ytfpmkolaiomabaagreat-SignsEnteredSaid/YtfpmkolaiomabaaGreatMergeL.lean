/- MergeL: mathematics of Merge. -/
import Derived.Test.YtfpmkolaiomabaaGreatDist
namespace Go.Proofs.YtfpmkolaiomabaaGreat
open Go.RowKit

/-- what the program's Merge answers beside its entries -/
def mergeErr (l more : List EntryD) : Int := if bookErr l ≠ 0 then bookErr l else if bookErr more ≠ 0 then bookErr more else if 40 < (distTo (l ++ more) 100).length then 2 else if clashD (l ++ more) = true then 12 else 0
def mergeL (l more : List EntryD) : List EntryD := if mergeErr l more = 0 then distTo (l ++ more) 100 else []
/-- a slice of entries ds -/
def MergePost (l more : List EntryD) (w : World) (e : Ending) (w' : World) : Prop :=
  Below w.heap.size w w' ∧ ∃ A cap ys, e = .returned (.tuple #[.slice A (List.length ys) cap, .int .i64 (mergeErr l more)]) ∧ List.map (fun y : EntryR => y.d) ys = mergeL l more ∧ Ents w' w'.heap.size A ys

/-- the book b has come of the book b1 by the entries ss; c: does one of them clash? -/
def MInv (b1 ss b : List EntryD) (c : Bool) : Prop := Once b ∧ (∀ y, y ∈ b ↔ y ∈ b1 ∨ (y ∈ ss ∧ ∀ z ∈ b1, z.id ≠ y.id)) ∧ (c = true ↔ ∃ x ∈ ss, ∃ y ∈ b1, y.id = x.id ∧ y ≠ x)
theorem MInv.start {b1 : List EntryD} (h : Once b1) : MInv b1 [] b1 false := ⟨h, fun y => by simp, by simp⟩
theorem MInv.new {b1 ss b : List EntryD} {c : Bool} {x : EntryD} (h : MInv b1 ss b c) (hx : ∀ y ∈ b, y.id ≠ x.id) : MInv b1 (ss ++ [x]) (b ++ [x]) c := by
  obtain ⟨h1, h2, h3⟩ := h
  have hb1 : ∀ y ∈ b1, y.id ≠ x.id := fun y hy => hx y ((h2 y).2 (.inl hy))
  refine ⟨?_, fun y => ?_, h3.trans ?_⟩
  · unfold Once at h1 ⊢
    rw [List.map_append, List.Nodup, List.pairwise_append]
    refine ⟨h1, by simp, fun i hi j hj => ?_⟩
    obtain ⟨y, hy, rfl⟩ := List.mem_map.1 hi
    have : j = x.id := by simpa using hj
    rw [this]
    exact hx y hy
  · rw [List.mem_append, List.mem_append, h2 y, List.mem_singleton]
    constructor
    · rintro ((h | ⟨h, k⟩) | rfl)
      · exact .inl h
      · exact .inr ⟨.inl h, k⟩
      · exact .inr ⟨.inr rfl, hb1⟩
    · rintro (h | ⟨h | rfl, k⟩)
      · exact .inl (.inl h)
      · exact .inl (.inr ⟨h, k⟩)
      · exact .inr rfl
  · constructor
    · rintro ⟨x', hx', y, hy, h⟩; exact ⟨x', List.mem_append_left _ hx', y, hy, h⟩
    · rintro ⟨x', hx', y, hy, h, k⟩
      rcases List.mem_append.1 hx' with hx' | hx'
      · exact ⟨x', hx', y, hy, h, k⟩
      · rw [List.mem_singleton] at hx'
        subst hx'
        exact absurd h (hb1 y hy)
theorem MInv.old {b1 ss b : List EntryD} {c : Bool} {x y : EntryD} (h : MInv b1 ss b c) (hy : y ∈ b) (hid : y.id = x.id) (hn : ∀ z ∈ ss, z.id ≠ x.id) : MInv b1 (ss ++ [x]) b (!alikeC x y || c) := by
  obtain ⟨h1, h2, h3⟩ := h
  have hyb : y ∈ b1 := by
    rcases (h2 y).1 hy with h | ⟨h, _⟩
    · exact h
    · exact absurd hid (hn y h)
  have hal := alikeC_eq (x := x) (y := y) hid.symm
  refine ⟨h1, fun z => (h2 z).trans ?_, ?_⟩
  · constructor
    · rintro (h | ⟨h, k⟩)
      · exact .inl h
      · exact .inr ⟨List.mem_append_left _ h, k⟩
    · rintro (h | ⟨h, k⟩)
      · exact .inl h
      · rcases List.mem_append.1 h with h | h
        · exact .inr ⟨h, k⟩
        · rw [List.mem_singleton] at h
          subst h
          exact absurd hid (k y hyb)
  · rw [Bool.or_eq_true, Bool.not_eq_true', h3]
    constructor
    · rintro (h | ⟨x', hx', z, hz, h⟩)
      · refine ⟨x, by simp, y, hyb, hid, fun e => ?_⟩
        rw [hal.2 e.symm] at h; cases h
      · exact ⟨x', List.mem_append_left _ hx', z, hz, h⟩
    · rintro ⟨x', hx', z, hz, h, k⟩
      rcases List.mem_append.1 hx' with hx' | hx'
      · exact .inr ⟨x', hx', z, hz, h, k⟩
      · rw [List.mem_singleton] at hx'
        subst hx'
        refine .inl ?_
        cases ha : alikeC x' y with
        | false => rfl
        | true =>
          have e1 := hal.1 ha
          have hzb : z ∈ b := (h2 z).2 (.inl hz)
          exact absurd ((h1.inj hzb hy (h.trans hid.symm)).trans e1.symm) k
theorem MInv.perm {b1 ss ss' b : List EntryD} {c : Bool} (h : MInv b1 ss b c) (hp : ss.Perm ss') : MInv b1 ss' b c :=
  ⟨h.1, fun y => by rw [h.2.1 y, hp.mem_iff], by rw [h.2.2]; exact ⟨fun ⟨x, hx, k⟩ => ⟨x, hp.mem_iff.1 hx, k⟩, fun ⟨x, hx, k⟩ => ⟨x, hp.mem_iff.2 hx, k⟩⟩⟩
section
variable {l more b1 b2 b : List EntryD} {c : Bool}
theorem MInv.book (h : MInv b1 b2 b false) (h1 : IsBookOf l b1) (h2 : IsBookOf more b2) : IsBookOf (l ++ more) b := by
  refine ⟨fun y => ?_, h.1⟩
  have key : y ∈ b ↔ y ∈ b1 ∨ y ∈ b2 := by
    rw [h.2.1 y]
    constructor
    · rintro (k | ⟨k, _⟩)
      · exact .inl k
      · exact .inr k
    · rintro (k | k)
      · exact .inl k
      · by_cases hz : ∃ z ∈ b1, z.id = y.id
        · obtain ⟨z, hz, hid⟩ := hz
          by_cases e : z = y
          · exact .inl (e ▸ hz)
          · exact absurd (h.2.2.2 ⟨y, k, z, hz, hid, e⟩) (by simp)
        · exact .inr ⟨k, fun z hz' e => hz ⟨z, hz', e⟩⟩
  rw [key, h1.mem, h2.mem]
  constructor
  · rintro (⟨x, hx, e⟩ | ⟨x, hx, e⟩)
    · exact ⟨x, List.mem_append_left _ hx, e⟩
    · exact ⟨x, List.mem_append_right _ hx, e⟩
  · rintro ⟨x, hx, e⟩
    rcases List.mem_append.1 hx with hx | hx
    · exact .inl ⟨x, hx, e⟩
    · exact .inr ⟨x, hx, e⟩
theorem clashD_eq {l : List EntryD} : clashD l = false ↔ Agreed l := by
  rw [← readD_isSome]
  unfold clashD
  cases readD [] l <;> simp
theorem IsBookOf.agreed (h : IsBookOf l b) : Agreed l := fun x hx y hy hid =>
  h.once.inj ((h.mem _).2 ⟨x, hx, rfl⟩) ((h.mem _).2 ⟨y, hy, rfl⟩) (by rw [canonE_id, canonE_id]; exact hid)
theorem MInv.noclash (h : MInv b1 b2 b false) (h1 : IsBookOf l b1) (h2 : IsBookOf more b2) : clashD (l ++ more) = false := clashD_eq.2 (h.book h1 h2).agreed
theorem MInv.clash (h : MInv b1 b2 b true) (h1 : IsBookOf l b1) (h2 : IsBookOf more b2) : clashD (l ++ more) = true := by
  cases hc : clashD (l ++ more) with
  | true => rfl
  | false =>
    have ha := clashD_eq.1 hc
    obtain ⟨x, hx, y, hy, hid, hne⟩ := h.2.2.1 rfl
    obtain ⟨x', hx', rfl⟩ := (h2.mem x).1 hx
    obtain ⟨y', hy', rfl⟩ := (h1.mem y).1 hy
    rw [canonE_id, canonE_id] at hid
    exact absurd (ha y' (List.mem_append_left _ hy') x' (List.mem_append_right _ hx') hid) hne
theorem MInv.length (h : MInv b1 b2 b c) (h1 : IsBookOf l b1) (h2 : IsBookOf more b2) (hl : ∀ x ∈ l, okEntry x = true) (hm : ∀ x ∈ more, okEntry x = true) : b.length = (distTo (l ++ more) 100).length := by
  have k1 : ∀ i, (∃ y ∈ b, y.id = i) ↔ ∃ x ∈ l ++ more, x.id = i := fun i => by
    constructor
    · rintro ⟨y, hy, rfl⟩
      rcases (h.2.1 y).1 hy with k | ⟨k, _⟩
      · obtain ⟨x, hx, rfl⟩ := (h1.mem y).1 k
        exact ⟨x, List.mem_append_left _ hx, rfl⟩
      · obtain ⟨x, hx, rfl⟩ := (h2.mem y).1 k
        exact ⟨x, List.mem_append_right _ hx, rfl⟩
    · rintro ⟨x, hx, rfl⟩
      rcases List.mem_append.1 hx with hx | hx
      · exact ⟨canonE x, (h.2.1 _).2 (.inl ((h1.mem _).2 ⟨x, hx, rfl⟩)), rfl⟩
      · by_cases hz : ∃ z ∈ b1, z.id = x.id
        · obtain ⟨z, hz, hid⟩ := hz
          exact ⟨z, (h.2.1 _).2 (.inl hz), hid⟩
        · exact ⟨canonE x, (h.2.1 _).2 (.inr ⟨(h2.mem _).2 ⟨x, hx, rfl⟩, fun z hz' e => hz ⟨z, hz', e⟩⟩), rfl⟩
  have k2 : ∀ i, (∃ y ∈ distTo (l ++ more) 100, y.id = i) ↔ ∃ x ∈ l ++ more, x.id = i := fun i => by
    constructor
    · rintro ⟨y, hy, rfl⟩
      obtain ⟨x, hx, _, _, rfl⟩ := distTo_mem.1 hy
      exact ⟨x, (findI_some hx).1, rfl⟩
    · rintro ⟨x, hx, rfl⟩
      obtain ⟨z, hz⟩ := findI_ex hx
      obtain ⟨hz1, hz2⟩ := findI_some hz
      have := okEntry_id (show okEntry x = true by rcases List.mem_append.1 hx with h | h; exact hl x h; exact hm x h)
      exact ⟨canonE z, distTo_mem.2 ⟨z, by rw [hz2]; exact hz, by omega, by omega, rfl⟩, by rw [canonE_id, hz2]⟩
  have e1 := nodup_length (a := b.map EntryD.id) (b := (distTo (l ++ more) 100).map EntryD.id) h.1 (fun i hi => by
    obtain ⟨y, hy, e⟩ := List.mem_map.1 hi
    obtain ⟨z, hz, e'⟩ := (k2 i).2 ((k1 i).1 ⟨y, hy, e⟩)
    exact List.mem_map.2 ⟨z, hz, e'⟩)
  have e2 := nodup_length (a := (distTo (l ++ more) 100).map EntryD.id) (b := b.map EntryD.id) (distTo_once _ _) (fun i hi => by
    obtain ⟨y, hy, e⟩ := List.mem_map.1 hi
    obtain ⟨z, hz, e'⟩ := (k1 i).2 ((k2 i).1 ⟨y, hy, e⟩)
    exact List.mem_map.2 ⟨z, hz, e'⟩)
  simp only [List.length_map] at e1 e2
  omega
def cmpId (x y : EntryD) : Int := cmpI x.id y.id
theorem cmp_cmpId : Cmp cmpId := cmp_cmpI.on EntryD.id
theorem sorted_dist {ys : List EntryD} (hl : ∀ x ∈ l, okEntry x = true) (h : IsBookOf l ys) (hs : ys.Pairwise (fun x y => cmpId x y ≤ 0)) : ys = distTo l 100 :=
  book_unique (c := cmpId) cmp_cmpId (fun _ _ e => cmpI_eq0 e) h (distTo_book hl h.agreed) hs ((distTo_sorted l 100).imp fun h => by
    have := cmpI_neg.2 h
    show cmpI _ _ ≤ 0
    omega)
end

end Go.Proofs.YtfpmkolaiomabaaGreat
