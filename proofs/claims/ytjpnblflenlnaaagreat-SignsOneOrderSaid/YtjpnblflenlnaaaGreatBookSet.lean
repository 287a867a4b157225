/- The book as a set: what read leaves depends on no order, no repetition, no mirror form. -/
import Derived.Test.YtjpnblflenlnaaaGreatRead
import Derived.Test.YtjpnblflenlnaaaGreatCmp
namespace Go.Proofs.YtjpnblflenlnaaaGreat

theorem alikeC_eq {x y : EntryD} (hid : x.id = y.id) : alikeC x y = true ↔ x = y := by
  obtain ⟨i, s, r, f, lo, hi⟩ := x
  obtain ⟨i', s', r', f', lo', hi'⟩ := y
  dsimp only at hid
  subst hid
  simp only [alikeC, Bool.and_eq_true, beq_iff_eq, decide_eq_true_eq, EntryD.mk.injEq, true_and]
  constructor
  · rintro ⟨h1, h2, ⟨h3, h4⟩, h5⟩
    exact ⟨h1, h2, cmpF_eq0 h5, h3, h4⟩
  · rintro ⟨h1, h2, h3, h4, h5⟩
    exact ⟨h1, h2, ⟨h4, h5⟩, by rw [h3]; exact cmpF_self _⟩
/-- no Id twice -/
def Once (b : List EntryD) : Prop := (b.map (·.id)).Nodup
theorem Once.inj {b : List EntryD} (h : Once b) {x y : EntryD} (hx : x ∈ b) (hy : y ∈ b) (hid : x.id = y.id) : x = y := by
  induction b with
  | nil => cases hx
  | cons z b ih =>
    simp only [Once, List.map_cons, List.nodup_cons, List.mem_map, not_exists, not_and] at h
    rcases List.mem_cons.1 hx with e | hx'
    · rcases List.mem_cons.1 hy with e' | hy'
      · rw [e, e']
      · exact absurd (e ▸ hid.symm) (h.1 y hy')
    · rcases List.mem_cons.1 hy with e' | hy'
      · exact absurd (e' ▸ hid) (h.1 x hx')
      · exact ih h.2 hx' hy'
theorem addD_some {b b' : List EntryD} {x : EntryD} (h : addD b x = some b') : (∀ y, y ∈ b' ↔ y ∈ b ∨ x = y) ∧ (Once b → Once b') := by
  unfold addD at h
  cases hf : b.find? fun y => y.id == x.id with
  | none =>
    rw [hf] at h
    simp only [Option.some.injEq] at h
    subst h
    refine ⟨fun y => by rw [List.mem_append]; simp [eq_comm], fun ho => ?_⟩
    rw [List.find?_eq_none] at hf
    unfold Once at *
    rw [List.map_append, List.nodup_append]
    refine ⟨ho, by simp, fun i hi j hj => ?_⟩
    obtain ⟨y, hy, rfl⟩ := List.mem_map.1 hi
    have : j = x.id := by simpa using hj
    subst this
    simpa using hf y hy
  | some y =>
    rw [hf] at h
    dsimp only at h
    have hid : y.id = x.id := by simpa using List.find?_some hf
    split at h
    · rename_i hal
      obtain rfl := Option.some.inj h
      have hxy : x = y := (alikeC_eq hid.symm).1 hal
      subst hxy
      exact ⟨fun z => ⟨.inl, fun hz => hz.elim id fun e => e ▸ List.mem_of_find?_eq_some hf⟩, id⟩
    · cases h
theorem addD_none {b : List EntryD} {x : EntryD} (h : addD b x = none) : ∃ y ∈ b, y.id = x.id ∧ x ≠ y := by
  unfold addD at h
  cases hf : b.find? fun y => y.id == x.id with
  | none => rw [hf] at h; cases h
  | some y =>
    rw [hf] at h
    dsimp only at h
    have hid : y.id = x.id := by simpa using List.find?_some hf
    refine ⟨y, List.mem_of_find?_eq_some hf, hid, fun e => ?_⟩
    rw [if_pos ((alikeC_eq hid.symm).2 e)] at h
    cases h
theorem readD_some : ∀ {l b b' : List EntryD}, readD b l = some b' → (∀ y, y ∈ b' ↔ y ∈ b ∨ ∃ x ∈ l, canonE x = y) ∧ (Once b → Once b')
  | [], b, b', h => by
    obtain rfl := Option.some.inj h
    exact ⟨fun y => by simp, id⟩
  | x :: l, b, b', h => by
    simp only [readD] at h
    cases ha : addD b (canonE x) with
    | none => rw [ha] at h; cases h
    | some b1 =>
      rw [ha] at h
      obtain ⟨h1, h2⟩ := addD_some ha
      obtain ⟨h3, h4⟩ := readD_some h
      refine ⟨fun y => ?_, fun ho => h4 (h2 ho)⟩
      rw [h3, h1]
      simp only [List.mem_cons, exists_eq_or_imp]
      exact or_assoc
theorem readD_clash : ∀ {l b : List EntryD}, readD b l = none → ∃ y z, (y ∈ b ∨ ∃ x ∈ l, canonE x = y) ∧ (z ∈ b ∨ ∃ x ∈ l, canonE x = z) ∧ y.id = z.id ∧ y ≠ z
  | [], b, h => by cases h
  | x :: l, b, h => by
    simp only [readD] at h
    cases ha : addD b (canonE x) with
    | none =>
      obtain ⟨y, hy, hid, hne⟩ := addD_none ha
      exact ⟨y, canonE x, .inl hy, .inr ⟨x, List.mem_cons_self, rfl⟩, hid, fun e => hne e.symm⟩
    | some b1 =>
      rw [ha] at h
      obtain ⟨h1, _⟩ := addD_some ha
      obtain ⟨y, z, hy, hz, h3⟩ := readD_clash h
      have hup : ∀ y, (y ∈ b1 ∨ ∃ x ∈ l, canonE x = y) → y ∈ b ∨ ∃ w ∈ x :: l, canonE w = y := fun y hy => by
        rcases hy with hy | ⟨w, hw, e⟩
        · rcases (h1 y).1 hy with hy | e
          · exact .inl hy
          · exact .inr ⟨x, List.mem_cons_self, e⟩
        · exact .inr ⟨w, List.mem_cons_of_mem _ hw, e⟩
      exact ⟨y, z, hup y hy, hup z hz, h3⟩
/-- entries agree where their Ids are the same -/
def Agreed (l : List EntryD) : Prop := ∀ x ∈ l, ∀ y ∈ l, x.id = y.id → canonE x = canonE y
theorem readD_isSome {l : List EntryD} : (readD [] l).isSome = true ↔ Agreed l := by
  constructor
  · intro h x hx y hy hid
    obtain ⟨b, hb⟩ := Option.isSome_iff_exists.1 h
    obtain ⟨h1, h2⟩ := readD_some hb
    exact Once.inj (h2 (by simp [Once])) ((h1 _).2 (.inr ⟨x, hx, rfl⟩)) ((h1 _).2 (.inr ⟨y, hy, rfl⟩)) hid
  · intro h
    cases hr : readD [] l with
    | some b => rfl
    | none =>
      obtain ⟨y, z, hy, hz, hid, hne⟩ := readD_clash hr
      rcases hy with hy | ⟨x, hx, rfl⟩
      · cases hy
      · rcases hz with hz | ⟨w, hw, rfl⟩
        · cases hz
        · exact absurd (h x hx w hw hid) hne
/-- bk is the book of l -/
structure IsBookOf (l bk : List EntryD) : Prop where
  mem : ∀ y, y ∈ bk ↔ ∃ x ∈ l, canonE x = y
  once : Once bk
theorem readD_book {l bk : List EntryD} (h : readD [] l = some bk) : IsBookOf l bk := by
  obtain ⟨h1, h2⟩ := readD_some h
  exact ⟨fun y => by rw [h1]; simp, h2 (by simp [Once])⟩
theorem nodup_length : ∀ {a b : List Int}, a.Nodup → (∀ x ∈ a, x ∈ b) → a.length ≤ b.length
  | [], _, _, _ => Nat.zero_le _
  | x :: a, b, hn, hm => by
    obtain ⟨h1, h2⟩ := List.nodup_cons.1 hn
    have hx := hm x List.mem_cons_self
    have := nodup_length (b := b.erase x) h2 fun y hy => (List.mem_erase_of_ne (show y ≠ x from fun e => h1 (by rw [← e]; exact hy))).2 (hm y (List.mem_cons_of_mem _ hy))
    have := List.length_erase_of_mem hx
    have := List.length_pos_of_mem hx
    simp only [List.length_cons]
    omega
/-- a book has no more entries than came -/
theorem IsBookOf.length {l bk : List EntryD} (h : IsBookOf l bk) : bk.length ≤ l.length := by
  have := nodup_length (a := bk.map fun y : EntryD => y.id) (b := l.map fun y : EntryD => y.id) h.once fun i hi => by
    obtain ⟨y, hy, rfl⟩ := List.mem_map.1 hi
    obtain ⟨x, hx, e⟩ := (h.mem y).1 hy
    exact List.mem_map.2 ⟨x, hx, by rw [← e]; rfl⟩
  simpa using this

end Go.Proofs.YtjpnblflenlnaaaGreat
