/- Widen: mathematics of SignsWider: with greater sets and spans, or a greater Lost, no sign is lost; with one more entry no other sign than its own comes or goes. -/
import Derived.Test.YtfpmkolaiomabaaGreatMade
namespace Go.Proofs.YtfpmkolaiomabaaGreat

theorem moves_wider {s t : SeenD} {ms : List Int} (hm : t.moves = s.moves) (ho : s.lost ≤ t.lost) (h : agreesMovesD s ms = true) : agreesMovesD t ms = true := by
  unfold agreesMovesD at *
  rw [hm]
  simp only [Bool.and_eq_true, decide_eq_true_eq] at *
  exact ⟨h.1, by omega⟩
structure SeenLe (s t : SeenD) : Prop where
  r : ∀ e, hasD s.rights e = true → hasD t.rights e = true
  l : ∀ e, hasD s.lefts e = true → hasD t.lefts e = true
  f : ∀ e, hasD s.faces e = true → hasD t.faces e = true
  c1 : t.cl ≤ s.cl
  c2 : s.ch ≤ t.ch
  w1 : t.rl ≤ s.rl
  w2 : s.rh ≤ t.rh
  a1 : t.al ≤ s.al
  a2 : s.ah ≤ t.ah
  m : t.moves = s.moves
  o : s.lost ≤ t.lost
theorem agreesAs_wider {s t : SeenD} {f : FormD} (h : SeenLe s t) (ha : agreesAsD s f = true) : agreesAsD t f = true := by
  unfold agreesAsD at *
  simp only [Bool.and_eq_true] at *
  obtain ⟨⟨h1, h2⟩, ⟨h3, h4⟩, h5, h6⟩ := ha
  have c1 := h.c1
  have c2 := h.c2
  have w1 := h.w1
  have w2 := h.w2
  rw [inB_iff] at h3 h4
  exact ⟨⟨h.r _ h1, h.l _ h2⟩, ⟨inB_iff.2 (by omega), inB_iff.2 (by omega)⟩, h.f _ h5, moves_wider h.m h.o h6⟩
theorem agrees_wider {s t : SeenD} {x : EntryD} (h : SeenLe s t) (hg : (bits .and .i64 x.regions s.regions != 0) = true → (bits .and .i64 x.regions t.regions != 0) = true) (ha : agreesD s x = true) : agreesD t x = true := by
  unfold agreesD at *
  simp only [Bool.and_eq_true, Bool.or_eq_true] at *
  obtain ⟨h1, h2, h3⟩ := ha
  refine ⟨hg h1, ?_, ?_⟩
  · have a1 := h.a1
    have a2 := h.a2
    unfold meetD at *
    simp only [Bool.and_eq_true, decide_eq_true_eq] at *
    omega
  · rcases h3 with h3 | h3
    · exact .inl (agreesAs_wider h h3)
    · exact .inr (agreesAs_wider h h3)
theorem and_orI {a b c : Int} (ha : 0 ≤ a) (hb : 0 ≤ b) (hc : 0 ≤ c) (ha' : a < 2 ^ 62) (hb' : b < 2 ^ 62) (hc' : c < 2 ^ 62) (h : (bits .and .i64 a b != 0) = true) : (bits .and .i64 a (orI b c) != 0) = true := by
  have ho := orI_lt (k := 62) hb hc hb' hc'
  have hn := orI_nonneg b c
  obtain ⟨n, rfl⟩ := Int.eq_ofNat_of_zero_le ha
  obtain ⟨m, rfl⟩ := Int.eq_ofNat_of_zero_le hb
  obtain ⟨k, rfl⟩ := Int.eq_ofNat_of_zero_le hc
  rw [show ((2 : Int) ^ 62) = 4611686018427387904 from rfl] at *
  rw [and_i64 n m (by omega) (by omega)] at h
  unfold orI at ho hn ⊢
  simp only [Int.toNat_natCast] at ho hn ⊢
  rw [and_i64 n (m ||| k) (by omega) (by omega)]
  rw [bne_iff_ne] at *
  have hd : n &&& (m ||| k) = (n &&& m) ||| (n &&& k) := Nat.and_or_distrib_left n m k
  have hle : n &&& m ≤ (n &&& m) ||| (n &&& k) := Nat.left_le_or
  rw [hd]
  omega
/-- a set and what is held possible beside it -/
theorem orI_has {a b e : Int} (ha : 0 ≤ a) (hb : 0 ≤ b) (h : hasD a e = true) : hasD (orI a b) e = true := by
  rw [hasD_orI ha hb, h]; rfl
/-- '&' with a mask lies within the mask -/
theorem and_mask (a : Int) (m : Nat) (hm : m < 9223372036854775808) : 0 ≤ bits .and .i64 a (m : Int) ∧ bits .and .i64 a (m : Int) ≤ m := by
  have e1 : (BitVec.ofInt 64 (m : Int)).toNat = m := by
    rw [BitVec.ofInt_natCast, BitVec.toNat_ofNat]
    exact Nat.mod_eq_of_lt (by omega)
  have h : bits .and .i64 a (m : Int) = (((BitVec.ofInt 64 a).toNat &&& m : Nat) : Int) := by
    show IntKind.i64.wrap ((BitVec.ofInt 64 a &&& BitVec.ofInt 64 (m : Int)).toNat : Int) = _
    rw [BitVec.toNat_and, e1]
    have : (BitVec.ofInt 64 a).toNat &&& m ≤ m := Nat.and_le_right
    exact IntWalk.i64_in _ (by omega)
  rw [h]
  have : (BitVec.ofInt 64 a).toNat &&& m ≤ m := Nat.and_le_right
  omega
theorem found_wider {s t : SeenD} {l : List EntryD} {a b : List Int} (h : ∀ y ∈ l, agreesD s (canonE y) = true → agreesD t (canonE y) = true) (ha : FoundD s l a) (hb : FoundD t l b) : ∀ n ∈ a, n ∈ b := fun n hn => by
  obtain ⟨y, hy, h1, h2⟩ := (ha.2 n).1 hn
  exact (hb.2 n).2 ⟨y, hy, h y hy h1, h2⟩
theorem found_more {s : SeenD} {l : List EntryD} {x : EntryD} {a c : List Int} (ha : FoundD s l a) (hc : FoundD s (l ++ [x]) c) : (∀ n ∈ a, n ∈ c) ∧ ∀ n ∈ c, n ∈ a ∨ n = x.sign := by
  constructor
  · intro n hn
    obtain ⟨y, hy, h1, h2⟩ := (ha.2 n).1 hn
    exact (hc.2 n).2 ⟨y, List.mem_append_left _ hy, h1, h2⟩
  · intro n hn
    obtain ⟨y, hy, h1, h2⟩ := (hc.2 n).1 hn
    rcases List.mem_append.1 hy with hy | hy
    · exact .inl ((ha.2 n).2 ⟨y, hy, h1, h2⟩)
    · rw [List.mem_singleton] at hy
      rw [hy] at h2
      exact .inr h2.symm

theorem orI_left {a b : Int} (ha : 0 ≤ a) (hb : 0 ≤ b) : a ≤ orI a b := by
  obtain ⟨n, rfl⟩ := Int.eq_ofNat_of_zero_le ha
  obtain ⟨m, rfl⟩ := Int.eq_ofNat_of_zero_le hb
  have : n ≤ n ||| m := Nat.left_le_or
  unfold orI
  simp only [Int.toNat_natCast]
  omega
theorem orI_again (a b : Int) : orI (orI a b) b = orI a b := by
  unfold orI
  rw [Int.toNat_natCast, Nat.or_assoc, Nat.or_self]
theorem entry_reg {x : EntryD} (h : okEntry x = true) : 1 ≤ x.regions ∧ x.regions ≤ 255 := by
  simp only [okEntry, Bool.and_eq_true, inB_iff] at h
  exact h.2.2.1

end Go.Proofs.YtfpmkolaiomabaaGreat
