/- Twins: the program's. -/
import Derived.Test.YtjpnblflenlnaaaGreatPairs
import Derived.Test.YtjpnblflenlnaaaGreatShown
import Derived.Test.YtjpnblflenlnaaaGreatFind
import Derived.Test.YtjpnblflenlnaaaGreatAppend
namespace Go.Proofs.YtjpnblflenlnaaaGreat
open Go.RowKit
open Go.ChangeMaps (setBlock)

theorem Tryz.infoPair : (Tryz.prog.info? 76).map (fun i => (i.zero, i.size, i.bytes)) = some (some (.agg #[.int .i64 0, .int .i64 0]), 2, 16) := by kernel_rfl
theorem own_sortP {w : World} {base n cap : Nat} {A : Option Addr} {xs : List (Int × Int)} (h : w.ownsRow base 76 2 (.slice A n cap) n (xs.flatMap encP)) (hx : xs.length ≤ 1000000) :
    Calls Tryz.prog 65 #[.slice A n cap, .func (.func 66) #[] #[]] w fun r w' => r = .returned (.tuple #[]) ∧ ∃ ys : List (Int × Int), ys.Perm xs ∧ ys.Pairwise (fun x y => cmpP x y ≤ 0) ∧
      w'.ownsRow base 76 2 (.slice A n cap) n (ys.flatMap encP) ∧ w.grownBy w' (Value.ownBlock (.slice A n cap)) :=
  own_sortK (enc := encP) (k := 2) (ρ := _) Tryz.sortPair Tryz.isAgg76 Tryz.sizeOf76 (fun _ => rfl) (by omega) (fun p v hv => by simp only [encP, List.mem_cons, List.not_mem_nil, or_false] at hv; rcases hv with rfl | rfl <;> rfl)
    cmpP cmp_cmpP 66 (enters_of Tryz.func66 (by kernel_rfl) rfl) h hx (fun g _ _ m os dk _ x y => (twins1_any x y _).mono fun _ _ ⟨he, hg⟩ => ⟨he, hg.form⟩)

/-- a pair of twins that x and y make -/
def twinOf (x y : EntryD) : Bool := decide (x.sign < y.sign) && shownD x y
/-- r are the twins among the entries l, in order -/
def TwinsD (l : List EntryD) (r : List (Int × Int)) : Prop := r.Pairwise (fun p q => cmpP p q < 0) ∧ ∀ p, p ∈ r ↔ ∃ x ∈ l, ∃ y ∈ l, twinOf (canonE x) (canonE y) = true ∧ (x.sign, y.sign) = p
theorem TwinsD.unique {l : List EntryD} {a b : List (Int × Int)} (ha : TwinsD l a) (hb : TwinsD l b) : a = b := sorted_unique cmp_cmpP ha.1 hb.1 fun p => (ha.2 p).trans (hb.2 p).symm
theorem TwinsD.of_book {l bk : List EntryD} {r : List (Int × Int)} (hb : IsBookOf l bk) (h1 : r.Pairwise (fun p q => cmpP p q < 0)) (h2 : ∀ p, p ∈ r ↔ ∃ x ∈ bk, ∃ y ∈ bk, twinOf x y = true ∧ (x.sign, y.sign) = p) : TwinsD l r := by
  refine ⟨h1, fun p => (h2 p).trans ?_⟩
  constructor
  · rintro ⟨x, hx, y, hy, ht, rfl⟩
    obtain ⟨x', hx', rfl⟩ := (hb.mem x).1 hx
    obtain ⟨y', hy', rfl⟩ := (hb.mem y).1 hy
    exact ⟨x', hx', y', hy', ht, rfl⟩
  · rintro ⟨x, hx, y, hy, ht, rfl⟩
    exact ⟨canonE x, (hb.mem _).2 ⟨x, hx, rfl⟩, canonE y, (hb.mem _).2 ⟨y, hy, rfl⟩, ht, rfl⟩

/-- the outer loop: the pairs of the entries that were handed out -/
def Outer (bk : List EntryR) (seen : Array Nat) (ps : List (Int × Int)) : Prop :=
  ps.length + (leftOf (entsM bk) seen).size * bk.length ≤ bk.length * bk.length ∧ ∀ p, p ∈ ps ↔ ∃ k x, k ∈ seen ∧ bk[k]? = some x ∧ ∃ y ∈ bk, twinOf x.d y.d = true ∧ (x.d.sign, y.d.sign) = p
/-- the inner loop, of the entry x: seen1 and ps0 are the outer loop's at its start -/
def Inner (bk : List EntryR) (rest : Nat) (x : EntryR) (ps0 : List (Int × Int)) (seen : Array Nat) (ps : List (Int × Int)) : Prop :=
  ps.length + (leftOf (entsM bk) seen).size + rest * bk.length ≤ bk.length * bk.length ∧ ∀ p, p ∈ ps ↔ p ∈ ps0 ∨ ∃ k y, k ∈ seen ∧ bk[k]? = some y ∧ twinOf x.d y.d = true ∧ (x.d.sign, y.d.sign) = p
theorem left_all (bk : List EntryR) : (leftOf (entsM bk) #[]).size ≤ bk.length := by
  have : (leftOf (entsM bk) #[]).size ≤ (entsM bk).size := by unfold leftOf; exact Array.size_filter_le
  simpa [entsM] using this
theorem Outer.start (bk : List EntryR) : Outer bk #[] [] := by
  refine ⟨?_, fun p => by simp⟩
  have := Nat.mul_le_mul_right bk.length (left_all bk)
  simpa using this
theorem Outer.inner {bk : List EntryR} {seen : Array Nat} {ps : List (Int × Int)} (h : Outer bk seen ps) {k : Nat} {x : EntryR} (hx : bk[k]? = some x) (hk : k ∉ seen) : Inner bk (leftOf (entsM bk) (seen.push k)).size x ps #[] ps := by
  refine ⟨?_, fun p => by simp⟩
  have h1 := h.1
  have h2 := left_book hx hk
  have h3 := left_all bk
  have h4 := Nat.mul_le_mul_right bk.length (show (leftOf (entsM bk) (seen.push k)).size + 1 ≤ (leftOf (entsM bk) seen).size by omega)
  rw [Nat.add_mul, Nat.one_mul] at h4
  omega
theorem Inner.take {bk : List EntryR} {rest : Nat} {x y : EntryR} {ps0 ps : List (Int × Int)} {seen : Array Nat} (h : Inner bk rest x ps0 seen ps) {k : Nat} (hy : bk[k]? = some y) (hk : k ∉ seen) (ht : twinOf x.d y.d = true) : Inner bk rest x ps0 (seen.push k) (ps ++ [(x.d.sign, y.d.sign)]) := by
  refine ⟨?_, fun p => ?_⟩
  · have := left_book hy hk
    have := h.1
    simp
    omega
  · rw [List.mem_append, h.2 p]
    constructor
    · rintro ((h0 | ⟨j, z, hj, hz⟩) | hp)
      · exact .inl h0
      · exact .inr ⟨j, z, by simp [hj], hz⟩
      · exact .inr ⟨k, y, by simp, hy, ht, (List.mem_singleton.1 hp).symm⟩
    · rintro (h0 | ⟨j, z, hj, hz, h1, h2⟩)
      · exact .inl (.inl h0)
      · rcases Array.mem_push.1 hj with hj | rfl
        · exact .inl (.inr ⟨j, z, hj, hz, h1, h2⟩)
        · rw [hy] at hz
          obtain rfl := Option.some.inj hz
          exact .inr (by simp [h2])
theorem Inner.skip {bk : List EntryR} {rest : Nat} {x y : EntryR} {ps0 ps : List (Int × Int)} {seen : Array Nat} (h : Inner bk rest x ps0 seen ps) {k : Nat} (hy : bk[k]? = some y) (hk : k ∉ seen) (ht : ¬twinOf x.d y.d = true) : Inner bk rest x ps0 (seen.push k) ps := by
  refine ⟨?_, fun p => ?_⟩
  · have := left_book hy hk
    have := h.1
    omega
  · rw [h.2 p]
    constructor
    · rintro (h0 | ⟨j, z, hj, hz⟩)
      · exact .inl h0
      · exact .inr ⟨j, z, by simp [hj], hz⟩
    · rintro (h0 | ⟨j, z, hj, hz, h1, h2⟩)
      · exact .inl h0
      · rcases Array.mem_push.1 hj with hj | rfl
        · exact .inr ⟨j, z, hj, hz, h1, h2⟩
        · rw [hy] at hz
          obtain rfl := Option.some.inj hz
          exact absurd h1 ht
theorem Inner.outer {bk : List EntryR} {seen seen2 : Array Nat} {ps0 ps : List (Int × Int)} {k : Nat} {x : EntryR} (h0 : Outer bk seen ps0) (h : Inner bk (leftOf (entsM bk) (seen.push k)).size x ps0 seen2 ps) (hx : bk[k]? = some x) (hall : ∀ j y, bk[j]? = some y → j ∈ seen2) : Outer bk (seen.push k) ps := by
  refine ⟨by have := h.1; omega, fun p => ?_⟩
  rw [h.2 p, h0.2 p]
  constructor
  · rintro (⟨j, z, hj, hz⟩ | ⟨j, y, hj, hy, ht, hp⟩)
    · exact ⟨j, z, by simp [hj], hz⟩
    · exact ⟨k, x, by simp, hx, y, List.mem_of_getElem? hy, ht, hp⟩
  · rintro ⟨j, z, hj, hz, y, hy, ht, hp⟩
    rcases Array.mem_push.1 hj with hj | rfl
    · exact .inl ⟨j, z, hj, hz, y, hy, ht, hp⟩
    · rw [hx] at hz
      obtain rfl := Option.some.inj hz
      obtain ⟨i, hi⟩ := List.getElem?_of_mem hy
      exact .inr ⟨i, y, hall i y hi, hi, ht, hp⟩
theorem Outer.done {bk : List EntryR} {seen : Array Nat} {ps : List (Int × Int)} (h : Outer bk seen ps) (hall : ∀ j y, bk[j]? = some y → j ∈ seen) (p : Int × Int) : p ∈ ps ↔ ∃ x ∈ bk.map (·.d), ∃ y ∈ bk.map (·.d), twinOf x y = true ∧ (x.sign, y.sign) = p := by
  rw [h.2 p]
  constructor
  · rintro ⟨k, x, _, hx, y, hy, ht, hp⟩
    exact ⟨x.d, List.mem_map.2 ⟨x, List.mem_of_getElem? hx, rfl⟩, y.d, List.mem_map.2 ⟨y, hy, rfl⟩, ht, hp⟩
  · rintro ⟨_, hx, _, hy, ht, hp⟩
    obtain ⟨x, hx1, rfl⟩ := List.mem_map.1 hx
    obtain ⟨y, hy1, rfl⟩ := List.mem_map.1 hy
    obtain ⟨k, hk⟩ := List.getElem?_of_mem hx1
    exact ⟨k, x, hall k x hk, hk, y, hy1, ht, hp⟩

/-- what Twins leaves -/
def TwinsPost (l : List EntryD) (w : World) (e : Ending) (w' : World) : Prop :=
  Below w.heap.size w w' ∧ ∃ A cap r, e = .returned (.tuple #[.slice A (List.length r) cap, .int .i64 (bookErr l)]) ∧ w'.ownsRow w.heap.size 76 2 (.slice A (List.length r) cap) (List.length r) (List.flatMap encP r) ∧ (bookErr l ≠ 0 → r = []) ∧ (bookErr l = 0 → TwinsD l r)

end Go.Proofs.YtjpnblflenlnaaaGreat
