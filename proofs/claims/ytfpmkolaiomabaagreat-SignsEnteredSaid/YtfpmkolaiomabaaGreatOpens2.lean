/- Opens2: entries, a book and what was seen, as arguments of a law, opened. Long: whether a book is far too large in something; whether a number is in a slice. -/
import Derived.Test.YtfpmkolaiomabaaGreatOpens
import Derived.Test.YtfpmkolaiomabaaGreatEntry
import Derived.Test.YtfpmkolaiomabaaGreatSeen
namespace Go.Proofs.YtfpmkolaiomabaaGreat
open Go.RowKit Go.ChangeShapes Go.WideShapes Go.ChangeAt Go.Joins Go.Deep

theorem cellsEntry : Tryz.prog.cellsOf 62 = 11 := by kernel_rfl
theorem cellsSpan : Tryz.prog.cellsOf 48 = 2 := by kernel_rfl
theorem cellsSeen : Tryz.prog.cellsOf 50 = 12 := by kernel_rfl
theorem cellsMoves : Tryz.prog.cellsOf 22 = 1 := by kernel_rfl

/-- the entries l lie at A, their moves of whatever number -/
def EntsO (w : World) (B : Nat) (A : Option Addr) (l : List EntryR) : Prop :=
  (l = [] ∨ ∃ b off, A = some ⟨b, off, none⟩ ∧ b < B ∧ ∀ i x, l[i]? = some x → ∀ j, j < 11 → w.cell? ⟨b, off + i * 11 + j, none⟩ = (cellsE x)[j]?) ∧ ∀ x, x ∈ l → Ints w B x.A x.d.form.moves ∧ x.d.form.moves.length ≤ x.cap
theorem EntsO.ents {w : World} {B : Nat} {A : Option Addr} {l : List EntryR} (h : EntsO w B A l) (hl : ∀ x, x ∈ l → x.d.form.moves.length ≤ 1000000) : Ents w B A l :=
  ⟨h.1, fun x hx => ⟨(h.2 x hx).1, hl x hx⟩⟩
theorem EntsO.below {w w' : World} {B : Nat} {A : Option Addr} {l : List EntryR} (h : EntsO w B A l) (hb : Below B w w') : EntsO w' B A l := by
  refine ⟨?_, fun x hx => ⟨(h.2 x hx).1.below hb, (h.2 x hx).2⟩⟩
  rcases h.1 with rfl | ⟨b, off, rfl, hl, hc⟩
  · exact .inl rfl
  · exact .inr ⟨b, off, rfl, hl, fun i x hi j hj => (hb.cell (p := ⟨b, off + i * 11 + j, none⟩) hl).trans (hc i x hi j hj)⟩
theorem EntsO.more {w : World} {B B' : Nat} {A : Option Addr} {l : List EntryR} (h : EntsO w B A l) (hb : B ≤ B') : EntsO w B' A l := by
  refine ⟨?_, fun x hx => ⟨(h.2 x hx).1.more hb, (h.2 x hx).2⟩⟩
  rcases h.1 with rfl | ⟨b, off, rfl, hl, hc⟩
  · exact .inl rfl
  · exact .inr ⟨b, off, rfl, by omega, hc⟩
theorem EntsO.at_ {w : World} {B : Nat} {A : Option Addr} {l : List EntryR} (h : EntsO w B A l) {k : Nat} (hk : k < l.length) :
    ∃ b off x, A = some ⟨b, off, none⟩ ∧ b < B ∧ (∀ j, j < 11 → w.cell? ⟨b, off + k * 11 + j, none⟩ = (cellsE x)[j]?) ∧ Ints w B x.A x.d.form.moves ∧ Hid (l[k]? = some x) := by
  rcases h.1 with rfl | ⟨b, off, rfl, hb, hc⟩
  · simp at hk
  · exact ⟨b, off, l[k], rfl, hb, hc k _ (List.getElem?_eq_getElem hk), (h.2 _ (List.getElem_mem hk)).1, List.getElem?_eq_getElem hk⟩

theorem list_of {α : Type} {P : Nat → α → Prop} : ∀ n, (∀ i, i < n → ∃ x, P i x) → ∃ l : List α, l.length = n ∧ ∀ i x, l[i]? = some x → P i x
  | 0, _ => ⟨[], rfl, fun i x h => by simp at h⟩
  | n + 1, h => by
    obtain ⟨l, hl, hp⟩ := list_of n fun i hi => h i (by omega)
    obtain ⟨x, hx⟩ := h n (by omega)
    refine ⟨l ++ [x], by simp [hl], fun i y hy => ?_⟩
    by_cases hi : i < n
    · rw [List.getElem?_append_left (by omega)] at hy
      exact hp i y hy
    · have hlen := (List.getElem?_eq_some_iff.1 hy).1
      simp only [List.length_append, List.length_cons, List.length_nil] at hlen
      obtain rfl : i = n := by omega
      rw [List.getElem?_append_right (by omega)] at hy
      simp only [hl, Nat.sub_self, List.getElem?_cons_zero, Option.some.injEq] at hy
      subst hy
      exact hx

section
variable {H : Type} {enc : TypeId × Value → H} {w : World} {base : Nat} {spare : Nat → Bool} {held : Bool}

theorem int_open {n : Nat} {v : Value} {o : Option (DataW H × List MemPlace)} (h : DataW.trod enc Tryz.prog w base spare held n 3 [v] = o) (ho : o.isSome = true) : ∃ z, v = .int .i64 z ∧ Lit.wf (.int .i64 z) = true := by
  obtain ⟨y, rfl⟩ := Option.isSome_iff_exists.1 ho
  obtain ⟨z, e, _, hz⟩ := DataW.trod_int Tryz.underlying3 h
  exact ⟨z, by simpa using e, hz⟩

/-- integers, with their room -/
theorem ints_open_cap {n : Nat} {v : Value} {y : DataW H × List MemPlace} (h : DataW.trod enc Tryz.prog w base spare held n 22 [v] = some y) :
    ∃ A cap xs, v = .slice A xs.length cap ∧ Ints w w.heap.size A xs ∧ xs.length ≤ cap := by
  have hc : ∃ A len cap, v = .slice A len cap ∧ len ≤ cap := by
    rcases open_ints Tryz.underlying22 Tryz.underlying3 cellsInt h with ⟨hcs, _⟩ | ⟨a, len, cap, zs, hcs, _, hl, _⟩
    · exact ⟨none, 0, 0, by simpa using hcs, Nat.le_refl _⟩
    · exact ⟨some a, len, cap, by simpa using hcs, hl⟩
  obtain ⟨A, cap, xs, rfl, hi⟩ := ints_open h
  obtain ⟨A', len, cap', e, hl⟩ := hc
  injection e with e1 e2 e3
  exact ⟨A, cap, xs, rfl, hi, by omega⟩

theorem isSome_of {α : Type} {l : List α} {n i : Nat} (hl : l.length = n) (hi : i < n) : l[i]?.isSome = true := by
  rw [List.getElem?_eq_getElem (by omega)]; rfl

theorem trod_field {cs : List Value} {fs : Array Field} {n : Nat} {xs : List (DataW H × List MemPlace)}
    (hg : ∀ (i : Nat) (f : Field), fs[i]? = some f → DataW.trod enc Tryz.prog w base spare held n f.type ((cs.drop f.offset).take (Tryz.prog.cellsOf f.type)) = xs[i]?) (i : Nat) (t off k : Nat) (f : Field) (hf : fs[i]? = some f)
    (ht : f.type = t) (ho : f.offset = off) (hk : Tryz.prog.cellsOf t = k) : DataW.trod enc Tryz.prog w base spare held n t ((cs.drop off).take k) = xs[i]? := by
  subst ht; subst ho; subst hk
  exact hg i f hf

set_option maxRecDepth 100000 in
theorem form_cells {n : Nat} {c0 c1 c2 c3 c4 c5 : Value} {o : Option (DataW H × List MemPlace)} (h : DataW.trod enc Tryz.prog w base spare held n 24 [c0, c1, c2, c3, c4, c5] = o) (ho : o.isSome = true) :
    ∃ f A cap, [c0, c1, c2, c3, c4, c5] = (cellsF f A cap).toList ∧ Ints w w.heap.size A f.moves ∧ f.moves.length ≤ cap := by
  obtain ⟨y, rfl⟩ := Option.isSome_iff_exists.1 ho
  obtain ⟨xs, m, _, _, _, hlen, hg⟩ := DataW.trod_struct Tryz.underlying24 h
  have h0 := trod_field hg 0 3 0 _ _ rfl rfl rfl cellsInt
  have h1 := trod_field hg 1 3 1 _ _ rfl rfl rfl cellsInt
  have h2 := trod_field hg 2 3 2 _ _ rfl rfl rfl cellsInt
  have h3 := trod_field hg 3 3 3 _ _ rfl rfl rfl cellsInt
  have h4 := trod_field hg 4 3 4 _ _ rfl rfl rfl cellsInt
  have h5 := trod_field hg 5 22 5 _ _ rfl rfl rfl cellsMoves
  simp only [List.drop_succ_cons, List.drop_zero, List.take_succ_cons, List.take_zero] at h0 h1 h2 h3 h4 h5
  have hl : xs.length = 6 := hlen
  obtain ⟨n0, rfl, _⟩ := int_open h0 (isSome_of hl (by omega))
  obtain ⟨n1, rfl, _⟩ := int_open h1 (isSome_of hl (by omega))
  obtain ⟨n2, rfl, _⟩ := int_open h2 (isSome_of hl (by omega))
  obtain ⟨n3, rfl, _⟩ := int_open h3 (isSome_of hl (by omega))
  obtain ⟨n4, rfl, _⟩ := int_open h4 (isSome_of hl (by omega))
  rw [List.getElem?_eq_getElem (by omega)] at h5
  obtain ⟨A, cap, ms, rfl, hi⟩ := ints_open_cap h5
  exact ⟨⟨n0, n1, n2, n3, n4, ms⟩, A, cap, rfl, hi⟩

theorem span_cells {n : Nat} {c0 c1 : Value} {o : Option (DataW H × List MemPlace)} (h : DataW.trod enc Tryz.prog w base spare held n 48 [c0, c1] = o) (ho : o.isSome = true) :
    ∃ lo hi, c0 = .int .i64 lo ∧ c1 = .int .i64 hi ∧ Lit.wf (.int .i64 lo) = true ∧ Lit.wf (.int .i64 hi) = true := by
  obtain ⟨y, rfl⟩ := Option.isSome_iff_exists.1 ho
  obtain ⟨xs, m, _, _, _, hlen, hg⟩ := DataW.trod_struct Tryz.underlying48 h
  have h0 := trod_field hg 0 3 0 _ _ rfl rfl rfl cellsInt
  have h1 := trod_field hg 1 3 1 _ _ rfl rfl rfl cellsInt
  simp only [List.drop_succ_cons, List.drop_zero, List.take_succ_cons, List.take_zero] at h0 h1
  have hl : xs.length = 2 := hlen
  obtain ⟨n0, rfl, w0⟩ := int_open h0 (isSome_of hl (by omega))
  obtain ⟨n1, rfl, w1⟩ := int_open h1 (isSome_of hl (by omega))
  exact ⟨n0, n1, rfl, rfl, w0, w1⟩

set_option maxRecDepth 100000 in
/-- the cells of an entry -/
theorem entry_cells {n : Nat} {cs : List Value} {o : Option (DataW H × List MemPlace)} (h : DataW.trod enc Tryz.prog w base spare held n 62 cs = o) (ho : o.isSome = true) :
    ∃ x : EntryR, cs = (cellsE x).toList ∧ Ints w w.heap.size x.A x.d.form.moves ∧ x.d.form.moves.length ≤ x.cap := by
  obtain ⟨y, rfl⟩ := Option.isSome_iff_exists.1 ho
  obtain ⟨xs, m, _, _, hc, hlen, hg⟩ := DataW.trod_struct Tryz.underlying62 h
  match cs, hc.trans cellsEntry with
  | [c0, c1, c2, c3, c4, c5, c6, c7, c8, c9, c10], _ =>
    have h0 := trod_field hg 0 3 0 _ _ rfl rfl rfl cellsInt
    have h1 := trod_field hg 1 3 1 _ _ rfl rfl rfl cellsInt
    have h2 := trod_field hg 2 3 2 _ _ rfl rfl rfl cellsInt
    have h3 := trod_field hg 3 24 3 _ _ rfl rfl rfl cellsForm
    have h4 := trod_field hg 4 48 9 _ _ rfl rfl rfl cellsSpan
    simp only [List.drop_succ_cons, List.drop_zero, List.take_succ_cons, List.take_zero] at h0 h1 h2 h3 h4
    have hl : xs.length = 5 := hlen
    obtain ⟨n0, rfl, _⟩ := int_open h0 (isSome_of hl (by omega))
    obtain ⟨n1, rfl, _⟩ := int_open h1 (isSome_of hl (by omega))
    obtain ⟨n2, rfl, _⟩ := int_open h2 (isSome_of hl (by omega))
    obtain ⟨f, A, cap, e, hi⟩ := form_cells h3 (isSome_of hl (by omega))
    obtain ⟨lo, hi', rfl, rfl, _, _⟩ := span_cells h4 (isSome_of hl (by omega))
    simp only [List.cons.injEq, and_true] at e
    obtain ⟨rfl, rfl, rfl, rfl, rfl, rfl⟩ := e
    exact ⟨⟨⟨n0, n1, n2, f, lo, hi'⟩, A, cap⟩, rfl, hi⟩

set_option maxRecDepth 100000 in
/-- a slice of entries -/
theorem ents_open {r : Reach} {b0 : Nat} {v : Value} {d : DataW H} {p : List MemPlace} (hv : Value.okWide Tryz.prog w r b0 33 v) (h : DataW.Trod enc Tryz.prog w base spare held 33 v d p) :
    ∃ A cap l, v = .slice A (List.length l) cap ∧ EntsO w w.heap.size A l ∧ l.length ≤ maxLen := by
  obtain ⟨a0, len, cap, rfl⟩ := okWide_slice Tryz.underlying33 hv
  obtain ⟨fuel, hf⟩ := h
  rcases open_slice Tryz.underlying33 hf with ⟨hcs, _⟩ | ⟨a, len', cap', m, n, D, Pl, hcs, _, hl, hm, hmm, _, hi⟩
  · simp [Value.cells] at hcs
    obtain ⟨rfl, rfl, rfl⟩ := hcs
    exact ⟨none, 0, [], rfl, ⟨.inl rfl, fun x hx => by simp at hx⟩, Nat.zero_le _⟩
  · simp [Value.cells] at hcs
    obtain ⟨rfl, rfl, rfl⟩ := hcs
    have hlm : len ≤ m := by rw [hmm]; split <;> omega
    rw [cellsEntry] at hi
    obtain ⟨l, hll, hp⟩ := list_of (P := fun i (x : EntryR) => (∀ j, j < 11 → w.cell? (a.add (i * 11 + j)) = (cellsE x)[j]?) ∧ Ints w w.heap.size x.A x.d.form.moves ∧ x.d.form.moves.length ≤ x.cap) len fun i hil => by
      obtain ⟨cs', hc, ht⟩ := hi i (by omega)
      obtain ⟨x, rfl, hx⟩ := entry_cells ht rfl
      obtain ⟨_, _, hat⟩ := World.cells?_some hc
      refine ⟨x, fun j hj => ?_, hx⟩
      rw [← Go.Deep.add_add, hat j hj]
      simp
    refine ⟨some a, cap, l, by rw [hll], ⟨?_, fun x hx => ?_⟩, by omega⟩
    · by_cases h0 : len = 0
      · exact .inl (List.eq_nil_of_length_eq_zero (hll.trans h0))
      · obtain ⟨b, off, spot⟩ := a
        have c0 := (hp 0 _ (List.getElem?_eq_getElem (by omega))).1 0 (by omega)
        have c0' : w.cell? ((⟨b, off, spot⟩ : Addr).add (0 * 11 + 0)) = some (.int .i64 (l[0]'(by omega)).d.id) := c0
        have hspot : spot = none := by simpa [Addr.add] using World.cell?_spot c0'
        subst hspot
        have hb : b < w.heap.size := by
          have := World.block_lt_of_cell? w _ c0'
          simpa [Addr.add] using this
        refine .inr ⟨b, off, rfl, hb, fun i x hx j hj => ?_⟩
        have := (hp i x hx).1 j hj
        rw [add_plain] at this
        rw [← this, Nat.add_assoc]
    · obtain ⟨i, hi'⟩ := List.getElem?_of_mem hx
      exact (hp i x hi').2

set_option maxRecDepth 100000 in
/-- what was seen -/
theorem seen_open {r : Reach} {b0 : Nat} {v : Value} {d : DataW H} {p : List MemPlace} (hv : Value.okWide Tryz.prog w r b0 50 v) (h : DataW.Trod enc Tryz.prog w base spare held 50 v d p) :
    ∃ s A cap, v = seenV s A cap ∧ Ints w w.heap.size A s.moves ∧ s.moves.length ≤ cap := by
  obtain ⟨cs, rfl, hsz⟩ := okWide_struct Tryz.underlying50 hv
  obtain ⟨l⟩ := cs
  match l, hsz.trans cellsSeen with
  | [c0, c1, c2, c3, c4, c5, c6, c7, c8, c9, c10, c11], _ =>
    obtain ⟨fuel, hf⟩ := h
    obtain ⟨xs, m, _, _, _, hlen, hg⟩ := DataW.trod_struct Tryz.underlying50 hf
    have h0 := trod_field hg 0 3 0 _ _ rfl rfl rfl cellsInt
    have h1 := trod_field hg 1 3 1 _ _ rfl rfl rfl cellsInt
    have h2 := trod_field hg 2 3 2 _ _ rfl rfl rfl cellsInt
    have h3 := trod_field hg 3 3 3 _ _ rfl rfl rfl cellsInt
    have h4 := trod_field hg 4 3 4 _ _ rfl rfl rfl cellsInt
    have h5 := trod_field hg 5 48 5 _ _ rfl rfl rfl cellsSpan
    have h6 := trod_field hg 6 48 7 _ _ rfl rfl rfl cellsSpan
    have h7 := trod_field hg 7 48 9 _ _ rfl rfl rfl cellsSpan
    have h8 := trod_field hg 8 22 11 _ _ rfl rfl rfl cellsMoves
    simp only [Value.cells, List.drop_succ_cons, List.drop_zero, List.take_succ_cons, List.take_zero] at h0 h1 h2 h3 h4 h5 h6 h7 h8
    have hl : xs.length = 9 := hlen
    obtain ⟨n0, rfl, _⟩ := int_open h0 (isSome_of hl (by omega))
    obtain ⟨n1, rfl, _⟩ := int_open h1 (isSome_of hl (by omega))
    obtain ⟨n2, rfl, _⟩ := int_open h2 (isSome_of hl (by omega))
    obtain ⟨n3, rfl, _⟩ := int_open h3 (isSome_of hl (by omega))
    obtain ⟨n4, rfl, _⟩ := int_open h4 (isSome_of hl (by omega))
    obtain ⟨l5, h5', rfl, rfl, _, _⟩ := span_cells h5 (isSome_of hl (by omega))
    obtain ⟨l6, h6', rfl, rfl, _, _⟩ := span_cells h6 (isSome_of hl (by omega))
    obtain ⟨l7, h7', rfl, rfl, _, _⟩ := span_cells h7 (isSome_of hl (by omega))
    rw [List.getElem?_eq_getElem (by omega)] at h8
    obtain ⟨A, cap, ms, rfl, hi⟩ := ints_open_cap h8
    exact ⟨⟨n0, n1, n2, n3, n4, l5, h5', l6, h6', l7, h7', ms⟩, A, cap, rfl, hi⟩
end

end Go.Proofs.YtfpmkolaiomabaaGreat

namespace Go.Proofs.YtfpmkolaiomabaaGreat
open Go.RowKit

def longD (l : List EntryD) : Bool := l.any (fun x => decide (20 < x.form.moves.length)) || decide (60 < l.length)

theorem longD_true {l : List EntryR} {k : Nat} {x : EntryR} (h : l[k]? = some x) (hx : 20 < x.d.form.moves.length) : longD (l.map (·.d)) = true := by
  simp only [longD, Bool.or_eq_true, List.any_eq_true, decide_eq_true_eq]
  exact .inl ⟨x.d, List.mem_map.2 ⟨x, List.mem_of_getElem? h, rfl⟩, hx⟩
theorem longD_end {l : List EntryR} (h : ∀ j x, j < l.length → l[j]? = some x → x.d.form.moves.length ≤ 20) : longD (l.map (·.d)) = decide (60 < l.length) := by
  have : (l.map (·.d)).any (fun x => decide (20 < x.form.moves.length)) = false := by
    rw [List.any_eq_false]
    intro y hy
    obtain ⟨x, hx, rfl⟩ := List.mem_map.1 hy
    obtain ⟨i, hi⟩ := List.getElem?_of_mem hx
    have := h i x (List.getElem?_eq_some_iff.1 hi).1 hi
    simp; omega
  simp [longD, this]
theorem longD_false {l : List EntryR} (h : longD (l.map (·.d)) = false) : l.length ≤ 60 ∧ ∀ x, x ∈ l → x.d.form.moves.length ≤ 20 := by
  simp only [longD, Bool.or_eq_false_iff, List.any_eq_false, decide_eq_false_iff_not, decide_eq_true_eq] at h
  refine ⟨by simpa using h.2, fun x hx => ?_⟩
  have := h.1 x.d (List.mem_map.2 ⟨x, hx, rfl⟩)
  omega

set_option maxHeartbeats 800000 in
theorem long_any (A : Option Addr) (cap B : Nat) (l : List EntryR) (w : World) (hA : EntsO w B A l) (hl : l.length ≤ 9223372036854775807) :
    Calls Tryz.prog 31 #[.slice A l.length cap] w fun e w' => e = .returned (.bool (longD (l.map (·.d)))) ∧ w = w' := by
  go_enter Tryz.func31, Tryz.ntmps31
  go_wp2
  go_loop [3] (fun i => ∃ k : Nat, k ≤ l.length ∧ i = .int .i64 k ∧ ∀ j x, j < k → l[j]? = some x → x.d.form.moves.length ≤ 20) (fun i => l.length - (intOf i).toNat)
  case atStart => exact ⟨0, Nat.zero_le _, rfl, fun j x hj => by omega⟩
  case round =>
    obtain ⟨k, hk, rfl, hq⟩ := hrel
    by_cases hlt : k < l.length
    · obtain ⟨b, off, x, rfl, hb, hc, _, HX⟩ := hA.at_ hlt
      have hc8 := hc 8 (by omega)
      simp at hc8
      have HQ := Lib.hid hq
      clear hA hc hq
      go_wp2
      · go_ret
        exact ⟨ret_bool (longD_true HX.out (by omega)).symm, rfl⟩
      · go_round
        case rel => exact ⟨k + 1, by omega, by go_num, fun j y hj hy => by
          by_cases he : j < k
          · exact HQ.out j y he hy
          · obtain rfl : j = k := by omega
            have := HX.out.symm.trans hy
            simp at this
            subst this
            simp at *; omega⟩
        case measure => simp [intOf]; omega
    · obtain rfl : k = l.length := by omega
      have HQ := Lib.hid hq
      clear hA hq
      go_wp2
      go_ret
      exact ⟨ret_bool (by rw [longD_end HQ.out]; simp only [decide_eq_decide]; omega), rfl⟩

set_option maxHeartbeats 800000 in
theorem in_any (A : Option Addr) (cap B : Nat) (xs : List Int) (n : Int) (w : World) (hA : Ints w B A xs) (hl : xs.length ≤ 1000000) :
    Calls Tryz.prog 45 #[.slice A xs.length cap, .int .i64 n] w fun e w' => e = .returned (.bool (decide (n ∈ xs))) ∧ w = w' := by
  go_enter Tryz.func45, Tryz.ntmps45
  go_wp2
  go_loop [5] (fun i => ∃ k : Nat, k ≤ xs.length ∧ i = .int .i64 k ∧ n ∉ xs.take k) (fun i => xs.length - (intOf i).toNat)
  case atStart => exact ⟨0, Nat.zero_le _, rfl, by simp⟩
  case round =>
    obtain ⟨k, hk, rfl, hq⟩ := hrel
    have HQ := Lib.hid hq
    clear hq
    by_cases hlt : k < xs.length
    · obtain ⟨b, off, x, rfl, hb, hc, HX⟩ := hA.at_ hlt
      clear hA
      go_wp2
      · go_ret
        exact ⟨ret_bool (by have := List.mem_of_getElem? HX.out; simp at *; subst_vars; exact this), rfl⟩
      · go_round
        case rel => exact ⟨k + 1, by omega, by go_num, by
          rw [List.take_add_one, HX.out]
          have := HQ.out
          simp at *
          exact ⟨this, fun h => by subst_vars; simp at *⟩⟩
        case measure => simp [intOf]; omega
    · obtain rfl : k = xs.length := by omega
      clear hA
      go_wp2
      go_ret
      exact ⟨ret_bool (by have := HQ.out; rw [List.take_length] at this; simpa using this), rfl⟩

end Go.Proofs.YtfpmkolaiomabaaGreat

