/- EnterL: mathematics of SignsEntered: books that are entered otherwise. -/
import Derived.Test.YtfpmkolaiomabaaGreatMergeL
import Derived.Test.YtfpmkolaiomabaaGreatAsk
import Derived.Test.YtfpmkolaiomabaaGreatTwinsWalk
namespace Go.Proofs.YtfpmkolaiomabaaGreat
open Go.RowKit

/-- y is x, or x with its mirror form -/
def Like (y x : EntryD) : Prop := y = x ∨ y = { x with form := mirrorD x.form }
theorem Like.canon {x y : EntryD} (h : Like y x) (hx : okEntry x = true) : canonE y = canonE x ∧ okEntry y = true := by
  rcases h with rfl | rfl
  · exact ⟨rfl, hx⟩
  · have hf := okEntry_okForm hx
    refine ⟨?_, ?_⟩
    · unfold canonE
      dsimp only
      rw [canon_mirror hf]
    · simp only [okEntry, Bool.and_eq_true] at hx ⊢
      exact ⟨hx.1, hx.2.1, hx.2.2.1, hx.2.2.2.1, hx.2.2.2.2.1, hx.2.2.2.2.2.1, okForm_mirror hf⟩
theorem sign_of {x y : EntryD} (h : canonE x = canonE y) : x.sign = y.sign := by
  have := congrArg EntryD.sign h
  exact this
theorem id_of {x y : EntryD} (h : canonE x = canonE y) : x.id = y.id := by
  have := congrArg EntryD.id h
  exact this
/-- two slices of entries lead to the same book -/
def SameBook (ld md : List EntryD) : Prop := (∀ y ∈ md, ∃ x ∈ ld, canonE y = canonE x) ∧ (∀ x ∈ ld, ∃ y ∈ md, canonE y = canonE x)
theorem SameBook.symm {ld md : List EntryD} (h : SameBook ld md) : SameBook md ld :=
  ⟨fun x hx => (h.2 x hx).imp fun _ k => ⟨k.1, k.2.symm⟩, fun y hy => (h.1 y hy).imp fun _ k => ⟨k.1, k.2.symm⟩⟩
section
variable {ld md : List EntryD}
theorem SameBook.book (h : SameBook ld md) {b : List EntryD} (hb : IsBookOf ld b) : IsBookOf md b :=
  ⟨fun y => (hb.mem y).trans ⟨fun ⟨x, hx, e⟩ => by
    obtain ⟨z, hz, k⟩ := h.2 x hx
    exact ⟨z, hz, k.trans e⟩, fun ⟨z, hz, e⟩ => by
    obtain ⟨x, hx, k⟩ := h.1 z hz
    exact ⟨x, hx, k.symm.trans e⟩⟩, hb.once⟩
theorem SameBook.order (h : SameBook ld md) {r : List Int} (hr : OrderD ld r) : OrderD md r := by
  obtain ⟨ys, h1, h2, h3⟩ := hr
  exact ⟨ys, h1, h.book h2, h3⟩
theorem SameBook.found (h : SameBook ld md) {s : SeenD} {r : List Int} (hr : FoundD s ld r) : FoundD s md r :=
  ⟨hr.1, fun n => (hr.2 n).trans ⟨fun ⟨x, hx, ha, e⟩ => by
    obtain ⟨z, hz, k⟩ := h.2 x hx
    refine ⟨z, hz, by rw [k]; exact ha, ?_⟩
    have := congrArg EntryD.sign k
    exact this.trans e, fun ⟨z, hz, ha, e⟩ => by
    obtain ⟨x, hx, k⟩ := h.1 z hz
    refine ⟨x, hx, by rw [← k]; exact ha, ?_⟩
    have := congrArg EntryD.sign k
    exact this.symm.trans e⟩⟩
theorem SameBook.foundL (h : SameBook ld md) (s : SeenD) : foundL s md = foundL s ld := (foundL_of s md).unique (h.found (foundL_of s ld))
theorem SameBook.ask (h : SameBook ld md) {s : SeenD} (h1 : findErr ld s = 0) (h2 : findErr md s = 0) : askR md s = askR ld s := by
  have e : askG md s = askG ld s := by
    funext p
    unfold askG maxD
    congr 1
    funext m v
    rw [h.foundL]
  unfold askR
  rw [h1, h2, h.foundL, e]
theorem SameBook.twins (h : SameBook ld md) {r : List (Int × Int)} (hr : TwinsD ld r) : TwinsD md r :=
  ⟨hr.1, fun p => (hr.2 p).trans ⟨fun ⟨x, hx, y, hy, ht, e⟩ => by
    obtain ⟨x', hx', kx⟩ := h.2 x hx
    obtain ⟨y', hy', ky⟩ := h.2 y hy
    have e1 : x'.sign = x.sign := sign_of kx
    have e2 : y'.sign = y.sign := sign_of ky
    exact ⟨x', hx', y', hy', by rw [kx, ky]; exact ht, by rw [e1, e2]; exact e⟩, fun ⟨x', hx', y', hy', ht, e⟩ => by
    obtain ⟨x, hx, kx⟩ := h.1 x' hx'
    obtain ⟨y, hy, ky⟩ := h.1 y' hy'
    have e1 : x'.sign = x.sign := sign_of kx
    have e2 : y'.sign = y.sign := sign_of ky
    exact ⟨x, hx, y, hy, by rw [← kx, ← ky]; exact ht, by rw [← e1, ← e2]; exact e⟩⟩⟩
theorem SameBook.agreed (h : SameBook ld md) (ha : Agreed ld) : Agreed md := fun x hx y hy hid => by
  obtain ⟨x', hx', kx⟩ := h.1 x hx
  obtain ⟨y', hy', ky⟩ := h.1 y hy
  rw [kx, ky]
  refine ha x' hx' y' hy' ?_
  have e1 : x.id = x'.id := id_of kx
  have e2 : y.id = y'.id := id_of ky
  rw [← e1, ← e2]; exact hid
theorem bookErr_zero {l : List EntryD} (h1 : l.length ≤ 40) (h2 : ∀ x ∈ l, okEntry x = true) (h3 : Agreed l) : bookErr l = 0 := by
  unfold bookErr
  rw [if_pos, if_pos (readD_isSome.2 h3)]
  rw [Bool.and_eq_true, decide_eq_true_eq, List.all_eq_true]
  exact ⟨h1, h2⟩
theorem findErr_zero {l : List EntryD} {s : SeenD} (h : bookErr l = 0) (hs : okSeen s = true) : findErr l s = 0 := by
  unfold findErr
  rw [if_pos h, if_pos hs]
theorem dist_same (h : SameBook ld md) (hl : ∀ x ∈ ld, okEntry x = true) (hm : ∀ x ∈ md, okEntry x = true) (ha : Agreed ld) : distTo md 100 = distTo ld 100 :=
  sorted_dist hl (h.symm.book (distTo_book hm (h.agreed ha))) ((distTo_sorted md 100).imp fun h => by
    have := cmpI_neg.2 h
    show cmpI _ _ ≤ 0
    omega)
theorem mergeErr_left {l : List EntryD} (h : bookErr l = 0) : mergeErr [] l = 0 ∧ mergeL [] l = distTo l 100 := by
  have hb := bookErr_ok h
  have e : mergeErr [] l = 0 := by
    unfold mergeErr
    rw [if_neg (show ¬bookErr [] ≠ 0 by decide), if_neg (by simpa using h), List.nil_append, if_neg (by have := (distTo_book hb.2.1 hb.2.2).length; omega), clashD_eq.2 hb.2.2]
    rfl
  exact ⟨e, by unfold mergeL; rw [if_pos e, List.nil_append]⟩
theorem mergeErr_right {l : List EntryD} (h : bookErr l = 0) : mergeErr l [] = 0 ∧ mergeL l [] = distTo l 100 := by
  have hb := bookErr_ok h
  have e : mergeErr l [] = 0 := by
    unfold mergeErr
    rw [if_neg (by simpa using h), if_neg (show ¬bookErr [] ≠ 0 by decide), List.append_nil, if_neg (by have := (distTo_book hb.2.1 hb.2.2).length; omega), clashD_eq.2 hb.2.2]
    rfl
  exact ⟨e, by unfold mergeL; rw [if_pos e, List.append_nil]⟩
end

/-- zs are the first k entries of l from the place t on, some of them by their mirror forms -/
def RotAt (l : List EntryR) (t k : Nat) (zs : List EntryR) : Prop := zs.length = k ∧ ∀ i z, zs[i]? = some z → ∃ x, l[(i + t) % l.length]? = some x ∧ Like z.d x.d
theorem RotAt.start (l : List EntryR) (t : Nat) : RotAt l t 0 [] := ⟨rfl, fun i z h => by simp at h⟩
theorem RotAt.push {l : List EntryR} {t k : Nat} {zs : List EntryR} {x z : EntryR} (h : RotAt l t k zs) (hx : l[(k + t) % l.length]? = some x) (hz : Like z.d x.d) : RotAt l t (k + 1) (zs ++ [z]) := by
  refine ⟨by rw [List.length_append, h.1]; rfl, fun i u hu => ?_⟩
  by_cases hi : i < zs.length
  · rw [List.getElem?_append_left hi] at hu
    exact h.2 i u hu
  · rw [List.getElem?_append_right (by omega)] at hu
    have h0 : i - zs.length = 0 := by
      have := lt_of_at hu
      simp at this
      omega
    rw [h0] at hu
    have hu : z = u := by simpa using hu
    subst hu
    have : i = k := by have := h.1; omega
    subst this
    exact ⟨x, hx, hz⟩
theorem rot_place {n t j : Nat} (hj : j < n) : ((j + (n - t % n)) % n + t) % n = j := by
  rw [Nat.mod_add_mod]
  have h1 : t % n < n := Nat.mod_lt _ (by omega)
  have h2 := Nat.div_add_mod t n
  have e : j + (n - t % n) + t = j + n * (t / n + 1) := by
    rw [Nat.mul_add, Nat.mul_one]
    omega
  rw [e, Nat.add_mul_mod_self_left, Nat.mod_eq_of_lt hj]
theorem RotAt.same {l : List EntryR} {t : Nat} {zs : List EntryR} (h : RotAt l t l.length zs) (hl : ∀ x ∈ l, okEntry x.d = true) : SameBook (l.map fun y : EntryR => y.d) (zs.map fun y : EntryR => y.d) ∧ ∀ z ∈ zs, okEntry z.d = true := by
  have key : ∀ z ∈ zs, ∃ x ∈ l, canonE z.d = canonE x.d ∧ okEntry z.d = true := fun z hz => by
    obtain ⟨i, hi⟩ := List.mem_iff_getElem?.1 hz
    obtain ⟨x, hx, hlk⟩ := h.2 i z hi
    have hxl := List.mem_of_getElem? hx
    exact ⟨x, hxl, hlk.canon (hl x hxl)⟩
  refine ⟨⟨fun y hy => ?_, fun x hx => ?_⟩, fun z hz => ?_⟩
  · obtain ⟨z, hz, rfl⟩ := List.mem_map.1 hy
    obtain ⟨x, hx, e, _⟩ := key z hz
    exact ⟨x.d, List.mem_map.2 ⟨x, hx, rfl⟩, e⟩
  · obtain ⟨x0, hx0, rfl⟩ := List.mem_map.1 hx
    clear hx
    obtain ⟨j, hj⟩ := List.mem_iff_getElem?.1 hx0
    have hjl := lt_of_at hj
    have hi : (j + (l.length - t % l.length)) % l.length < zs.length := by rw [h.1]; exact Nat.mod_lt _ (by omega)
    obtain ⟨x', hx', hlk⟩ := h.2 _ _ (List.getElem?_eq_getElem hi)
    rw [rot_place hjl, hj] at hx'
    obtain rfl := Option.some.inj hx'
    exact ⟨_, List.mem_map.2 ⟨_, List.getElem_mem hi, rfl⟩, (hlk.canon (hl _ (List.mem_of_getElem? hj))).1⟩
  · obtain ⟨x, _, _, h⟩ := key z hz
    exact h
theorem SameBook.twice {ld md : List EntryD} {y : EntryD} (h : SameBook ld md) (hy : y ∈ md) : SameBook ld (md ++ [y]) :=
  ⟨fun z hz => by
    rcases List.mem_append.1 hz with hz | hz
    · exact h.1 z hz
    · rw [List.mem_singleton] at hz
      subst hz
      exact h.1 z hy, fun x hx => (h.2 x hx).imp fun z k => ⟨List.mem_append_left _ k.1, k.2⟩⟩

end Go.Proofs.YtfpmkolaiomabaaGreat
