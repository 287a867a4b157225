/- SortG: slices.SortFunc at a row of glosses of the call's own. -/
import Derived.Test.YtinlojealfbbfaaShelfF
import Derived.Shelf.SlSortCmp.NoneTotal
import Derived.Test.YtinlojealfbbfaaGather
import Derived.Test.YtinlojealfbbfaaSmall
namespace Go.Proofs.Ytinlojealfbbfaa
open Go.RowKit Go.Sort Go.Shelf

section
variable {α : Type} {enc : α → List Value} {k : Nat}
theorem flatK_list [Inhabited α] (hk : ∀ x, (enc x).length = k) (k0 : 0 < k) (xs : List α) : (flatK enc k xs.toArray).toList = xs.flatMap enc := by
  refine List.ext_getElem? fun t => ?_
  by_cases ht : t < xs.length * k
  · have h1 := get_flatK enc k xs.toArray t (by simpa using ht)
    have hdiv : t / k < xs.length := Nat.div_lt_of_lt_mul (by rwa [Nat.mul_comm])
    have hmod := Nat.mod_lt t k0
    have h2 := flat_get hk xs (t / k) (t % k) hmod
    rw [show t / k * k + t % k = t by rw [Nat.mul_comm]; exact Nat.div_add_mod t k] at h2
    obtain ⟨x, hx⟩ : ∃ x, xs[t / k]? = some x := ⟨_, List.getElem?_eq_getElem hdiv⟩
    have hx2 : xs.toArray[t / k]! = x := by
      rw [getElem!_pos xs.toArray (t / k) (by simpa using hdiv)]
      obtain ⟨_, e⟩ := List.getElem?_eq_some_iff.1 hx
      simpa using e
    have hlx : t % k < (enc x).length := by rw [hk]; exact hmod
    have h3 : (enc x)[t % k]? = some ((enc x)[t % k]!) := by
      rw [getElem!_pos (enc x) (t % k) hlx]
      exact List.getElem?_eq_getElem _
    have h4 : (flatK enc k xs.toArray).toList[t]? = some (flatK enc k xs.toArray)[t]! := by
      have hlt : t < (flatK enc k xs.toArray).size := by rw [size_flatK]; simpa using ht
      rw [Array.getElem?_toList, Array.getElem?_eq_getElem hlt, getElem!_pos _ t hlt]
    rw [h2, hx, Option.bind_some, h3, h4, h1, hx2]
  · rw [List.getElem?_eq_none (by rw [Array.length_toList, size_flatK]; simp; omega), List.getElem?_eq_none (by rw [flat_length hk]; omega)]

theorem holdsK_own [Inhabited α] (hk : ∀ x, (enc x).length = k) (k0 : 0 < k) {w : World} {g : Nat} {cur : Array Value} {e : TypeId} {xs : List α} (hb : w.heap[g]? = some (.cells cur e (0, 0)))
    (ht : cur.toList.take (xs.length * k) = xs.flatMap enc) : HoldsK enc k w g 0 xs.toArray := by
  intro j hj
  have hj' : j < xs.length * k := by simpa using hj
  refine ⟨?_, by simp [World.frozen?, hb]⟩
  have h1 : (cur.toList.take (xs.length * k))[j]? = ((flatK enc k xs.toArray).toList)[j]? := by rw [ht, flatK_list hk k0]
  rw [List.getElem?_take_of_lt hj'] at h1
  simp only [World.cell?, hb, Nat.zero_add]
  simp only [Option.isSome_none, Bool.false_eq_true, if_false]
  rw [← Array.getElem?_toList, h1, Array.getElem?_toList, Array.getElem?_eq_getElem hj, getElem!_pos _ j hj]
  rfl
theorem take_putCellsK (F cur : Array Value) (h : F.size ≤ cur.size) : (putCells id 0 F cur).toList.take F.size = F.toList := by
  apply List.ext_getElem?
  intro j
  by_cases hj : j < F.size
  · rw [List.getElem?_take_of_lt hj, Array.getElem?_toList, Array.getElem?_toList]
    simp [putCells, hj, show j < cur.size by omega]
  · rw [List.getElem?_take_eq_none (by omega), List.getElem?_eq_none (by simp; omega)]
theorem heap_sortedK [Inhabited α] {w : World} {g n : Nat} {os : Array Obj} {cur : Array Value} {e : TypeId} {fr : Nat × Nat} (d : Array α) (hb : w.heap[g]? = some (.cells cur e fr)) :
    (sortWorldK enc k w g 0 n d os).heap[g]? = some (.cells (putCells id 0 (flatK enc k d) cur) e fr) := by
  have hg : g < w.heap.size := (Array.getElem?_eq_some_iff.1 hb).1
  unfold sortWorldK
  rw [heap_grow_old _ _ (by simpa [putRowK] using hg)]
  simp [putRowK, putRow, mapBlock, Sort.ahead, Array.getElem?_modify, hb, onCells]
theorem grownBy_sortedK [Inhabited α] {w : World} {g n : Nat} {os : Array Obj} (d : Array α) : w.grownBy (sortWorldK enc k w g 0 n d os) (some g) := by
  unfold sortWorldK
  refine ⟨rfl, rfl, rfl, by simp [putRowK], fun j hj hne => ?_⟩
  rw [heap_grow_old _ _ (by simpa [putRowK] using hj)]
  have : g ≠ j := fun e => hne (by rw [e])
  simp [putRowK, putRow, mapBlock, Sort.ahead, Array.getElem?_modify, this]

theorem own_sortK [Inhabited α] {P : Program} {ρ : Ren} (L : SlLaysF0.n6 P ρ) (aE : ∀ w, (isAgg (ρ.t 24)).run P w = .ok true w) (zE : ∀ w, (Go.sizeOf (ρ.t 24)).run P w = .ok k w) (hk : ∀ x, (enc x).length = k) (k0 : 0 < k)
    (h1 : ∀ x, ∀ v ∈ enc x, v.oneCell' = true) (cf : α → α → Int) (hO : Cmp cf) (f : Nat) (ef : ∀ args w, (callFunc f args).run P w = .ok (.enter f args) w)
    {w : World} {base n cap : Nat} {e : TypeId} {A : Option Addr} {xs : List α} (h : w.ownsRow base e k (.slice A n cap) n (xs.flatMap enc)) (hx : xs.length ≤ 1000000)
    (hcmp : ∀ g, base ≤ g → g < w.heap.size → CmpLays P f #[] enc k cf g 0 xs.length w) :
    Calls P (ρ.f 6) #[.slice A n cap, .func (.func f) #[] #[]] w fun r w' => r = .returned (.tuple #[]) ∧ ∃ ys : List α, ys.Perm xs ∧ ys.Pairwise (fun x y => cf x y ≤ 0) ∧
      w'.ownsRow base e k (.slice A n cap) n (ys.flatMap enc) ∧ w.grownBy w' (Value.ownBlock (.slice A n cap)) := by
  have hlen : n = xs.length := by
    have h1 := h.1
    rw [flat_length hk] at h1
    exact (Nat.eq_of_mul_eq_mul_right k0 h1).symm
  subst hlen
  rcases h.2 with ⟨h0, h2⟩ | ⟨g, c, cur, hv, hg, hh, h2, h3, h4, h5⟩
  · injection h0 with e1 e2 e3
    subst e1 e3
    have hx : xs = [] := List.eq_nil_of_length_eq_zero h2
    subst hx
    refine (AnyF.slices_SortFunc_none (P := P) { L with } none 0 (.func (.func f) #[] #[]) w).mono ?_
    rintro r w' ⟨rfl, rfl⟩
    exact ⟨rfl, [], List.Perm.refl _, List.Pairwise.nil, h, World.grownBy.refl _ _⟩
  · injection hv with e1 e2 e3
    subst e1 e3
    have hglt : g < w.heap.size := (Array.getElem?_eq_some_iff.1 hh).1
    have hH := holdsK_own hk k0 hh h5
    have hswo : SWO (ltOf cf) := ⟨fun x => by simp [ltOf, hO.self], fun x y z h1 h2 => by
        simp only [ltOf, decide_eq_true_eq] at *; exact hO.lt_le h1 (by omega), fun x y z h1 h2 => by
        simp only [ltOf, decide_eq_false_iff_not] at *
        have e1 := hO.neg x y; have e2 := hO.neg y z; have e3 := hO.neg x z
        have := hO.tr z y x (by omega) (by omega)
        omega⟩
    refine (AnyQ.slices_SortFunc L k aE zE enc hk h1 cf hswo f #[] g 0 cap xs.toArray w ef (by simpa using hcmp g hg hglt) hH hglt (by simp; omega)).mono ?_
    rintro r w' ⟨rfl, d', m, os, hp, hs, rfl⟩
    obtain ⟨hp1, -, hp3⟩ := hp
    have hsz : d'.size = xs.length := by simpa using hp1
    refine ⟨rfl, d'.toList, ?_, ?_, ⟨?_, .inr ⟨g, cap, _, rfl, hg, heap_sortedK d' hh, h2, h3, by simp [putCells, h4], ?_⟩⟩, grownBy_sortedK d'⟩
    · have e1 : d'.extract 0 xs.toArray.size = d' := by rw [← hp1]; simp
      have e2 : xs.toArray.extract 0 xs.toArray.size = xs.toArray := by simp
      rw [e1, e2] at hp3
      simpa using hp3
    · rw [List.pairwise_iff_getElem]
      intro i j hi hj hij
      have hi' : i < d'.size := by simpa using hi
      have hj' : j < d'.size := by simpa using hj
      have := hs i j (Nat.zero_le _) hij (by rw [← hp1]; exact hj')
      rw [getElem!_pos d' i hi', getElem!_pos d' j hj'] at this
      simp only [ltOf, decide_eq_false_iff_not] at this
      have := hO.neg d'[j] d'[i]
      simp only [Array.getElem_toList]
      omega
    · rw [flat_length hk]; simp [hsz]
    · have hfs : (flatK enc k d').size = xs.length * k := by simp [hsz]
      rw [← hfs, take_putCellsK _ _ (by rw [hfs, h4]; exact Nat.mul_le_mul_right k h2)]
      have := flatK_list hk k0 d'.toList
      simpa using this
end


instance : Inhabited GlossD := ⟨⟨0, 0, 0, 0, 0, 0⟩⟩
set_option maxRecDepth 100000 in
theorem sortG_ok : SortGOK := by
  intro w base n cap A xs h hx
  refine (own_sortK (enc := cellsGL) (k := 6) (ρ := _) Try.sortGloss Try.isAgg55 Try.sizeOf55 (fun _ => rfl) (by omega) (fun z v hv => one_gloss z v hv) cmpG cmp_cmpG 79 (fun _ _ => by kernel_rfl) (xs := xs) (e := 55) (base := base) h hx ?_).mono ?_
  · intro g hg hgl m os dk _ x y
    generalize sortWorldK cellsGL 6 w g 0 m dk os = W at *
    exact (inOrder_any x y W).mono fun _ _ ⟨he, hg⟩ => ⟨he, hg.form⟩
  · rintro r w' ⟨rfl, ys, hp, hs, ho, hg⟩
    exact ⟨rfl, ys, hp, hs, ho, hg⟩

end Go.Proofs.Ytinlojealfbbfaa
