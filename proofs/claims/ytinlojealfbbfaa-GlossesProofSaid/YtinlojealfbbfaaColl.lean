/- Coll: the groups of a map, collected in whatever order. -/
import Derived.Test.YtinlojealfbbfaaGatherW
namespace Go.Proofs.Ytinlojealfbbfaa
open Go.RowKit

def grpL (L : List GrpR) (k : Nat) : List GlossD := match L[k]? with
  | some y => y.l
  | none => []
theorem grpL_at {L : List GrpR} {k : Nat} {y : GrpR} (h : L[k]? = some y) : grpL L k = y.l := by unfold grpL; rw [h]
theorem grpL_mem {L : List GrpR} {k : Nat} {x : GlossD} (h : x ∈ grpL L k) : ∃ y, L[k]? = some y ∧ x ∈ y.l := by
  unfold grpL at h
  cases hy : L[k]? with
  | none => rw [hy] at h; cases h
  | some y => rw [hy] at h; exact ⟨y, rfl, h⟩
/-- the messages of the groups that were handed out -/
def collL (L : List GrpR) (seen : List Nat) : List GlossD := seen.flatMap (grpL L)
def collC (L : List GrpR) (seen : List Nat) : Bool := seen.any fun k => decide (1 < (grpL L k).length)
theorem collL_snoc {L : List GrpR} {seen : List Nat} {k : Nat} {y : GrpR} (h : L[k]? = some y) : collL L (seen ++ [k]) = collL L seen ++ y.l := by
  unfold collL
  rw [List.flatMap_append]
  simp [grpL_at h]
theorem collC_snoc {L : List GrpR} {seen : List Nat} {k : Nat} {y : GrpR} (h : L[k]? = some y) : collC L (seen ++ [k]) = (collC L seen || decide (1 < y.l.length)) := by
  unfold collC
  rw [List.any_append]
  simp [grpL_at h]
theorem coll_in {ms : List GlossD} {L : List GrpR} (h : InvG ms L) {seen : List Nat} {x : GlossD} (hx : x ∈ collL L seen) : x ∈ ms := by
  obtain ⟨k, _, hk⟩ := List.mem_flatMap.1 hx
  obtain ⟨y, hy, hxy⟩ := grpL_mem hk
  exact (h.key y (List.mem_of_getElem? hy) x hxy).1
theorem coll_nodup {ms : List GlossD} {L : List GrpR} (h : InvG ms L) : ∀ {seen : List Nat}, seen.Nodup → (collL L seen).Nodup
  | [], _ => by simp [collL]
  | k :: seen, hn => by
    obtain ⟨h1, h2⟩ := List.nodup_cons.1 hn
    have ih := coll_nodup h h2
    show (grpL L k ++ collL L seen).Nodup
    refine List.nodup_append.2 ⟨?_, ih, fun a ha b hb e => ?_⟩
    · cases hy : L[k]? with
      | none => unfold grpL; rw [hy]; exact List.nodup_nil
      | some y => rw [grpL_at hy]; exact h.once y (List.mem_of_getElem? hy)
    · subst e
      obtain ⟨y, hy, hay⟩ := grpL_mem ha
      obtain ⟨j, hj, hbj⟩ := List.mem_flatMap.1 hb
      obtain ⟨z, hz, haz⟩ := grpL_mem hbj
      have ky := h.key y (List.mem_of_getElem? hy) a hay
      have kz := h.key z (List.mem_of_getElem? hz) a haz
      have hne : k ≠ j := fun e => h1 (by rw [e]; exact hj)
      obtain ⟨l1, e1⟩ := List.getElem?_eq_some_iff.1 hy
      obtain ⟨l2, e2⟩ := List.getElem?_eq_some_iff.1 hz
      rcases Nat.lt_or_gt_of_ne hne with g | g
      · have := List.pairwise_iff_getElem.1 h.apart k j l1 l2 g
        rw [e1, e2] at this
        exact this ⟨by rw [← ky.2.1, kz.2.1], by rw [← ky.2.2, kz.2.2]⟩
      · have := List.pairwise_iff_getElem.1 h.apart j k l2 l1 g
        rw [e1, e2] at this
        exact this ⟨by rw [← kz.2.1, ky.2.1], by rw [← kz.2.2, ky.2.2]⟩
theorem coll_len {ms : List GlossD} {L : List GrpR} (h : InvG ms L) {seen : List Nat} (hn : seen.Nodup) : (collL L seen).length ≤ ms.length := nodup_len (coll_nodup h hn) fun _ hx => coll_in h hx
theorem coll_all {ms : List GlossD} {L : List GrpR} (h : InvG ms L) {seen : List Nat} (hall : ∀ k y, L[k]? = some y → k ∈ seen) (x : GlossD) : x ∈ collL L seen ↔ x ∈ ms := by
  refine ⟨coll_in h, fun hx => ?_⟩
  obtain ⟨y, hy, hxy⟩ := h.all x hx
  obtain ⟨k, hk⟩ := List.mem_iff_getElem?.1 hy
  exact List.mem_flatMap.2 ⟨k, hall k y hk, by rw [grpL_at hk]; exact hxy⟩
theorem coll_clash {ms : List GlossD} {L : List GrpR} (h : InvG ms L) {seen : List Nat} (hall : ∀ k y, L[k]? = some y → k ∈ seen) : collC L seen = true ↔ Clash ms := by
  rw [← h.clash]
  unfold collC
  rw [List.any_eq_true]
  constructor
  · rintro ⟨k, _, hk⟩
    have hk := of_decide_eq_true hk
    cases hy : L[k]? with
    | none => unfold grpL at hk; rw [hy] at hk; exact absurd hk (by simp)
    | some y => rw [grpL_at hy] at hk; exact ⟨y, List.mem_of_getElem? hy, hk⟩
  · rintro ⟨y, hy, hl⟩
    obtain ⟨k, hk⟩ := List.mem_iff_getElem?.1 hy
    exact ⟨k, hall k y hk, by rw [grpL_at hk]; exact decide_eq_true hl⟩
/-- messages in their order, each once -/
def SortedG (ms all : List GlossD) : Prop := all.Pairwise (fun x y => cmpG x y < 0) ∧ ∀ x, x ∈ all ↔ x ∈ ms
theorem cmpG_then : cmpG = thenC (fun x y => cmpI x.author y.author) (fun x y => cmpI x.stamp y.stamp) := by
  funext x y
  simp only [cmpG, thenC, orL]
  by_cases h1 : cmpI x.author y.author = 0
  · rw [if_pos h1]
    by_cases h2 : cmpI x.stamp y.stamp = 0
    · simp [h1, h2]
    · simp [h1, h2]
  · rw [if_neg h1]; simp [h1]
theorem cmp_cmpG : Cmp cmpG := by
  rw [cmpG_then]
  exact (cmp_cmpI.on fun x : GlossD => x.author).then_ (cmp_cmpI.on fun x : GlossD => x.stamp)
theorem cmpG_eq0 {x y : GlossD} (h : cmpG x y = 0) : x.author = y.author ∧ x.stamp = y.stamp := by
  rw [cmpG_then] at h
  unfold thenC at h
  by_cases h1 : cmpI x.author y.author = 0
  · rw [if_pos h1] at h; exact ⟨cmpI_eq0 h1, cmpI_eq0 h⟩
  · rw [if_neg h1] at h; exact absurd h h1
theorem SortedG.unique {ms a b : List GlossD} (ha : SortedG ms a) (hb : SortedG ms b) : a = b := sorted_unique cmp_cmpG ha.1 hb.1 fun x => (ha.2 x).trans (hb.2 x).symm
theorem sorted_coll {ms xs ys : List GlossD} (hn : xs.Nodup) (hm : ∀ x, x ∈ xs ↔ x ∈ ms) (hp : ys.Perm xs) (hs : ys.Pairwise fun x y => cmpG x y ≤ 0) (hc : ¬ Clash ms) : SortedG ms ys := by
  have hny := hp.nodup_iff.2 hn
  refine ⟨?_, fun x => hp.mem_iff.trans (hm x)⟩
  have hb := hs.and hny
  rw [List.pairwise_iff_getElem] at hb ⊢
  intro i j li lj hij
  have h := hb i j li lj hij
  have hx : ys[i] ∈ ms := (hm _).1 (hp.mem_iff.1 (List.getElem_mem li))
  have hy : ys[j] ∈ ms := (hm _).1 (hp.mem_iff.1 (List.getElem_mem lj))
  rcases Int.lt_or_le (cmpG ys[i] ys[j]) 0 with g | g
  · exact g
  · have e := cmpG_eq0 (show cmpG ys[i] ys[j] = 0 by omega)
    exact absurd ⟨_, hx, _, hy, e.1, e.2, h.2⟩ hc

end Go.Proofs.Ytinlojealfbbfaa
