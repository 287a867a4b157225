/- GatherM: mathematics of messages gathered by author and stamp. -/
import Derived.Test.YtinlojealfbbfaaGlossM
import Derived.Test.YtinlojealfbbfaaRangeG
namespace Go.Proofs.Ytinlojealfbbfaa
open Go.RowKit

/-- the groups L hold just the messages ms, each once -/
structure InvG (ms : List GlossD) (L : List GrpR) : Prop where
  ne : ∀ y ∈ L, y.l ≠ []
  once : ∀ y ∈ L, y.l.Nodup
  key : ∀ y ∈ L, ∀ x ∈ y.l, x ∈ ms ∧ x.author = y.au ∧ x.stamp = y.st
  all : ∀ x ∈ ms, ∃ y ∈ L, x ∈ y.l
  apart : L.Pairwise fun y z => ¬ (y.au = z.au ∧ y.st = z.st)
theorem InvG.start : InvG [] [] := ⟨by simp, by simp, by simp, by simp, List.Pairwise.nil⟩
/-- is a message among its group? -/
def contD (L : List GrpR) (x : GlossD) : Bool := match findG L x.author x.stamp with
  | some p => p.2.l.any fun z => decide (x = z)
  | none => false
theorem InvG.old {ms : List GlossD} {L : List GrpR} (h : InvG ms L) {x : GlossD} (hc : contD L x = true) : InvG (ms ++ [x]) L := by
  unfold contD at hc
  cases hf : findG L x.author x.stamp with
  | none => rw [hf] at hc; cases hc
  | some p =>
    obtain ⟨j, y⟩ := p
    rw [hf] at hc
    obtain ⟨h1, h2, h3⟩ := findG_some hf
    obtain ⟨z, hz, hxz⟩ := List.any_eq_true.1 hc
    have hxz := of_decide_eq_true hxz
    subst hxz
    refine ⟨h.ne, h.once, fun y hy z hz => ?_, fun z hz => ?_, h.apart⟩
    · have := h.key y hy z hz
      exact ⟨List.mem_append_left _ this.1, this.2⟩
    · rcases List.mem_append.1 hz with hz | hz
      · exact h.all z hz
      · obtain rfl := List.mem_singleton.1 hz
        exact ⟨y, List.mem_of_getElem? h1, by assumption⟩
theorem InvG.new {ms : List GlossD} {L : List GrpR} (h : InvG ms L) {x : GlossD} (hf : findG L x.author x.stamp = none) (A : Option Addr) (c : Nat) : InvG (ms ++ [x]) (L ++ [⟨x.author, x.stamp, A, c, [x]⟩]) := by
  refine ⟨fun y hy => ?_, fun y hy => ?_, fun y hy z hz => ?_, fun z hz => ?_, ?_⟩
  · rcases List.mem_append.1 hy with hy | hy
    · exact h.ne y hy
    · obtain rfl := List.mem_singleton.1 hy; simp
  · rcases List.mem_append.1 hy with hy | hy
    · exact h.once y hy
    · obtain rfl := List.mem_singleton.1 hy; simp
  · rcases List.mem_append.1 hy with hy | hy
    · have := h.key y hy z hz
      exact ⟨List.mem_append_left _ this.1, this.2⟩
    · obtain rfl := List.mem_singleton.1 hy
      obtain rfl := List.mem_singleton.1 hz
      exact ⟨by simp, rfl, rfl⟩
  · rcases List.mem_append.1 hz with hz | hz
    · obtain ⟨y, hy, hzy⟩ := h.all z hz
      exact ⟨y, List.mem_append_left _ hy, hzy⟩
    · obtain rfl := List.mem_singleton.1 hz
      exact ⟨⟨z.author, z.stamp, A, c, [z]⟩, by simp, by simp⟩
  · refine List.pairwise_append.2 ⟨h.apart, by simp, fun y hy z hz => ?_⟩
    obtain rfl := List.mem_singleton.1 hz
    exact findG_none hf y hy
theorem InvG.more {ms : List GlossD} {L : List GrpR} (h : InvG ms L) {x : GlossD} {j : Nat} {y : GrpR} (hf : findG L x.author x.stamp = some (j, y)) (hc : contD L x = false) (A : Option Addr) (c : Nat) : InvG (ms ++ [x]) (L.set j ⟨y.au, y.st, A, c, y.l ++ [x]⟩) := by
  obtain ⟨h1, h2, h3⟩ := findG_some hf
  have hym := List.mem_of_getElem? h1
  have hlt := lt_of_at h1
  have hx : x ∉ y.l := fun hx => by
    unfold contD at hc
    rw [hf] at hc
    have : (y.l.any fun z => decide (x = z)) = true := List.any_eq_true.2 ⟨x, hx, by simp⟩
    exact absurd (this.symm.trans hc) (by decide)
  refine ⟨fun z hz => ?_, fun z hz => ?_, fun z hz u hu => ?_, fun z hz => ?_, ?_⟩
  · rcases List.mem_or_eq_of_mem_set hz with hz | rfl
    · exact h.ne z hz
    · simp
  · rcases List.mem_or_eq_of_mem_set hz with hz | rfl
    · exact h.once z hz
    · exact List.nodup_append.2 ⟨h.once y hym, by simp, fun a ha b hb e => hx (by rw [List.mem_singleton.1 hb] at e; rw [← e]; exact ha)⟩
  · rcases List.mem_or_eq_of_mem_set hz with hz | rfl
    · have := h.key z hz u hu
      exact ⟨List.mem_append_left _ this.1, this.2⟩
    · rcases List.mem_append.1 hu with hu | hu
      · have := h.key y hym u hu
        exact ⟨List.mem_append_left _ this.1, this.2⟩
      · obtain rfl := List.mem_singleton.1 hu
        exact ⟨by simp, h2.symm, h3.symm⟩
  · have hin : ∀ (v : GlossD) (g : GrpR), g ∈ L → v ∈ g.l → ∃ q ∈ L.set j ⟨y.au, y.st, A, c, y.l ++ [x]⟩, v ∈ q.l := fun v g hg hv => by
      obtain ⟨i, hi⟩ := List.mem_iff_getElem?.1 hg
      by_cases e : j = i
      · subst e
        rw [h1] at hi
        obtain rfl := Option.some.inj hi
        exact ⟨⟨y.au, y.st, A, c, y.l ++ [x]⟩, List.mem_set hlt _, List.mem_append_left _ hv⟩
      · exact ⟨g, List.mem_iff_getElem?.2 ⟨i, by rw [List.getElem?_set_ne e]; exact hi⟩, hv⟩
    rcases List.mem_append.1 hz with hz | hz
    · obtain ⟨g, hg, hzg⟩ := h.all z hz
      exact hin z g hg hzg
    · obtain rfl := List.mem_singleton.1 hz
      exact ⟨⟨y.au, y.st, A, c, y.l ++ [z]⟩, List.mem_set hlt _, by simp⟩
  · have e : (L.set j ⟨y.au, y.st, A, c, y.l ++ [x]⟩).map (fun g => (g.au, g.st)) = L.map (fun g => (g.au, g.st)) := by
      rw [List.map_set]
      refine List.ext_getElem? fun i => ?_
      by_cases e : j = i
      · subst e
        rw [List.getElem?_set_self (by simpa using hlt), List.getElem?_map, h1]
        rfl
      · rw [List.getElem?_set_ne e]
    have ha := h.apart
    have hm : ∀ M : List GrpR, M.Pairwise (fun y z => ¬ (y.au = z.au ∧ y.st = z.st)) ↔ (M.map fun g => (g.au, g.st)).Pairwise (fun p q => ¬ (p.1 = q.1 ∧ p.2 = q.2)) := fun M => by rw [List.pairwise_map]
    rw [hm] at ha ⊢
    rw [e]
    exact ha
/-- do messages clash? -/
def Clash (ms : List GlossD) : Prop := ∃ x ∈ ms, ∃ y ∈ ms, x.author = y.author ∧ x.stamp = y.stamp ∧ x ≠ y
theorem InvG.clash {ms : List GlossD} {L : List GrpR} (h : InvG ms L) : (∃ y ∈ L, 1 < y.l.length) ↔ Clash ms := by
  constructor
  · rintro ⟨y, hy, hl⟩
    match hyl : y.l, hl with
    | a :: b :: t, _ =>
      have ha := h.key y hy a (by rw [hyl]; simp)
      have hb := h.key y hy b (by rw [hyl]; simp)
      have ho := h.once y hy
      rw [hyl] at ho
      exact ⟨a, ha.1, b, hb.1, by rw [ha.2.1, hb.2.1], by rw [ha.2.2, hb.2.2], fun e => (List.nodup_cons.1 ho).1 (by rw [e]; simp)⟩
  · rintro ⟨x, hx, y, hy, h1, h2, h3⟩
    obtain ⟨g, hg, hxg⟩ := h.all x hx
    obtain ⟨k, hk, hyk⟩ := h.all y hy
    have kx := h.key g hg x hxg
    have ky := h.key k hk y hyk
    have e : g = k := by
      obtain ⟨i, hi⟩ := List.mem_iff_getElem?.1 hg
      obtain ⟨j, hj⟩ := List.mem_iff_getElem?.1 hk
      obtain ⟨li, ei⟩ := List.getElem?_eq_some_iff.1 hi
      obtain ⟨lj, ej⟩ := List.getElem?_eq_some_iff.1 hj
      rcases Nat.lt_trichotomy i j with q | q | q
      · have := List.pairwise_iff_getElem.1 h.apart i j li lj q
        rw [ei, ej] at this
        exact absurd ⟨by rw [← kx.2.1, ← ky.2.1, h1], by rw [← kx.2.2, ← ky.2.2, h2]⟩ this
      · subst q
        rw [hi] at hj
        exact Option.some.inj hj
      · have := List.pairwise_iff_getElem.1 h.apart j i lj li q
        rw [ei, ej] at this
        exact absurd ⟨by rw [← kx.2.1, ← ky.2.1, h1], by rw [← kx.2.2, ← ky.2.2, h2]⟩ this
    subst e
    refine ⟨g, hg, ?_⟩
    match hgl : g.l with
    | [] => rw [hgl] at hxg; cases hxg
    | [a] =>
      rw [hgl] at hxg hyk
      exact absurd ((List.mem_singleton.1 hxg).trans (List.mem_singleton.1 hyk).symm) h3
    | a :: b :: t => simp

end Go.Proofs.Ytinlojealfbbfaa
