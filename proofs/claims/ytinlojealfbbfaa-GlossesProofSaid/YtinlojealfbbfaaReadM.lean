/- ReadM: the errors of messages, as functions. -/
import Derived.Test.YtinlojealfbbfaaColl
namespace Go.Proofs.Ytinlojealfbbfaa
open Go.RowKit

def clashB (ms : List GlossD) : Bool := ms.any fun x => ms.any fun y => decide (x.author = y.author) && (decide (x.stamp = y.stamp) && !decide (x = y))
theorem clashB_iff {ms : List GlossD} : clashB ms = true ↔ Clash ms := by
  unfold clashB Clash
  simp only [List.any_eq_true, Bool.and_eq_true, decide_eq_true_eq, Bool.not_eq_true', decide_eq_false_iff_not]
theorem clashB_of {ms : List GlossD} {cl : Bool} (h : cl = true ↔ Clash ms) : cl = clashB ms := by
  cases cl with
  | true => exact (clashB_iff.2 (h.1 rfl)).symm
  | false =>
    cases hc : clashB ms with
    | true => exact h.2 (clashB_iff.1 hc)
    | false => rfl
def listErr (f : FilmsD) (l : List GlossD) : Int := if okMsgs f l = true then (if clashB l = true then 22 else 0) else 21
def listsErr (f : FilmsD) : List (List GlossD) → Int
  | [] => 0
  | l :: Ls => if listErr f l = 0 then listsErr f Ls else listErr f l
def readErr (f : FilmsD) (Ls : List (List GlossD)) : Int := if okFilms f = true then (if listsErr f Ls = 0 then (if clashB Ls.flatten = true then 22 else 0) else listsErr f Ls) else 20
theorem listErr_bad {f : FilmsD} {l : List GlossD} (h : okMsgs f l = false) : listErr f l = 21 := by unfold listErr; rw [h]; rfl
theorem listErr_clash {f : FilmsD} {l : List GlossD} (h : okMsgs f l = true) (hc : clashB l = true) : listErr f l = 22 := by unfold listErr; rw [h, hc]; rfl
theorem listErr_ok {f : FilmsD} {l : List GlossD} (h : okMsgs f l = true) (hc : clashB l = false) : listErr f l = 0 := by unfold listErr; rw [h, hc]; rfl
theorem listErr_zero {f : FilmsD} {l : List GlossD} (h : listErr f l = 0) : okMsgs f l = true ∧ clashB l = false := by
  unfold listErr at h
  cases h1 : okMsgs f l with
  | false => rw [h1] at h; simp at h
  | true =>
    rw [h1] at h
    cases h2 : clashB l with
    | true => rw [h2] at h; simp at h
    | false => exact ⟨rfl, rfl⟩
theorem listsErr_at {f : FilmsD} : ∀ {Ls : List (List GlossD)} {i : Nat} {l : List GlossD}, Ls[i]? = some l → (∀ j k, j < i → Ls[j]? = some k → listErr f k = 0) → listErr f l ≠ 0 → listsErr f Ls = listErr f l
  | [], i, l, h, _, _ => by simp at h
  | a :: Ls, 0, l, h, _, hn => by
    have h : a = l := by simpa using h
    subst h
    exact if_neg hn
  | a :: Ls, i + 1, l, h, hb, hn => by
    have h0 : listErr f a = 0 := hb 0 a (by omega) rfl
    unfold listsErr
    rw [if_pos h0]
    exact listsErr_at (by simpa using h) (fun j k hj hk => hb (j + 1) k (by omega) (by simpa using hk)) hn
theorem listsErr_ok {f : FilmsD} : ∀ {Ls : List (List GlossD)}, (∀ l ∈ Ls, listErr f l = 0) → listsErr f Ls = 0
  | [], _ => rfl
  | a :: Ls, h => by
    unfold listsErr
    rw [if_pos (h a (List.mem_cons_self ..))]
    exact listsErr_ok fun l hl => h l (List.mem_cons_of_mem _ hl)

end Go.Proofs.Ytinlojealfbbfaa
