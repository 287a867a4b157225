/- Subs: all groups within a group, in ascending order, as the program yields them. -/
import Derived.Test.YtcgnibfcjadnjaaMeth
namespace Go.Proofs.Ytcgnibfcjadnjaa
open Go.RowKit Go.Shelf

attribute [local go_sem] Oper.semAt_some

theorem round_wide {P : Program} {n m l : Nat} {f : FuncId} {tmps : Array Value} {assign body : Code} {w : World} {R : Ending → World → Prop} (h : RoundIn Fence.wide n P l f tmps assign body w R) : RoundIn Fence.wide m P l f tmps assign body w R :=
  ⟨h.1, fun c cs _ => h.2 c cs (by simp [Fence.room, Fence.wide])⟩
theorem ownFrom_size {β : Type} (B n : Nat) : OwnFrom B (fun (_ : β) W => n ≤ W.heap.size) := fun _ _ _ _ hs hg _ => Nat.le_trans hs hg.size
/-- a block of cells stays where only what is no cells turns -/
theorem block_own {X Y : World} {B q : Nat} {t : TypeId} {cs : Array Value} {row : Option Nat} (h : BlockIs X q t cs) (hg : X.grownBy Y row) (hr : ∀ r, row = some r → B ≤ r ∧ ∃ o : Obj, X.heap[r]? = some o ∧ o.isCells = false) : BlockIs Y q t cs :=
  h.grown hg (fun e => by
    obtain ⟨_, o, ho, hc⟩ := hr q e.symm
    rw [show X.heap[q]? = _ from h] at ho
    cases ho
    cases hc)
theorem block_ownF (B q : Nat) (t : TypeId) (cs : Array Value) {β : Type} : OwnFrom B (fun (_ : β) W => BlockIs W q t cs) := fun _ _ _ _ hs hg hr => block_own hs hg hr
theorem own_more {β : Type} {B B' : Nat} {I : β → World → Prop} (h : OwnFrom B I) (hB : B ≤ B') : OwnFrom B' I := fun s X Y row hs hg hr => h s X Y row hs hg fun r e => ⟨by have := (hr r e).1; omega, (hr r e).2⟩
theorem own_grown {β : Type} {B : Nat} {I : β → World → Prop} (h : OwnFrom B I) {s : β} {X Y : World} (hg : Grow X Y) (hs : I s X) : I s Y := h s X Y none hs hg.grown fun r e => by cases e

/-- the groups within g -/
def subsF (g : Nat) : List (Fin 32) := (List.finRange 32).filter fun x => subN x.val g
theorem subsF_vals : ∀ g < 32, (subsF g).map (·.val) = subsL g := by decide +kernel
theorem subsF_len : ∀ g < 32, (subsF g).length ≤ 32 := by decide +kernel
theorem subsF_zero : ∀ g < 32, (subsF g)[0]?.map (·.val) = some 0 := by decide +kernel
def stepB (g k : Nat) : Bool := match (subsF g)[k]? with
  | none => true
  | some x => decide (x.val = g) || (match (subsF g)[k + 1]? with
    | none => false
    | some y => decide (nextN x.val g = y.val) && decide (x.val < y.val) && decide (y.val ≤ g))
theorem stepB_all : ∀ g < 32, ∀ k < 32, stepB g k = true := by decide +kernel
theorem subsF_step (g : Nat) (hg : g < 32) (k : Nat) (hk : k < 32) (x : Fin 32) (hx : (subsF g)[k]? = some x) (hne : x.val ≠ g) : ∃ y, (subsF g)[k + 1]? = some y ∧ nextN x.val g = y.val ∧ x.val < y.val ∧ y.val ≤ g := by
  have h := stepB_all g hg k hk
  unfold stepB at h
  rw [hx] at h
  dsimp only at h
  rw [decide_eq_false hne, Bool.false_or] at h
  cases hy : (subsF g)[k + 1]? with
  | none => rw [hy] at h; cases h
  | some y =>
    rw [hy] at h
    dsimp only at h
    rw [Bool.and_eq_true, Bool.and_eq_true, decide_eq_true_iff, decide_eq_true_iff, decide_eq_true_iff] at h
    exact ⟨y, rfl, h.1.1, h.1.2, h.2⟩
def endB (g k : Nat) : Bool := match (subsF g)[k]? with
  | none => true
  | some x => !decide (x.val = g) || decide ((subsF g).length = k + 1)
theorem endB_all : ∀ g < 32, ∀ k < 32, endB g k = true := by decide +kernel
theorem subsF_end (g : Nat) (hg : g < 32) (k : Nat) (hk : k < 32) (x : Fin 32) (hx : (subsF g)[k]? = some x) (he : x.val = g) : (subsF g).length = k + 1 := by
  have h := endB_all g hg k hk
  unfold endB at h
  rw [hx] at h
  dsimp only at h
  rw [decide_eq_true he, Bool.not_true, Bool.false_or] at h
  exact of_decide_eq_true h
theorem subsF_mem {g : Nat} {x : Fin 32} : x ∈ subsF g ↔ subN x.val g = true := by
  unfold subsF
  rw [List.mem_filter]
  exact ⟨fun h => h.2, fun h => ⟨List.mem_finRange x, h⟩⟩

set_option maxRecDepth 100000 in
set_option maxHeartbeats 2000000 in
theorem subs_stops (g : Nat) (hg : g < 32) (w : World) :
    SeqN Try.prog 68 (fun y => #[.int .i64 (g : Nat)] ++ #[y] ++ #[]) (fun x : Fin 32 => #[.int .i64 (x.val : Nat)]) (fun ys => ys = subsF g) (fun pre => ∃ k, k ≤ (subsF g).length ∧ pre = (subsF g).take k) 32 w := by
  intro l J Jx W hW hJ _ hY h0
  show CallsIn Fence.wide 8 Try.prog 68 #[.int .i64 (g : Nat), .func (.yield l) #[] #[]] W _
  have hro : Fence.wide.round = none := rfl
  have HLE := Lib.hid (subsF_len g hg)
  obtain ⟨S, hS⟩ : ∃ z, subsF g = z := ⟨_, rfl⟩
  have HST := Lib.hid (subsF_step g hg)
  have HEN := Lib.hid (subsF_end g hg)
  have HZE := Lib.hid (subsF_zero g hg)
  rw [hS] at HLE HST HEN HZE ⊢
  have HZ0 : Hid (∃ x, S[0]? = some x ∧ x.val = 0) := Lib.hid (by
    have h := HZE.out
    cases hx : S[0]? with
    | none => rw [hx] at h; cases h
    | some x => rw [hx] at h; exact ⟨x, rfl, by simpa using h⟩)
  clear hS HZE
  refine callsIn_of_wp Try.func68 rfl trivial ?_ hro
  simp only [Try.ntmps68, List.size_toArray, List.length_cons, List.length_nil, Nat.reduceAdd, Nat.reduceSub, Array.replicate_succ, Array.replicate_zero, List.push_toArray, List.append_toArray, List.nil_append, List.cons_append]
  gi_wp2
  gi_loopw [4] (fun i wr => ∃ (k : Nat) (x : Fin 32), k < 32 ∧ Hid (S[k]? = some x) ∧ i = .int .i64 (x.val : Nat) ∧ x.val ≤ g ∧ J (S.take k) wr)
    (fun i _ => g - (intOf i).toNat)
  case atStart =>
    obtain ⟨x, hx, hx0⟩ := HZ0.out
    exact ⟨0, x, by omega, hx, by rw [hx0]; rfl, by omega, h0⟩
  case round =>
    obtain ⟨k, x, hk, HX, rfl, hxg, hJs⟩ := hrel
    have HTK := Lib.hid (take_snoc HX.out)
    have HLK : Hid (k + 1 ≤ S.length) := Lib.hid (lt_of_at HX.out)
    have hlen : (S.take k).length < 32 := Nat.lt_of_le_of_lt (List.length_take_le _ _) hk
    have hST := HST.out k hk x HX.out
    have hEN := HEN.out k hk x HX.out
    have HNI := Lib.hid (next_i64 g hg x.val x.isLt)
    obtain ⟨fn, tmps, assign, body, hy, hR⟩ := hY _ x wr hJs hlen
    obtain ⟨xv, hxv⟩ : ∃ z, x.val = z := ⟨_, rfl⟩
    rw [hxv] at hy hST hEN HNI hxg ⊢
    have HXV := Lib.hid hxv
    clear hxv
    by_cases hxe : xv = g
    · subst hxe
      have hne : (((xv : Nat) : Int) != (xv : Int)) = false := by simp
      have HE := Lib.hid (hEN rfl)
      clear hST hEN HNI
      gi_wp2
      refine (round_wide hR).mono ?_
      rintro e W3 (⟨rfl, hJ3⟩ | ⟨rfl, hJx3⟩)
      · gi_wp2
        go_end0
        exact ⟨⟨_, rfl⟩, .inl ⟨_, rfl, by rw [← HTK.out] at hJ3; rw [← HE.out, List.take_length] at hJ3; exact hJ3⟩⟩
      · gi_wp2
        go_end0
        exact ⟨⟨_, rfl⟩, .inr ⟨_, ⟨k + 1, HLK.out, HTK.out.symm⟩, hJx3⟩⟩
    · have hne : (((xv : Nat) : Int) != (g : Int)) = true := by simp; omega
      obtain ⟨y, hy1, hy2, hy3, hy4⟩ := hST hxe
      have HY1 := Lib.hid hy1
      have HK32 : Hid (k + 1 < 32) := Lib.hid (by have := lt_of_at hy1; have := HLE.out; omega)
      have hwr : IntKind.i64.wrap ((xv : Int) - (g : Int)) = (xv : Int) - (g : Int) := IntWalk.i64_in _ (by omega)
      have hnx2 : bits .and .i64 ((xv : Int) - (g : Int)) (g : Int) = ((y.val : Nat) : Int) := by rw [HNI.out, hy2]
      clear hST hEN HNI hy1 hy2
      gi_wp2
      refine (round_wide hR).mono ?_
      rintro e W3 (⟨rfl, hJ3⟩ | ⟨rfl, hJx3⟩)
      · gi_wp2
        go_roundw
        case rel => exact ⟨k + 1, y, HK32.out, HY1, rfl, hy4, by rw [HTK.out]; exact hJ3⟩
        case measure => simp [intOf]; omega
      · gi_wp2
        go_end0
        exact ⟨⟨_, rfl⟩, .inr ⟨_, ⟨k + 1, HLK.out, HTK.out.symm⟩, hJx3⟩⟩

end Go.Proofs.Ytcgnibfcjadnjaa
