/- Inside: the law's inside and in. -/
import Derived.Test.YthehkgpnnndboaaDoorLawM
namespace Go.Proofs.YthehkgpnnndboaaDoor
open Go.RowKit

set_option maxRecDepth 100000 in
set_option maxHeartbeats 4000000 in
theorem inside_any (n a b : Int) (w : World) : Calls Tryd.prog 40 #[.int .i64 n, spanV (a, b)] w fun e w' => e = .returned (.bool (decide (a ≤ n) && decide (n ≤ b))) ∧ Below w.heap.size w w' := by
  go_enter Tryd.func40, Tryd.ntmps40
  go_upto_region 1 with fail
  obtain ⟨W, hW, hg, hf, hsz⟩ := one_block w 33 #[.int .i64 a, .int .i64 b]
  rw [hW]
  clear hW
  have HG := Lib.hid hg
  have hcc := hf.cell
  clear hg hf
  by_cases h1 : a ≤ n
  · have hd1 : decide (a ≤ n) = true := decide_eq_true h1
    by_cases h2 : n ≤ b
    · have hd2 : decide (n ≤ b) = true := decide_eq_true h2
      go_wp2
      go_ret
      exact ⟨ret_bool (by first | rfl | (rw [hd1, hd2]; rfl)), HG.out⟩
    · have hd2 : decide (n ≤ b) = false := decide_eq_false h2
      go_wp2
      go_ret
      exact ⟨ret_bool (by first | rfl | (rw [hd1, hd2]; rfl)), HG.out⟩
  · have hd1 : decide (a ≤ n) = false := decide_eq_false h1
    go_wp2
    go_ret
    exact ⟨ret_bool (by first | rfl | (rw [hd1]; rfl)), HG.out⟩
theorem inside_yes {n a b : Int} (h : a ≤ n ∧ n ≤ b) (w : World) : Calls Tryd.prog 40 #[.int .i64 n, spanV (a, b)] w fun e w' => e = .returned (.bool true) ∧ Below w.heap.size w w' := by
  have h2 := inside_any n a b w
  rwa [decide_eq_true h.1, decide_eq_true h.2] at h2

set_option maxRecDepth 100000 in
set_option maxHeartbeats 4000000 in
theorem in_any (A : Option Addr) (cap : Nat) (l : List Int) (n : Int) (w : World) (hA : Ints w w.heap.size A l) (hl : l.length ≤ 1000000) :
    Calls Tryd.prog 41 #[.slice A l.length cap, .int .i64 n] w fun e w' => e = .returned (.bool (decide (n ∈ l))) ∧ Below w.heap.size w w' := by
  have HPA := Lib.hid (fun (w0 : World) (hw : Grow w w0) => (hA.below hw).more hw.size)
  have HIN : Hid (∀ (k : Nat) (x : Int), l[k]? = some x → x = n → decide (n ∈ l) = true) := Lib.hid (fun k x hx e => decide_eq_true (by rw [← e]; exact List.mem_of_getElem? hx))
  have HNO : Hid ((∀ (i : Nat) (x : Int), i < l.length → l[i]? = some x → x ≠ n) → decide (n ∈ l) = false) := Lib.hid (fun h => decide_eq_false fun hm => by
    obtain ⟨i, hi, e⟩ := List.getElem_of_mem hm
    exact h i _ hi (List.getElem?_eq_getElem hi) e)
  obtain ⟨r, hr⟩ : ∃ z, decide (n ∈ l) = z := ⟨_, rfl⟩
  rw [hr] at HIN HNO ⊢
  clear hr hA
  go_enter Tryd.func41, Tryd.ntmps41
  go_wp2
  go_loopw [5] (fun iv wr => ∃ k : Nat, k ≤ l.length ∧ iv = .int .i64 (k : Nat) ∧ Hid (∀ (i : Nat) (x : Int), i < k → l[i]? = some x → x ≠ n) ∧ Grow w wr) (fun iv _ => l.length - (intOf iv).toNat)
  case atStart => exact ⟨0, Nat.zero_le _, rfl, fun i x hi _ => by omega, Grow.refl _⟩
  case round =>
    obtain ⟨k, hk, rfl, HK, hgr⟩ := hrel
    have HGR := Lib.hid hgr
    clear hgr
    have hk0 : (0 : Int) ≤ (k : Int) := by omega
    by_cases hlt : k < l.length
    · have hd : decide ((k : Int) < (l.length : Int)) = true := decide_eq_true (by omega)
      have hk1 : (k : Int) < (l.length : Int) := by omega
      obtain ⟨b, off, x, rfl, hb, hc, HX⟩ := (HPA.out wr HGR.out).at_ hlt
      by_cases he : x = n
      · have HE := Lib.hid (HIN.out k x HX.out he)
        have heq : (x == n) = true := by rw [beq_iff_eq]; exact he
        subst he
        go_wp2
        go_ret
        exact ⟨ret_bool HE.out.symm, HGR.out⟩
      · have heq : (x == n) = false := beq_eq_false_iff_ne.2 he
        have HK2 : Hid (∀ (i : Nat) (y : Int), i < k + 1 → l[i]? = some y → y ≠ n) := Lib.hid (fun i y hi hy => by
          by_cases e : i = k
          · subst e
            rw [HX.out] at hy
            cases hy
            exact he
          · exact HK.out i y (by omega) hy)
        go_wp2
        go_roundw
        case rel => exact ⟨k + 1, by omega, by go_num, HK2.out, HGR.out⟩
        case measure => simp [intOf]; omega
    · obtain rfl : k = l.length := by omega
      have hd : decide ((l.length : Int) < (l.length : Int)) = false := decide_eq_false (by omega)
      have HE := Lib.hid (HNO.out HK.out)
      go_wp2
      go_ret
      exact ⟨ret_bool HE.out.symm, HGR.out⟩

end Go.Proofs.YthehkgpnnndboaaDoor
