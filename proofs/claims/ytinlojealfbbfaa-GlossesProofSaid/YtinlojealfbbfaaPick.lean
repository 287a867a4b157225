/- Pick: glosses picked by a function. -/
import Derived.Test.YtinlojealfbbfaaSmall
namespace Go.Proofs.Ytinlojealfbbfaa
open Go.RowKit

theorem filter_take_succ {α : Type} {l : List α} {k : Nat} {x : α} {q : α → Bool} (hx : l[k]? = some x) : (l.take (k + 1)).filter q = (l.take k).filter q ++ (if q x = true then [x] else []) := by
  rw [take_snoc hx, List.filter_append]
  congr 1
  cases h : q x <;> simp [h]

set_option maxRecDepth 100000 in
set_option maxHeartbeats 4000000 in
theorem pick1_any (A : Option Addr) (cap B : Nat) (l : List GlossD) (w : World) (hA : GlossAt w B A l) (hl : l.length ≤ 1000) (hB : B ≤ w.heap.size) (g : Nat) (c : Value) (q : GlossD → Bool) (eg : ∀ args w, (callFunc g args).run Try.prog w = .ok (.enter g args) w)
    (hp : ∀ x w', x ∈ l → Grow w w' → Calls Try.prog g #[glossV x, c] w' fun e w'' => e = .returned (.bool (q x)) ∧ Below w'.heap.size w' w'') :
    Calls Try.prog 66 #[.slice A l.length cap, .func (.func g) #[] #[c]] w fun e w' => ∃ A' c', e = .returned (.slice A' (l.filter q).length c') ∧ GlossT w' w.heap.size A' c' (l.filter q) ∧ Below w.heap.size w w' := by
  obtain ⟨j0, hj, hy0, hy1, hy2⟩ := info_parts Try.infoGloss
  have HP := Lib.hid hp
  have HA := Lib.hid (hA.more hB)
  clear hp hA
  go_enter Try.func66, Try.ntmps66
  go_wp2_with fail
  go_loopw [5, 10] (fun v iv wr => ∃ (k n : Nat) (A' : Option Addr) (c' : Nat), k ≤ l.length ∧ iv = .int .i64 k ∧ v = .slice A' n c' ∧ Hid (n = ((l.take k).filter q).length) ∧ n ≤ k ∧ wr.ownsRow w.heap.size 55 6 (.slice A' n c') n (((l.take k).filter q).flatMap cellsGL) ∧ Grow w wr) (fun _ v _ => l.length - (intOf v).toNat)
  case atStart => exact ⟨0, 0, none, 0, Nat.zero_le _, rfl, rfl, rfl, Nat.le_refl _, own_nilG _ _, Grow.refl _⟩
  case round =>
    obtain ⟨k, n, A', c', hk, rfl, rfl, HN, hnk, hown, hgr⟩ := hrel
    rename World => wr
    have HOW := Lib.hid hown
    have HGR := Lib.hid hgr
    clear hown hgr
    by_cases hlt : k < l.length
    · have hld : decide ((k : Int) < (l.length : Int)) = true := decide_eq_true (by omega)
      have hldn : decide (k < l.length) = true := decide_eq_true hlt
      obtain ⟨b, off, x, rfl, hb, hc, HX⟩ := (HA.out.below HGR.out).at_ hlt
      have hki : (k : Int) < (l.length : Int) := by omega
      have hk0 : (0 : Int) ≤ (k : Int) := by omega
      have e0 := hc 0 (by omega); have e1 := hc 1 (by omega); have e2 := hc 2 (by omega); have e3 := hc 3 (by omega); have e4 := hc 4 (by omega); have e5 := hc 5 (by omega)
      rw [Nat.add_zero] at e0
      have HFS := Lib.hid (filter_take_succ (q := q) HX.out)
      clear hc hb
      go_upto_region 5 with fail
      obtain ⟨W3, hW3, hg3, hf3, hsz3⟩ := one_block wr 55 (cellsG x)
      rw [hW3]
      clear hW3
      obtain ⟨b7, e7⟩ : ∃ z, wr.heap.size = z := ⟨_, rfl⟩
      rw [e7] at hf3 hsz3 ⊢
      have HG3 : Hid (Grow wr W3) := Lib.hid hg3
      have HF3 := Lib.hid hf3
      have hgc := hf3.cell
      clear hg3 hf3 e0 e1 e2 e3 e4 e5
      go_wp2_with fail
      refine (HP.out x W3 (List.mem_of_getElem? HX.out) (HGR.out.trans HG3.out)).mono ?_
      rintro e w4 ⟨rfl, hb4⟩
      have HG4 : Hid (Grow wr w4) := Lib.hid (HG3.out.trans hb4)
      have hgc4 := (Grow.block hb4 HF3.out).cell
      clear hgc hb4
      cases hq : q x with
      | true =>
        have HFN : Hid ((l.take (k + 1)).filter q = (l.take k).filter q ++ [x]) := Lib.hid (by rw [HFS.out, hq]; rfl)
        clear hq
        have HOA := Lib.hid (own_grow HOW.out (HG4.out.trans (Grow.alloc w4 (.cells (cellsG x) 55))))
        go_wp2_with (at_builtin; go_loud (refine wpList_append_gloss rfl _ _ 25 rfl w.heap.size 55 j0 (.agg #[.int .i64 0, .int .i64 0, .int .i64 0, .int .i64 0, .int .i64 0, .int .i64 0]) 48 Try.underlying25 hj hy0 hy1 hy2 rfl _ n (((l.take k).filter q).flatMap cellsGL) rfl HOA.out (some ⟨w4.heap.size, 0, none⟩) 1 1 _ [x] rfl rfl (news_gloss (BlockIs.new _ _ _)) ?c2 ?c3 ?c4 ?_))
        case c2 => unfold maxLen; omega
        case c3 => omega
        case c4 => have h1 := HGR.out.size; have h2 := HG4.out.size; simp; omega
        intro v' w5 hown hgr
        obtain ⟨An, cn, rfl⟩ := own_form hown
        have HOW3 : Hid (w5.ownsRow w.heap.size 55 6 (.slice An (n + 1) cn) (n + 1) (((l.take (k + 1)).filter q).flatMap cellsGL)) := Lib.hid (by
          rw [HFN.out, List.flatMap_append]
          exact hown)
        have HG5 : Hid (Grow w w5) := Lib.hid (below_grown (HGR.out.trans (HG4.out.trans (Grow.alloc _ _))) HOA.out hgr (by have h1 := HGR.out.size; have h2 := HG4.out.size; simp; omega))
        have HN3 : Hid (n + 1 = ((l.take (k + 1)).filter q).length) := Lib.hid (by rw [HFN.out, List.length_append, ← HN.out]; rfl)
        clear hown hgr HOA hgc4
        go_wp2
        go_roundw
        case rel => exact ⟨k + 1, n + 1, An, cn, hlt, by go_num, rfl, HN3.out, by omega, HOW3.out, HG5.out⟩
        case measure => simp [intOf]; omega
      | false =>
        have HFN : Hid ((l.take (k + 1)).filter q = (l.take k).filter q) := Lib.hid (by rw [HFS.out, hq]; simp)
        clear hq hgc4
        go_wp2
        go_roundw
        case rel => exact ⟨k + 1, n, A', c', hlt, by go_num, rfl, by rw [HFN.out]; exact HN.out, by omega, by rw [HFN.out]; exact own_grow HOW.out HG4.out, HGR.out.trans HG4.out⟩
        case measure => simp [intOf]; omega
    · obtain rfl : k = l.length := by omega
      have hld : decide ((l.length : Int) < (l.length : Int)) = false := by simp
      have hldn : decide (l.length < l.length) = false := by simp
      have htl : l.take l.length = l := List.take_length
      rw [htl] at HN HOW
      have HO : Hid (GlossT wr w.heap.size A' c' (l.filter q)) := Lib.hid (by
        unfold GlossT
        rw [← HN.out]
        exact HOW.out)
      clear hlt htl HOW
      go_wp2
      go_ret
      exact ⟨A', c', congrArg (fun z => Ending.returned (Value.slice A' z c')) HN.out, HO.out, HGR.out⟩

set_option maxRecDepth 100000 in
set_option maxHeartbeats 4000000 in
theorem pick2_any (A : Option Addr) (cap B : Nat) (l : List GlossD) (w : World) (hA : GlossAt w B A l) (hl : l.length ≤ 1000) (hB : B ≤ w.heap.size) (g : Nat) (c d : Value) (q : GlossD → Bool) (eg : ∀ args w, (callFunc g args).run Try.prog w = .ok (.enter g args) w)
    (hp : ∀ x w', x ∈ l → Grow w w' → Calls Try.prog g #[glossV x, c, d] w' fun e w'' => e = .returned (.bool (q x)) ∧ Below w'.heap.size w' w'') :
    Calls Try.prog 66 #[.slice A l.length cap, .func (.func g) #[] #[c, d]] w fun e w' => ∃ A' c', e = .returned (.slice A' (l.filter q).length c') ∧ GlossT w' w.heap.size A' c' (l.filter q) ∧ Below w.heap.size w w' := by
  obtain ⟨j0, hj, hy0, hy1, hy2⟩ := info_parts Try.infoGloss
  have HP := Lib.hid hp
  have HA := Lib.hid (hA.more hB)
  clear hp hA
  go_enter Try.func66, Try.ntmps66
  go_wp2_with fail
  go_loopw [5, 10] (fun v iv wr => ∃ (k n : Nat) (A' : Option Addr) (c' : Nat), k ≤ l.length ∧ iv = .int .i64 k ∧ v = .slice A' n c' ∧ Hid (n = ((l.take k).filter q).length) ∧ n ≤ k ∧ wr.ownsRow w.heap.size 55 6 (.slice A' n c') n (((l.take k).filter q).flatMap cellsGL) ∧ Grow w wr) (fun _ v _ => l.length - (intOf v).toNat)
  case atStart => exact ⟨0, 0, none, 0, Nat.zero_le _, rfl, rfl, rfl, Nat.le_refl _, own_nilG _ _, Grow.refl _⟩
  case round =>
    obtain ⟨k, n, A', c', hk, rfl, rfl, HN, hnk, hown, hgr⟩ := hrel
    rename World => wr
    have HOW := Lib.hid hown
    have HGR := Lib.hid hgr
    clear hown hgr
    by_cases hlt : k < l.length
    · have hld : decide ((k : Int) < (l.length : Int)) = true := decide_eq_true (by omega)
      have hldn : decide (k < l.length) = true := decide_eq_true hlt
      obtain ⟨b, off, x, rfl, hb, hc, HX⟩ := (HA.out.below HGR.out).at_ hlt
      have hki : (k : Int) < (l.length : Int) := by omega
      have hk0 : (0 : Int) ≤ (k : Int) := by omega
      have e0 := hc 0 (by omega); have e1 := hc 1 (by omega); have e2 := hc 2 (by omega); have e3 := hc 3 (by omega); have e4 := hc 4 (by omega); have e5 := hc 5 (by omega)
      rw [Nat.add_zero] at e0
      have HFS := Lib.hid (filter_take_succ (q := q) HX.out)
      clear hc hb
      go_upto_region 5 with fail
      obtain ⟨W3, hW3, hg3, hf3, hsz3⟩ := one_block wr 55 (cellsG x)
      rw [hW3]
      clear hW3
      obtain ⟨b7, e7⟩ : ∃ z, wr.heap.size = z := ⟨_, rfl⟩
      rw [e7] at hf3 hsz3 ⊢
      have HG3 : Hid (Grow wr W3) := Lib.hid hg3
      have HF3 := Lib.hid hf3
      have hgc := hf3.cell
      clear hg3 hf3 e0 e1 e2 e3 e4 e5
      go_wp2_with fail
      refine (HP.out x W3 (List.mem_of_getElem? HX.out) (HGR.out.trans HG3.out)).mono ?_
      rintro e w4 ⟨rfl, hb4⟩
      have HG4 : Hid (Grow wr w4) := Lib.hid (HG3.out.trans hb4)
      have hgc4 := (Grow.block hb4 HF3.out).cell
      clear hgc hb4
      cases hq : q x with
      | true =>
        have HFN : Hid ((l.take (k + 1)).filter q = (l.take k).filter q ++ [x]) := Lib.hid (by rw [HFS.out, hq]; rfl)
        clear hq
        have HOA := Lib.hid (own_grow HOW.out (HG4.out.trans (Grow.alloc w4 (.cells (cellsG x) 55))))
        go_wp2_with (at_builtin; go_loud (refine wpList_append_gloss rfl _ _ 25 rfl w.heap.size 55 j0 (.agg #[.int .i64 0, .int .i64 0, .int .i64 0, .int .i64 0, .int .i64 0, .int .i64 0]) 48 Try.underlying25 hj hy0 hy1 hy2 rfl _ n (((l.take k).filter q).flatMap cellsGL) rfl HOA.out (some ⟨w4.heap.size, 0, none⟩) 1 1 _ [x] rfl rfl (news_gloss (BlockIs.new _ _ _)) ?c2 ?c3 ?c4 ?_))
        case c2 => unfold maxLen; omega
        case c3 => omega
        case c4 => have h1 := HGR.out.size; have h2 := HG4.out.size; simp; omega
        intro v' w5 hown hgr
        obtain ⟨An, cn, rfl⟩ := own_form hown
        have HOW3 : Hid (w5.ownsRow w.heap.size 55 6 (.slice An (n + 1) cn) (n + 1) (((l.take (k + 1)).filter q).flatMap cellsGL)) := Lib.hid (by
          rw [HFN.out, List.flatMap_append]
          exact hown)
        have HG5 : Hid (Grow w w5) := Lib.hid (below_grown (HGR.out.trans (HG4.out.trans (Grow.alloc _ _))) HOA.out hgr (by have h1 := HGR.out.size; have h2 := HG4.out.size; simp; omega))
        have HN3 : Hid (n + 1 = ((l.take (k + 1)).filter q).length) := Lib.hid (by rw [HFN.out, List.length_append, ← HN.out]; rfl)
        clear hown hgr HOA hgc4
        go_wp2
        go_roundw
        case rel => exact ⟨k + 1, n + 1, An, cn, hlt, by go_num, rfl, HN3.out, by omega, HOW3.out, HG5.out⟩
        case measure => simp [intOf]; omega
      | false =>
        have HFN : Hid ((l.take (k + 1)).filter q = (l.take k).filter q) := Lib.hid (by rw [HFS.out, hq]; simp)
        clear hq hgc4
        go_wp2
        go_roundw
        case rel => exact ⟨k + 1, n, A', c', hlt, by go_num, rfl, by rw [HFN.out]; exact HN.out, by omega, by rw [HFN.out]; exact own_grow HOW.out HG4.out, HGR.out.trans HG4.out⟩
        case measure => simp [intOf]; omega
    · obtain rfl : k = l.length := by omega
      have hld : decide ((l.length : Int) < (l.length : Int)) = false := by simp
      have hldn : decide (l.length < l.length) = false := by simp
      have htl : l.take l.length = l := List.take_length
      rw [htl] at HN HOW
      have HO : Hid (GlossT wr w.heap.size A' c' (l.filter q)) := Lib.hid (by
        unfold GlossT
        rw [← HN.out]
        exact HOW.out)
      clear hlt htl HOW
      go_wp2
      go_ret
      exact ⟨A', c', congrArg (fun z => Ending.returned (Value.slice A' z c')) HN.out, HO.out, HGR.out⟩

end Go.Proofs.Ytinlojealfbbfaa
