/- RHeld: the specification's held, given its sorted. -/
import Derived.Test.YtinlojealfbbfaaRHolds
namespace Go.Proofs.Ytinlojealfbbfaa
open Go.RowKit

def beforeG (y x : GlossD) : Bool := decide (y.author < x.author) || (decide (y.author = x.author) && decide (y.stamp < x.stamp))
/-- where x belongs in a row in order -/
def posU (acc : List GlossD) (x : GlossD) : Nat := (acc.takeWhile fun y => beforeG y x).length
def insU (acc : List GlossD) (x : GlossD) : List GlossD := if acc[posU acc x]? = some x then acc else acc.take (posU acc x) ++ x :: acc.drop (posU acc x)
def sortU (l : List GlossD) : List GlossD := l.foldl insU []
theorem posU_le (acc : List GlossD) (x : GlossD) : posU acc x ≤ acc.length := (List.takeWhile_prefix _).length_le
theorem insU_len (acc : List GlossD) (x : GlossD) : (insU acc x).length ≤ acc.length + 1 := by
  have h := posU_le acc x
  unfold insU
  split
  · omega
  · rw [List.length_append, List.length_cons, List.length_take, List.length_drop]; omega
theorem sortU_len (l : List GlossD) : (sortU l).length ≤ l.length := by
  have h : ∀ (l acc : List GlossD), (l.foldl insU acc).length ≤ acc.length + l.length := by
    intro l
    induction l with
    | nil => intro acc; simp
    | cons x l ih => intro acc; have h1 := ih (insU acc x); have h2 := insU_len acc x; rw [List.foldl_cons, List.length_cons]; omega
  have := h l []
  simpa [sortU] using this
theorem insU_mem {acc : List GlossD} {x y : GlossD} (h : y ∈ insU acc x) : y ∈ acc ∨ y = x := by
  unfold insU at h
  split at h
  · exact .inl h
  · rcases List.mem_append.1 h with h | h
    · exact .inl (List.mem_of_mem_take h)
    · rcases List.mem_cons.1 h with h | h
      · exact .inr h
      · exact .inl (List.mem_of_mem_drop h)
theorem sortU_mem {l : List GlossD} {y : GlossD} (h : y ∈ sortU l) : y ∈ l := by
  have g : ∀ (l acc : List GlossD), y ∈ l.foldl insU acc → y ∈ acc ∨ y ∈ l := by
    intro l
    induction l with
    | nil => intro acc h; exact .inl h
    | cons x l ih =>
      intro acc h
      rcases ih _ h with h | h
      · rcases insU_mem h with h | rfl
        · exact .inl h
        · exact .inr List.mem_cons_self
      · exact .inr (List.mem_cons_of_mem _ h)
  rcases g l [] h with h | h
  · simp at h
  · exact h
/-- what the specification's sorted gives -/
def RSortOK : Prop := ∀ (l : List GlossD) (A : Option Addr) (cap n : Nat) (w : World), GlossAt w n A l → n ≤ w.heap.size → l.length ≤ 1000 →
  Calls Try.prog 56 #[.slice A l.length cap] w fun e w' => ∃ A' c', e = .returned (.slice A' (sortU l).length c') ∧ GlossT w' w.heap.size A' c' (sortU l) ∧ Below w.heap.size w w'
def rheldD (l : List GlossD) : List GlossD := (sortU l).filter (rHoldsD l)

set_option maxRecDepth 100000 in
set_option maxHeartbeats 4000000 in
theorem rheld_any (HSO : RSortOK) (l : List GlossD) (A : Option Addr) (cap n0 : Nat) (w : World) (hA : GlossAt w n0 A l) (hn : n0 ≤ w.heap.size) (hl : l.length ≤ 1000) :
    Calls Try.prog 48 #[.slice A l.length cap] w fun e w' => ∃ A' c', e = .returned (.slice A' (rheldD l).length c') ∧ GlossT w' w.heap.size A' c' (rheldD l) ∧ Below w.heap.size w w' := by
  obtain ⟨j0, hj, hy0, hy1, hy2⟩ := info_parts Try.infoGloss
  have HS := Lib.hid (HSO l A cap n0 w hA hn hl)
  have HP := Lib.hid (fun (x : GlossD) (w0 : World) (hg : Grow w w0) => rHolds_any x l A cap w0.heap.size w0 (((hA.more hn).below hg).more hg.size) (Nat.le_refl _) hl)
  have HD : Hid (rheldD l = (sortU l).filter (rHoldsD l)) := rfl
  have hsl : (sortU l).length ≤ 1000 := Nat.le_trans (sortU_len l) hl
  generalize rheldD l = res at HD ⊢
  generalize rHoldsD l = q at HD HP
  generalize sortU l = sl at HD HS hsl
  clear hA hn HSO
  go_enter Try.func48, Try.ntmps48
  go_wp2_with (first | (go_at_call 56; refine HS.out.mono ?_; rintro e w1 ⟨As, cs, rfl, hT, hb1⟩))
  have HA := Lib.hid (show GlossAt w1 w1.heap.size As sl from hT.at_)
  have HB1 : Hid (Grow w w1) := hb1
  clear hT hb1 HS
  go_wp2_with fail
  go_loopw [3, 5] (fun v iv wr => ∃ (k n : Nat) (A' : Option Addr) (c' : Nat), k ≤ sl.length ∧ iv = .int .i64 k ∧ v = .slice A' n c' ∧ Hid (n = ((sl.take k).filter q).length) ∧ n ≤ k ∧ wr.ownsRow w1.heap.size 55 6 (.slice A' n c') n (((sl.take k).filter q).flatMap cellsGL) ∧ Grow w1 wr) (fun _ v _ => sl.length - (intOf v).toNat)
  case atStart => exact ⟨0, 0, none, 0, Nat.zero_le _, rfl, rfl, rfl, Nat.le_refl _, own_nilG _ _, Grow.refl _⟩
  case round =>
    obtain ⟨k, n, A', c', hk, rfl, rfl, HN, hnk, hown, hgr⟩ := hrel
    rename World => wr
    have HOW := Lib.hid hown
    have HGR := Lib.hid hgr
    clear hown hgr
    by_cases hlt : k < sl.length
    · have hld : decide ((k : Int) < (sl.length : Int)) = true := decide_eq_true (by omega)
      have hldn : decide (k < sl.length) = true := decide_eq_true hlt
      obtain ⟨b, off, x, rfl, hb, hc, HX⟩ := (HA.out.below HGR.out).at_ hlt
      have hki : (k : Int) < (sl.length : Int) := by omega
      have hk0 : (0 : Int) ≤ (k : Int) := by omega
      have e0 := hc 0 (by omega); have e1 := hc 1 (by omega); have e2 := hc 2 (by omega); have e3 := hc 3 (by omega); have e4 := hc 4 (by omega); have e5 := hc 5 (by omega)
      rw [Nat.add_zero] at e0
      have HFS := Lib.hid (filter_take_succ (q := q) HX.out)
      clear hc
      go_wp2_with fail
      refine (HP.out x wr (HB1.out.trans HGR.out)).mono ?_
      rintro e w4 ⟨rfl, hb4⟩
      have HG4 : Hid (Grow wr w4) := Lib.hid hb4
      have hbw : b < wr.heap.size := Nat.lt_of_lt_of_le hb HGR.out.size
      have f0 := (Grow.cell hb4 e0); have f1 := (Grow.cell hb4 e1); have f2 := (Grow.cell hb4 e2); have f3 := (Grow.cell hb4 e3); have f4 := (Grow.cell hb4 e4); have f5 := (Grow.cell hb4 e5)
      clear hb4 e0 e1 e2 e3 e4 e5 hb hbw
      cases hq : q x with
      | true =>
        have HFN : Hid ((sl.take (k + 1)).filter q = (sl.take k).filter q ++ [x]) := Lib.hid (by rw [HFS.out, hq]; rfl)
        clear hq
        have HOA := Lib.hid (own_grow HOW.out (HG4.out.trans (Grow.alloc w4 (.cells (cellsG x) 55))))
        go_wp2_with (at_builtin; go_loud (refine wpList_append_gloss rfl _ _ 25 rfl w1.heap.size 55 j0 (.agg #[.int .i64 0, .int .i64 0, .int .i64 0, .int .i64 0, .int .i64 0, .int .i64 0]) 48 Try.underlying25 hj hy0 hy1 hy2 rfl _ n (((sl.take k).filter q).flatMap cellsGL) rfl HOA.out (some ⟨w4.heap.size, 0, none⟩) 1 1 _ [x] rfl rfl (news_gloss (BlockIs.new _ _ _)) ?c2 ?c3 ?c4 ?_))
        case c2 => unfold maxLen; omega
        case c3 => omega
        case c4 => have h1 := HGR.out.size; have h2 := HG4.out.size; simp; omega
        intro v' w5 hown hgr
        obtain ⟨An, cn, rfl⟩ := own_form hown
        have HOW3 : Hid (w5.ownsRow w1.heap.size 55 6 (.slice An (n + 1) cn) (n + 1) (((sl.take (k + 1)).filter q).flatMap cellsGL)) := Lib.hid (by
          rw [HFN.out, List.flatMap_append]
          exact hown)
        have HG5 : Hid (Grow w1 w5) := Lib.hid (below_grown (HGR.out.trans (HG4.out.trans (Grow.alloc _ _))) HOA.out hgr (by have h1 := HGR.out.size; have h2 := HG4.out.size; simp; omega))
        have HN3 : Hid (n + 1 = ((sl.take (k + 1)).filter q).length) := Lib.hid (by rw [HFN.out, List.length_append, ← HN.out]; rfl)
        clear hown hgr HOA
        go_wp2
        go_roundw
        case rel => exact ⟨k + 1, n + 1, An, cn, hlt, by go_num, rfl, HN3.out, by omega, HOW3.out, HG5.out⟩
        case measure => simp [intOf]; omega
      | false =>
        have HFN : Hid ((sl.take (k + 1)).filter q = (sl.take k).filter q) := Lib.hid (by rw [HFS.out, hq]; simp)
        clear hq
        go_wp2
        go_roundw
        case rel => exact ⟨k + 1, n, A', c', hlt, by go_num, rfl, by rw [HFN.out]; exact HN.out, by omega, by rw [HFN.out]; exact own_grow HOW.out HG4.out, HGR.out.trans HG4.out⟩
        case measure => simp [intOf]; omega
    · obtain rfl : k = sl.length := by omega
      have hld : decide ((sl.length : Int) < (sl.length : Int)) = false := by simp
      have hldn : decide (sl.length < sl.length) = false := by simp
      have htl : sl.take sl.length = sl := List.take_length
      rw [htl] at HN HOW
      rw [← HD.out] at HN HOW
      have HO : Hid (GlossT wr w1.heap.size A' c' res) := Lib.hid (by
        unfold GlossT
        rw [← HN.out]
        exact HOW.out)
      clear hlt htl HOW
      go_wp2
      go_ret
      exact ⟨A', c', congrArg (fun z => Ending.returned (Value.slice A' z c')) HN.out, HO.out.mono HB1.out.size, HB1.out.trans HGR.out⟩

end Go.Proofs.Ytinlojealfbbfaa
