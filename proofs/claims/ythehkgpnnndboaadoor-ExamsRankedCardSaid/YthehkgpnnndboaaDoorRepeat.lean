/- Repeat: slices.Repeat at a row of one span; written by wip/tools/repeat9.py. -/
import Derived.Test.YthehkgpnnndboaaDoorRowC
namespace Go.Proofs.YthehkgpnnndboaaDoor
open Go.RowKit

theorem below_setRow_ {B g : Nat} {w0 w : World} (hb : Below B w0 w) (hBg : B ≤ g) (cs : Array Value) : Below B w0 (w.setRow g cs) :=
  hb.trans ⟨rfl, rfl, rfl, by simp [World.setRow], fun k hk => setRow_other w g k cs (by omega)⟩
set_option maxRecDepth 100000 in
set_option maxHeartbeats 8000000 in
theorem repeat_any (x : Int × Int) (q n : Nat) (w : World) (hq : BlockIs w q 33 (cellsS x)) (h1 : 1 ≤ n) (hn : n ≤ 31) :
    Calls Tryd.prog 55 #[.slice (some ⟨q, 0, none⟩) 1 1, .int .i64 (n : Nat)] w fun e w' => e = .returned (.slice (some ⟨w.heap.size, 0, none⟩) n n) ∧ BlockIs w' w.heap.size 33 (rowC (fun _ => x) n) ∧ Below w.heap.size w w' := by
  have HMU := Lib.hid (fun w0 => mul_any n w0 (by omega))
  have hmk : ∀ w0, (Instr.makeSlice 36 (.int .i64 (n : Int)) (.int .i64 (n : Int))).run Tryd.prog w0 = .ok (.slice (some ⟨w0.heap.size, 0, none⟩) n n) (w0.alloc (.cells (rowC (fun _ => (0, 0)) n) 33)) := fun w0 => make_spans n w0 (by omega)
  have hlt : ¬ (n : Int) < 0 := by omega
  have hu1 : IntKind.u64.wrap (n : Int) = (n : Int) := Mul64.wrapN n (by omega)
  have hu2 : IntKind.i64.wrap (n : Int) = (n : Int) := IntWalk.i64_in _ (by omega)
  have hu3 : ¬ (9223372036854775807 : Int) < (n : Int) := by omega
  have HQ := Lib.hid hq
  clear hq
  go_enter Tryd.func55, Tryd.ntmps55
  go_wp2_with fail
  refine (HMU.out _).mono ?_
  rintro e w1 ⟨rfl, rfl⟩
  go_upto_region 7 with fail
  obtain ⟨W, hW, hg, hb, hsz⟩ := one_block w 33 (rowC (fun _ => (0, 0)) n)
  rw [hW]
  clear hW hmk
  obtain ⟨nb, hnb⟩ : ∃ z, w.heap.size = z := ⟨_, rfl⟩
  rw [hnb] at hb hsz ⊢
  have HQ2 := Lib.hid (hg.block HQ.out)
  have HB := Lib.hid hb
  have HG := Lib.hid hg
  have HNB := Lib.hid hnb
  clear hb hg hnb
  have hcp := copy_one HB.out HQ2.out h1 3 n 1
  go_wp2_with fail
  have HB3 := Lib.hid (show BlockIs (W.setRow nb (rowC (fillF x 1) n)) nb 33 (rowC (fillF x 1) n) from setRow_heap W nb _ _ _ _ HB.out)
  have HG3 : Hid (Below nb w (W.setRow nb (rowC (fillF x 1) n))) := Lib.hid (below_setRow_ (by rw [← HNB.out]; exact HG.out) (Nat.le_refl _) _)
  obtain ⟨W3, hW3⟩ : ∃ z, W.setRow nb (rowC (fillF x 1) n) = z := ⟨_, rfl⟩
  rw [hW3] at HB3 HG3 ⊢
  clear hW3 hsz HQ HQ2 HB HG hcp
  go_loopw [8] (fun iv wr => ∃ c : Nat, 1 ≤ c ∧ c ≤ n ∧ iv = .int .i64 (c : Nat) ∧ BlockIs wr nb 33 (rowC (fillF x c) n) ∧ Below nb w wr) (fun iv _ => n - (intOf iv).toNat)
  case atStart => exact ⟨1, Nat.le_refl _, h1, rfl, HB3.out, HG3.out⟩
  case round =>
    obtain ⟨c, hc1, hc, rfl, hbk, hbe⟩ := hrel
    rename World => wr
    have HBK := Lib.hid hbk
    have HBE := Lib.hid hbe
    have HBL := Lib.hid hbk.lt
    clear hbk hbe
    by_cases hcn : c < n
    · have hd : decide ((c : Int) < (n : Int)) = true := decide_eq_true (by omega)
      obtain ⟨m, hm⟩ : ∃ m, m = Nat.min c (n - c) := ⟨_, rfl⟩
      have hm1 : m ≤ c := by rw [hm]; exact Nat.min_le_left _ _
      have hm2 : m ≤ n - c := by rw [hm]; exact Nat.min_le_right _ _
      have hm3 : 1 ≤ m := by rw [hm]; exact Nat.le_min.2 ⟨hc1, by omega⟩
      have HM := Lib.hid hm
      clear hm
      have hn0 : ¬ n = 0 := by omega
      have hnc : ¬ n = c := by omega
      have hc0 : (0 : Int) ≤ (c : Int) := by omega
      have hcl : (c : Int) ≤ (n : Int) := by omega
      have hcg : ¬ (n : Int) < (c : Int) := by omega
      have hcx : c ≤ n := by omega
      go_wp2_with fail
      refine wp_region_lit 8 [[], [], [], [(1, 39), (2, 40)], [], [], [(4, 42), (5, 43)], [(3, 41), (6, 44)]] (TurnC nb n c m x) (fun qi v w' => match qi with
          | 0 => v = .int .i64 (c : Nat)
          | 1 => v = .slice (some ⟨nb, 0, none⟩) n n
          | 2 => v = .int .i64 (c : Nat)
          | 3 => v = .slice (some ⟨nb, c * 2, none⟩) (n - c) (n - c)
          | 4 => v = .slice (some ⟨nb, 0, none⟩) n n
          | 5 => v = .int .i64 (c : Nat)
          | 6 => v = .slice (some ⟨nb, 0, none⟩) c n
          | 7 => v = .int .i64 (m : Nat) ∧ BlockIs w' nb 33 (rowC (fillF x (c + m)) n)
          | _ => False) (by kernel_rfl) (by kernel_rfl) (fun _ _ _ => TurnC.trans) TurnC.refl ?_ ?_ ?_
      · intro i v y y' h k
        match i, h with
        | 7, h => exact ⟨h.1, k.full h.2⟩
        | 0, h | 1, h | 2, h | 3, h | 4, h | 5, h | 6, h => exact h
      · simp only [StepsLit, List.take_succ_cons, List.take_zero]
        refine ⟨?_, ?_, ?_, ?_, ?_, ?_, ?_, ?_, trivial⟩
        · intro w5 hR
          have hGw : (TurnC nb n c m x) wr w5 := hR.of_drew
          have HGW := Lib.hid hGw
          clear hR hGw
          simp only [depV]
          try go_simp
          all_goals first
            | (with_reducible exact TurnC.refl _)
            | (with_reducible exact ⟨TurnC.refl _, rfl⟩)
        · intro w5 hR
          have hGw : (TurnC nb n c m x) wr w5 := hR.of_drew
          have HGW := Lib.hid hGw
          clear hR hGw
          simp only [depV]
          try go_simp
          all_goals first
            | (with_reducible exact TurnC.refl _)
            | (with_reducible exact ⟨TurnC.refl _, rfl⟩)
        · intro w5 hR
          have hGw : (TurnC nb n c m x) wr w5 := hR.of_drew
          have HGW := Lib.hid hGw
          clear hR hGw
          simp only [depV]
          try go_simp
          all_goals first
            | (with_reducible exact TurnC.refl _)
            | (with_reducible exact ⟨TurnC.refl _, rfl⟩)
        · intro w5 hR
          have hGw : (TurnC nb n c m x) wr w5 := hR.of_drew
          have HGW := Lib.hid hGw
          clear hR hGw
          simp only [depV]
          rintro _ rfl
          rintro _ rfl
          try go_simp
          all_goals first
            | (with_reducible exact TurnC.refl _)
            | (with_reducible exact ⟨TurnC.refl _, rfl⟩)
        · intro w5 hR
          have hGw : (TurnC nb n c m x) wr w5 := hR.of_drew
          have HGW := Lib.hid hGw
          clear hR hGw
          simp only [depV]
          try go_simp
          all_goals first
            | (with_reducible exact TurnC.refl _)
            | (with_reducible exact ⟨TurnC.refl _, rfl⟩)
        · intro w5 hR
          have hGw : (TurnC nb n c m x) wr w5 := hR.of_drew
          have HGW := Lib.hid hGw
          clear hR hGw
          simp only [depV]
          try go_simp
          all_goals first
            | (with_reducible exact TurnC.refl _)
            | (with_reducible exact ⟨TurnC.refl _, rfl⟩)
        · intro w5 hR
          have hGw : (TurnC nb n c m x) wr w5 := hR.of_drew
          have HGW := Lib.hid hGw
          clear hR hGw
          simp only [depV]
          rintro _ rfl
          rintro _ rfl
          try go_simp
          all_goals first
            | (with_reducible exact TurnC.refl _)
            | (with_reducible exact ⟨TurnC.refl _, rfl⟩)
        · intro w5 hR
          have hGw : (TurnC nb n c m x) wr w5 := hR.of_drew
          have HGW := Lib.hid hGw
          clear hR hGw
          simp only [depV]
          rintro _ rfl
          rintro _ rfl
          have hGW5 := HGW
          obtain ⟨e5, q1, q2, q3⟩ := hGW5.out.row c (Nat.le_refl _) (by omega) HBK.out
          refine wp_copyK (s := .tmp 41) (x := .tmp 44) rfl rfl rfl (copy_fill q3 hcn HM.out q1 q2 _ _ _) ?_
          exact ⟨rfl, TurnC.set q3, rfl, setRow_heap w5 nb _ _ _ _ q3⟩
      · intro w5 hR
        have HG5 : Hid ((TurnC nb n c m x) wr w5) := Lib.hid hR.of_drew
        clear hR
        simp only [finVC, List.take_succ_cons, List.take_zero, List.drop_succ_cons, List.drop_zero]
        rintro _ rfl
        rintro _ rfl
        rintro _ rfl
        rintro _ rfl
        rintro _ rfl
        rintro _ rfl
        rintro _ rfl
        intro v7 hv7
        simp only [Act.put, List.setIfInBounds_toArray, List.set_cons_succ, List.set_cons_zero]


        go_wp2_with fail
        obtain ⟨rfl, hbk2⟩ := hv7
        have HBK2 := Lib.hid hbk2
        have HBE2 := Lib.hid (HBE.out.trans (HG5.out.below (Nat.le_refl _) (by have := HBL.out; omega)))
        have hwm : IntKind.i64.wrap ((c : Int) + (m : Int)) = (c : Int) + (m : Int) := IntWalk.i64_in _ (by omega)
        clear hbk2
        go_wp2_with fail
        go_roundw
        case rel => exact ⟨c + m, by omega, by omega, by go_num, HBK2.out, HBE2.out⟩
        case measure => simp [intOf]; omega
    · obtain rfl : c = n := by omega
      have hd : decide ((c : Int) < (c : Int)) = false := decide_eq_false (by omega)
      have HE := Lib.hid (fill_all x c)
      go_wp2
      go_ret
      have hn' := HNB.out
      exact ⟨by rw [hn']; rfl, by rw [hn', ← HE.out]; exact HBK.out, by rw [hn']; exact HBE.out⟩

end Go.Proofs.YthehkgpnnndboaaDoor
