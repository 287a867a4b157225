/- Result: the result of a truth and its grade; spans joined. -/
import Derived.Test.YthehkgpnnndboaaDoorTruths
namespace Go.Proofs.YthehkgpnnndboaaDoor
open Go.RowKit

theorem cellsT_at (ps : List Int) : ∀ {k : Nat}, k < 4 → (cellsT ps)[k]? = some (.int .i64 (ps[k]?.getD 0))
  | 0, _ => rfl
  | 1, _ => rfl
  | 2, _ => rfl
  | 3, _ => rfl
  | k + 4, h => by omega
theorem item_at {w : World} {B : Nat} {p : PaperR} (hA : PaperAt w B p) {k : Nat} (hk : k < p.items.length) :
    ∃ b off x, p.ia = some ⟨b, off, none⟩ ∧ b < B ∧ w.cell? ⟨b, off + k * 2, none⟩ = some (.int .i64 x.w) ∧ w.cell? ⟨b, off + k * 2 + 1, none⟩ = some (.int .i64 x.m) ∧ Hid (p.items[k]? = some x) := by
  obtain ⟨b, off, x, h1, h2, h3, h4⟩ := hA.items.at_ hk
  exact ⟨b, off, x, h1, h2, h3 0 (by omega), h3 1 (by omega), h4⟩
set_option maxRecDepth 100000 in
set_option maxHeartbeats 4000000 in
theorem result_any (p : PaperR) (G : GoodP p.d) (ps : List Int) (hf : fitsI p.items ps = true) (w : World) (hA : PaperAt w w.heap.size p) :
    Calls Tryd.prog 52 #[paperV p, .agg (cellsT ps)] w fun e w' => e = .returned (.int .i64 (resD p.items ps)) ∧ Below w.heap.size w w' := by
  have HPA := Lib.hid (fun (w0 : World) (hw : Grow w w0) => hA.grow hw)
  have hi4 : p.items.length ≤ 4 := G.i4
  have hlen := fitsI_len hf
  have HB := Lib.hid (resTo_bound (l := p.items) (ps := ps) G.it hf)
  have HS := Lib.hid (fun (k : Nat) (x : ItemI) (y : Int) hx hy => resTo_succ (l := p.items) (ps := ps) (k := k) (x := x) (p := y) hx hy)
  have HIT := Lib.hid (fun (k : Nat) (x : ItemI) (hx : p.items[k]? = some x) => G.it x (List.mem_of_getElem? hx))
  have HFA := Lib.hid (fun (k : Nat) (x : ItemI) (y : Int) hx hy => fitsI_at hf (k := k) (x := x) (p := y) hx hy)
  have HAL := Lib.hid (resTo_all hlen)
  rw [← HAL.out]
  obtain ⟨rf, hrf⟩ : ∃ z, resTo p.items ps = z := ⟨_, rfl⟩
  have h0 : rf 0 = 0 := by rw [← hrf]; rfl
  rw [hrf] at HB HS ⊢
  clear hrf hA HAL hf
  go_enter Tryd.func52, Tryd.ntmps52
  go_upto_region 1 with fail
  obtain ⟨W, hW, hg, hf, hx, hsz⟩ := two_blocks w 73 81 (cellsP p) (cellsT ps)
  rw [hW]
  clear hW
  have HG := Lib.hid hg
  have HX := Lib.hid hx
  have hcc := hf.cell
  clear hf hx hg
  go_wp2_with fail
  go_loopw [5, 12] (fun sv iv wr => ∃ k : Nat, k ≤ p.items.length ∧ iv = .int .i64 (k : Nat) ∧ sv = .int .i64 (rf k) ∧ Grow W wr) (fun _ iv _ => p.items.length - (intOf iv).toNat)
  case atStart => exact ⟨0, Nat.zero_le _, rfl, by rw [h0], Grow.refl _⟩
  case round =>
    obtain ⟨k, hk, rfl, rfl, hgr⟩ := hrel
    have HGR := Lib.hid hgr
    clear hgr
    by_cases hlt : k < p.items.length
    · have hd : decide ((k : Int) < (p.items.length : Int)) = true := decide_eq_true (by omega)
      obtain ⟨b, off, x, hia, hb, e0, e1, HX'⟩ := item_at (HPA.out wr (HG.out.trans HGR.out)) hlt
      have hk0 : (0 : Int) ≤ (k : Int) := by omega
      have hk1 : (k : Int) < (p.items.length : Int) := by omega
      have hk4 : (k : Int) < 4 := by omega
      have hy : ps[k]? = some (ps[k]'(by omega)) := List.getElem?_eq_getElem (by omega)
      obtain ⟨y, hye⟩ : ∃ z, ps[k]'(by omega) = z := ⟨_, rfl⟩
      rw [hye] at hy
      have HY := Lib.hid hy
      obtain ⟨hb1, hb2⟩ := HB.out k hk
      obtain ⟨⟨w1, w2⟩, m1, m2⟩ := HIT.out k x HX'.out
      obtain ⟨y1, y2⟩ := HFA.out k x y HX'.out hy
      have q1 : 0 ≤ y * x.w := Int.mul_nonneg y1 w1
      have q2 : y * x.w ≤ 30 * 10 := Int.mul_le_mul (by omega) w2 w1 (by omega)
      have HN := Lib.hid (HS.out k x y HX'.out hy)
      have hwm : IntKind.i64.wrap (y * x.w) = y * x.w := IntWalk.i64_in _ (by omega)
      have hwa : IntKind.i64.wrap (rf k + y * x.w) = rf k + y * x.w := IntWalk.i64_in _ (by omega)
      clear hy hye q1 q2 hb1 hb2 y1 y2 w1 w2 m1 m2
      rw [hia]
      have hia' := Lib.hid hia
      clear hia
      go_upto_region 5 with fail
      obtain ⟨W5, hW5, hg5, hf5, hsz5⟩ := one_block wr 78 (cellsI x)
      rw [hW5]
      clear hW5 hsz5 e0 e1
      have HG5 : Hid (Grow W W5) := Lib.hid (HGR.out.trans hg5)
      have hjc := hf5.cell
      have htc : W5.cell? ⟨w.heap.size + 1, k, none⟩ = some (.int .i64 y) := by
        rw [(HG5.out.block HX.out).cell, cellsT_at ps (show k < 4 by omega), show ps[k]? = some y from HY.out]
        rfl
      clear hg5 hf5
      go_wp2_with fail
      go_quiet (fail)
      go_wp2_with fail
      go_roundw
      case rel => exact ⟨k + 1, by omega, by go_num, by rw [HN.out], Below.drewN_ HG5.out _⟩
      case measure => simp [intOf]; omega
    · obtain rfl : k = p.items.length := by omega
      have hd : decide ((p.items.length : Int) < (p.items.length : Int)) = false := decide_eq_false (by omega)
      go_wp2
      go_ret
      exact ⟨rfl, HG.out.trans HGR.out⟩
abbrev spanV (s : Int × Int) : Value := .agg #[.int .i64 s.1, .int .i64 s.2]
theorem results_span {fn : Func} {r : Nat} (h : fn.results = #[.cell r 33]) (t : Array Value) (W : World) (b : Nat) (v0 v1 : Value)
    (hb : BlockIs W b 33 #[v0, v1]) (ht : t.getD r undef = .pointer (some ⟨b, 0, none⟩)) :
    (results fn t).run Tryd.prog W = .ok (.agg #[v0, v1]) W := by
  have hc := hb.cell
  simp only [results, h]
  simp at ht
  simp [go_sem, ht, hc]
set_option maxRecDepth 100000 in
set_option maxHeartbeats 4000000 in
theorem join_any (x y : Int × Int) (w : World) : Calls Tryd.prog 72 #[spanV x, spanV y] w fun e w' => e = .returned (spanV (joinS x y)) ∧ Below w.heap.size w w' := by
  obtain ⟨x1, x2⟩ := x
  obtain ⟨y1, y2⟩ := y
  have HJS : Hid (spanV (joinS (x1, x2) (y1, y2)) = .agg #[.int .i64 (min x1 y1), .int .i64 (max x2 y2)]) := rfl
  rw [HJS.out]
  go_enter Tryd.func72, Tryd.ntmps72
  go_upto_region 1 with fail
  obtain ⟨W, hW, hg, hf, hx, hy, hsz⟩ := three_blocks w 33 33 33 #[.int .i64 x1, .int .i64 x2] #[.int .i64 y1, .int .i64 y2] #[.int .i64 0, .int .i64 0]
  rw [hW]
  clear hW
  have hfc := hf.cell
  have hxc := hx.cell
  have hyc := hy.cell
  have hz := hy.frozen
  have HY := Lib.hid hy
  have HG := Lib.hid hg
  clear hf hx hy hg
  go_wp2_with fail
  all_goals
    refine bodyPost_ret (results_span Tryd.results72 _ _ _ _ _ ((HY.out.near 0 _).near 1 _) rfl) rfl ?_
    refine ⟨?_, ((show Below w.heap.size w W from HG.out).setCell (p := ⟨w.heap.size + 1 + 1, 0, none⟩) (by show w.heap.size ≤ w.heap.size + 1 + 1; omega) _).setCell (p := ⟨w.heap.size + 1 + 1, 1, none⟩) (by show w.heap.size ≤ w.heap.size + 1 + 1; omega) _⟩
    first
      | rw [show min x1 y1 = x1 by omega, show max x2 y2 = x2 by omega]
      | rw [show min x1 y1 = y1 by omega, show max x2 y2 = x2 by omega]
      | rw [show min x1 y1 = x1 by omega, show max x2 y2 = y2 by omega]
      | rw [show min x1 y1 = y1 by omega, show max x2 y2 = y2 by omega]
set_option maxRecDepth 100000 in
set_option maxHeartbeats 4000000 in
theorem with_any (x : Int × Int) (n : Int) (w : World) : Calls Tryd.prog 51 #[spanV x, .int .i64 n] w fun e w' => e = .returned (spanV (withS x n)) ∧ Below w.heap.size w w' := by
  have HJ := Lib.hid (fun w0 => join_any x (n, n) w0)
  have HW : Hid (withS x n = joinS x (n, n)) := rfl
  rw [HW.out]
  obtain ⟨z, hz⟩ : ∃ z, joinS x (n, n) = z := ⟨_, rfl⟩
  rw [hz] at HJ ⊢
  clear hz HW
  obtain ⟨x1, x2⟩ := x
  obtain ⟨z1, z2⟩ := z
  go_enter Tryd.func51, Tryd.ntmps51
  go_upto_region 1 with fail
  obtain ⟨W, hW, hg, hf, hx, hsz⟩ := two_blocks w 33 33 #[.int .i64 x1, .int .i64 x2] #[.int .i64 0, .int .i64 0]
  rw [hW]
  clear hW
  have hfc := hf.cell
  have HX := Lib.hid hx
  have HG := Lib.hid hg
  clear hf hx hg
  go_wp2_with fail
  refine (HJ.out W).mono ?_
  rintro e w1 ⟨rfl, hb1⟩
  have HX1 := Lib.hid ((show Grow W w1 from hb1).block HX.out)
  have HG1 : Hid (Grow w w1) := Lib.hid (HG.out.trans hb1)
  have hxc := HX1.out.cell
  have hz := HX1.out.frozen
  clear hb1 hfc
  go_wp2_with fail
  refine bodyPost_ret (results_span Tryd.results51 _ _ _ _ _ ((HX1.out.near 0 _).near 1 _) rfl) rfl ?_
  exact ⟨rfl, ((show Below w.heap.size w w1 from HG1.out).setCell (p := ⟨w.heap.size + 1, 0, none⟩) (by show w.heap.size ≤ w.heap.size + 1; omega) _).setCell (p := ⟨w.heap.size + 1, 1, none⟩) (by show w.heap.size ≤ w.heap.size + 1; omega) _⟩
set_option maxRecDepth 100000 in
set_option maxHeartbeats 4000000 in
theorem grade_any (p : PaperR) (G : GoodP p.d) (ps : List Int) (hf : fitsI p.items ps = true) (w : World) (hA : PaperAt w w.heap.size p) :
    Calls Tryd.prog 74 #[paperV p, .agg (cellsT ps)] w fun e w' => e = .returned (.int .i64 (gradeD p.grades (resD p.items ps) : Nat)) ∧ Below w.heap.size w w' := by
  have HPA := Lib.hid (fun (w0 : World) (hw : Grow w w0) => (hA.grow hw).grades)
  have HR := Lib.hid (fun (w0 : World) (hw : Grow w w0) => result_any p G ps hf w0 (hA.grow hw))
  have hg5 : p.grades.length ≤ 5 := G.gr
  have HS := Lib.hid (fun (k : Nat) (g : Int) (r : Int) hg => gradeD_snoc (gs := p.grades) (k := k) (g := g) hg r)
  obtain ⟨r, hr⟩ : ∃ z, resD p.items ps = z := ⟨_, rfl⟩
  rw [hr] at HR ⊢
  clear hr hA hf
  go_enter Tryd.func74, Tryd.ntmps74
  go_upto_region 1 with fail
  obtain ⟨W, hW, hg, hf, hx, hsz⟩ := two_blocks w 73 81 (cellsP p) (cellsT ps)
  rw [hW]
  clear hW
  have HG := Lib.hid hg
  have HF := Lib.hid hf
  have hcc := hf.cell
  have hxc := hx.cell
  clear hf hx hg
  go_wp2_with fail
  refine (HR.out W HG.out).mono ?_
  rintro e w1 ⟨rfl, hb1⟩
  have HG1 : Hid (Grow w w1) := Lib.hid (HG.out.trans hb1)
  have HF1 := Lib.hid ((show Grow W w1 from hb1).block HF.out)
  clear hb1 hcc hxc
  have hcc := HF1.out.cell
  go_wp2_with fail
  go_loopw [6, 16] (fun sv iv wr => ∃ k : Nat, k ≤ p.grades.length ∧ iv = .int .i64 (k : Nat) ∧ sv = .int .i64 (gradeD (p.grades.take k) r : Nat) ∧ wr = w1) (fun _ iv _ => p.grades.length - (intOf iv).toNat)
  case atStart => exact ⟨0, Nat.zero_le _, rfl, rfl, rfl⟩
  case round =>
    obtain ⟨k, hk, rfl, rfl, rfl⟩ := hrel
    rename World => wr
    have hgl := gradeD_le (p.grades.take k) r
    rw [List.length_take] at hgl
    by_cases hlt : k < p.grades.length
    · have hd : decide ((k : Int) < (p.grades.length : Int)) = true := decide_eq_true (by omega)
      obtain ⟨b, off, g, hga, hb, hc, HY⟩ := (HPA.out wr HG1.out).at_ hlt
      have hk0 : (0 : Int) ≤ (k : Int) := by omega
      have hk1 : (k : Int) < (p.grades.length : Int) := by omega
      have HN := Lib.hid (HS.out k g r HY.out)
      obtain ⟨gd, hgd⟩ : ∃ z, gradeD (p.grades.take k) r = z := ⟨_, rfl⟩
      rw [hgd] at HN hgl ⊢
      have hwa : IntKind.i64.wrap ((gd : Int) + 1) = (gd : Int) + 1 := IntWalk.i64_in _ (by omega)
      rw [hga]
      have hga' := Lib.hid hga
      clear hga hgd
      by_cases hq : g ≤ r
      · have hdq : decide (g ≤ r) = true := decide_eq_true hq
        go_wp2_with fail
        go_roundw
        case rel => exact ⟨k + 1, by omega, by go_num, by rw [HN.out, if_pos hq]; rfl, by first | rfl | trivial⟩
        case measure => simp [intOf]; omega
      · have hdq : decide (g ≤ r) = false := decide_eq_false hq
        go_wp2_with fail
        go_roundw
        case rel => exact ⟨k + 1, by omega, by go_num, by rw [HN.out, if_neg hq]; rfl, by first | rfl | trivial⟩
        case measure => simp [intOf]; omega
    · obtain rfl : k = p.grades.length := by omega
      have hd : decide ((p.grades.length : Int) < (p.grades.length : Int)) = false := decide_eq_false (by omega)
      go_wp2
      go_ret
      exact ⟨by rw [List.take_length]; rfl, HG1.out⟩

end Go.Proofs.YthehkgpnnndboaaDoor
