/- RSort: the specification's sorted; written by wip/tools/sort02.py. -/
import Derived.Test.YtinlojealfbbfaaSpecM
import Derived.BigQuiet
import Derived.ArgAppend
import Derived.Deep.DeepCutAuto
namespace Go.Proofs.Ytinlojealfbbfaa
open Go.RowKit


theorem posU_of {acc : List GlossD} {x : GlossD} {p : Nat} (hp : p ≤ acc.length) (ha : (acc.take p).all (fun y => beforeG y x) = true) (hn : ∀ y, acc[p]? = some y → beforeG y x = false) : posU acc x = p := by
  have e : acc = acc.take p ++ acc.drop p := (List.take_append_drop p acc).symm
  have h1 : (acc.take p).length = p := by rw [List.length_take]; omega
  have h2 : acc.takeWhile (fun y => beforeG y x) = acc.take p := by
    rw [e]
    have hd : (acc.drop p).takeWhile (fun y => beforeG y x) = [] := by
      cases hq : acc.drop p with
      | nil => rfl
      | cons d D =>
        have hg : acc[p]? = some d := by rw [← List.head?_drop, hq]; rfl
        rw [List.takeWhile_cons, hn d hg]
        rfl
    rw [List.takeWhile_append_of_pos (fun y hy => List.all_eq_true.1 ha y hy), hd, List.append_nil]
    rw [← e]
  unfold posU
  rw [h2, h1]
theorem flat_take {α : Type} {enc : α → List Value} {c : Nat} (hc : ∀ x, (enc x).length = c) : ∀ (l : List α) (p : Nat), (l.flatMap enc).take (p * c) = (l.take p).flatMap enc
  | l, 0 => by simp
  | [], p + 1 => by simp
  | x :: l, p + 1 => by
    rw [List.flatMap_cons, List.take_succ_cons, List.flatMap_cons, Nat.add_mul, Nat.one_mul, Nat.add_comm, List.take_append, hc, Nat.add_sub_cancel_left, flat_take hc l p, List.take_of_length_le (by rw [hc]; omega)]
theorem own_take {w : World} {lo cap p : Nat} {A : Option Addr} {hs : List GlossD} (h : GlossT w lo A cap hs) (hp : p ≤ hs.length) : w.ownsRow lo 55 6 (.slice A p cap) p ((hs.take p).flatMap cellsGL) := by
  refine ⟨by rw [flat_length (k := 6) (fun _ => rfl), List.length_take]; rw [Nat.min_eq_left hp], ?_⟩
  rcases h.2 with ⟨h0, h2⟩ | ⟨g, c, cur, hv, hg, hh, h2, h3, h4, h5⟩
  · injection h0 with e1 e2 e3
    have : p = 0 := by omega
    subst this e1 e3
    exact .inl ⟨rfl, rfl⟩
  · injection hv with e1 e2 e3
    subst e1 e3
    refine .inr ⟨g, cap, cur, rfl, hg, hh, by omega, h3, h4, ?_⟩
    rw [← flat_take (c := 6) (fun _ => rfl), ← h5, List.take_take]
    congr 1
    rw [Nat.min_eq_left]
    exact Nat.mul_le_mul_right 6 hp
theorem own_parts {w : World} {lo cap : Nat} {A : Option Addr} {hs : List GlossD} (h : GlossT w lo A cap hs) : (A = none ∧ cap = 0 ∧ hs = []) ∨ ∃ g, A = some ⟨g, 0, none⟩ := by
  rcases h.2 with ⟨h0, h2⟩ | ⟨g, c, cur, hv, _⟩
  · injection h0 with e1 e2 e3
    exact .inl ⟨e1, e3, List.eq_nil_of_length_eq_zero h2⟩
  · injection hv with e1 e2 e3
    exact .inr ⟨g, e1⟩
theorem GlossAt.drop {w : World} {B g : Nat} {l : List GlossD} (h : GlossAt w B (some ⟨g, 0, none⟩) l) (p : Nat) : GlossAt w B (some ⟨g, p * 6, none⟩) (l.drop p) := by
  rcases h with rfl | ⟨b, off, e, hl, hc⟩
  · exact .inl (by simp)
  · injection e with e
    injection e with e1 e2
    subst e1 e2
    refine .inr ⟨g, p * 6, rfl, hl, fun i x hi j hj => ?_⟩
    rw [List.getElem?_drop] at hi
    have := hc (p + i) x hi j hj
    rw [← this]
    congr 2
    omega
/-- a row of glosses, somewhere -/
def IsRowG (l : List GlossD) (v : Value) (w : World) : Prop := ∃ A c, v = .slice A l.length c ∧ GlossAt w w.heap.size A l
theorem IsRowG.grow {l : List GlossD} {v : Value} {a b : World} (h : IsRowG l v a) (g : Grow a b) : IsRowG l v b := by
  obtain ⟨A, c, e, h⟩ := h
  exact ⟨A, c, e, (h.below g).more g.size⟩
theorem append_headG {a : Act} {o : Oper} {s x : Operand} {w w' : World} {v u v' : Value} (ho : o.op = .call { callee := .builtin .append, args := #[s, x], argTypes := #[25, 25] }) (ht : o.type = 25) (hs : a.eval s = v) (hx : a.eval x = u)
    (hrun : (Builtin.append_ #[25, 25] 25 #[v, u]).run Try.prog w = .ok v' w') : (execOp a.eval o).run Try.prog w = .ok (.value v') w' := by
  unfold execOp
  simp only [ho, ht, resolve, invoke, builtin, Sem.run_bind, Sem.run_pure, Result.andThen_ok, List.map_toArray, List.map_cons, List.map_nil, hs, hx, hrun]
theorem wp_append_headG {a : Act} {o : Oper} {s x : Operand} {w w' : World} {v u v' : Value} {next : Act → World → Prop} {Q : Exit → Act → World → Prop} (ho : o.op = .call { callee := .builtin .append, args := #[s, x], argTypes := #[25, 25] }) (ht : o.type = 25) (hs : a.eval s = v) (hx : a.eval x = u)
    (hrun : (Builtin.append_ #[25, 25] 25 #[v, u]).run Try.prog w = .ok v' w') (hn : next (a.put o.dst v') w') : o.wp Try.prog a w next Q := by
  unfold Oper.wp
  rw [append_headG ho ht hs hx hrun]
  exact hn
theorem gloss_cellsAt {w : World} {B : Nat} {A : Addr} {l : List GlossD} (h : GlossAt w B (some A) l) : ∀ j u, (l.flatMap cellsGL)[j]? = some u → w.cell? (A.add j) = some u := by
  intro j u hu
  rcases h with h | ⟨b, off, h1, _, h2⟩
  · subst h; simp at hu
  · injection h1 with h1
    subst h1
    have e : j / 6 * 6 + j % 6 = j := by omega
    have hf := flat_get (enc := cellsGL) (k := 6) (fun _ => rfl) l (j / 6) (j % 6) (by omega)
    rw [e, hu] at hf
    cases hy : l[j / 6]? with
    | none => rw [hy] at hf; cases hf
    | some y =>
      rw [hy, Option.bind_some] at hf
      have h3 := h2 _ y hy (j % 6) (by omega)
      rw [show (⟨b, off, none⟩ : Addr).add j = ⟨b, off + j / 6 * 6 + j % 6, none⟩ by (rw [Nat.add_assoc, e]; simp [Addr.add]), h3]
      exact Array.getElem?_toList.symm.trans hf.symm
/-- glosses behind a slice of one new gloss: no more than new memory -/
theorem append_one_gloss {lo c B : Nat} {x : GlossD} {v : Value} {w : World} (h : NewGloss lo x v w) {A : Option Addr} {l : List GlossD} (hr : GlossAt w B A l) (hl : l.length ≤ 1000) :
    ∃ v' w', (Builtin.append_ #[25, 25] 25 #[v, .slice A l.length c]).run Try.prog w = .ok v' w' ∧ IsRowG (x :: l) v' w' ∧ Grow w w' := by
  obtain ⟨j0, hj, hy0, hy1, hy2⟩ := info_parts Try.infoGloss
  obtain ⟨g, rfl, _, hB⟩ := h
  have hn := news_gloss hB
  by_cases h0 : l = []
  · subst h0
    refine ⟨.slice (some ⟨g, 0, none⟩) 1 1, w, ?_, ⟨_, 1, rfl, hn⟩, Grow.refl _⟩
    cases A with
    | none => simp [Builtin.append_, run_underlying Try.underlying25, Builtin.lenOf, Builtin.firstCells, sizeOf, typeInfo, hj, storeCells]
    | some ad => simp [Builtin.append_, run_underlying Try.underlying25, Builtin.lenOf, Builtin.firstCells, sizeOf, typeInfo, hj, storeCells, loadCells, loadCellsFrom]
  · cases A with
    | none =>
      rcases hr with h | ⟨_, _, h, _⟩
      · exact absurd h h0
      · cases h
    | some ad =>
      have hp := List.length_pos_iff.2 h0
      have hnews := gloss_cellsAt hr
      have holds : ∀ j u, (cellsGL x)[j]? = some u → w.cell? ((⟨g, 0, none⟩ : Addr).add j) = some u := fun j u hu => by
        have := gloss_cellsAt hn j u (by simpa using hu)
        exact this
      obtain ⟨v', w', hrun, hown, hgr⟩ := run_append_arg_grows (P := Try.prog) w 25 25 55 j0 (.agg #[.int .i64 0, .int .i64 0, .int .i64 0, .int .i64 0, .int .i64 0, .int .i64 0]) 6 48 Try.underlying25 hj hy0 hy1 hy2 rfl (by omega) ⟨g, 0, none⟩ 1 1 (cellsGL x) rfl holds ad l.length c (l.flatMap cellsGL) (flat_length (k := 6) (fun _ => rfl) l) hnews (by omega) (by unfold maxLen; omega) (by omega)
      have hown' : w'.ownsRow w.heap.size 55 6 v' (x :: l).length ((x :: l).flatMap cellsGL) := by
        rw [List.flatMap_cons, List.length_cons, Nat.add_comm l.length 1]
        exact hown
      obtain ⟨A', c', rfl⟩ := own_form hown'
      exact ⟨_, w', hrun, ⟨A', c', rfl, GlossT.at_ hown'⟩, grown_none hgr⟩

set_option maxRecDepth 100000 in
set_option maxHeartbeats 16000000 in
theorem rsort_ok : RSortOK := by
  intro l A cap n0 w hA hn hl
  obtain ⟨j0, hj, hy0, hy1, hy2⟩ := info_parts Try.infoGloss
  have HA := Lib.hid (hA.more hn)
  have HD : Hid (sortU l = (l.take l.length).foldl insU []) := Lib.hid (by rw [List.take_length]; rfl)
  generalize sortU l = res at HD ⊢
  clear hA hn
  go_enter Try.func56, Try.ntmps56
  go_wp2_with fail
  go_loopw [3, 4] (fun v iv wr => ∃ (k : Nat) (acc : List GlossD) (A' : Option Addr) (c' : Nat), k ≤ l.length ∧ iv = .int .i64 k ∧ v = .slice A' acc.length c' ∧ Hid (acc = (l.take k).foldl insU []) ∧ acc.length ≤ k ∧ GlossT wr w.heap.size A' c' acc ∧ Grow w wr) (fun _ v _ => l.length - (intOf v).toNat)
  case atStart => exact ⟨0, [], none, 0, Nat.zero_le _, rfl, rfl, rfl, Nat.le_refl _, own_nilG _ _, Grow.refl _⟩
  case round =>
    obtain ⟨k, acc, A', c', hk, rfl, rfl, HAC, hak, hT, hgr⟩ := hrel
    rename World => wr
    have HT := Lib.hid hT
    have HGR := Lib.hid hgr
    by_cases hlt : k < l.length
    · have hld : decide ((k : Int) < (l.length : Int)) = true := decide_eq_true (by omega)
      have hldn : decide (k < l.length) = true := decide_eq_true hlt
      obtain ⟨b, off, x, rfl, hb, hc, HX⟩ := (HA.out.below HGR.out).at_ hlt
      have hki : (k : Int) < (l.length : Int) := by omega
      have hk0 : (0 : Int) ≤ (k : Int) := by omega
      have hcap := hT.le
      have HNX : Hid ((l.take (k + 1)).foldl insU [] = insU acc x) := Lib.hid (by rw [take_snoc HX.out, List.foldl_append, ← HAC.out]; rfl)
      obtain ⟨au, st, fi, frm, till, sg⟩ := x
      have HE0 := Lib.hid (fun (w0 : World) (hg : Grow wr w0) => Grow.cell (v := .int .i64 au) hg (by have h := hc 0 (by omega); rw [Nat.add_zero] at h; exact h))
      have HE1 := Lib.hid (fun (w0 : World) (hg : Grow wr w0) => Grow.cell (v := .int .i64 st) hg (hc 1 (by omega)))
      have HE2 := Lib.hid (fun (w0 : World) (hg : Grow wr w0) => Grow.cell (v := .int .i64 fi) hg (hc 2 (by omega)))
      have HE3 := Lib.hid (fun (w0 : World) (hg : Grow wr w0) => Grow.cell (v := .int .i64 frm) hg (hc 3 (by omega)))
      have HE4 := Lib.hid (fun (w0 : World) (hg : Grow wr w0) => Grow.cell (v := .int .i64 till) hg (hc 4 (by omega)))
      have HE5 := Lib.hid (fun (w0 : World) (hg : Grow wr w0) => Grow.cell (v := .int .i64 sg) hg (hc 5 (by omega)))
      have HGA := Lib.hid (show GlossAt wr wr.heap.size A' acc from hT.at_)
      clear hc hb hT hgr
      go_wp2_with fail
      go_loopw [5] (fun a wx => ∃ p q : Nat, p ≤ acc.length ∧ a = .int .i64 p ∧ Hid ((acc.take p).all (fun y => beforeG y ⟨au, st, fi, frm, till, sg⟩) = true) ∧ wx = wr.drewN q) (fun a _ => acc.length - (intOf a).toNat)
      case atStart => exact ⟨0, 0, Nat.zero_le _, rfl, rfl, rfl⟩
      case round =>
        obtain ⟨p, q, hp, rfl, HB, rfl⟩ := hrel
        have e0 := HE0.out wr (Grow.refl _)
        have e1 := HE1.out wr (Grow.refl _)
        obtain ⟨cond, hcond⟩ : ∃ z, (match acc[p]? with | some y => beforeG y ⟨au, st, fi, frm, till, sg⟩ | none => false) = z := ⟨_, rfl⟩
        have HCO := Lib.hid hcond
        clear hcond
        go_upto_region 6 with fail
        go_cut [54] (fun v wx => v = .bool cond ∧ ∃ q', wx = wr.drewN q')
        case first =>
          by_cases hpl : p < acc.length
          · obtain ⟨b2, off2, y, rfl, hb2, hc2, HY⟩ := HGA.out.at_ hpl
            have HC2 : Hid (cond = (decide (y.author < au) || (decide (y.author = au) && decide (y.stamp < st)))) := Lib.hid (by rw [← HCO.out, HY.out]; rfl)
            obtain ⟨a', s', f', r', t', g'⟩ := y
            have y0 : wr.cell? ⟨b2, off2 + p * 6, none⟩ = some (.int .i64 a') := hc2 0 (by omega)
            have y1 : wr.cell? ⟨b2, off2 + p * 6 + 1, none⟩ = some (.int .i64 s') := hc2 1 (by omega)
            have d0 : decide ((p : Int) < (acc.length : Int)) = true := decide_eq_true (by omega)
            have d0' : decide (p < acc.length) = true := decide_eq_true hpl
            have hpi : (p : Int) < (acc.length : Int) := by omega
            have hp0 : (0 : Int) ≤ (p : Int) := by omega
            clear hc2 hb2
            dsimp only at HC2
            by_cases h1 : a' < au
            · have d1 : decide (a' < au) = true := decide_eq_true h1
              have HF : Hid (cond = true) := Lib.hid (by rw [HC2.out, d1]; rfl)
              clear h1
              go_quiet (fail)
              go_wp2
              go_meet
              exact ⟨by rw [HF.out], _, drewN_two _ _ _⟩
            · have d1 : decide (a' < au) = false := decide_eq_false h1
              by_cases h2 : a' = au
              · have d2 : decide (a' = au) = true := decide_eq_true h2
                have d2b : (a' == au) = true := by simpa using h2
                by_cases h3 : s' < st
                · have d3 : decide (s' < st) = true := decide_eq_true h3
                  have HF : Hid (cond = true) := Lib.hid (by rw [HC2.out, d1, d2, d3]; rfl)
                  clear h1 h2 h3
                  go_quiet (fail)
                  go_wp2
                  go_meet
                  exact ⟨by rw [HF.out], _, drewN_two _ _ _⟩
                · have d3 : decide (s' < st) = false := decide_eq_false h3
                  have HF : Hid (cond = false) := Lib.hid (by rw [HC2.out, d1, d2, d3]; rfl)
                  clear h1 h2 h3
                  go_quiet (fail)
                  go_wp2
                  go_meet
                  exact ⟨by rw [HF.out], _, drewN_two _ _ _⟩
              · have d2 : decide (a' = au) = false := decide_eq_false h2
                have d2b : (a' == au) = false := by simpa using h2
                have HF : Hid (cond = false) := Lib.hid (by rw [HC2.out, d1, d2]; rfl)
                clear h1 h2
                go_quiet (fail)
                go_wp2
                go_meet
                exact ⟨by rw [HF.out], _, drewN_two _ _ _⟩
          · have d0 : decide ((p : Int) < (acc.length : Int)) = false := decide_eq_false (by omega)
            have d0' : decide (p < acc.length) = false := decide_eq_false hpl
            have HF : Hid (cond = false) := Lib.hid (by rw [← HCO.out, List.getElem?_eq_none (by omega)])
            clear hpl
            go_quiet (fail)
            go_wp2
            go_meet
            exact ⟨by rw [HF.out], _, drewN_two _ _ _⟩
        case rest =>
          obtain ⟨rfl, q', rfl⟩ := hcut
          clear e0 e1
          cases cond with
          | true =>
            obtain ⟨y, hy, hby⟩ : ∃ y, acc[p]? = some y ∧ beforeG y ⟨au, st, fi, frm, till, sg⟩ = true := by
              have h := HCO.out
              cases hy : acc[p]? with
              | none => rw [hy] at h; cases h
              | some y => rw [hy] at h; exact ⟨y, rfl, h⟩
            have hpl : p < acc.length := lt_of_at hy
            have HB2 : Hid ((acc.take (p + 1)).all (fun y => beforeG y ⟨au, st, fi, frm, till, sg⟩) = true) := Lib.hid (by rw [all_take_succ _ hy HB.out]; exact hby)
            clear hy hby
            go_wp2
            go_roundw
            case rel => exact ⟨p + 1, _, hpl, by go_num, HB2, rfl⟩
            case measure => simp [intOf]; omega
          | false =>
            have HP : Hid (posU acc ⟨au, st, fi, frm, till, sg⟩ = p) := Lib.hid (posU_of hp HB.out (fun y hy => by have h := HCO.out; rw [hy] at h; exact h))
            have HGQ : Hid (Grow wr (wr.drewN q')) := Lib.hid (Below.drewN_ (Grow.refl _) q')
            have HT2 : Hid (GlossT (wr.drewN q') w.heap.size A' c' acc) := Lib.hid (HT.out.grow HGQ.out)
            obtain ⟨ins, hins⟩ : ∃ z, decide (acc[p]? ≠ some (⟨au, st, fi, frm, till, sg⟩ : GlossD)) = z := ⟨_, rfl⟩
            have HIN := Lib.hid hins
            clear hins HB HCO
            have e0 := HE0.out wr (Grow.refl _)
            have e1 := HE1.out wr (Grow.refl _)
            have e2 := HE2.out wr (Grow.refl _)
            have e3 := HE3.out wr (Grow.refl _)
            have e4 := HE4.out wr (Grow.refl _)
            have e5 := HE5.out wr (Grow.refl _)
            have heq : ∀ (y : GlossD) (w0 : World), (Op.equalIn 10000 55 (glossV y) (glossV ⟨au, st, fi, frm, till, sg⟩)).run Try.prog w0 = .ok (decide (y = ⟨au, st, fi, frm, till, sg⟩)) w0 := fun y w0 => run_eqG y _ w0
            have HEQ := Lib.hid heq
            clear heq
            go_upto_region 8 with fail
            go_cut [71] (fun v wx => v = .bool ins ∧ ∃ q2, wx = wr.drewN q2)
            case first =>
              by_cases hpl : p < acc.length
              · obtain ⟨b2, off2, y, rfl, hb2, hc2, HY⟩ := HGA.out.at_ hpl
                have HC2 : Hid (ins = !decide (y = (⟨au, st, fi, frm, till, sg⟩ : GlossD))) := Lib.hid (by rw [← HIN.out, HY.out]; by_cases h : y = (⟨au, st, fi, frm, till, sg⟩ : GlossD) <;> simp [h])
                have heq := fun w0 => HEQ.out y w0
                have y0 : wr.cell? ⟨b2, off2 + p * 6, none⟩ = some (.int .i64 y.author) := hc2 0 (by omega)
                have y1 : wr.cell? ⟨b2, off2 + p * 6 + 1, none⟩ = some (.int .i64 y.stamp) := hc2 1 (by omega)
                have y2 : wr.cell? ⟨b2, off2 + p * 6 + 2, none⟩ = some (.int .i64 y.film) := hc2 2 (by omega)
                have y3 : wr.cell? ⟨b2, off2 + p * 6 + 3, none⟩ = some (.int .i64 y.frm) := hc2 3 (by omega)
                have y4 : wr.cell? ⟨b2, off2 + p * 6 + 4, none⟩ = some (.int .i64 y.to) := hc2 4 (by omega)
                have y5 : wr.cell? ⟨b2, off2 + p * 6 + 5, none⟩ = some (.int .i64 y.signs) := hc2 5 (by omega)
                have d0 : decide ((p : Int) = (acc.length : Int)) = false := decide_eq_false (by omega)
                have d0b : ((p : Int) == (acc.length : Int)) = false := by simp; omega
                have d0c : decide (p = acc.length) = false := decide_eq_false (by omega)
                have hpi : (p : Int) < (acc.length : Int) := by omega
                have hp0 : (0 : Int) ≤ (p : Int) := by omega
                generalize decide (y = (⟨au, st, fi, frm, till, sg⟩ : GlossD)) = yx at heq HC2
                clear hc2 hb2
                go_quiet (fail)
                go_wp2
                go_meet
                exact ⟨by rw [HC2.out], _, drewN_two _ _ _⟩
              · have d0 : decide ((p : Int) = (acc.length : Int)) = true := decide_eq_true (by omega)
                have d0b : ((p : Int) == (acc.length : Int)) = true := by simp; omega
                have d0c : decide (p = acc.length) = true := decide_eq_true (by omega)
                have HF : Hid (ins = true) := Lib.hid (by rw [← HIN.out, List.getElem?_eq_none (by omega)]; rfl)
                clear hpl
                go_quiet (fail)
                go_wp2
                go_meet
                exact ⟨by rw [HF.out], _, drewN_two _ _ _⟩
            case rest =>
              obtain ⟨rfl, q2, rfl⟩ := hcut
              clear e0 e1 e2 e3 e4 e5 HT2 HGQ
              have HGQ2 : Hid (Grow wr (wr.drewN q2)) := Lib.hid (Below.drewN_ (Grow.refl _) q2)
              cases ins with
              | false =>
                have HSK : Hid (insU acc ⟨au, st, fi, frm, till, sg⟩ = acc) := Lib.hid (by
                  unfold insU
                  rw [HP.out, if_pos (by have h := HIN.out; simpa using h)])
                have HT3 : Hid (GlossT (wr.drewN q2) w.heap.size A' c' acc) := Lib.hid (HT.out.grow HGQ2.out)
                have HG3 : Hid (Grow w (wr.drewN q2)) := Lib.hid (HGR.out.trans HGQ2.out)
                clear HP
                go_wp2
                go_roundw
                case rel => exact ⟨k + 1, acc, A', c', hlt, by go_num, rfl, Lib.hid (by rw [HNX.out, HSK.out]), by omega, HT3.out, HG3.out⟩
                case measure => simp [intOf]; omega
              | true =>
                obtain ⟨dr, hdr⟩ : ∃ z, acc.drop p = z := ⟨_, rfl⟩
                have HDR := Lib.hid hdr
                have HINU : Hid (insU acc ⟨au, st, fi, frm, till, sg⟩ = acc.take p ++ ⟨au, st, fi, frm, till, sg⟩ :: dr) := Lib.hid (by
                  unfold insU
                  rw [HP.out, if_neg (by have h := HIN.out; simpa using h), hdr])
                have HDL : Hid (dr.length ≤ 1000) := Lib.hid (by rw [← hdr, List.length_drop]; omega)
                have HDE : Hid (dr.length = acc.length - p) := Lib.hid (by rw [← hdr, List.length_drop])
                have HLEN : Hid (p + (⟨au, st, fi, frm, till, sg⟩ :: dr : List GlossD).length = (insU acc ⟨au, st, fi, frm, till, sg⟩).length) := Lib.hid (by rw [HINU.out, List.length_append, List.length_take, Nat.min_eq_left hp])
                have HINS : Hid (∀ (w6 : World) An cn, w6.ownsRow w.heap.size 55 6 (.slice An (p + (⟨au, st, fi, frm, till, sg⟩ :: dr : List GlossD).length) cn) (p + (⟨au, st, fi, frm, till, sg⟩ :: dr : List GlossD).length) ((acc.take p).flatMap cellsGL ++ (⟨au, st, fi, frm, till, sg⟩ :: dr : List GlossD).flatMap cellsGL) → w6.ownsRow w.heap.size 55 6 (.slice An (insU acc ⟨au, st, fi, frm, till, sg⟩).length cn) (insU acc ⟨au, st, fi, frm, till, sg⟩).length ((insU acc ⟨au, st, fi, frm, till, sg⟩).flatMap cellsGL)) := Lib.hid (fun w6 An cn h => by
                  rw [← HLEN.out, HINU.out, List.flatMap_append]
                  exact h)
                have HT3 : Hid (GlossT (wr.drewN q2) w.heap.size A' c' acc) := Lib.hid (HT.out.grow HGQ2.out)
                have HGR3 : Hid (Grow w (wr.drewN q2)) := Lib.hid (HGR.out.trans HGQ2.out)
                replace HE0 := Lib.hid (fun (w0 : World) (hg : Grow (wr.drewN q2) w0) => HE0.out w0 (HGQ2.out.trans hg))
                replace HE1 := Lib.hid (fun (w0 : World) (hg : Grow (wr.drewN q2) w0) => HE1.out w0 (HGQ2.out.trans hg))
                replace HE2 := Lib.hid (fun (w0 : World) (hg : Grow (wr.drewN q2) w0) => HE2.out w0 (HGQ2.out.trans hg))
                replace HE3 := Lib.hid (fun (w0 : World) (hg : Grow (wr.drewN q2) w0) => HE3.out w0 (HGQ2.out.trans hg))
                replace HE4 := Lib.hid (fun (w0 : World) (hg : Grow (wr.drewN q2) w0) => HE4.out w0 (HGQ2.out.trans hg))
                replace HE5 := Lib.hid (fun (w0 : World) (hg : Grow (wr.drewN q2) w0) => HE5.out w0 (HGQ2.out.trans hg))
                clear HT HGR HGA hdr HP HIN HGQ2
                go_upto_region 9 with fail
                generalize wr.drewN q2 = wr at *
                have HT := HT3
                have HGR := HGR3
                clear HT3 HGR3
                rcases own_parts HT.out with hnil | ⟨g, rfl⟩
                · have HNIL := Lib.hid hnil
                  have HDR1 : Hid (dr = []) := Lib.hid (by rw [← HDR.out, hnil.2.2]; simp)
                  clear hnil
                  obtain ⟨rfl, rfl, rfl⟩ : A' = none ∧ c' = 0 ∧ acc = [] := HNIL.out
                  obtain rfl : p = 0 := by simpa using hp
                  have HSR : Hid (∀ w5, Grow wr w5 → GlossAt w5 w5.heap.size none dr) := Lib.hid (fun _ _ => .inl HDR1.out)
                  have HDN : Hid (dr.length = 0) := Lib.hid (by rw [HDR1.out]; rfl)
                  refine wp_region_lit 12 [[], [], [(0, 72), (1, 73)], [], [], [(3, 75), (4, 76)], [(5, 77)], [(6, 78)], [], [], [(8, 80), (9, 81)], [(7, 79), (10, 82)]] Grow (fun qi v w' => match qi with
                      | 0 => v = .slice none 0 0
                      | 1 => v = .int .i64 0
                      | 2 => v = .slice none 0 0
                      | 3 => v = .slice (some ⟨b, off, none⟩) l.length cap
                      | 4 => v = .int .i64 (k : Nat)
                      | 5 => v = .pointer (some ⟨b, off + k * 6, none⟩)
                      | 6 => v = glossV ⟨au, st, fi, frm, till, sg⟩
                      | 7 => NewGloss w.heap.size ⟨au, st, fi, frm, till, sg⟩ v w'
                      | 8 => v = .slice none 0 0
                      | 9 => v = .int .i64 0
                      | 10 => v = .slice none 0 0
                      | 11 => IsRowG (⟨au, st, fi, frm, till, sg⟩ :: dr) v w'
                      | _ => False) (by kernel_rfl) (by kernel_rfl) (fun _ _ _ => Grow.trans) Grow.refl ?_ ?_ ?_
                  · intro i v y y' h k
                    match i, h with
                    | 7, h => exact h.grow k
                    | 11, h => exact h.grow k
                    | 0, h | 1, h | 2, h | 3, h | 4, h | 5, h | 6, h | 8, h | 9, h | 10, h => exact h
                  · simp only [StepsLit, List.take_succ_cons, List.take_zero]
                    refine ⟨?_, ?_, ?_, ?_, ?_, ?_, ?_, ?_, ?_, ?_, ?_, ?_, trivial⟩
                    · intro w5 hR
                      have hGw : Grow wr w5 := hR.of_drew
                      have HGW := Lib.hid hGw
                      have e0 := HE0.out w5 HGW.out
                      have e1 := HE1.out w5 HGW.out
                      have e2 := HE2.out w5 HGW.out
                      have e3 := HE3.out w5 HGW.out
                      have e4 := HE4.out w5 HGW.out
                      have e5 := HE5.out w5 HGW.out
                      clear hR hGw
                      simp only [depV]
                      try go_simp
                      all_goals first
                        | (with_reducible exact Grow.refl _)
                        | (with_reducible exact ⟨Grow.refl _, rfl⟩)
                    · intro w5 hR
                      have hGw : Grow wr w5 := hR.of_drew
                      have HGW := Lib.hid hGw
                      have e0 := HE0.out w5 HGW.out
                      have e1 := HE1.out w5 HGW.out
                      have e2 := HE2.out w5 HGW.out
                      have e3 := HE3.out w5 HGW.out
                      have e4 := HE4.out w5 HGW.out
                      have e5 := HE5.out w5 HGW.out
                      clear hR hGw
                      simp only [depV]
                      try go_simp
                      all_goals first
                        | (with_reducible exact Grow.refl _)
                        | (with_reducible exact ⟨Grow.refl _, rfl⟩)
                    · intro w5 hR
                      have hGw : Grow wr w5 := hR.of_drew
                      have HGW := Lib.hid hGw
                      have e0 := HE0.out w5 HGW.out
                      have e1 := HE1.out w5 HGW.out
                      have e2 := HE2.out w5 HGW.out
                      have e3 := HE3.out w5 HGW.out
                      have e4 := HE4.out w5 HGW.out
                      have e5 := HE5.out w5 HGW.out
                      clear hR hGw
                      simp only [depV]
                      rintro _ rfl
                      rintro _ rfl
                      try go_simp
                      all_goals first
                        | (with_reducible exact Grow.refl _)
                        | (with_reducible exact ⟨Grow.refl _, rfl⟩)
                    · intro w5 hR
                      have hGw : Grow wr w5 := hR.of_drew
                      have HGW := Lib.hid hGw
                      have e0 := HE0.out w5 HGW.out
                      have e1 := HE1.out w5 HGW.out
                      have e2 := HE2.out w5 HGW.out
                      have e3 := HE3.out w5 HGW.out
                      have e4 := HE4.out w5 HGW.out
                      have e5 := HE5.out w5 HGW.out
                      clear hR hGw
                      simp only [depV]
                      try go_simp
                      all_goals first
                        | (with_reducible exact Grow.refl _)
                        | (with_reducible exact ⟨Grow.refl _, rfl⟩)
                    · intro w5 hR
                      have hGw : Grow wr w5 := hR.of_drew
                      have HGW := Lib.hid hGw
                      have e0 := HE0.out w5 HGW.out
                      have e1 := HE1.out w5 HGW.out
                      have e2 := HE2.out w5 HGW.out
                      have e3 := HE3.out w5 HGW.out
                      have e4 := HE4.out w5 HGW.out
                      have e5 := HE5.out w5 HGW.out
                      clear hR hGw
                      simp only [depV]
                      try go_simp
                      all_goals first
                        | (with_reducible exact Grow.refl _)
                        | (with_reducible exact ⟨Grow.refl _, rfl⟩)
                    · intro w5 hR
                      have hGw : Grow wr w5 := hR.of_drew
                      have HGW := Lib.hid hGw
                      have e0 := HE0.out w5 HGW.out
                      have e1 := HE1.out w5 HGW.out
                      have e2 := HE2.out w5 HGW.out
                      have e3 := HE3.out w5 HGW.out
                      have e4 := HE4.out w5 HGW.out
                      have e5 := HE5.out w5 HGW.out
                      clear hR hGw
                      simp only [depV]
                      rintro _ rfl
                      rintro _ rfl
                      try go_simp
                      all_goals first
                        | (with_reducible exact Grow.refl _)
                        | (with_reducible exact ⟨Grow.refl _, rfl⟩)
                    · intro w5 hR
                      have hGw : Grow wr w5 := hR.of_drew
                      have HGW := Lib.hid hGw
                      have e0 := HE0.out w5 HGW.out
                      have e1 := HE1.out w5 HGW.out
                      have e2 := HE2.out w5 HGW.out
                      have e3 := HE3.out w5 HGW.out
                      have e4 := HE4.out w5 HGW.out
                      have e5 := HE5.out w5 HGW.out
                      clear hR hGw
                      simp only [depV]
                      rintro _ rfl
                      try go_simp
                      all_goals first
                        | (with_reducible exact Grow.refl _)
                        | (with_reducible exact ⟨Grow.refl _, rfl⟩)
                    · intro w5 hR
                      have hGw : Grow wr w5 := hR.of_drew
                      have HGW := Lib.hid hGw
                      have e0 := HE0.out w5 HGW.out
                      have e1 := HE1.out w5 HGW.out
                      have e2 := HE2.out w5 HGW.out
                      have e3 := HE3.out w5 HGW.out
                      have e4 := HE4.out w5 HGW.out
                      have e5 := HE5.out w5 HGW.out
                      clear hR hGw
                      simp only [depV]
                      rintro _ rfl
                      try go_simp
                      exact ⟨Grow.alloc _ _, _, rfl, Nat.le_trans HGR.out.size HGW.out.size, BlockIs.new _ _ _⟩
                    · intro w5 hR
                      have hGw : Grow wr w5 := hR.of_drew
                      have HGW := Lib.hid hGw
                      have e0 := HE0.out w5 HGW.out
                      have e1 := HE1.out w5 HGW.out
                      have e2 := HE2.out w5 HGW.out
                      have e3 := HE3.out w5 HGW.out
                      have e4 := HE4.out w5 HGW.out
                      have e5 := HE5.out w5 HGW.out
                      clear hR hGw
                      simp only [depV]
                      try go_simp
                      all_goals first
                        | (with_reducible exact Grow.refl _)
                        | (with_reducible exact ⟨Grow.refl _, rfl⟩)
                    · intro w5 hR
                      have hGw : Grow wr w5 := hR.of_drew
                      have HGW := Lib.hid hGw
                      have e0 := HE0.out w5 HGW.out
                      have e1 := HE1.out w5 HGW.out
                      have e2 := HE2.out w5 HGW.out
                      have e3 := HE3.out w5 HGW.out
                      have e4 := HE4.out w5 HGW.out
                      have e5 := HE5.out w5 HGW.out
                      clear hR hGw
                      simp only [depV]
                      try go_simp
                      all_goals first
                        | (with_reducible exact Grow.refl _)
                        | (with_reducible exact ⟨Grow.refl _, rfl⟩)
                    · intro w5 hR
                      have hGw : Grow wr w5 := hR.of_drew
                      have HGW := Lib.hid hGw
                      have e0 := HE0.out w5 HGW.out
                      have e1 := HE1.out w5 HGW.out
                      have e2 := HE2.out w5 HGW.out
                      have e3 := HE3.out w5 HGW.out
                      have e4 := HE4.out w5 HGW.out
                      have e5 := HE5.out w5 HGW.out
                      clear hR hGw
                      simp only [depV]
                      rintro _ rfl
                      rintro _ rfl
                      try go_simp
                      all_goals first
                        | (with_reducible exact Grow.refl _)
                        | (with_reducible exact ⟨Grow.refl _, rfl⟩)
                    · intro w5 hR
                      have hGw : Grow wr w5 := hR.of_drew
                      have HGW := Lib.hid hGw
                      have e0 := HE0.out w5 HGW.out
                      have e1 := HE1.out w5 HGW.out
                      have e2 := HE2.out w5 HGW.out
                      have e3 := HE3.out w5 HGW.out
                      have e4 := HE4.out w5 HGW.out
                      have e5 := HE5.out w5 HGW.out
                      clear hR hGw
                      simp only [depV]
                      intro v7 hv7
                      rintro _ rfl
                      obtain ⟨v', w', hrun, hrow, hgx⟩ := append_one_gloss (x := ⟨au, st, fi, frm, till, sg⟩) hv7 (c := 0) (HSR.out w5 HGW.out) HDL.out
                      rw [HDN.out] at hrun
                      refine wp_append_headG (s := .tmp 79) (x := .tmp 82) rfl rfl rfl rfl hrun ?_
                      exact ⟨rfl, hgx, hrow⟩
                  · intro w5 hR
                    have HG5 : Hid (Grow wr w5) := Lib.hid hR.of_drew
                    clear hR
                    simp only [finVC, List.take_succ_cons, List.take_zero, List.drop_succ_cons, List.drop_zero]
                    rintro _ rfl
                    rintro _ rfl
                    rintro _ rfl
                    rintro _ rfl
                    rintro _ rfl
                    rintro _ rfl
                    rintro _ rfl
                    intro v7 hv7
                    rintro _ rfl
                    rintro _ rfl
                    rintro _ rfl
                    intro v11 hv11
                    simp only [Act.put, List.setIfInBounds_toArray, List.set_cons_succ, List.set_cons_zero]
                    obtain ⟨A3, c3, rfl, hrow⟩ := hv11
                    have HOA := Lib.hid (own_take (own_grow HT.out HG5.out) hp)
                    have HR3 := Lib.hid hrow
                    clear hrow hv7
                    go_wp2_with (at_builtin; go_loud (refine wpList_append_gloss rfl _ _ 25 rfl w.heap.size 55 j0 (.agg #[.int .i64 0, .int .i64 0, .int .i64 0, .int .i64 0, .int .i64 0, .int .i64 0]) 48 Try.underlying25 hj hy0 hy1 hy2 rfl _ 0 ((([] : List GlossD).take 0).flatMap cellsGL) rfl HOA.out A3 (⟨au, st, fi, frm, till, sg⟩ :: dr).length c3 _ (⟨au, st, fi, frm, till, sg⟩ :: dr) rfl rfl HR3.out ?c2 ?c3 ?c4 ?_))
                    case c2 => unfold maxLen; have := HDL.out; (try simp only [List.length_cons]); omega
                    case c3 => have := HDL.out; (try simp only [List.length_cons]); omega
                    case c4 => exact Nat.le_trans HGR.out.size HG5.out.size
                    intro v' w6 hown hgr
                    obtain ⟨An, cn, rfl⟩ := own_form hown
                    have HLN : Hid (dr.length + 1 = (insU [] ⟨au, st, fi, frm, till, sg⟩).length) := Lib.hid (by rw [← HLEN.out, List.length_cons]; omega)
                    have HNW : Hid (w6.ownsRow w.heap.size 55 6 (.slice An (insU [] ⟨au, st, fi, frm, till, sg⟩).length cn) (insU [] ⟨au, st, fi, frm, till, sg⟩).length ((insU [] ⟨au, st, fi, frm, till, sg⟩).flatMap cellsGL)) := Lib.hid (by
                      rw [← HLN.out, HINU.out]
                      simpa using hown)
                    have HG6 : Hid (Grow w w6) := Lib.hid (below_grown (HGR.out.trans HG5.out) HOA.out hgr (Nat.le_trans HGR.out.size HG5.out.size))
                    clear hown hgr HOA
                    go_wp2
                    go_roundw
                    case rel => exact ⟨k + 1, insU [] ⟨au, st, fi, frm, till, sg⟩, An, cn, hlt, by go_num, congrArg (fun z => Value.slice An z cn) HLN.out, HNX.out.symm, Nat.le_trans (insU_len _ _) (by omega), HNW.out, HG6.out⟩
                    case measure => simp [intOf]; omega
                · by_cases hcp : c' = p
                  · subst hcp
                    have hpe : acc.length = c' := by omega
                    have HSR : Hid (∀ w5, Grow wr w5 → GlossAt w5 w5.heap.size (some ⟨g, 0, none⟩) dr) := Lib.hid (fun _ _ => .inl (List.eq_nil_of_length_eq_zero (by rw [HDE.out]; omega)))
                    have HDN : Hid (dr.length = acc.length - c') := HDE
                    refine wp_region_lit 12 [[], [], [(0, 72), (1, 73)], [], [], [(3, 75), (4, 76)], [(5, 77)], [(6, 78)], [], [], [(8, 80), (9, 81)], [(7, 79), (10, 82)]] Grow (fun qi v w' => match qi with
                        | 0 => v = .slice (some ⟨g, 0, none⟩) acc.length c'
                        | 1 => v = .int .i64 (c' : Nat)
                        | 2 => v = .slice (some ⟨g, 0, none⟩) c' c'
                        | 3 => v = .slice (some ⟨b, off, none⟩) l.length cap
                        | 4 => v = .int .i64 (k : Nat)
                        | 5 => v = .pointer (some ⟨b, off + k * 6, none⟩)
                        | 6 => v = glossV ⟨au, st, fi, frm, till, sg⟩
                        | 7 => NewGloss w.heap.size ⟨au, st, fi, frm, till, sg⟩ v w'
                        | 8 => v = .slice (some ⟨g, 0, none⟩) acc.length c'
                        | 9 => v = .int .i64 (c' : Nat)
                        | 10 => v = .slice (some ⟨g, 0, none⟩) (acc.length - c') 0
                        | 11 => IsRowG (⟨au, st, fi, frm, till, sg⟩ :: dr) v w'
                        | _ => False) (by kernel_rfl) (by kernel_rfl) (fun _ _ _ => Grow.trans) Grow.refl ?_ ?_ ?_
                    · intro i v y y' h k
                      match i, h with
                      | 7, h => exact h.grow k
                      | 11, h => exact h.grow k
                      | 0, h | 1, h | 2, h | 3, h | 4, h | 5, h | 6, h | 8, h | 9, h | 10, h => exact h
                    · simp only [StepsLit, List.take_succ_cons, List.take_zero]
                      refine ⟨?_, ?_, ?_, ?_, ?_, ?_, ?_, ?_, ?_, ?_, ?_, ?_, trivial⟩
                      · intro w5 hR
                        have hGw : Grow wr w5 := hR.of_drew
                        have HGW := Lib.hid hGw
                        have e0 := HE0.out w5 HGW.out
                        have e1 := HE1.out w5 HGW.out
                        have e2 := HE2.out w5 HGW.out
                        have e3 := HE3.out w5 HGW.out
                        have e4 := HE4.out w5 HGW.out
                        have e5 := HE5.out w5 HGW.out
                        clear hR hGw
                        simp only [depV]
                        try go_simp
                        all_goals first
                          | (with_reducible exact Grow.refl _)
                          | (with_reducible exact ⟨Grow.refl _, rfl⟩)
                      · intro w5 hR
                        have hGw : Grow wr w5 := hR.of_drew
                        have HGW := Lib.hid hGw
                        have e0 := HE0.out w5 HGW.out
                        have e1 := HE1.out w5 HGW.out
                        have e2 := HE2.out w5 HGW.out
                        have e3 := HE3.out w5 HGW.out
                        have e4 := HE4.out w5 HGW.out
                        have e5 := HE5.out w5 HGW.out
                        clear hR hGw
                        simp only [depV]
                        try go_simp
                        all_goals first
                          | (with_reducible exact Grow.refl _)
                          | (with_reducible exact ⟨Grow.refl _, rfl⟩)
                      · intro w5 hR
                        have hGw : Grow wr w5 := hR.of_drew
                        have HGW := Lib.hid hGw
                        have e0 := HE0.out w5 HGW.out
                        have e1 := HE1.out w5 HGW.out
                        have e2 := HE2.out w5 HGW.out
                        have e3 := HE3.out w5 HGW.out
                        have e4 := HE4.out w5 HGW.out
                        have e5 := HE5.out w5 HGW.out
                        clear hR hGw
                        simp only [depV]
                        rintro _ rfl
                        rintro _ rfl
                        try go_simp
                        all_goals first
                          | (with_reducible exact Grow.refl _)
                          | (with_reducible exact ⟨Grow.refl _, rfl⟩)
                      · intro w5 hR
                        have hGw : Grow wr w5 := hR.of_drew
                        have HGW := Lib.hid hGw
                        have e0 := HE0.out w5 HGW.out
                        have e1 := HE1.out w5 HGW.out
                        have e2 := HE2.out w5 HGW.out
                        have e3 := HE3.out w5 HGW.out
                        have e4 := HE4.out w5 HGW.out
                        have e5 := HE5.out w5 HGW.out
                        clear hR hGw
                        simp only [depV]
                        try go_simp
                        all_goals first
                          | (with_reducible exact Grow.refl _)
                          | (with_reducible exact ⟨Grow.refl _, rfl⟩)
                      · intro w5 hR
                        have hGw : Grow wr w5 := hR.of_drew
                        have HGW := Lib.hid hGw
                        have e0 := HE0.out w5 HGW.out
                        have e1 := HE1.out w5 HGW.out
                        have e2 := HE2.out w5 HGW.out
                        have e3 := HE3.out w5 HGW.out
                        have e4 := HE4.out w5 HGW.out
                        have e5 := HE5.out w5 HGW.out
                        clear hR hGw
                        simp only [depV]
                        try go_simp
                        all_goals first
                          | (with_reducible exact Grow.refl _)
                          | (with_reducible exact ⟨Grow.refl _, rfl⟩)
                      · intro w5 hR
                        have hGw : Grow wr w5 := hR.of_drew
                        have HGW := Lib.hid hGw
                        have e0 := HE0.out w5 HGW.out
                        have e1 := HE1.out w5 HGW.out
                        have e2 := HE2.out w5 HGW.out
                        have e3 := HE3.out w5 HGW.out
                        have e4 := HE4.out w5 HGW.out
                        have e5 := HE5.out w5 HGW.out
                        clear hR hGw
                        simp only [depV]
                        rintro _ rfl
                        rintro _ rfl
                        try go_simp
                        all_goals first
                          | (with_reducible exact Grow.refl _)
                          | (with_reducible exact ⟨Grow.refl _, rfl⟩)
                      · intro w5 hR
                        have hGw : Grow wr w5 := hR.of_drew
                        have HGW := Lib.hid hGw
                        have e0 := HE0.out w5 HGW.out
                        have e1 := HE1.out w5 HGW.out
                        have e2 := HE2.out w5 HGW.out
                        have e3 := HE3.out w5 HGW.out
                        have e4 := HE4.out w5 HGW.out
                        have e5 := HE5.out w5 HGW.out
                        clear hR hGw
                        simp only [depV]
                        rintro _ rfl
                        try go_simp
                        all_goals first
                          | (with_reducible exact Grow.refl _)
                          | (with_reducible exact ⟨Grow.refl _, rfl⟩)
                      · intro w5 hR
                        have hGw : Grow wr w5 := hR.of_drew
                        have HGW := Lib.hid hGw
                        have e0 := HE0.out w5 HGW.out
                        have e1 := HE1.out w5 HGW.out
                        have e2 := HE2.out w5 HGW.out
                        have e3 := HE3.out w5 HGW.out
                        have e4 := HE4.out w5 HGW.out
                        have e5 := HE5.out w5 HGW.out
                        clear hR hGw
                        simp only [depV]
                        rintro _ rfl
                        try go_simp
                        exact ⟨Grow.alloc _ _, _, rfl, Nat.le_trans HGR.out.size HGW.out.size, BlockIs.new _ _ _⟩
                      · intro w5 hR
                        have hGw : Grow wr w5 := hR.of_drew
                        have HGW := Lib.hid hGw
                        have e0 := HE0.out w5 HGW.out
                        have e1 := HE1.out w5 HGW.out
                        have e2 := HE2.out w5 HGW.out
                        have e3 := HE3.out w5 HGW.out
                        have e4 := HE4.out w5 HGW.out
                        have e5 := HE5.out w5 HGW.out
                        clear hR hGw
                        simp only [depV]
                        try go_simp
                        all_goals first
                          | (with_reducible exact Grow.refl _)
                          | (with_reducible exact ⟨Grow.refl _, rfl⟩)
                      · intro w5 hR
                        have hGw : Grow wr w5 := hR.of_drew
                        have HGW := Lib.hid hGw
                        have e0 := HE0.out w5 HGW.out
                        have e1 := HE1.out w5 HGW.out
                        have e2 := HE2.out w5 HGW.out
                        have e3 := HE3.out w5 HGW.out
                        have e4 := HE4.out w5 HGW.out
                        have e5 := HE5.out w5 HGW.out
                        clear hR hGw
                        simp only [depV]
                        try go_simp
                        all_goals first
                          | (with_reducible exact Grow.refl _)
                          | (with_reducible exact ⟨Grow.refl _, rfl⟩)
                      · intro w5 hR
                        have hGw : Grow wr w5 := hR.of_drew
                        have HGW := Lib.hid hGw
                        have e0 := HE0.out w5 HGW.out
                        have e1 := HE1.out w5 HGW.out
                        have e2 := HE2.out w5 HGW.out
                        have e3 := HE3.out w5 HGW.out
                        have e4 := HE4.out w5 HGW.out
                        have e5 := HE5.out w5 HGW.out
                        clear hR hGw
                        simp only [depV]
                        rintro _ rfl
                        rintro _ rfl
                        try go_simp
                        all_goals first
                          | (with_reducible exact Grow.refl _)
                          | (with_reducible exact ⟨Grow.refl _, rfl⟩)
                      · intro w5 hR
                        have hGw : Grow wr w5 := hR.of_drew
                        have HGW := Lib.hid hGw
                        have e0 := HE0.out w5 HGW.out
                        have e1 := HE1.out w5 HGW.out
                        have e2 := HE2.out w5 HGW.out
                        have e3 := HE3.out w5 HGW.out
                        have e4 := HE4.out w5 HGW.out
                        have e5 := HE5.out w5 HGW.out
                        clear hR hGw
                        simp only [depV]
                        intro v7 hv7
                        rintro _ rfl
                        obtain ⟨v', w', hrun, hrow, hgx⟩ := append_one_gloss (x := ⟨au, st, fi, frm, till, sg⟩) hv7 (c := 0) (HSR.out w5 HGW.out) HDL.out
                        rw [HDN.out] at hrun
                        refine wp_append_headG (s := .tmp 79) (x := .tmp 82) rfl rfl rfl rfl hrun ?_
                        exact ⟨rfl, hgx, hrow⟩
                    · intro w5 hR
                      have HG5 : Hid (Grow wr w5) := Lib.hid hR.of_drew
                      clear hR
                      simp only [finVC, List.take_succ_cons, List.take_zero, List.drop_succ_cons, List.drop_zero]
                      rintro _ rfl
                      rintro _ rfl
                      rintro _ rfl
                      rintro _ rfl
                      rintro _ rfl
                      rintro _ rfl
                      rintro _ rfl
                      intro v7 hv7
                      rintro _ rfl
                      rintro _ rfl
                      rintro _ rfl
                      intro v11 hv11
                      simp only [Act.put, List.setIfInBounds_toArray, List.set_cons_succ, List.set_cons_zero]
                      obtain ⟨A3, c3, rfl, hrow⟩ := hv11
                      have HOA := Lib.hid (own_take (own_grow HT.out HG5.out) hp)
                      have HR3 := Lib.hid hrow
                      clear hrow hv7
                      go_wp2_with (at_builtin; go_loud (refine wpList_append_gloss rfl _ _ 25 rfl w.heap.size 55 j0 (.agg #[.int .i64 0, .int .i64 0, .int .i64 0, .int .i64 0, .int .i64 0, .int .i64 0]) 48 Try.underlying25 hj hy0 hy1 hy2 rfl _ c' ((acc.take c').flatMap cellsGL) rfl HOA.out A3 (⟨au, st, fi, frm, till, sg⟩ :: dr).length c3 _ (⟨au, st, fi, frm, till, sg⟩ :: dr) rfl rfl HR3.out ?c2 ?c3 ?c4 ?_))
                      case c2 => unfold maxLen; have := HDL.out; (try simp only [List.length_cons]); omega
                      case c3 => have := HDL.out; (try simp only [List.length_cons]); omega
                      case c4 => exact Nat.le_trans HGR.out.size HG5.out.size
                      intro v' w6 hown hgr
                      obtain ⟨An, cn, rfl⟩ := own_form hown
                      have HLN : Hid (c' + (dr.length + 1) = (insU acc ⟨au, st, fi, frm, till, sg⟩).length) := Lib.hid (by rw [← HLEN.out, List.length_cons])
                      have HNW : Hid (w6.ownsRow w.heap.size 55 6 (.slice An (insU acc ⟨au, st, fi, frm, till, sg⟩).length cn) (insU acc ⟨au, st, fi, frm, till, sg⟩).length ((insU acc ⟨au, st, fi, frm, till, sg⟩).flatMap cellsGL)) := Lib.hid (by
                        rw [← HLN.out, HINU.out]
                        rw [List.flatMap_append, List.flatMap_cons]
                        exact hown)
                      have HG6 : Hid (Grow w w6) := Lib.hid (below_grown (HGR.out.trans HG5.out) HOA.out hgr (Nat.le_trans HGR.out.size HG5.out.size))
                      clear hown hgr HOA
                      go_wp2
                      go_roundw
                      case rel => exact ⟨k + 1, insU acc ⟨au, st, fi, frm, till, sg⟩, An, cn, hlt, by go_num, congrArg (fun z => Value.slice An z cn) HLN.out, HNX.out.symm, Nat.le_trans (insU_len _ _) (by omega), HNW.out, HG6.out⟩
                      case measure => simp [intOf]; omega
                  · have hcp2 : p < c' := by omega
                    have hcp3 : p ≤ c' := by omega
                    have HSR : Hid (∀ w5, Grow wr w5 → GlossAt w5 w5.heap.size (some ⟨g, p * 6, none⟩) dr) := Lib.hid (fun w5 hg => by rw [← HDR.out]; exact GlossAt.drop ((HT.out.grow hg).at_) p)
                    have HDN : Hid (dr.length = acc.length - p) := HDE
                    refine wp_region_lit 12 [[], [], [(0, 72), (1, 73)], [], [], [(3, 75), (4, 76)], [(5, 77)], [(6, 78)], [], [], [(8, 80), (9, 81)], [(7, 79), (10, 82)]] Grow (fun qi v w' => match qi with
                        | 0 => v = .slice (some ⟨g, 0, none⟩) acc.length c'
                        | 1 => v = .int .i64 (p : Nat)
                        | 2 => v = .slice (some ⟨g, 0, none⟩) p c'
                        | 3 => v = .slice (some ⟨b, off, none⟩) l.length cap
                        | 4 => v = .int .i64 (k : Nat)
                        | 5 => v = .pointer (some ⟨b, off + k * 6, none⟩)
                        | 6 => v = glossV ⟨au, st, fi, frm, till, sg⟩
                        | 7 => NewGloss w.heap.size ⟨au, st, fi, frm, till, sg⟩ v w'
                        | 8 => v = .slice (some ⟨g, 0, none⟩) acc.length c'
                        | 9 => v = .int .i64 (p : Nat)
                        | 10 => v = .slice (some ⟨g, p * 6, none⟩) (acc.length - p) (c' - p)
                        | 11 => IsRowG (⟨au, st, fi, frm, till, sg⟩ :: dr) v w'
                        | _ => False) (by kernel_rfl) (by kernel_rfl) (fun _ _ _ => Grow.trans) Grow.refl ?_ ?_ ?_
                    · intro i v y y' h k
                      match i, h with
                      | 7, h => exact h.grow k
                      | 11, h => exact h.grow k
                      | 0, h | 1, h | 2, h | 3, h | 4, h | 5, h | 6, h | 8, h | 9, h | 10, h => exact h
                    · simp only [StepsLit, List.take_succ_cons, List.take_zero]
                      refine ⟨?_, ?_, ?_, ?_, ?_, ?_, ?_, ?_, ?_, ?_, ?_, ?_, trivial⟩
                      · intro w5 hR
                        have hGw : Grow wr w5 := hR.of_drew
                        have HGW := Lib.hid hGw
                        have e0 := HE0.out w5 HGW.out
                        have e1 := HE1.out w5 HGW.out
                        have e2 := HE2.out w5 HGW.out
                        have e3 := HE3.out w5 HGW.out
                        have e4 := HE4.out w5 HGW.out
                        have e5 := HE5.out w5 HGW.out
                        clear hR hGw
                        simp only [depV]
                        try go_simp
                        all_goals first
                          | (with_reducible exact Grow.refl _)
                          | (with_reducible exact ⟨Grow.refl _, rfl⟩)
                      · intro w5 hR
                        have hGw : Grow wr w5 := hR.of_drew
                        have HGW := Lib.hid hGw
                        have e0 := HE0.out w5 HGW.out
                        have e1 := HE1.out w5 HGW.out
                        have e2 := HE2.out w5 HGW.out
                        have e3 := HE3.out w5 HGW.out
                        have e4 := HE4.out w5 HGW.out
                        have e5 := HE5.out w5 HGW.out
                        clear hR hGw
                        simp only [depV]
                        try go_simp
                        all_goals first
                          | (with_reducible exact Grow.refl _)
                          | (with_reducible exact ⟨Grow.refl _, rfl⟩)
                      · intro w5 hR
                        have hGw : Grow wr w5 := hR.of_drew
                        have HGW := Lib.hid hGw
                        have e0 := HE0.out w5 HGW.out
                        have e1 := HE1.out w5 HGW.out
                        have e2 := HE2.out w5 HGW.out
                        have e3 := HE3.out w5 HGW.out
                        have e4 := HE4.out w5 HGW.out
                        have e5 := HE5.out w5 HGW.out
                        clear hR hGw
                        simp only [depV]
                        rintro _ rfl
                        rintro _ rfl
                        try go_simp
                        all_goals first
                          | (with_reducible exact Grow.refl _)
                          | (with_reducible exact ⟨Grow.refl _, rfl⟩)
                      · intro w5 hR
                        have hGw : Grow wr w5 := hR.of_drew
                        have HGW := Lib.hid hGw
                        have e0 := HE0.out w5 HGW.out
                        have e1 := HE1.out w5 HGW.out
                        have e2 := HE2.out w5 HGW.out
                        have e3 := HE3.out w5 HGW.out
                        have e4 := HE4.out w5 HGW.out
                        have e5 := HE5.out w5 HGW.out
                        clear hR hGw
                        simp only [depV]
                        try go_simp
                        all_goals first
                          | (with_reducible exact Grow.refl _)
                          | (with_reducible exact ⟨Grow.refl _, rfl⟩)
                      · intro w5 hR
                        have hGw : Grow wr w5 := hR.of_drew
                        have HGW := Lib.hid hGw
                        have e0 := HE0.out w5 HGW.out
                        have e1 := HE1.out w5 HGW.out
                        have e2 := HE2.out w5 HGW.out
                        have e3 := HE3.out w5 HGW.out
                        have e4 := HE4.out w5 HGW.out
                        have e5 := HE5.out w5 HGW.out
                        clear hR hGw
                        simp only [depV]
                        try go_simp
                        all_goals first
                          | (with_reducible exact Grow.refl _)
                          | (with_reducible exact ⟨Grow.refl _, rfl⟩)
                      · intro w5 hR
                        have hGw : Grow wr w5 := hR.of_drew
                        have HGW := Lib.hid hGw
                        have e0 := HE0.out w5 HGW.out
                        have e1 := HE1.out w5 HGW.out
                        have e2 := HE2.out w5 HGW.out
                        have e3 := HE3.out w5 HGW.out
                        have e4 := HE4.out w5 HGW.out
                        have e5 := HE5.out w5 HGW.out
                        clear hR hGw
                        simp only [depV]
                        rintro _ rfl
                        rintro _ rfl
                        try go_simp
                        all_goals first
                          | (with_reducible exact Grow.refl _)
                          | (with_reducible exact ⟨Grow.refl _, rfl⟩)
                      · intro w5 hR
                        have hGw : Grow wr w5 := hR.of_drew
                        have HGW := Lib.hid hGw
                        have e0 := HE0.out w5 HGW.out
                        have e1 := HE1.out w5 HGW.out
                        have e2 := HE2.out w5 HGW.out
                        have e3 := HE3.out w5 HGW.out
                        have e4 := HE4.out w5 HGW.out
                        have e5 := HE5.out w5 HGW.out
                        clear hR hGw
                        simp only [depV]
                        rintro _ rfl
                        try go_simp
                        all_goals first
                          | (with_reducible exact Grow.refl _)
                          | (with_reducible exact ⟨Grow.refl _, rfl⟩)
                      · intro w5 hR
                        have hGw : Grow wr w5 := hR.of_drew
                        have HGW := Lib.hid hGw
                        have e0 := HE0.out w5 HGW.out
                        have e1 := HE1.out w5 HGW.out
                        have e2 := HE2.out w5 HGW.out
                        have e3 := HE3.out w5 HGW.out
                        have e4 := HE4.out w5 HGW.out
                        have e5 := HE5.out w5 HGW.out
                        clear hR hGw
                        simp only [depV]
                        rintro _ rfl
                        try go_simp
                        exact ⟨Grow.alloc _ _, _, rfl, Nat.le_trans HGR.out.size HGW.out.size, BlockIs.new _ _ _⟩
                      · intro w5 hR
                        have hGw : Grow wr w5 := hR.of_drew
                        have HGW := Lib.hid hGw
                        have e0 := HE0.out w5 HGW.out
                        have e1 := HE1.out w5 HGW.out
                        have e2 := HE2.out w5 HGW.out
                        have e3 := HE3.out w5 HGW.out
                        have e4 := HE4.out w5 HGW.out
                        have e5 := HE5.out w5 HGW.out
                        clear hR hGw
                        simp only [depV]
                        try go_simp
                        all_goals first
                          | (with_reducible exact Grow.refl _)
                          | (with_reducible exact ⟨Grow.refl _, rfl⟩)
                      · intro w5 hR
                        have hGw : Grow wr w5 := hR.of_drew
                        have HGW := Lib.hid hGw
                        have e0 := HE0.out w5 HGW.out
                        have e1 := HE1.out w5 HGW.out
                        have e2 := HE2.out w5 HGW.out
                        have e3 := HE3.out w5 HGW.out
                        have e4 := HE4.out w5 HGW.out
                        have e5 := HE5.out w5 HGW.out
                        clear hR hGw
                        simp only [depV]
                        try go_simp
                        all_goals first
                          | (with_reducible exact Grow.refl _)
                          | (with_reducible exact ⟨Grow.refl _, rfl⟩)
                      · intro w5 hR
                        have hGw : Grow wr w5 := hR.of_drew
                        have HGW := Lib.hid hGw
                        have e0 := HE0.out w5 HGW.out
                        have e1 := HE1.out w5 HGW.out
                        have e2 := HE2.out w5 HGW.out
                        have e3 := HE3.out w5 HGW.out
                        have e4 := HE4.out w5 HGW.out
                        have e5 := HE5.out w5 HGW.out
                        clear hR hGw
                        simp only [depV]
                        rintro _ rfl
                        rintro _ rfl
                        try go_simp
                        all_goals first
                          | (with_reducible exact Grow.refl _)
                          | (with_reducible exact ⟨Grow.refl _, rfl⟩)
                      · intro w5 hR
                        have hGw : Grow wr w5 := hR.of_drew
                        have HGW := Lib.hid hGw
                        have e0 := HE0.out w5 HGW.out
                        have e1 := HE1.out w5 HGW.out
                        have e2 := HE2.out w5 HGW.out
                        have e3 := HE3.out w5 HGW.out
                        have e4 := HE4.out w5 HGW.out
                        have e5 := HE5.out w5 HGW.out
                        clear hR hGw
                        simp only [depV]
                        intro v7 hv7
                        rintro _ rfl
                        obtain ⟨v', w', hrun, hrow, hgx⟩ := append_one_gloss (x := ⟨au, st, fi, frm, till, sg⟩) hv7 (c := (c' - p)) (HSR.out w5 HGW.out) HDL.out
                        rw [HDN.out] at hrun
                        refine wp_append_headG (s := .tmp 79) (x := .tmp 82) rfl rfl rfl rfl hrun ?_
                        exact ⟨rfl, hgx, hrow⟩
                    · intro w5 hR
                      have HG5 : Hid (Grow wr w5) := Lib.hid hR.of_drew
                      clear hR
                      simp only [finVC, List.take_succ_cons, List.take_zero, List.drop_succ_cons, List.drop_zero]
                      rintro _ rfl
                      rintro _ rfl
                      rintro _ rfl
                      rintro _ rfl
                      rintro _ rfl
                      rintro _ rfl
                      rintro _ rfl
                      intro v7 hv7
                      rintro _ rfl
                      rintro _ rfl
                      rintro _ rfl
                      intro v11 hv11
                      simp only [Act.put, List.setIfInBounds_toArray, List.set_cons_succ, List.set_cons_zero]
                      obtain ⟨A3, c3, rfl, hrow⟩ := hv11
                      have HOA := Lib.hid (own_take (own_grow HT.out HG5.out) hp)
                      have HR3 := Lib.hid hrow
                      clear hrow hv7
                      go_wp2_with (at_builtin; go_loud (refine wpList_append_gloss rfl _ _ 25 rfl w.heap.size 55 j0 (.agg #[.int .i64 0, .int .i64 0, .int .i64 0, .int .i64 0, .int .i64 0, .int .i64 0]) 48 Try.underlying25 hj hy0 hy1 hy2 rfl _ p ((acc.take p).flatMap cellsGL) rfl HOA.out A3 (⟨au, st, fi, frm, till, sg⟩ :: dr).length c3 _ (⟨au, st, fi, frm, till, sg⟩ :: dr) rfl rfl HR3.out ?c2 ?c3 ?c4 ?_))
                      case c2 => unfold maxLen; have := HDL.out; (try simp only [List.length_cons]); omega
                      case c3 => have := HDL.out; (try simp only [List.length_cons]); omega
                      case c4 => exact Nat.le_trans HGR.out.size HG5.out.size
                      intro v' w6 hown hgr
                      obtain ⟨An, cn, rfl⟩ := own_form hown
                      have HLN : Hid (p + (dr.length + 1) = (insU acc ⟨au, st, fi, frm, till, sg⟩).length) := Lib.hid (by rw [← HLEN.out, List.length_cons])
                      have HNW : Hid (w6.ownsRow w.heap.size 55 6 (.slice An (insU acc ⟨au, st, fi, frm, till, sg⟩).length cn) (insU acc ⟨au, st, fi, frm, till, sg⟩).length ((insU acc ⟨au, st, fi, frm, till, sg⟩).flatMap cellsGL)) := Lib.hid (by
                        rw [← HLN.out, HINU.out]
                        rw [List.flatMap_append, List.flatMap_cons]
                        exact hown)
                      have HG6 : Hid (Grow w w6) := Lib.hid (below_grown (HGR.out.trans HG5.out) HOA.out hgr (Nat.le_trans HGR.out.size HG5.out.size))
                      clear hown hgr HOA
                      go_wp2
                      go_roundw
                      case rel => exact ⟨k + 1, insU acc ⟨au, st, fi, frm, till, sg⟩, An, cn, hlt, by go_num, congrArg (fun z => Value.slice An z cn) HLN.out, HNX.out.symm, Nat.le_trans (insU_len _ _) (by omega), HNW.out, HG6.out⟩
                      case measure => simp [intOf]; omega
    · obtain rfl : k = l.length := by omega
      have hld : decide ((l.length : Int) < (l.length : Int)) = false := by simp
      have hldn : decide (l.length < l.length) = false := by simp
      have HE : Hid (acc = res) := Lib.hid (HAC.out.trans HD.out.symm)
      obtain rfl := HE.out
      clear hlt hT hgr
      go_wp2
      go_ret
      exact ⟨A', c', rfl, HT.out, HGR.out⟩

end Go.Proofs.Ytinlojealfbbfaa
