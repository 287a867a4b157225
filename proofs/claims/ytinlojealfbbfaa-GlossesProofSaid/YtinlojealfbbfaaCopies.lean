/- Copies: copied, Same and sameReadings of the laws, Copy of the specification; written by wip/tools/copies02.py. -/
import Derived.Test.YtinlojealfbbfaaWorks
import Derived.Test.YtinlojealfbbfaaRSort
import Derived.Test.YtinlojealfbbfaaReadL
import Derived.BigQuiet
namespace Go.Proofs.Ytinlojealfbbfaa
open Go.RowKit

theorem own_empty {T : TypeId} {s : Nat} (W : World) (b : Nat) (hb : b = W.heap.size) : (W.alloc (.cells #[] T)).ownsRow b T s (.slice (some ⟨b, 0, none⟩) 0 0) 0 [] := by
  subst hb
  exact ⟨by simp, .inr ⟨W.heap.size, 0, #[], rfl, Nat.le_refl _, heap_alloc_new W _, Nat.le_refl _, by unfold maxLen; omega, by simp, by simp⟩⟩

set_option maxRecDepth 100000 in
set_option maxHeartbeats 4000000 in
theorem copied_any (l : List GlossD) (A : Option Addr) (cap n : Nat) (w : World) (hA : GlossAt w n A l) (hn : n ≤ w.heap.size) (hl : l.length * 48 ≤ 140737488351232) :
    Calls Try.prog 28 #[.slice A l.length cap] w fun e w' => ∃ A' c', e = .returned (.slice A' l.length c') ∧ GlossT w' w.heap.size A' c' l ∧ Below w.heap.size w w' := by
  obtain ⟨j0, hj, hy0, hy1, hy2⟩ := info_parts Try.infoGloss
  have HT := Lib.hid (hA.more hn)
  clear hA hn
  go_enter Try.func28, Try.ntmps28
  go_wp2_with (at_builtin; refine wpList_append_gloss rfl _ _ 25 rfl w.heap.size 55 j0 (.agg #[.int .i64 0, .int .i64 0, .int .i64 0, .int .i64 0, .int .i64 0, .int .i64 0]) 48 Try.underlying25 hj hy0 hy1 hy2 rfl _ 0 [] rfl ?c0 A l.length cap w.heap.size l rfl rfl ?c1 ?c2 ?c3 ?c4 ?_)
  case c0 => exact own_empty _ _ rfl
  case c1 => exact HT.out.below (Grow.alloc _ _)
  case c2 => unfold maxLen; omega
  case c3 => omega
  case c4 => simp
  intro v' w1 hown hgr
  obtain ⟨A1, ca1, rfl⟩ := own_form hown
  have hT1 : GlossT w1 w.heap.size A1 ca1 l := by simpa [GlossT] using hown
  have hb1 : Below w.heap.size w w1 := (((Below.refl _ w).alloc (Nat.le_refl _) _)).grown hgr (by simp) (fun k hk => by simp [Value.ownBlock] at hk; omega)
  have HT1 := Lib.hid hT1
  have HB1 := Lib.hid hb1
  clear hown hgr hT1 hb1
  go_wp2
  go_ret
  exact ⟨A1, ca1, rfl, HT1.out, HB1.out⟩

/-- integers in a block of integers -/
def IntsB (w : World) (A : Option Addr) (xs : List Int) : Prop := xs = [] ∨ ∃ b off cs, A = some ⟨b, off, none⟩ ∧ BlockIs w b 3 cs ∧ ∀ j x, xs[j]? = some x → cs[off + j]? = some (.int .i64 x)
theorem IntsB.grow {w w' : World} {A : Option Addr} {xs : List Int} (h : IntsB w A xs) (g : Grow w w') : IntsB w' A xs := by
  rcases h with h | ⟨b, off, cs, e, h, hc⟩
  · exact .inl h
  · exact .inr ⟨b, off, cs, e, g.block h, hc⟩
theorem IntsB.ints {w : World} {A : Option Addr} {xs : List Int} (h : IntsB w A xs) : Ints w w.heap.size A xs := by
  rcases h with h | ⟨b, off, cs, e, h, hc⟩
  · exact .inl h
  · exact .inr ⟨b, off, e, h.lt, fun j x hj => by rw [h.cell]; exact hc j x hj⟩
theorem IntsB.far {w : World} {A : Option Addr} {xs : List Int} (h : IntsB w A xs) {q : Nat} {t : TypeId} {cs' : Array Value} (hq : BlockIs w q t cs') (ht : t ≠ 3) (j : Nat) (v : Value) : IntsB (w.setCell ⟨q, j, none⟩ v) A xs := by
  rcases h with h | ⟨b, off, cs, e, h, hc⟩
  · exact .inl h
  · refine .inr ⟨b, off, cs, e, h.far (p := ⟨q, j, none⟩) (fun e => ?_) v, hc⟩
    have e : b = q := e
    subst e
    have := h.symm.trans hq
    simp at this
    exact ht this.2.symm
theorem own_intsB {w : World} {base n cap : Nat} {A : Option Addr} {xs : List Int} (h : w.ownsRow base 3 1 (.slice A n cap) n (xs.map (Value.int .i64))) : IntsB w A xs := by
  obtain ⟨hl, h⟩ := h
  rw [List.length_map, Nat.mul_one] at hl
  rcases h with ⟨h1, h2⟩ | ⟨g, cap', cur, hv, _, hh, hn, _, hsz, htake⟩
  · exact .inl (List.eq_nil_of_length_eq_zero (by omega))
  · injection hv with e1 _ _
    subst e1
    refine .inr ⟨g, 0, cur, rfl, hh, fun j x hx => ?_⟩
    have hj : j < n := by rw [← hl]; exact lt_of_at hx
    have h2 : (cur.toList.take (n * 1))[j]? = some (.int .i64 x) := by rw [htake, List.getElem?_map, hx]; rfl
    rw [List.getElem?_take_of_lt (by omega)] at h2
    rw [Nat.zero_add]
    simpa using h2
def NewInts0 (v : Value) (w : World) : Prop := ∃ b, v = .slice (some ⟨b, 0, none⟩) 0 0 ∧ BlockIs w b 3 #[]
theorem NewInts0.grow {v : Value} {a b : World} (h : NewInts0 v a) (g : Grow a b) : NewInts0 v b := by
  obtain ⟨q, e, h⟩ := h
  exact ⟨q, e, g.block h⟩
def IsInts (l : List Int) (v : Value) (w : World) : Prop := ∃ A c, v = .slice A l.length c ∧ IntsB w A l
theorem IsInts.grow {l : List Int} {v : Value} {a b : World} (h : IsInts l v a) (g : Grow a b) : IsInts l v b := by
  obtain ⟨A, c, e, h⟩ := h
  exact ⟨A, c, e, h.grow g⟩
def IsFilms (f : FilmsD) (v : Value) (w : World) : Prop := ∃ A c, v = filmsV ⟨f, A, c⟩ ∧ IntsB w A f.frames
theorem IsFilms.grow {f : FilmsD} {v : Value} {a b : World} (h : IsFilms f v a) (g : Grow a b) : IsFilms f v b := by
  obtain ⟨A, c, e, h⟩ := h
  exact ⟨A, c, e, h.grow g⟩
theorem append_headI {a : Act} {o : Oper} {s x : Operand} {w w' : World} {v u v' : Value} (ho : o.op = .call { callee := .builtin .append, args := #[s, x], argTypes := #[22, 22] }) (ht : o.type = 22) (hs : a.eval s = v) (hx : a.eval x = u)
    (hrun : (Builtin.append_ #[22, 22] 22 #[v, u]).run Try.prog w = .ok v' w') : (execOp a.eval o).run Try.prog w = .ok (.value v') w' := by
  unfold execOp
  simp only [ho, ht, resolve, invoke, builtin, Sem.run_bind, Sem.run_pure, Result.andThen_ok, List.map_toArray, List.map_cons, List.map_nil, hs, hx, hrun]
theorem wp_append_headI {a : Act} {o : Oper} {s x : Operand} {w w' : World} {v u v' : Value} {next : Act → World → Prop} {Q : Exit → Act → World → Prop} (ho : o.op = .call { callee := .builtin .append, args := #[s, x], argTypes := #[22, 22] }) (ht : o.type = 22) (hs : a.eval s = v) (hx : a.eval x = u)
    (hrun : (Builtin.append_ #[22, 22] 22 #[v, u]).run Try.prog w = .ok v' w') (hn : next (a.put o.dst v') w') : o.wp Try.prog a w next Q := by
  unfold Oper.wp
  rw [append_headI ho ht hs hx hrun]
  exact hn
theorem append_ints0 {c B : Nat} {v : Value} {w : World} (h : NewInts0 v w) {A : Option Addr} {l : List Int} (hr : Ints w B A l) (hl : l.length ≤ 1000) :
    ∃ v' w', (Builtin.append_ #[22, 22] 22 #[v, .slice A l.length c]).run Try.prog w = .ok v' w' ∧ IsInts l v' w' ∧ Grow w w' := by
  obtain ⟨j0, hj, hy0, hy1, hy2⟩ := info_parts Try.infoInt
  obtain ⟨g, rfl, hB⟩ := h
  by_cases h0 : l = []
  · subst h0
    refine ⟨.slice (some ⟨g, 0, none⟩) 0 0, w, ?_, ⟨_, 0, rfl, .inl rfl⟩, Grow.refl _⟩
    cases A with
    | none => simp [Builtin.append_, run_underlying Try.underlying22, Builtin.lenOf, Builtin.firstCells, sizeOf, typeInfo, hj, storeCells]
    | some ad => simp [Builtin.append_, run_underlying Try.underlying22, Builtin.lenOf, Builtin.firstCells, sizeOf, typeInfo, hj, storeCells, loadCells, loadCellsFrom]
  · cases A with
    | none =>
      rcases hr with h | ⟨_, _, h, _⟩
      · exact absurd h h0
      · cases h
    | some ad =>
      have hp := List.length_pos_iff.2 h0
      have hnews : ∀ j u, (l.map (Value.int .i64))[j]? = some u → w.cell? (ad.add j) = some u := by
        intro j u hu
        rcases hr with h | ⟨b, off, h1, _, h2⟩
        · exact absurd h h0
        · have h1 := Option.some.inj h1
          subst h1
          rw [List.getElem?_map] at hu
          cases hy : l[j]? with
          | none => rw [hy] at hu; cases hu
          | some y =>
            rw [hy] at hu
            have hu : Value.int .i64 y = u := by simpa using hu
            subst hu
            rw [show (⟨b, off, none⟩ : Addr).add j = ⟨b, off + j, none⟩ by simp [Addr.add]]
            exact h2 j y hy
      obtain ⟨v', w', hrun, hown, hgr⟩ := run_append_arg_grows (P := Try.prog) w 22 22 3 j0 (.int .i64 0) 1 8 Try.underlying22 hj hy0 hy1 hy2 rfl (by omega) ⟨g, 0, none⟩ 0 0 [] rfl (fun j u hu => by simp at hu) ad l.length c (l.map (Value.int .i64)) (by simp) hnews (by omega) (by unfold maxLen; omega) (by omega)
      have hown' : w'.ownsRow w.heap.size 3 1 v' l.length (l.map (Value.int .i64)) := by simpa using hown
      obtain ⟨A', c', rfl⟩ := own_form hown'
      exact ⟨_, w', hrun, ⟨A', c', rfl, own_intsB hown'⟩, grown_none hgr⟩
theorem two_cells {w : World} {b : Nat} {t : TypeId} {c0 c1 : Value} (h : BlockIs w b t #[c0, c1]) (v0 v1 : Value) : BlockIs ((w.setCell ⟨b, 0, none⟩ v0).setCell ⟨b, 1, none⟩ v1) b t #[v0, v1] := (h.near 0 v0).near 1 v1
theorem results_films {fn : Func} (h : fn.results = #[.cell 2 24]) (t : Array Value) (W : World) (b : Nat) (v0 v1 : Value)
    (hb : BlockIs W b 24 #[v0, v1]) (ht : t.getD 2 undef = .pointer (some ⟨b, 0, none⟩)) :
    (results fn t).run Try.prog W = .ok (.agg #[v0, v1]) W := by
  have hc := hb.cell
  simp only [results, h]
  simp at ht
  simp [go_sem, ht, hc]

set_option maxRecDepth 100000 in
set_option maxHeartbeats 8000000 in
theorem rCopyF_any (f : FilmsR) (n : Nat) (w : World) (hf : Ints w n f.A f.d.frames) (hn : n ≤ w.heap.size) (hl : f.d.frames.length ≤ 1000) :
    Calls Try.prog 32 #[filmsV f] w fun e w' => ∃ A' c', e = .returned (filmsV ⟨f.d, A', c'⟩) ∧ Ints w' w'.heap.size A' f.d.frames ∧ Below w.heap.size w w' := by
  have HI := Lib.hid (fun (w0 : World) (hw : Grow w w0) => (hf.more hn).below hw)
  clear hf hn
  go_enter Try.func32, Try.ntmps32
  go_upto_region 1 with fail
  obtain ⟨W, hW, hg, hb0, hb1, hsz⟩ := two_blocks w 24 24 (cellsF f) #[.slice none 0 0, .int .i64 0]
  rw [hW]
  clear hW
  have HG := Lib.hid hg
  have HF := Lib.hid hb0
  have HR := Lib.hid hb1
  clear hg hb0 hb1
  refine wp_region_lit 7 [[], [], [(1, 4)], [(0, 3), (2, 5)], [], [(4, 7)], [(3, 6), (5, 8)]] Grow (fun qi v w' => match qi with
      | 0 => NewInts0 v w'
      | 1 => v = .pointer (some ⟨w.heap.size, 0, none⟩)
      | 2 => v = .slice f.A f.d.frames.length f.ca
      | 3 => IsInts f.d.frames v w'
      | 4 => v = .pointer (some ⟨w.heap.size, 1, none⟩)
      | 5 => v = .int .i64 f.d.signs
      | 6 => IsFilms f.d v w'
      | _ => False) (by kernel_rfl) (by kernel_rfl) (fun _ _ _ => Grow.trans) Grow.refl ?_ ?_ ?_
  · intro i v y y' h k
    match i, h with
    | 0, h => exact h.grow k
    | 3, h => exact h.grow k
    | 6, h => exact h.grow k
    | 1, h | 2, h | 4, h | 5, h => exact h
  · simp only [StepsLit, List.take_succ_cons, List.take_zero]
    refine ⟨?_, ?_, ?_, ?_, ?_, ?_, ?_, trivial⟩
    · intro w5 hR
      have hGw : Grow W w5 := hR.of_drew
      have HGW := Lib.hid hGw
      have hcc := (HGW.out.block HF.out).cell
      clear hR hGw
      simp only [depV]
      try go_simp
      exact ⟨Grow.alloc _ _, _, rfl, BlockIs.new _ _ _⟩
    · intro w5 hR
      have hGw : Grow W w5 := hR.of_drew
      have HGW := Lib.hid hGw
      have hcc := (HGW.out.block HF.out).cell
      clear hR hGw
      simp only [depV]
      try go_simp
      all_goals first
        | (with_reducible exact Grow.refl _)
        | (with_reducible exact ⟨Grow.refl _, rfl⟩)
    · intro w5 hR
      have hGw : Grow W w5 := hR.of_drew
      have HGW := Lib.hid hGw
      have hcc := (HGW.out.block HF.out).cell
      clear hR hGw
      simp only [depV]
      rintro _ rfl
      try go_simp
      all_goals first
        | (with_reducible exact Grow.refl _)
        | (with_reducible exact ⟨Grow.refl _, rfl⟩)
    · intro w5 hR
      have hGw : Grow W w5 := hR.of_drew
      have HGW := Lib.hid hGw
      have hcc := (HGW.out.block HF.out).cell
      clear hR hGw
      simp only [depV]
      intro v0 hv0
      rintro _ rfl
      clear hcc
      obtain ⟨v', w', hrun, hrow, hgx⟩ := append_ints0 (c := f.ca) hv0 (HI.out w5 (HG.out.trans HGW.out)) hl
      refine wp_append_headI (s := .tmp 3) (x := .tmp 5) rfl rfl rfl rfl hrun ?_
      exact ⟨rfl, hgx, hrow⟩
    · intro w5 hR
      have hGw : Grow W w5 := hR.of_drew
      have HGW := Lib.hid hGw
      have hcc := (HGW.out.block HF.out).cell
      clear hR hGw
      simp only [depV]
      try go_simp
      all_goals first
        | (with_reducible exact Grow.refl _)
        | (with_reducible exact ⟨Grow.refl _, rfl⟩)
    · intro w5 hR
      have hGw : Grow W w5 := hR.of_drew
      have HGW := Lib.hid hGw
      have hcc := (HGW.out.block HF.out).cell
      clear hR hGw
      simp only [depV]
      rintro _ rfl
      try go_simp
      all_goals first
        | (with_reducible exact Grow.refl _)
        | (with_reducible exact ⟨Grow.refl _, rfl⟩)
    · intro w5 hR
      have hGw : Grow W w5 := hR.of_drew
      have HGW := Lib.hid hGw
      have hcc := (HGW.out.block HF.out).cell
      clear hR hGw
      simp only [depV]
      intro v3 hv3
      rintro _ rfl
      obtain ⟨A9, c9, rfl, h9⟩ := hv3
      try go_simp
      exact ⟨Grow.refl _, A9, c9, rfl, h9⟩
  · intro w5 hR
    have HG5 : Hid (Grow W w5) := Lib.hid hR.of_drew
    clear hR
    simp only [finVC, List.take_succ_cons, List.take_zero, List.drop_succ_cons, List.drop_zero]
    intro v0 hv0
    rintro _ rfl
    rintro _ rfl
    intro v3 hv3
    rintro _ rfl
    rintro _ rfl
    intro v6 hv6
    simp only [Act.put, List.setIfInBounds_toArray, List.set_cons_succ, List.set_cons_zero]
    obtain ⟨A9, c9, rfl, h9⟩ := hv6
    have H9 := Lib.hid h9
    have hbr := (HG5.out.block HR.out)
    have HBR := Lib.hid hbr
    have hrc := hbr.cell
    have hrf := hbr.frozen
    clear hv0 hv3 h9 hbr
    go_wp2
    have hst := two_cells HBR.out (.slice A9 f.d.frames.length c9) (.int .i64 f.d.signs)
    exact bodyPost_ret (results_films Try.results32 _ _ _ _ _ hst rfl) rfl ⟨A9, c9, rfl, ((H9.out.far HBR.out (by decide) 0 _).far (HBR.out.near 0 _) (by decide) 1 _).ints, (HG.out.trans HG5.out).setC (p := ⟨w.heap.size + 1, 0, none⟩) (by show w.heap.size ≤ w.heap.size + 1; omega) _ |>.setCell (p := ⟨w.heap.size + 1, 1, none⟩) (by show w.heap.size ≤ w.heap.size + 1; omega) _⟩

set_option maxRecDepth 100000 in
set_option maxHeartbeats 4000000 in
theorem lsame_any (xs ys : List GlossD) (A B : Option Addr) (c d n m : Nat) (w : World) (hA : GlossAt w n A xs) (hB : GlossAt w m B ys) (hl : xs.length ≤ 1000000) :
    Calls Try.prog 16 #[.slice A xs.length c, .slice B ys.length d] w fun e w' => e = .returned (.bool (decide (xs = ys))) ∧ ∃ q, w' = w.drewN q := by
  by_cases h0 : xs.length = ys.length
  · have d0 : ((xs.length : Int) != (ys.length : Int)) = false := by simp [h0]
    have d0b : decide ((xs.length : Int) = (ys.length : Int)) = true := decide_eq_true (by omega)
    have d0c : decide (xs.length = ys.length) = true := decide_eq_true h0
    have HL := Lib.hid h0
    have HNE : Hid (∀ (k : Nat) (x y : GlossD), xs[k]? = some x → ys[k]? = some y → x ≠ y → decide (xs = ys) = false) := Lib.hid (fun k x y h1 h2 h3 => decide_eq_false (fun e => by subst e; rw [h1] at h2; exact h3 (Option.some.inj h2)))
    have HEQ : Hid (xs.take xs.length = ys.take xs.length → decide (xs = ys) = true) := Lib.hid (fun e => by rw [List.take_length, h0, List.take_length] at e; exact decide_eq_true e)
    generalize decide (xs = ys) = r at HNE HEQ ⊢
    clear h0
    go_enter Try.func16, Try.ntmps16
    go_wp2_with fail
    go_loopw [5] (fun i wr => ∃ k q : Nat, k ≤ xs.length ∧ i = .int .i64 k ∧ Hid (xs.take k = ys.take k) ∧ wr = w.drewN q) (fun i _ => xs.length - (intOf i).toNat)
    case atStart => exact ⟨0, 0, Nat.zero_le _, rfl, rfl, rfl⟩
    case round =>
      obtain ⟨k, q, hk, rfl, HT, rfl⟩ := hrel
      by_cases hlt : k < xs.length
      · obtain ⟨b, off, x, rfl, hb, hc, HX⟩ := hA.at_ hlt
        obtain ⟨b', off', y, rfl, hb', hc', HY⟩ := hB.at_ (show k < ys.length by have := HL.out; omega)
        have hki : (k : Int) < (xs.length : Int) := by omega
        have hki2 : (k : Int) < (ys.length : Int) := by have := HL.out; omega
        have hk0 : (0 : Int) ≤ (k : Int) := by omega
        have e0 := hc 0 (by omega); have e1 := hc 1 (by omega); have e2 := hc 2 (by omega); have e3 := hc 3 (by omega); have e4 := hc 4 (by omega); have e5 := hc 5 (by omega); have f0 := hc' 0 (by omega); have f1 := hc' 1 (by omega); have f2 := hc' 2 (by omega); have f3 := hc' 3 (by omega); have f4 := hc' 4 (by omega); have f5 := hc' 5 (by omega)
        rw [Nat.add_zero] at e0 f0
        have heq : ∀ w0 : World, (Op.equalIn 10000 55 (glossV x) (glossV y)).run Try.prog w0 = .ok (decide (x = y)) w0 := fun w0 => run_eqG x y w0
        obtain ⟨xy, hxy⟩ : ∃ z, decide (x = y) = z := ⟨_, rfl⟩
        have HXY := Lib.hid hxy
        rw [hxy] at heq
        clear hA hB hc hc' hb hb' hxy
        cases xy with
        | true =>
          have HT2 : Hid (xs.take (k + 1) = ys.take (k + 1)) := Lib.hid (by rw [take_snoc HX.out, take_snoc HY.out, HT.out, of_decide_eq_true HXY.out])
          go_wp2
          go_quiet (fail)
          go_wp2
          go_roundw
          case rel => exact ⟨k + 1, _, hlt, by go_num, HT2, rfl⟩
          case measure => simp [intOf]; omega
        | false =>
          have HR : Hid (r = false) := Lib.hid (HNE.out k x y HX.out HY.out (of_decide_eq_false HXY.out))
          go_wp2
          go_quiet (fail)
          go_wp2
          go_ret
          exact ⟨ret_bool HR.out.symm, _, drewN_two _ _ _⟩
      · obtain rfl : k = xs.length := by omega
        have HR : Hid (r = true) := Lib.hid (HEQ.out HT.out)
        clear hA hB hlt
        go_wp2
        go_ret
        exact ⟨ret_bool HR.out.symm, q, rfl⟩
  · have d0 : ((xs.length : Int) != (ys.length : Int)) = true := by simp; omega
    have d0b : decide ((xs.length : Int) = (ys.length : Int)) = false := decide_eq_false (by omega)
    have HR : Hid (decide (xs = ys) = false) := Lib.hid (decide_eq_false (fun e => h0 (by rw [e])))
    generalize decide (xs = ys) = r at HR ⊢
    clear h0
    go_enter Try.func16, Try.ntmps16
    go_wp2
    go_ret
    exact ⟨ret_bool HR.out.symm, 0, rfl⟩

set_option maxRecDepth 100000 in
set_option maxHeartbeats 4000000 in
theorem lsameR_any (xs ys : List RdD) (A B : Option Addr) (c d n m : Nat) (w : World) (hA : RdAt w n A xs) (hB : RdAt w m B ys) (hl : xs.length ≤ 1000000) :
    Calls Try.prog 18 #[.slice A xs.length c, .slice B ys.length d] w fun e w' => e = .returned (.bool (decide (xs = ys))) ∧ ∃ q, w' = w.drewN q := by
  by_cases h0 : xs.length = ys.length
  · have d0 : ((xs.length : Int) != (ys.length : Int)) = false := by simp [h0]
    have d0b : decide ((xs.length : Int) = (ys.length : Int)) = true := decide_eq_true (by omega)
    have d0c : decide (xs.length = ys.length) = true := decide_eq_true h0
    have HL := Lib.hid h0
    have HNE : Hid (∀ (k : Nat) (x y : RdD), xs[k]? = some x → ys[k]? = some y → x ≠ y → decide (xs = ys) = false) := Lib.hid (fun k x y h1 h2 h3 => decide_eq_false (fun e => by subst e; rw [h1] at h2; exact h3 (Option.some.inj h2)))
    have HEQ : Hid (xs.take xs.length = ys.take xs.length → decide (xs = ys) = true) := Lib.hid (fun e => by rw [List.take_length, h0, List.take_length] at e; exact decide_eq_true e)
    generalize decide (xs = ys) = r at HNE HEQ ⊢
    clear h0
    go_enter Try.func18, Try.ntmps18
    go_wp2_with fail
    go_loopw [5] (fun i wr => ∃ k q : Nat, k ≤ xs.length ∧ i = .int .i64 k ∧ Hid (xs.take k = ys.take k) ∧ wr = w.drewN q) (fun i _ => xs.length - (intOf i).toNat)
    case atStart => exact ⟨0, 0, Nat.zero_le _, rfl, rfl, rfl⟩
    case round =>
      obtain ⟨k, q, hk, rfl, HT, rfl⟩ := hrel
      by_cases hlt : k < xs.length
      · obtain ⟨b, off, x, rfl, hb, hc, HX⟩ := hA.at_ hlt
        obtain ⟨b', off', y, rfl, hb', hc', HY⟩ := hB.at_ (show k < ys.length by have := HL.out; omega)
        have hki : (k : Int) < (xs.length : Int) := by omega
        have hki2 : (k : Int) < (ys.length : Int) := by have := HL.out; omega
        have hk0 : (0 : Int) ≤ (k : Int) := by omega
        have e0 := hc 0 (by omega); have e1 := hc 1 (by omega); have e2 := hc 2 (by omega); have f0 := hc' 0 (by omega); have f1 := hc' 1 (by omega); have f2 := hc' 2 (by omega)
        rw [Nat.add_zero] at e0 f0
        have heq : ∀ w0 : World, (Op.equalIn 10000 69 (rdV x) (rdV y)).run Try.prog w0 = .ok (decide (x = y)) w0 := fun w0 => run_eqRd x y w0
        obtain ⟨xy, hxy⟩ : ∃ z, decide (x = y) = z := ⟨_, rfl⟩
        have HXY := Lib.hid hxy
        rw [hxy] at heq
        clear hA hB hc hc' hb hb' hxy
        cases xy with
        | true =>
          have HT2 : Hid (xs.take (k + 1) = ys.take (k + 1)) := Lib.hid (by rw [take_snoc HX.out, take_snoc HY.out, HT.out, of_decide_eq_true HXY.out])
          go_wp2
          go_quiet (fail)
          go_wp2
          go_roundw
          case rel => exact ⟨k + 1, _, hlt, by go_num, HT2, rfl⟩
          case measure => simp [intOf]; omega
        | false =>
          have HR : Hid (r = false) := Lib.hid (HNE.out k x y HX.out HY.out (of_decide_eq_false HXY.out))
          go_wp2
          go_quiet (fail)
          go_wp2
          go_ret
          exact ⟨ret_bool HR.out.symm, _, drewN_two _ _ _⟩
      · obtain rfl : k = xs.length := by omega
        have HR : Hid (r = true) := Lib.hid (HEQ.out HT.out)
        clear hA hB hlt
        go_wp2
        go_ret
        exact ⟨ret_bool HR.out.symm, q, rfl⟩
  · have d0 : ((xs.length : Int) != (ys.length : Int)) = true := by simp; omega
    have d0b : decide ((xs.length : Int) = (ys.length : Int)) = false := decide_eq_false (by omega)
    have HR : Hid (decide (xs = ys) = false) := Lib.hid (decide_eq_false (fun e => h0 (by rw [e])))
    generalize decide (xs = ys) = r at HR ⊢
    clear h0
    go_enter Try.func18, Try.ntmps18
    go_wp2
    go_ret
    exact ⟨ret_bool HR.out.symm, 0, rfl⟩

end Go.Proofs.Ytinlojealfbbfaa
