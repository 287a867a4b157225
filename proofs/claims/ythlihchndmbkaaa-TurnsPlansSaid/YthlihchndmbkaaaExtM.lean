/- ExtM: the extreme courses of a rota, as data. Ext: the specification's end and Extreme. -/
import Derived.Test.YthlihchndmbkaaaRunW
import Derived.Test.YthlihchndmbkaaaRegion
namespace Go.Proofs.Ythlihchndmbkaaa
open Go.RowKit

def extSt (hi : Bool) (t : TaskD) : List Int := t.hands.map (startOf hi)
def extRow (hi : Bool) (t : TaskD) (rota : List Nat) (i : Nat) : List Int := (List.range t.hands.length).map (endSp hi t rota i)
def extRows (hi : Bool) (t : TaskD) (rota : List Nat) : List (List Int) := (List.range rota.length).map (extRow hi t rota)
theorem runW_congr {st st' : Nat → Int} {sp sp' : Nat → Nat → Int} {rota : List Nat} {K N : Nat} (h1 : ∀ k, k < K → st k = st' k) (h2 : ∀ i k, i < N → k < K → sp i k = sp' i k) : ∀ i, i ≤ N → ∀ k, k < K → runW st sp rota i k = runW st' sp' rota i k
  | 0, _, k, hk => h1 k hk
  | i + 1, hi, k, hk => by
    have ih := runW_congr (rota := rota) h1 h2 i (by omega) k hk
    unfold runW
    rw [ih, h2 i k (by omega) hk]
theorem runM_congr {t : TaskD} {W W' : Nat → Nat → Int} {rota : List Nat} {K : Nat} (hr : ∀ h ∈ rota, h < K) (h : ∀ i, i < rota.length → ∀ k, k < K → W i k = W' i k) : ∀ i, i ≤ rota.length → runM t W rota i = runM t W' rota i
  | 0, _ => rfl
  | i + 1, hi => by
    have ih := runM_congr (t := t) hr h i (by omega)
    have hk := hr _ (getD_mem (d := 0) (show i < rota.length by omega))
    unfold runM partM
    rw [ih, h i (by omega) _ hk]
theorem extSt_len (hi : Bool) (t : TaskD) : (extSt hi t).length = t.hands.length := by simp [extSt]
theorem extSt_at {hi : Bool} {t : TaskD} {k : Nat} : stF (extSt hi t) k = endSt hi t k ∨ t.hands.length ≤ k := by
  by_cases hk : k < t.hands.length
  · left
    unfold stF endSt startAt extSt
    rw [List.getElem?_eq_getElem hk, getD_at (x := startOf hi t.hands[k]) (by rw [List.getElem?_map, List.getElem?_eq_getElem hk]; rfl)]
  · exact .inr (by omega)
theorem extRow_len (hi : Bool) (t : TaskD) (rota : List Nat) (i : Nat) : (extRow hi t rota i).length = t.hands.length := by simp [extRow]
theorem extRows_at {hi : Bool} {t : TaskD} {rota : List Nat} {i k : Nat} (h1 : i < rota.length) (h2 : k < t.hands.length) : spF (extRows hi t rota) i k = endSp hi t rota i k := by
  unfold spF extRows extRow
  rw [getD_at (x := (List.range t.hands.length).map (endSp hi t rota i)) (by simp [h1]), getD_at (x := endSp hi t rota i k) (by simp [h2])]
theorem start_bounds {h : HandD} (k : okHand h = true) (hi : Bool) : 0 ≤ startOf hi h ∧ startOf hi h ≤ 100 := by
  have := okHand_parts k
  unfold startOf
  cases hi <;> simp <;> omega
theorem sp_bounds {t : TaskD} (hk : okTask t = true) (hi : Bool) (rota : List Nat) (i : Nat) {k : Nat} (h : k < t.hands.length) : 0 ≤ endSp hi t rota i k ∧ endSp hi t rota i k ≤ 20 := by
  have hp := okHand_parts ((okTask_parts hk).2.1 _ (List.getElem_mem h))
  unfold endSp
  rw [List.getElem?_eq_getElem h]
  dsimp only
  unfold tireOf easeOf
  split <;> cases hi <;> simp <;> omega
theorem ext_run {t : TaskD} (hk : okTask t = true) {rota : List Nat} (hr : ∀ h ∈ rota, h < t.hands.length) (hl : rota.length ≤ t.parts.length) (hi : Bool) : RunOK t rota (extSt hi t) (extRows hi t rota) := by
  refine ⟨hk, hr, hl, extSt_len _ _, by simp [extRows], fun r h => ?_, fun v h => ?_, fun r h v hv => ?_⟩
  · obtain ⟨i, _, rfl⟩ := List.mem_map.1 h
    exact extRow_len ..
  · obtain ⟨x, hx, rfl⟩ := List.mem_map.1 h
    exact start_bounds ((okTask_parts hk).2.1 x hx) hi
  · obtain ⟨i, _, rfl⟩ := List.mem_map.1 h
    obtain ⟨k, hk', rfl⟩ := List.mem_map.1 hv
    exact sp_bounds hk hi rota i (List.mem_range.1 hk')
theorem ext_wear {t : TaskD} {rota : List Nat} (hi : Bool) : ∀ i, i ≤ rota.length → ∀ k, k < t.hands.length → runF rota (extSt hi t) (extRows hi t rota) i k = endW hi t rota i k :=
  runW_congr (N := rota.length) (fun k hk => (extSt_at (hi := hi) (t := t) (k := k)).resolve_right (by omega)) fun _ _ h1 h2 => extRows_at h1 h2
theorem ext_row {t : TaskD} (hk : okTask t = true) {rota : List Nat} (hr : ∀ h ∈ rota, h < t.hands.length) (hl : rota.length ≤ t.parts.length) (hi : Bool) {i k : Nat} (h1 : i ≤ rota.length) (h2 : k < t.hands.length) : runF rota (extSt hi t) (extRows hi t rota) i k = (afterD hi t (rota.take i)).get k := by
  rw [ext_wear hi i h1 k h2, (after_run (hi := hi) (okTask_parts hk).1.2 hr hl i h1).1 k h2]
theorem ext_mist {t : TaskD} (hk : okTask t = true) {rota : List Nat} (hr : ∀ h ∈ rota, h < t.hands.length) (hl : rota.length ≤ t.parts.length) (hi : Bool) : runM t (runF rota (extSt hi t) (extRows hi t rota)) rota rota.length = (afterD hi t rota).mis := by
  rw [runM_congr hr (fun i h k h2 => ext_wear hi i (Nat.le_of_lt h) k h2) _ (Nat.le_refl _)]
  have := (after_run (hi := hi) (okTask_parts hk).1.2 hr hl rota.length (Nat.le_refl _)).2.1
  rw [List.take_length] at this
  exact this.symm

end Go.Proofs.Ythlihchndmbkaaa

namespace Go.Proofs.Ythlihchndmbkaaa
open Go.RowKit

theorem end_any (lo hi' x : Int) (b : Bool) (hx : (if b = true then hi' else lo) = x) (w : World) :
    Calls Try.prog 72 #[spanV lo hi', .bool b] w fun e w' => e = .returned (.int .i64 x) ∧ Below w.heap.size w w' := by
  subst hx
  cases b
  all_goals
    go_enter Try.func72, Try.ntmps72
    go_wp2
    go_ret
    exact ⟨rfl, Grow.alloc _ _⟩
/-- a new slice of one integer -/
def NewInt (lo : Nat) (x : Int) (v : Value) (w : World) : Prop := ∃ b, v = .slice (some ⟨b, 0, none⟩) 1 1 ∧ lo ≤ b ∧ BlockIs w b 3 #[.int .i64 x]
theorem NewInt.grow {lo : Nat} {x : Int} {v : Value} {a b : World} (h : NewInt lo x v a) (k : Grow a b) : NewInt lo x v b := by
  obtain ⟨g, h1, h2, h3⟩ := h
  exact ⟨g, h1, h2, k.block h3⟩
/-- the course so far -/
structure ExtAt (w : World) (lo bc nn : Nat) (As : Option Addr) (cs : Nat) (st : List Int) (A : Option Addr) (cap : Nat) (R : List RowR) (i : Nat) : Prop where
  blk : BlockIs w bc 39 #[.slice As nn cs, .slice A i cap]
  st : IntsT w (bc + 1) As st
  own : w.ownsRow lo 23 1 (.slice A i cap) i (R.map rowV)
  rows : ∀ r ∈ R, IntsT w (bc + 1) r.A r.xs
theorem ExtAt.grow {w w' : World} {lo bc nn : Nat} {As : Option Addr} {cs : Nat} {st : List Int} {A : Option Addr} {cap : Nat} {R : List RowR} {i : Nat} (h : ExtAt w lo bc nn As cs st A cap R i) (g : Grow w w') : ExtAt w' lo bc nn As cs st A cap R i :=
  ⟨g.block h.blk, h.st.grow g, own_grow h.own g, fun r hr => (h.rows r hr).grow g⟩
theorem ExtAt.more {x w3 : World} {lo bc nn : Nat} {As : Option Addr} {cs : Nat} {st : List Int} {A Ar Aw : Option Addr} {cap cr cw : Nat} {R : List RowR} {i : Nat} {xs : List Int} (h : ExtAt x lo bc nn As cs st A cap R i) (hx : xs.length = nn) (hit : IntsT x (bc + 1) Ar xs)
    (hown : w3.ownsRow lo 23 1 (.slice Aw (i + 1) cw) (i + 1) (R.map rowV ++ [.slice Ar nn cr])) (hgr : x.grownBy w3 (Value.slice A i cap).ownBlock) :
    ExtAt (w3.setCell ⟨bc, 1, none⟩ (.slice Aw (i + 1) cw)) lo bc nn As cs st Aw cw (R ++ [⟨Ar, cr, xs⟩]) (i + 1) := by
  have hb : BlockIs w3 bc 39 #[.slice As nn cs, .slice A i cap] := h.blk.grown hgr (fun q => own_type h.own h.blk (by decide) q.symm)
  have hr : ∀ {Z : Option Addr} {zs : List Int}, IntsT x (bc + 1) Z zs → IntsT (w3.setCell ⟨bc, 1, none⟩ (.slice Aw (i + 1) cw)) (bc + 1) Z zs := fun hz => (hz.grown h.own (by decide) hgr).far (p := ⟨bc, 1, none⟩) (by show bc < bc + 1; omega) _
  refine ⟨hb.near 1 _, hr h.st, ?_, fun r hm => ?_⟩
  · rw [List.map_append]
    show (w3.setCell _ _).ownsRow lo 23 1 _ _ (R.map rowV ++ [.slice Ar xs.length cr])
    rw [hx]
    exact own_other hown hb (by decide) 1 _
  · rcases List.mem_append.1 hm with hm | hm
    · exact hr (h.rows r hm)
    · obtain rfl := List.mem_singleton.1 hm
      exact hr hit
theorem results_course6 {fn : Func} (h : fn.results = #[.cell 6 39]) (t : Array Value) (W : World) (b : Nat) (v0 v1 : Value)
    (hb : BlockIs W b 39 #[v0, v1]) (ht : t.getD 6 undef = .pointer (some ⟨b, 0, none⟩)) :
    (results fn t).run Try.prog W = .ok (.agg #[v0, v1]) W := by
  have hc := hb.cell
  simp only [results, h]
  simp at ht
  simp [go_sem, ht, hc]
theorem take_mapInt {st : List Int} {h : Nat} {x : Int} (hx : st[h]? = some x) : ((st.take h).map (Value.int .i64)) ++ [.int .i64 x] = (st.take (h + 1)).map (Value.int .i64) := by
  rw [take_snoc hx, List.map_append]
  rfl
theorem own_intsT' {w : World} {base cap n lo : Nat} {A : Option Addr} {xs : List Int} (h : w.ownsRow base 3 1 (.slice A n cap) n (xs.map (Value.int .i64))) (hn : n = xs.length) (h0 : 0 < n) (hl : lo ≤ base) : IntsT w lo A xs := by
  subst hn
  exact (own_intsT h h0).mono hl

set_option maxRecDepth 100000 in
set_option maxHeartbeats 16000000 in
theorem extreme_any (t : TaskR) (rota : List Nat) (A1 : Option Addr) (c1 : Nat) (up : Bool) (n : Nat) (w : World) (ht : TaskAt w n t) (h1 : Ints w n A1 (natsL rota)) (hn : n ≤ w.heap.size) (hk : okTask t.d = true) (hl : rota.length ≤ 10) :
    Calls Try.prog 54 #[taskV t, .slice A1 rota.length c1, .bool up] w fun e w' => ∃ x : CourseR, e = .returned (courseKV x) ∧ CourseAt w' w'.heap.size x ∧ x.st = extSt up t.d ∧ x.rows.map (·.xs) = extRows up t.d rota ∧ Below w.heap.size w w' := by
  obtain ⟨i0, hi, hz0, hz1, hz2⟩ := info_parts Try.infoInt
  obtain ⟨j0, hj, hy0, hy1, hy2⟩ := info_parts Try.infoInts
  have HT := Lib.hid (ht.more hn)
  have HI := Lib.hid (h1.more hn)
  have hparts := okTask_parts hk
  have hn1 := hparts.1.1
  have hn3 := hparts.1.2
  clear ht h1 hn hparts hk
  obtain ⟨nn, hnn⟩ : ∃ q, t.d.hands.length = q := ⟨_, rfl⟩
  have HNN := Lib.hid hnn
  rw [hnn] at hn1 hn3
  have HSL : Hid ((extSt up t.d).length = nn) := Lib.hid (by rw [extSt_len, hnn])
  have HST : Hid (∀ (h : Nat) (y : HandD), t.d.hands[h]? = some y → (extSt up t.d)[h]? = some (startOf up y)) := Lib.hid (fun h y hy => by unfold extSt; rw [List.getElem?_map, hy]; rfl)
  have HRL : Hid (∀ i, (extRow up t.d rota i).length = nn) := Lib.hid (fun i => by rw [extRow_len, hnn])
  have HRT : Hid (∀ (i h : Nat) (y : HandD), t.d.hands[h]? = some y → (extRow up t.d rota i)[h]? = some (if rota[i]? = some h then tireOf up y else easeOf up y)) := Lib.hid (fun i h y hy => by
    have hh := lt_of_at hy
    unfold extRow
    rw [List.getElem?_map, List.getElem?_range hh]
    show some (endSp up t.d rota i h) = _
    unfold endSp
    rw [hy])
  have HRS : Hid (extRows up t.d rota = (List.range rota.length).map (extRow up t.d rota)) := rfl
  generalize extSt up t.d = st at HSL HST ⊢
  generalize extRows up t.d rota = rws at HRS ⊢
  generalize extRow up t.d rota = row at HRL HRT HRS
  clear hnn
  go_enter Try.func54, Try.ntmps54
  go_upto_region 2 with fail
  obtain ⟨W, hW, hg, hf, hr0, hc0, hsz⟩ := three_blocks w 25 39 39 (cellsT t) #[.slice none 0 0, .slice none 0 0] #[.slice none 0 0, .slice none 0 0]
  rw [hW]
  clear hW
  obtain ⟨br, ebr⟩ : ∃ q, w.heap.size + 1 = q := ⟨_, rfl⟩
  obtain ⟨bc, ebc⟩ : ∃ q, br + 1 = q := ⟨_, rfl⟩
  rw [ebr] at hr0 ⊢
  rw [show w.heap.size + 2 = br + 1 by omega] at hc0 hsz
  rw [ebc] at hc0 hsz ⊢
  have hrc : br < bc := by omega
  have hwr : w.heap.size < br := by omega
  have hcW : bc < W.heap.size := hsz
  have HG := Lib.hid hg
  have HF := Lib.hid hf
  have HR0 := Lib.hid hr0
  have HC0 := Lib.hid hc0
  have HTC : Hid (∀ w0, Below bc W w0 → w0.cell? ⟨w.heap.size, 0, none⟩ = some (.slice t.A nn t.ca)) := Lib.hid (fun w0 hw => by
    have h := (hw.cell (p := ⟨w.heap.size, 0, none⟩) (by show w.heap.size < bc; omega)).trans (hf.cell 0)
    rw [← HNN.out]; exact h)
  have HHA : Hid (∀ w0, Below bc W w0 → HandsAt w0 w.heap.size t.A t.d.hands) := Lib.hid (fun w0 hw => HT.out.1.below (hg.trans' (Below.mono hw (by omega))))
  have HIA : Hid (∀ w0, Below bc W w0 → Ints w0 w.heap.size A1 (natsL rota)) := Lib.hid (fun w0 hw => HI.out.below (hg.trans' (Below.mono hw (by omega))))
  clear hg hf hr0 hc0 ebr ebc hsz HT HI
  go_wp2_with fail
  go_loopw [8] (fun hv wr => ∃ (h : Nat) (A : Option Addr) (cap : Nat), hv = .int .i64 h ∧ h ≤ nn ∧ BlockIs wr bc 39 #[.slice A h cap, .slice none 0 0] ∧ wr.ownsRow W.heap.size 3 1 (.slice A h cap) h ((st.take h).map (Value.int .i64)) ∧ Below bc W wr) (fun i _ => nn - (intOf i).toNat)
  case atStart => exact ⟨0, none, 0, rfl, Nat.zero_le _, HC0.out, own_nil _ _ _, Below.refl _ _⟩
  case round => as_aux_lemma =>
    obtain ⟨h, A, cap, rfl, hle, hblk, hown, hbel⟩ := hrel
    rename World => wr
    have HBL := Lib.hid hblk
    have HOW := Lib.hid hown
    have HBE := Lib.hid hbel
    clear hblk hown hbel
    have htc := HTC.out wr HBE.out
    by_cases hlt : h < nn
    · have hhi : (h : Int) < (nn : Int) := by omega
      have hh0 : (0 : Int) ≤ (h : Int) := by omega
      have hd1 : decide ((h : Int) < (nn : Int)) = true := decide_eq_true hhi
      have hd2 : decide (h < nn) = true := decide_eq_true hlt
      obtain ⟨bh, oh, y, hae, hbh, hyc, HY⟩ := (HHA.out wr HBE.out).at_ (k := h) (by rw [HNN.out]; exact hlt)
      rw [hae] at htc
      have e0 := hyc 0 (by omega); have e1 := hyc 1 (by omega)
      rw [Nat.add_zero] at e0
      obtain ⟨x, hx⟩ : ∃ q, startOf up y = q := ⟨_, rfl⟩
      have HXS : Hid (st[h]? = some x) := Lib.hid (by rw [← hx]; exact HST.out h y HY.out)
      have HEN := Lib.hid (fun w0 => end_any y.s0 y.s1 x up hx w0)
      have HCL := Lib.hid (fun (w0 : World) (hw : Grow wr w0) => And.intro (hw.cell htc) (And.intro (hw.cell e0) (And.intro (hw.cell e1) ((hw.block HBL.out).cell))))
      have hzz : W.heap.size ≤ wr.heap.size := HBE.out.size
      clear hyc hbh hae hx
      go_upto_region 5 with fail
      clear htc e0 e1
      refine wp_region_lit 11 [[], [(0, 19)], [], [(2, 21)], [], [(3, 22), (4, 23)], [(5, 24)], [(6, 25)], [], [(7, 26), (8, 27)], [(9, 28)]] Grow (fun i v w' => match i with
          | 0 => v = .pointer (some ⟨bc, 0, none⟩)
          | 1 => v = .slice A h cap
          | 2 => v = .pointer (some ⟨w.heap.size, 0, none⟩)
          | 3 => v = .slice (some ⟨bh, oh, none⟩) nn t.ca
          | 4 => v = .int .i64 (h : Nat)
          | 5 => v = .pointer (some ⟨bh, oh + h * 7, none⟩)
          | 6 => v = .pointer (some ⟨bh, oh + h * 7, none⟩)
          | 7 => v = spanV y.s0 y.s1
          | 8 => v = .bool up
          | 9 => v = .int .i64 x
          | 10 => NewInt W.heap.size x v w'
          | _ => False) (by kernel_rfl) (by kernel_rfl) (fun _ _ _ => Grow.trans) Grow.refl ?_ ?_ ?_
      · intro i v y y' h k
        match i, h with
        | 10, h => exact h.grow k
        | 0, h | 1, h | 2, h | 3, h | 4, h | 5, h | 6, h | 7, h | 8, h | 9, h => exact h
      · simp only [StepsLit, List.take_succ_cons, List.take_zero]
        refine ⟨?_, ?_, ?_, ?_, ?_, ?_, ?_, ?_, ?_, ?_, ?_, trivial⟩
        all_goals
          intro w5 hR
          have hGw : Grow wr w5 := hR.of_drew
          obtain ⟨htc, e0, e1, hbc⟩ := HCL.out w5 hGw
          have hz5 : W.heap.size ≤ w5.heap.size := Nat.le_trans hzz hGw.size
          clear hR hGw
          simp only [depV]
          repeat (rintro _ rfl)
          try go_simp
        all_goals first
          | (with_reducible exact Grow.refl _)
          | (with_reducible exact ⟨Grow.refl _, rfl⟩)
          | skip
        · refine (HEN.out _).mono ?_
          rintro e w6 ⟨rfl, hb6⟩
          exact ⟨hb6, rfl⟩
        · exact ⟨Grow.alloc _ _, _, rfl, hz5, BlockIs.new _ _ _⟩
      · intro w5 hR
        have HG5 : Hid (Grow wr w5) := Lib.hid hR.of_drew
        clear hR
        simp only [finVC, List.take_succ_cons, List.take_zero, List.drop_succ_cons, List.drop_zero]
        rintro _ rfl
        rintro _ rfl
        rintro _ rfl
        rintro _ rfl
        rintro _ rfl
        rintro _ rfl
        rintro _ rfl
        rintro _ rfl
        rintro _ rfl
        rintro _ rfl
        intro v10 hv10
        simp only [Act.put, List.setIfInBounds_toArray, List.set_cons_succ, List.set_cons_zero]
        obtain ⟨b29, rfl, h29, hB29⟩ := hv10
        have HB29 := Lib.hid hB29
        have HO5 := Lib.hid (own_grow HOW.out HG5.out)
        clear hB29
        go_wp2_with (at_builtin; go_loud (refine wpList_append_own _ rfl _ _ 23 rfl W.heap.size 3 i0 (.int .i64 0) 1 8 Try.underlying23 hi hz0 hz1 hz2 rfl (by omega) _ h ((st.take h).map (Value.int .i64)) rfl ?d0 ⟨b29, 0, none⟩ 1 1 [.int .i64 x] rfl rfl ?d1 ?d2 ?d3 ?d4 ?d5 ?_))
        case d0 => exact HO5.out
        case d1 => exact news_one HB29.out
        case d2 => simp [Value.oneCell']
        case d3 => unfold maxLen; omega
        case d4 => omega
        case d5 => exact Nat.le_trans hzz HG5.out.size
        intro v' w3 hown hgr _
        obtain ⟨Aw, cw, rfl⟩ := own_form hown
        have hb3 := (HG5.out.block HBL.out).grown hgr (fun q => own_type HO5.out (HG5.out.block HBL.out) (by decide) q.symm)
        have HB3 := Lib.hid hb3
        have hbc := hb3.cell
        have hbf := hb3.frozen
        have HOW3 : Hid (w3.ownsRow W.heap.size 3 1 (.slice Aw (h + 1) cw) (h + 1) ((st.take (h + 1)).map (Value.int .i64))) := Lib.hid (by rw [← take_mapInt HXS.out, List.map_take]; exact hown)
        have HBE3 : Hid (Below bc W w3) := Lib.hid (below_grown (HBE.out.trans (Below.mono HG5.out (by omega))) (own_mono HO5.out (Nat.le_of_lt hcW)) hgr (by have := HG5.out.size; omega))
        clear hown hgr hb3 HB29 HO5 h29
        go_wp2
        go_roundw
        case rel => exact ⟨h + 1, Aw, cw, by go_num, by omega, HB3.out.near 0 _, own_other HOW3.out HB3.out (by decide) 0 _, HBE3.out.setCell (p := ⟨bc, 0, none⟩) (Nat.le_refl _) _⟩
        case measure => simp [intOf]; omega
    · obtain rfl : nn = h := by omega
      have hd1 : decide ((nn : Int) < (nn : Int)) = false := by simp
      have hd2 : decide (nn < nn) = false := by simp
      have HEX : Hid (ExtAt wr W.heap.size bc nn A cap st none 0 [] 0) := Lib.hid ⟨HBL.out, own_intsT' (by have h := HOW.out; rw [List.take_of_length_le (by have := HSL.out; omega)] at h; exact h) HSL.out.symm hn1 (by omega), own_nil _ _ _, by simp⟩
      clear HBL HOW HC0
      go_wp2_with fail
      clear htc
      go_loopw [9] (fun iv wi => ∃ (i : Nat) (B : Option Addr) (cb : Nat) (R : List RowR), iv = .int .i64 i ∧ i ≤ rota.length ∧ R.length = i ∧ R.map (·.xs) = (List.range i).map row ∧ ExtAt wi W.heap.size bc nn A cap st B cb R i ∧ Below bc W wi) (fun v _ => rota.length - (intOf v).toNat)
      case atStart => exact ⟨0, none, 0, [], rfl, Nat.zero_le _, rfl, rfl, HEX.out, HBE.out⟩
      case round => as_aux_lemma =>
        obtain ⟨i, B, cb, R, rfl, hil, hRl, hRx, hext, hbel⟩ := hrel
        rename World => wi
        have HEI := Lib.hid hext
        have HBI := Lib.hid hbel
        have HRl := Lib.hid hRl
        have HRx := Lib.hid hRx
        clear hext hbel hRl hRx HEX HBE
        by_cases hit : i < rota.length
        · have hii : (i : Int) < (rota.length : Int) := by omega
          have hi0 : (0 : Int) ≤ (i : Int) := by omega
          have hid1 : decide ((i : Int) < (rota.length : Int)) = true := decide_eq_true hii
          have hid2 : decide (i < rota.length) = true := decide_eq_true hit
          obtain ⟨k, hk⟩ : ∃ k, rota[i]? = some k := ⟨_, List.getElem?_eq_getElem hit⟩
          have HK := Lib.hid hk
          have HIT := Lib.hid hit
          have hzi : W.heap.size ≤ wi.heap.size := HBI.out.size
          clear hk
          go_upto_region 10 with fail
          go_wp2_with fail
          go_loopw [10, 11] (fun rv hv wh => ∃ (h : Nat) (A' : Option Addr) (c' : Nat), rv = .slice A' h c' ∧ hv = .int .i64 h ∧ h ≤ nn ∧ wh.ownsRow wi.heap.size 3 1 (.slice A' h c') h (((row i).take h).map (Value.int .i64)) ∧ Grow wi wh) (fun _ v _ => nn - (intOf v).toNat)
          case atStart => exact ⟨0, none, 0, rfl, rfl, Nat.zero_le _, own_nil _ _ _, Grow.refl _⟩
          case round => as_aux_lemma =>
            obtain ⟨h, A', c', rfl, rfl, hhl, hown, hgr⟩ := hrel
            rename World => wh
            have HOH := Lib.hid hown
            have HGH := Lib.hid hgr
            clear hown hgr
            have HBH : Hid (Below bc W wh) := Lib.hid (HBI.out.trans (Below.mono HGH.out (by omega)))
            have htc := HTC.out wh HBH.out
            by_cases hht : h < nn
            · have hh1 : (h : Int) < (nn : Int) := by omega
              have hh0 : (0 : Int) ≤ (h : Int) := by omega
              have hhd1 : decide ((h : Int) < (nn : Int)) = true := decide_eq_true hh1
              have hhd2 : decide (h < nn) = true := decide_eq_true hht
              obtain ⟨bh, oh, y, hae, hbh, hyc, HY⟩ := (HHA.out wh HBH.out).at_ (k := h) (by rw [HNN.out]; exact hht)
              rw [hae] at htc
              have e2 := hyc 2 (by omega); have e3 := hyc 3 (by omega); have e4 := hyc 4 (by omega); have e5 := hyc 5 (by omega)
              obtain ⟨bx, ox, k', hxe, hbx, hkc, HK'⟩ := (HIA.out wh HBH.out).at_ (k := i) (by rw [List.length_map]; exact HIT.out)
              have hk' : k' = (k : Int) := by
                have h := HK'.out
                rw [List.getElem?_map, HK.out] at h
                exact (Option.some.inj h).symm
              subst hk'
              subst hxe
              clear hbx hyc hbh hae HK'
              by_cases hkh : k = h
              · have HKH : Hid (rota[i]? = some h) := Lib.hid (by rw [HK.out, hkh])
                have d1 : ((k : Int) == (h : Int)) = true := by simp [hkh]
                have d3 : decide ((k : Int) = (h : Int)) = true := by simp [hkh]
                clear hkh
                obtain ⟨x, hx⟩ : ∃ q, tireOf up y = q := ⟨_, rfl⟩
                have HXS : Hid ((row i)[h]? = some x) := Lib.hid (by rw [HRT.out i h y HY.out, if_pos HKH.out, hx])
                have HEN := Lib.hid (fun w0 => end_any y.t0 y.t1 x up (by rw [← hx]; rfl) w0)
                clear hx
                go_wp2_with fail
                refine (HEN.out _).mono ?_
                rintro e w5 ⟨rfl, hb5⟩
                have HG5 : Hid (Grow wh w5) := hb5
                have HO5 := Lib.hid (own_grow (own_grow HOH.out HG5.out) (Grow.alloc w5 (.cells #[.int .i64 x] 3)))
                clear hb5 htc e2 e3 e4 e5 hkc
                go_wp2_with (at_builtin; go_loud (refine wpList_append_own _ rfl _ _ 23 rfl wi.heap.size 3 i0 (.int .i64 0) 1 8 Try.underlying23 hi hz0 hz1 hz2 rfl (by omega) _ h (((row i).take h).map (Value.int .i64)) rfl ?d0 ⟨w5.heap.size, 0, none⟩ 1 1 [.int .i64 x] rfl rfl ?d1 ?d2 ?d3 ?d4 ?d5 ?_))
                case d0 => exact HO5.out
                case d1 => exact news_one (BlockIs.new _ _ _)
                case d2 => simp [Value.oneCell']
                case d3 => unfold maxLen; omega
                case d4 => omega
                case d5 => have h1 := HGH.out.size; have h2 := HG5.out.size; simp; omega
                intro v' w3 hown hgr _
                obtain ⟨Aw, cw, rfl⟩ := own_form hown
                have HOW3 : Hid (w3.ownsRow wi.heap.size 3 1 (.slice Aw (h + 1) cw) (h + 1) (((row i).take (h + 1)).map (Value.int .i64))) := Lib.hid (by rw [← take_mapInt HXS.out, List.map_take]; exact hown)
                have HGN : Hid (Grow wi w3) := Lib.hid (below_grown ((HGH.out.trans HG5.out).trans (Grow.alloc _ _)) HO5.out hgr (by have h1 := HGH.out.size; have h2 := HG5.out.size; simp; omega))
                clear hown hgr HO5
                go_wp2
                go_roundw
                case rel => exact ⟨h + 1, Aw, cw, rfl, by go_num, by omega, HOW3.out, HGN.out⟩
                case measure => simp [intOf]; omega
              · have HKH : Hid (¬ rota[i]? = some h) := Lib.hid (by rw [HK.out]; intro e; exact hkh (Option.some.inj e))
                have d1 : ((k : Int) == (h : Int)) = false := by simp; omega
                have d3 : decide ((k : Int) = (h : Int)) = false := decide_eq_false (by omega)
                clear hkh
                obtain ⟨x, hx⟩ : ∃ q, easeOf up y = q := ⟨_, rfl⟩
                have HXS : Hid ((row i)[h]? = some x) := Lib.hid (by rw [HRT.out i h y HY.out, if_neg HKH.out, hx])
                have HEN := Lib.hid (fun w0 => end_any y.e0 y.e1 x (!up) (by rw [← hx]; unfold easeOf; cases up <;> rfl) w0)
                clear hx
                go_wp2_with fail
                refine (HEN.out _).mono ?_
                rintro e w5 ⟨rfl, hb5⟩
                have HG5 : Hid (Grow wh w5) := hb5
                have HO5 := Lib.hid (own_grow (own_grow HOH.out HG5.out) (Grow.alloc w5 (.cells #[.int .i64 x] 3)))
                clear hb5 htc e2 e3 e4 e5 hkc
                go_wp2_with (at_builtin; go_loud (refine wpList_append_own _ rfl _ _ 23 rfl wi.heap.size 3 i0 (.int .i64 0) 1 8 Try.underlying23 hi hz0 hz1 hz2 rfl (by omega) _ h (((row i).take h).map (Value.int .i64)) rfl ?d0 ⟨w5.heap.size, 0, none⟩ 1 1 [.int .i64 x] rfl rfl ?d1 ?d2 ?d3 ?d4 ?d5 ?_))
                case d0 => exact HO5.out
                case d1 => exact news_one (BlockIs.new _ _ _)
                case d2 => simp [Value.oneCell']
                case d3 => unfold maxLen; omega
                case d4 => omega
                case d5 => have h1 := HGH.out.size; have h2 := HG5.out.size; simp; omega
                intro v' w3 hown hgr _
                obtain ⟨Aw, cw, rfl⟩ := own_form hown
                have HOW3 : Hid (w3.ownsRow wi.heap.size 3 1 (.slice Aw (h + 1) cw) (h + 1) (((row i).take (h + 1)).map (Value.int .i64))) := Lib.hid (by rw [← take_mapInt HXS.out, List.map_take]; exact hown)
                have HGN : Hid (Grow wi w3) := Lib.hid (below_grown ((HGH.out.trans HG5.out).trans (Grow.alloc _ _)) HO5.out hgr (by have h1 := HGH.out.size; have h2 := HG5.out.size; simp; omega))
                clear hown hgr HO5
                go_wp2
                go_roundw
                case rel => exact ⟨h + 1, Aw, cw, rfl, by go_num, by omega, HOW3.out, HGN.out⟩
                case measure => simp [intOf]; omega
            · obtain rfl : nn = h := by omega
              have hhd1 : decide ((nn : Int) < (nn : Int)) = false := by simp
              have hhd2 : decide (nn < nn) = false := by simp
              have HEH := Lib.hid (HEI.out.grow HGH.out)
              have HIR : Hid (IntsT wh (bc + 1) A' (row i)) := Lib.hid (own_intsT' (by have h := HOH.out; rw [List.take_of_length_le (Nat.le_of_eq (HRL.out i))] at h; exact h) (HRL.out i).symm hn1 (by omega))
              have hbc := HEH.out.blk.cell
              have hlen10 : i < 10 := by have := HIT.out; omega
              go_wp2_with (at_builtin; go_loud (refine wpList_append_own _ rfl _ _ 37 rfl W.heap.size 23 j0 (.slice none 0 0) 1 24 Try.underlying37 hj hy0 hy1 hy2 rfl (by omega) _ i (R.map rowV) rfl ?d0 ⟨wh.heap.size, 0, none⟩ 1 1 [.slice A' nn c'] rfl rfl ?d1 ?d2 ?d3 ?d4 ?d5 ?_))
              case d0 => exact (HEH.out.grow (Grow.alloc _ _)).own
              case d1 => exact news_one (BlockIs.new _ _ _)
              case d2 => simp [Value.oneCell']
              case d3 => unfold maxLen; omega
              case d4 => omega
              case d5 => have := HGH.out.size; simp; omega
              intro v' w3 hown hgr _
              obtain ⟨Aw, cw, rfl⟩ := own_form hown
              have HX3 := Lib.hid (Grow.alloc wh (.cells #[.slice A' nn c'] 23))
              have HEX3 := Lib.hid (HEH.out.grow HX3.out)
              have hb3 := HEX3.out.blk.grown hgr (fun q => own_type HEX3.out.own HEX3.out.blk (by decide) q.symm)
              have HEN := Lib.hid (HEX3.out.more (HRL.out i) (HIR.out.grow HX3.out) (cr := c') hown hgr)
              have HBE3 : Hid (Below bc W w3) := Lib.hid (below_grown (HBH.out.trans (Below.mono HX3.out (by have := HGH.out.size; omega))) (own_mono HEX3.out.own (Nat.le_of_lt hcW)) hgr (by have h1 := HGH.out.size; have h2 := HX3.out.size; omega))
              clear hbc htc
              have hbc := hb3.cell
              have hbf := hb3.frozen
              clear hown hgr hb3 HX3 HEX3 HIR
              go_wp2
              go_roundw
              case rel => exact ⟨i + 1, Aw, cw, _, by go_num, HIT.out, by rw [List.length_append, HRl.out]; rfl, by rw [List.map_append, HRx.out, List.range_succ, List.map_append]; rfl, HEN.out, HBE3.out.setCell (p := ⟨bc, 1, none⟩) (Nat.le_refl _) _⟩
              case measure => have := HIT.out; simp [intOf]; omega
        · obtain rfl : i = rota.length := by omega
          have hid1 : decide ((rota.length : Int) < (rota.length : Int)) = false := by simp
          have hid2 : decide (rota.length < rota.length) = false := by simp
          have hbc := HEI.out.blk.cell
          have hrb : BlockIs wi br 39 #[.slice none 0 0, .slice none 0 0] := HR0.out.below HBI.out (by omega)
          have HRB := Lib.hid hrb
          have hrc' := hrb.cell
          have hrf := hrb.frozen
          clear hrb
          have HFIN : Hid (BlockIs ((wi.setCell ⟨br, 0, none⟩ (.slice A nn cap)).setCell ⟨br, 1, none⟩ (.slice B rota.length cb)) br 39 #[.slice A nn cap, .slice B rota.length cb]) := Lib.hid ((HRB.out.near 0 _).near 1 _)
          go_wp2
          have hnr : nn = st.length := HSL.out.symm
          have hrr : rota.length = R.length := HRl.out.symm
          refine bodyPost_ret (results_course6 Try.results54 _ _ br _ _ HFIN.out rfl) rfl ⟨⟨st, A, cap, R, B, cb⟩, by show Ending.returned (Value.agg #[_, _]) = Ending.returned (Value.agg #[.slice A st.length cap, .slice B R.length cb]); rw [← hnr, ← hrr], ?_, rfl, by rw [HRx.out, HRS.out], ?_⟩
          · have hs : IntsT ((wi.setCell ⟨br, 0, none⟩ (.slice A nn cap)).setCell ⟨br, 1, none⟩ (.slice B rota.length cb)) (bc + 1) A st := (HEI.out.st.far (p := ⟨br, 0, none⟩) (by show br < bc + 1; omega) _).far (p := ⟨br, 1, none⟩) (by show br < bc + 1; omega) _
            refine ⟨hs.ints, own_rows (base := W.heap.size) (cap := cb) (lo := bc + 1) ?_ fun r hr => ((HEI.out.rows r hr).far (p := ⟨br, 0, none⟩) (by show br < bc + 1; omega) _).far (p := ⟨br, 1, none⟩) (by show br < bc + 1; omega) _⟩
            rw [← hrr]
            exact own_far (own_far HEI.out.own (p := ⟨br, 0, none⟩) (by show br < W.heap.size; omega) _) (p := ⟨br, 1, none⟩) (by show br < W.heap.size; omega) _
          · exact (HG.out.trans' (Below.mono HBI.out (by omega))).setCell (p := ⟨br, 0, none⟩) (by show w.heap.size ≤ br; omega) _ |>.setCell (p := ⟨br, 1, none⟩) (by show w.heap.size ≤ br; omega) _

end Go.Proofs.Ythlihchndmbkaaa

