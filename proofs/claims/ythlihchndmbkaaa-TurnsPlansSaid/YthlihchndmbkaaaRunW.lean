/- RunW: the specification's Run. -/
import Derived.Test.YthlihchndmbkaaaCourseM
namespace Go.Proofs.Ythlihchndmbkaaa
open Go.RowKit

theorem wearRow_len (n : Nat) (W : Nat → Nat → Int) (i : Nat) : (wearRow n W i).length = n := by simp [wearRow]
theorem IntsT.mono {w : World} {lo lo' : Nat} {A : Option Addr} {xs : List Int} (h : IntsT w lo A xs) (hl : lo' ≤ lo) : IntsT w lo' A xs := by
  rcases h with h | ⟨b, cs, e, h1, h2⟩
  · exact .inl h
  · exact .inr ⟨b, cs, e, by omega, h2⟩
theorem own_nil (w : World) (base e : Nat) : w.ownsRow base e 1 (.slice none 0 0) 0 [] := ⟨rfl, .inl ⟨rfl, rfl⟩⟩
/-- the rows of weariness so far -/
structure Wearies (w : World) (lo bn : Nat) (A : Option Addr) (cap : Nat) (R : List RowR) (n : Nat) (W : Nat → Nat → Int) (i : Nat) : Prop where
  own : w.ownsRow lo 23 1 (.slice A R.length cap) R.length (R.map rowV)
  len : R.length = i + 1
  rows : ∀ r ∈ R, IntsT w (bn + 1) r.A r.xs
  is : R.map (·.xs) = (List.range (i + 1)).map (wearRow n W)
theorem Wearies.grow {w w' : World} {lo bn : Nat} {A : Option Addr} {cap : Nat} {R : List RowR} {n : Nat} {W : Nat → Nat → Int} {i : Nat} (h : Wearies w lo bn A cap R n W i) (hg : Grow w w') : Wearies w' lo bn A cap R n W i :=
  ⟨own_grow h.own hg, h.len, fun r hr => (h.rows r hr).grow hg, h.is⟩
theorem Wearies.put {w : World} {lo bn : Nat} {A : Option Addr} {cap : Nat} {R : List RowR} {n : Nat} {W : Nat → Nat → Int} {i : Nat} (h : Wearies w lo bn A cap R n W i) {cs : Array Value} (hb : BlockIs w bn 3 cs) (j : Nat) (v : Value) : Wearies (w.setCell ⟨bn, j, none⟩ v) lo bn A cap R n W i :=
  ⟨own_other h.own hb (by decide) j v, h.len, fun r hr => (h.rows r hr).far (p := ⟨bn, j, none⟩) (by show bn < bn + 1; omega) v, h.is⟩

theorem results_run67 {fn : Func} (h : fn.results = #[.tmp 6, .tmp 7]) (t : Array Value) (W : World) (u1 u2 : Value) (h1 : t.getD 6 undef = u1) (h2 : t.getD 7 undef = u2) :
    (results fn t).run Try.prog W = .ok (.tuple #[u1, u2]) W := by
  simp only [results, h]
  simp at h1 h2
  simp [go_sem, h1, h2]
theorem own_base {w : World} {base e size n : Nat} {v : Value} {xs : List Value} (h : w.ownsRow base e size v n xs) {k : Nat} (hk : v.ownBlock = some k) : base ≤ k := by
  rcases h.2 with ⟨rfl, _⟩ | ⟨g, c, cur, hv, hg, _⟩
  · simp [Value.ownBlock] at hk
  · subst hv
    simp [Value.ownBlock] at hk
    omega
theorem RowAt.grow {w w' : World} {b r : Nat} {xs : List Int} (h : RowAt w b r xs) (g : Grow w w') : RowAt w' b r xs := h.keep (Below.block g b h.lt)
theorem RowAt.grown {w w' : World} {b r : Nat} {xs : List Int} (h : RowAt w b r xs) {base e size n : Nat} {v : Value} {ys : List Value} (ho : w.ownsRow base e size v n ys) (he : 3 ≠ e) (hg : w.grownBy w' v.ownBlock) : RowAt w' b r xs := by
  obtain ⟨cs, h1, h2, h3⟩ := h
  exact ⟨cs, h1.grown hg (fun q => own_type ho h1 he q.symm), h2, h3⟩
theorem grown_grow {w w' : World} {e size n : Nat} {v : Value} {ys : List Value} {W : World} (hW : Grow W w) (ho : w.ownsRow W.heap.size e size v n ys) (hg : w.grownBy w' v.ownBlock) : Grow W w' := Below.grown hW hg hW.size (fun _ hk => own_base ho hk)
theorem Wearies.first {x w3 : World} {lo bn : Nat} {Ac Aw : Option Addr} {cc cw n : Nat} {W : Nat → Nat → Int} (hit : IntsT x (bn + 1) Ac (wearRow n W 0)) (hown : w3.ownsRow lo 23 1 (.slice Aw 1 cw) 1 [.slice Ac n cc]) (hgr : x.grownBy w3 (Value.slice none 0 0).ownBlock) : Wearies w3 lo bn Aw cw [⟨Ac, cc, wearRow n W 0⟩] n W 0 :=
  ⟨by
    show w3.ownsRow lo 23 1 _ _ [.slice Ac (wearRow n W 0).length cc]
    rw [wearRow_len]
    exact hown, rfl, fun r hr => by
    obtain rfl := List.mem_singleton.1 hr
    exact hit.grown (own_nil x lo 23) (by decide) hgr, by simp⟩
theorem Wearies.more {x w3 : World} {lo bn : Nat} {A Ac Aw : Option Addr} {cap cc cw n : Nat} {R : List RowR} {W : Nat → Nat → Int} {i : Nat} (h : Wearies x lo bn A cap R n W i) (hit : IntsT x (bn + 1) Ac (wearRow n W (i + 1))) (hown : w3.ownsRow lo 23 1 (.slice Aw (R.length + 1) cw) (R.length + 1) (R.map rowV ++ [.slice Ac n cc])) (hgr : x.grownBy w3 (Value.slice A R.length cap).ownBlock) : Wearies w3 lo bn Aw cw (R ++ [⟨Ac, cc, wearRow n W (i + 1)⟩]) n W (i + 1) :=
  ⟨by
    rw [List.length_append, List.map_append]
    show w3.ownsRow lo 23 1 _ _ (R.map rowV ++ [.slice Ac (wearRow n W (i + 1)).length cc])
    rw [wearRow_len]
    exact hown, by simp [h.len], fun r hr => by
    rcases List.mem_append.1 hr with hr | hr
    · exact (h.rows r hr).grown h.own (by decide) hgr
    · obtain rfl := List.mem_singleton.1 hr
      exact hit.grown h.own (by decide) hgr, by rw [List.map_append, h.is, List.range_succ (n := i + 1), List.map_append]; rfl⟩

set_option maxRecDepth 100000 in
set_option maxHeartbeats 16000000 in
theorem run_any (t : TaskR) (rota : List Nat) (A1 : Option Addr) (c1 : Nat) (x : CourseR) (n : Nat) (w : World) (ht : TaskAt w n t) (h1 : Ints w n A1 (natsL rota)) (hx : CourseAt w n x) (hn : n ≤ w.heap.size) (hR : RunOK t.d rota x.st (x.rows.map (·.xs))) :
    Calls Try.prog 21 #[taskV t, .slice A1 rota.length c1, courseKV x] w fun e w' => ∃ A cap R, e = .returned (.tuple #[.slice A (rota.length + 1) cap, .int .i64 (runM t.d (runF rota x.st (x.rows.map (·.xs))) rota rota.length)]) ∧ RowsAt w' w'.heap.size A R ∧
      R.map (·.xs) = (List.range (rota.length + 1)).map (wearRow t.d.hands.length (runF rota x.st (x.rows.map (·.xs)))) ∧ Below w.heap.size w w' := by
  obtain ⟨i0, hi, hz0, hz1, hz2⟩ := info_parts Try.infoInt
  obtain ⟨j0, hj, hy0, hy1, hy2⟩ := info_parts Try.infoInts
  have HT := Lib.hid (ht.more hn)
  have HI := Lib.hid (h1.more hn)
  have HK := Lib.hid (hx.more hn)
  have HR := Lib.hid hR
  clear ht h1 hx hn hR
  obtain ⟨st, Ast, cast, rows, Brw, cbrw⟩ := x
  dsimp only at HR ⊢
  obtain ⟨steps, hst⟩ : ∃ q, rows.map (·.xs) = q := ⟨_, rfl⟩
  have HST := Lib.hid hst
  rw [hst] at HR ⊢
  clear hst
  have hparts := okTask_parts HR.out.ok
  have hl1 := HR.out.l1
  have hn1 := hparts.1.1
  have hn3 := hparts.1.2
  have hlen : rota.length ≤ 10 := by have := HR.out.len; omega
  obtain ⟨nn, hnn⟩ : ∃ q, t.d.hands.length = q := ⟨_, rfl⟩
  have HNN := Lib.hid hnn
  rw [hnn] at hl1 hn1 hn3 ⊢
  have hrow0 : st = wearRow nn (runF rota st steps) 0 := by
    refine List.ext_getElem? fun k => ?_
    by_cases hk : k < nn
    · have e : st[k]? = some (st[k]'(by omega)) := List.getElem?_eq_getElem (by omega)
      rw [e]
      unfold wearRow
      simp only [List.getElem?_map, List.getElem?_range hk, Option.map_some]
      show _ = some (stF st k)
      unfold stF
      rw [getD_at e]
    · rw [List.getElem?_eq_none (by omega), List.getElem?_eq_none (by simp [wearRow]; omega)]
  have HROW0 := Lib.hid hrow0
  have HW := Lib.hid HR.out.wear
  have HMI := Lib.hid HR.out.mist
  obtain ⟨Wf, hwf⟩ : ∃ q, runF rota st steps = q := ⟨_, rfl⟩
  rw [hwf] at HROW0 HW HMI ⊢
  have HWF := Lib.hid hwf
  have hown0 : ∀ (W : World) (b : Nat), b = W.heap.size → (W.alloc (.cells #[] 3)).ownsRow b 3 1 (.slice (some ⟨b, 0, none⟩) 0 0) 0 [] := fun W b hb => by
    subst hb
    exact ⟨rfl, .inr ⟨W.heap.size, 0, #[], rfl, Nat.le_refl _, heap_alloc_new W _, Nat.le_refl _, by unfold maxLen; omega, rfl, rfl⟩⟩
  have HL1 := Lib.hid hl1
  have hst3 : st.length ≤ 3 := by omega
  have hst1 : 0 < st.length := by omega
  clear hparts hnn hrow0 hwf hl1
  go_enter Try.func21, Try.ntmps21
  go_upto_region 1 with fail
  obtain ⟨W, hW, hg, hf, hxb, hsz⟩ := two_blocks w 25 39 (cellsT t) (cellsK ⟨st, Ast, cast, rows, Brw, cbrw⟩)
  rw [hW]
  clear hW
  obtain ⟨bx, ebx⟩ : ∃ q, w.heap.size + 1 = q := ⟨_, rfl⟩
  rw [ebx] at hxb hsz ⊢
  have HF := Lib.hid hf
  have HX := Lib.hid hxb
  have HG := Lib.hid hg
  have hxc := hxb.cell
  have hbxl : bx < W.heap.size := hsz
  clear hg hf hxb
  go_wp2_with (at_builtin; go_loud (refine wpList_append_ints rfl _ _ 23 rfl W.heap.size 3 i0 (.int .i64 0) 8 Try.underlying23 hi hz0 hz1 hz2 rfl _ 0 [] rfl ?c0 Ast st.length cast w.heap.size st rfl rfl ?c1 ?c2 ?c3 ?c4 ?_))
  case c0 => exact hown0 _ _ rfl
  case c1 => exact (HK.out.below (HG.out.trans (Grow.alloc _ _))).1
  case c2 => unfold maxLen; omega
  case c3 => omega
  case c4 => simp
  intro v' w1 hown hgr
  obtain ⟨An, cn, rfl⟩ := own_form hown
  obtain ⟨bn, rfl, hbn, hrow, hcn⟩ := own_row (xs := st) (by simpa using hown) hst1
  have hb1 : Below W.heap.size W w1 := (((Below.refl _ W).alloc (Nat.le_refl _) _)).grown hgr (by simp) (fun k hk => by simp [Value.ownBlock] at hk; omega)
  have HG1 : Hid (Grow W w1) := hb1
  have HN1 : Hid (RowAt w1 bn cn (wearRow nn Wf 0)) := Lib.hid (by rw [← HROW0.out]; exact hrow)
  have hbn1 : bn < w1.heap.size := hrow.lt
  clear hown hgr hrow hb1 hxc
  go_upto_region 2 with fail
  rw [show st.length = nn from HL1.out]
  have HGW2 : Hid (Grow W w1) := HG1
  go_wp2_with (at_builtin; refine wpList_append_ints rfl _ _ 23 rfl w1.heap.size 3 i0 (.int .i64 0) 8 Try.underlying23 hi hz0 hz1 hz2 rfl _ 0 [] rfl ?c0 (some ⟨bn, 0, none⟩) nn cn w1.heap.size (wearRow nn Wf 0) rfl ?c5 ?c1 ?c2 ?c3 ?c4 ?_)
  case c0 => exact hown0 _ _ rfl
  case c5 => exact (wearRow_len _ _ _).symm
  case c1 => exact (HN1.out.ints HN1.out.lt).below (Grow.alloc _ _)
  case c2 => unfold maxLen; omega
  case c3 => omega
  case c4 => simp
  intro v' w2 hown hgr
  obtain ⟨Ac, cc, rfl⟩ := own_form hown
  have hown' : w2.ownsRow w1.heap.size 3 1 (.slice Ac (wearRow nn Wf 0).length cc) (wearRow nn Wf 0).length ((wearRow nn Wf 0).map (Value.int .i64)) := by rw [wearRow_len]; simpa using hown
  have hg2 : Grow w1 w2 := (((Below.refl _ w1).alloc (Nat.le_refl _) _)).grown hgr (by simp) (fun k hk => by simp [Value.ownBlock] at hk; omega)
  have HIT : Hid (IntsT w2 (bn + 1) Ac (wearRow nn Wf 0)) := Lib.hid ((own_intsT hown' (by rw [wearRow_len]; exact hn1)).mono (by have := HN1.out.lt; omega))
  have HG2 := Lib.hid hg2
  have HNB := Lib.hid (news_one (BlockIs.new w2 23 #[.slice Ac nn cc]))
  clear hown hgr hown' hg2
  go_wp2_with (at_builtin; refine wpList_append_own _ rfl _ _ 37 rfl W.heap.size 23 j0 (.slice none 0 0) 1 24 Try.underlying37 hj hy0 hy1 hy2 rfl (by omega) _ 0 [] rfl ?d0 ⟨w2.heap.size, 0, none⟩ 1 1 [.slice Ac nn cc] rfl rfl ?d1 ?d2 ?d3 ?d4 ?d5 ?_)
  case d0 => exact own_nil _ _ _
  case d1 => exact HNB.out
  case d2 => simp [Value.oneCell']
  case d3 => unfold maxLen; omega
  case d4 => omega
  case d5 => have h1 := HGW2.out.size; have h2 := HG2.out.size; simp; omega
  intro v' w3 hown hgr _
  obtain ⟨Aw, cw, rfl⟩ := own_form hown
  have HX3 := Lib.hid (Grow.alloc w2 (.cells #[.slice Ac nn cc] 23))
  have HWE : Hid (Wearies w3 W.heap.size bn Aw cw [⟨Ac, cc, wearRow nn Wf 0⟩] nn Wf 0) := Lib.hid (Wearies.first (HIT.out.grow HX3.out) (by simpa using hown) hgr)
  have HN3 : Hid (RowAt w3 bn cn (wearMid nn Wf 0 0)) := Lib.hid (by rw [wearMid_zero]; exact ((HN1.out.grow HG2.out).grow HX3.out).grown (own_nil _ 0 23) (by decide) hgr)
  have HG3 : Hid (Grow W w3) := Lib.hid (grown_grow ((HGW2.out.trans HG2.out).trans HX3.out) (own_nil _ _ 23) hgr)
  clear hown hgr HX3 HNB HIT HG2 HN1 HGW2 HG1
  have HCN : Hid (nn ≤ cn) := Lib.hid (by rw [← HL1.out]; exact hcn)
  have HBN : Hid (W.heap.size ≤ bn) := Lib.hid hbn
  clear hcn
  go_upto_region 4 with fail
  go_loopw [6, 7, 9] (fun v6 v7 v9 wr => ∃ i A cap R, v6 = .slice A (i + 1) cap ∧ v7 = .int .i64 (runM t.d Wf rota i) ∧ v9 = .int .i64 (i : Nat) ∧ i ≤ rota.length ∧ Wearies wr W.heap.size bn A cap R nn Wf i ∧ RowAt wr bn cn (wearMid nn Wf i 0) ∧ Grow W wr) (fun _ _ v _ => rota.length - (intOf v).toNat)
  case atStart => exact ⟨0, Aw, cw, _, rfl, rfl, rfl, Nat.zero_le _, HWE.out, HN3.out, HG3.out⟩
  case round =>
    obtain ⟨i, A, cap, R, rfl, rfl, rfl, hil, hwe, hrow, hgr⟩ := hrel
    rename World => wr
    have HWI := Lib.hid hwe
    have HRI := Lib.hid hrow
    have HGI := Lib.hid hgr
    clear hwe hrow hgr
    by_cases hit : i < rota.length
    · have hii : (i : Int) < (rota.length : Int) := by omega
      have hi0 : (0 : Int) ≤ (i : Int) := by omega
      have hid1 : decide ((i : Int) < (rota.length : Int)) = true := decide_eq_true hii
      have hid2 : decide (i < rota.length) = true := decide_eq_true hit
      obtain ⟨k, hk⟩ : ∃ k, rota[i]? = some k := ⟨_, List.getElem?_eq_getElem hit⟩
      have hkn : k < nn := by rw [← HNN.out]; exact HR.out.hands k (List.mem_of_getElem? hk)
      have HK0 := Lib.hid hk
      have HKD : Hid (rota.getD i 0 = k) := Lib.hid (getD_at hk)
      obtain ⟨bt, ot, hAt, hbt, hct⟩ : ∃ b off, A1 = some ⟨b, off, none⟩ ∧ b < w.heap.size ∧ ∀ j x, (natsL rota)[j]? = some x → w.cell? ⟨b, off + j, none⟩ = some (.int .i64 x) := by
        rcases HI.out with e | e
        · rw [List.map_eq_nil_iff] at e; rw [e] at hit; simp at hit
        · exact e
      subst hAt
      have HCT : Hid (∀ (w0 : World), Grow W w0 → ∀ (j x : Nat), rota[j]? = some x → w0.cell? ⟨bt, ot + j, none⟩ = some (.int .i64 (x : Int))) := Lib.hid (fun w0 hw j x hj => ((HG.out.trans hw).cell (hct j x (by rw [List.getElem?_map, hj]; rfl))))
      clear hct hbt hk
      have hci := HCT.out wr HGI.out i k HK0.out
      obtain ⟨bp, op, p, hBe, hbp, hcp, HP⟩ := (HT.out.2.below (HG.out.trans HGI.out)).at_ (k := i) (by have := HR.out.len; omega)
      obtain ⟨bh, oh, y, hAe, hbh, hch, HY⟩ := (HT.out.1.below (HG.out.trans HGI.out)).at_ (k := k) (by rw [HNN.out]; exact hkn)
      have hc6 := hch 6 (by omega)
      have hfc0 : wr.cell? ⟨w.heap.size, 0, none⟩ = some (.slice (some ⟨bh, oh, none⟩) nn t.ca) := by rw [← HNN.out, ← hAe]; exact (HGI.out.block HF.out).cell 0
      have hfc1 : wr.cell? ⟨w.heap.size, 1, none⟩ = some (.slice (some ⟨bp, op, none⟩) t.d.parts.length t.cb) := by rw [← hBe]; exact (HGI.out.block HF.out).cell 1
      have hfc4 : wr.cell? ⟨w.heap.size, 4, none⟩ = some (.int .i64 t.d.swap) := (HGI.out.block HF.out).cell 4
      obtain ⟨v, hv⟩ : ∃ q, Wf i k = q := ⟨_, rfl⟩
      have HV := Lib.hid hv
      have hcw : wr.cell? ⟨bn, k, none⟩ = some (.int .i64 v) := by
        obtain ⟨cs, h1, h2, h3⟩ := HRI.out
        rw [h1.cell]
        exact h3 k v (by rw [wearMid_zero, ← hv]; simp [wearRow, hkn])
      have hwv := HW.out i (by omega) k (by rw [HNN.out]; exact hkn)
      rw [hv] at hwv
      have hpi : (i : Int) < (t.d.parts.length : Int) := by have := HR.out.len; omega
      have hok := okTask_parts HR.out.ok
      have hsl := okHand_parts (hok.2.1 y (List.mem_of_getElem? HY.out))
      have hpb := hok.2.2.2.1 p (List.mem_of_getElem? HP.out)
      have hswb := hok.2.2.2.2
      have hmi := HMI.out i hil
      have hmi1 := HMI.out (i + 1) hit
      have HM1 : Hid (runM t.d Wf rota (i + 1) = runM t.d Wf rota i + (p * (y.slip + v) + (if 0 < i ∧ k ≠ rota.getD (i - 1) 0 then t.d.swap else 0))) := Lib.hid (by
        show runM t.d Wf rota i + partM t.d Wf rota i = _
        unfold partM slipAt
        rw [HKD.out, HY.out, HV.out, getD_at HP.out])
      obtain ⟨m, hm⟩ : ∃ q, runM t.d Wf rota i = q := ⟨_, rfl⟩
      rw [hm] at HM1 hmi ⊢
      have hi9 : (i : Int) ≤ 9 := by omega
      have hmul := mul_le hpb.1 hpb.2 (a := y.slip + v) (by omega) (by omega)
      obtain ⟨pm, hpm⟩ : ∃ q, p * (y.slip + v) = q := ⟨_, rfl⟩
      have hw1 : IntKind.i64.wrap (y.slip + v) = y.slip + v := IntWalk.i64_in _ (by omega)
      have hw2 : IntKind.i64.wrap (p * (y.slip + v)) = pm := by rw [hpm]; exact IntWalk.i64_in _ (by omega)
      have hw3 : IntKind.i64.wrap (m + pm) = m + pm := IntWalk.i64_in _ (by omega)
      have hsw := hswb.2.2.1
      have hsw' := hswb.2.2.2
      have HS4 : Hid (IntKind.i64.wrap (m + pm + t.d.swap) = m + pm + t.d.swap) := Lib.hid (IntWalk.i64_in _ (by omega))
      have HM2 : Hid (runM t.d Wf rota (i + 1) = m + pm + (if 0 < i ∧ k ≠ rota.getD (i - 1) 0 then t.d.swap else 0)) := Lib.hid (by rw [HM1.out, hpm]; omega)
      have HHIT := Lib.hid hit
      have HHKN := Lib.hid hkn
      have hki : (k : Int) < (nn : Int) := by omega
      have hk0 : (0 : Int) ≤ (k : Int) := by omega
      obtain ⟨ys, hys⟩ : ∃ q, y.slip = q := ⟨_, rfl⟩
      have hc6' : wr.cell? ⟨bh, oh + k * 7 + 6, none⟩ = some (.int .i64 ys) := by rw [← hys]; exact hc6
      rw [hys] at hw1 hw2
      clear hpm hm hv hmul hpb hsl hok hmi hmi1 hwv hAe hBe hch hbp hbh hc6 hswb hsw hsw' HM1 hys
      obtain ⟨bs, hbs⟩ : ∃ q, decide (0 < i ∧ k ≠ rota.getD (i - 1) 0) = q := ⟨_, rfl⟩
      have HBS := Lib.hid hbs
      clear hbs
      go_upto_region 6 with fail
      go_quiet (fail)
      go_upto_region 7 with fail
      go_cut [65] (fun v wx => v = .bool bs ∧ Grow wr wx)
      case first =>
        by_cases h0 : 0 < i
        · have hz1 : decide ((0 : Int) < (i : Int)) = true := decide_eq_true (by omega)
          have hz2 : decide (0 < i) = true := decide_eq_true h0
          obtain ⟨k', hk'⟩ : ∃ k', rota[i - 1]? = some k' := ⟨_, List.getElem?_eq_getElem (by omega)⟩
          have hci' := HCT.out wr HGI.out (i - 1) k' hk'
          have hsub : ((i : Int) - 1) = ((i - 1 : Nat) : Int) := by omega
          have hsub2 : ((i : Int) - 1).toNat = i - 1 := by omega
          have hsub3 : (0 : Int) ≤ ((i : Int) - 1) := by omega
          have hsub4 : ((i : Int) - 1) < (rota.length : Int) := by omega
          have HKD' : Hid (rota.getD (i - 1) 0 = k') := Lib.hid (getD_at hk')
          clear hk' hsub
          by_cases hkk : k = k'
          · have d1 : ((k : Int) == (k' : Int)) = true := by simp [hkk]
            have d2 : ((k : Int) != (k' : Int)) = false := by simp [hkk]
            have d3 : decide ((k : Int) = (k' : Int)) = true := by simp [hkk]
            have HF : Hid (bs = false) := Lib.hid (by rw [← HBS.out, HKD'.out]; exact decide_eq_false (fun h => h.2 hkk))
            clear hkk
            go_quiet (fail)
            go_wp2
            go_meet
            exact ⟨by rw [HF.out], Below.drewN_ (Below.drewN_ (Below.refl _ _) _) _⟩
          · have d1 : ((k : Int) == (k' : Int)) = false := by simp; omega
            have d2 : ((k : Int) != (k' : Int)) = true := by simp; omega
            have d3 : decide ((k : Int) = (k' : Int)) = false := decide_eq_false (by omega)
            have HF : Hid (bs = true) := Lib.hid (by rw [← HBS.out, HKD'.out]; exact decide_eq_true ⟨h0, hkk⟩)
            clear hkk
            go_quiet (fail)
            go_wp2
            go_meet
            exact ⟨by rw [HF.out], Below.drewN_ (Below.drewN_ (Below.refl _ _) _) _⟩
        · have hz1 : decide ((0 : Int) < (i : Int)) = false := decide_eq_false (by omega)
          have hz2 : decide (0 < i) = false := decide_eq_false h0
          have HF : Hid (bs = false) := Lib.hid (by rw [← HBS.out]; exact decide_eq_false (fun h => h0 h.1))
          go_quiet (fail)
          go_wp2
          go_meet
          exact ⟨by rw [HF.out], Below.drewN_ (Below.drewN_ (Below.refl _ _) _) _⟩
      case rest =>
        obtain ⟨rfl, hgx⟩ := hcut
        rename World => wx
        have HGX := Lib.hid hgx
        have HM3 : Hid (runM t.d Wf rota (i + 1) = m + pm + (if bs = true then t.d.swap else 0)) := Lib.hid (by rw [HM2.out, ← HBS.out]; simp)
        clear hgx hw1 hw2 hw3 hci hcp hfc0 hfc1 hfc4 hcw hc6' HM2 HBS
        have hw4 := HS4.out
        have hfc4 : wx.cell? ⟨w.heap.size, 4, none⟩ = some (.int .i64 t.d.swap) := ((HGI.out.trans HGX.out).block HF.out).cell 4
        go_upto_if 65 with fail
        go_cut [7] (fun v wy => v = .int .i64 (runM t.d Wf rota (i + 1)) ∧ Grow wr wy)
        case first =>
          cases bs
          · go_wp2
            go_meet
            exact ⟨by rw [HM3.out]; simp, HGX.out⟩
          · go_wp2
            go_meet
            exact ⟨by rw [HM3.out]; simp, HGX.out⟩
        case rest =>
          obtain ⟨rfl, hgx⟩ := hcut
          rename World => wy
          have HGY : Hid (Grow W wy) := Lib.hid (HGI.out.trans hgx)
          have HWY := Lib.hid (HWI.out.grow hgx)
          have HRY := Lib.hid (HRI.out.grow hgx)
          clear hgx hfc4 hw4 HGX
          have HHI := Lib.hid hid1
          clear hid1 hid2 hki hk0 hkn hpi
          go_upto_region 10 with fail
          go_loopw [10] (fun hv wh => ∃ h : Nat, hv = .int .i64 h ∧ h ≤ nn ∧ Wearies wh W.heap.size bn A cap R nn Wf i ∧ RowAt wh bn cn (wearMid nn Wf i h) ∧ Grow W wh) (fun v _ => nn - (intOf v).toNat)
          case atStart => exact ⟨0, rfl, Nat.zero_le _, HWY.out, HRY.out, HGY.out⟩
          case round =>
            obtain ⟨h, rfl, hhl, hwe, hrow, hgr⟩ := hrel
            rename World => wh
            have HWH := Lib.hid hwe
            have HRH := Lib.hid hrow
            have HGH := Lib.hid hgr
            clear hwe hrow hgr
            by_cases hht : h < nn
            · have hh1 : (h : Int) < (nn : Int) := by omega
              have hh0 : (0 : Int) ≤ (h : Int) := by omega
              have hhd1 : decide ((h : Int) < (nn : Int)) = true := decide_eq_true hh1
              have hhd2 : decide (h < nn) = true := decide_eq_true hht
              have hci := HCT.out wh HGH.out i k HK0.out
              go_upto_region 12 with fail
              obtain ⟨brw, orw, r, hBe, hbb, hrc, hri, HRX⟩ := (HK.out.below (HG.out.trans HGH.out)).2.at_ (k := i) (by have h1 := HR.out.l2; have h2 := HHIT.out; rw [← HST.out, List.length_map] at h1; show i < rows.length; omega)
              have HSR : Hid (steps[i]? = some r.xs) := Lib.hid (by rw [← HST.out, List.getElem?_map, HRX.out]; rfl)
              have hrl : r.xs.length = nn := by rw [← HNN.out]; exact HR.out.l3 _ (List.mem_of_getElem? HSR.out)
              obtain ⟨bs, os, sv, hAe, hbs, hsc, HSV⟩ := hri.at_ (k := h) (by omega)
              have hBe' : Brw = some ⟨brw, orw, none⟩ := hBe
              have hxc1 : wh.cell? ⟨bx, 1, none⟩ = some (.slice (some ⟨brw, orw, none⟩) rows.length cbrw) := by rw [← hBe']; exact (HGH.out.block HX.out).cell 1
              rw [hAe, hrl] at hrc
              obtain ⟨x, hx⟩ : ∃ q, Wf i h = q := ⟨_, rfl⟩
              have hcx : wh.cell? ⟨bn, h, none⟩ = some (.int .i64 x) := by
                obtain ⟨cs, h1, h2, h3⟩ := HRH.out
                rw [h1.cell]
                exact h3 h x (by rw [wearMid_at hht, if_neg (by omega), hx])
              have hxb := HW.out i (by have := HHIT.out; omega) h (by rw [HNN.out]; exact hht)
              rw [hx] at hxb
              have HSP : Hid (spF steps i h = sv) := Lib.hid (by unfold spF; rw [getD_at HSR.out, getD_at HSV.out])
              have hsb := HR.out.step HHIT.out (k := h) (by rw [HNN.out]; exact hht)
              rw [HSP.out] at hsb
              have hil9 : (i : Int) ≤ 9 := by have := HHIT.out; omega
              have hwx : IntKind.i64.wrap (x + sv) = x + sv := IntWalk.i64_in _ (by omega)
              have hwy : IntKind.i64.wrap (x - sv) = x - sv := IntWalk.i64_in _ (by omega)
              have HWN : Hid (Wf (i + 1) h = if rota[i]? = some h then x + sv else max 0 (x - sv)) := Lib.hid (by
                rw [← HWF.out] at hx ⊢
                show (if rota[i]? = some h then runF rota st steps i h + spF steps i h else max 0 (runF rota st steps i h - spF steps i h)) = _
                rw [hx, HSP.out])
              skip
              have hii : (i : Int) < (rows.length : Int) := by have h1 := HR.out.l2; have h2 := HHIT.out; rw [← HST.out, List.length_map] at h1; omega
              have HCL := Lib.hid (fun (w0 : World) (hw : Grow wh w0) => And.intro (hw.cell hxc1) (And.intro (hw.cell hrc) (And.intro (hw.cell hsc) (hw.cell hcx))))
              have HHT := Lib.hid hht
              clear hBe hBe' hAe hbb hbs hri hrl hx hrc hsc hxc1 hcx hxb
              by_cases hkh : k = h
              · have HKH : Hid (rota[i]? = some h) := Lib.hid (by rw [HK0.out, hkh])
                have d1 : ((k : Int) == (h : Int)) = true := by simp [hkh]
                have d3 : decide ((k : Int) = (h : Int)) = true := by simp [hkh]
                clear hkh
                go_upto_region 13 with fail
                refine wp_region_lit 14 [[], [], [(0, 82), (1, 83)], [(2, 84)], [], [(4, 86)], [], [(5, 87), (6, 88)], [(7, 89)], [], [(8, 90), (9, 91)], [(10, 92)], [(3, 85), (11, 93)], [(0, 82), (1, 83)]] Grow (fun qi qv qw => match qi with
                    | 0 => qv = .slice (some ⟨bn, 0, none⟩) nn cn
                    | 1 => qv = .int .i64 (h : Nat)
                    | 2 => qv = .pointer (some ⟨bn, h, none⟩)
                    | 3 => qv = .int .i64 x
                    | 4 => qv = .pointer (some ⟨bx, 1, none⟩)
                    | 5 => qv = .slice (some ⟨brw, orw, none⟩) rows.length cbrw
                    | 6 => qv = .int .i64 (i : Nat)
                    | 7 => qv = .pointer (some ⟨brw, orw + i, none⟩)
                    | 8 => qv = .slice (some ⟨bs, os, none⟩) nn r.c
                    | 9 => qv = .int .i64 (h : Nat)
                    | 10 => qv = .pointer (some ⟨bs, os + h, none⟩)
                    | 11 => qv = .int .i64 sv
                    | 12 => qv = .int .i64 (x + sv)
                    | 13 => qv = .pointer (some ⟨bn, h, none⟩)
                    | _ => False) (by kernel_rfl) (by kernel_rfl) (fun _ _ _ => Grow.trans) Grow.refl ?_ ?_ ?_
                · intro i v y y' h k
                  match i, h with
                  | 0, h | 1, h | 2, h | 3, h | 4, h | 5, h | 6, h | 7, h | 8, h | 9, h | 10, h | 11, h | 12, h | 13, h => exact h
                · simp only [StepsLit, List.take_succ_cons, List.take_zero]
                  refine ⟨?_, ?_, ?_, ?_, ?_, ?_, ?_, ?_, ?_, ?_, ?_, ?_, ?_, ?_, trivial⟩
                  all_goals
                    intro w5 hR
                    have hGw : Grow wh w5 := hR.of_drew
                    obtain ⟨hxc1, hrc, hsc, hcx⟩ := HCL.out w5 hGw
                    clear hR hGw
                    simp only [depV]
                    repeat (rintro _ rfl)
                    try go_simp
                  all_goals first
                    | (with_reducible exact Grow.refl _)
                    | (with_reducible exact ⟨Grow.refl _, rfl⟩)
                    | skip
                  all_goals
                    refine ⟨Grow.refl _, ?_⟩
                    split <;> omega
                · intro w5 hR
                  have HG5 : Hid (Grow wh w5) := Lib.hid hR.of_drew
                  have HR5 := Lib.hid (HRH.out.grow HG5.out)
                  have HW5 := Lib.hid (HWH.out.grow HG5.out)
                  simp only [finVC, List.take_succ_cons, List.take_zero, List.drop_succ_cons, List.drop_zero]
                  rintro _ rfl
                  rintro _ rfl
                  rintro _ rfl
                  rintro _ rfl
                  rintro _ rfl
                  rintro _ rfl
                  rintro _ rfl
                  rintro _ rfl
                  rintro _ rfl
                  rintro _ rfl
                  rintro _ rfl
                  rintro _ rfl
                  rintro _ rfl
                  rintro _ rfl
                  simp only [Act.put, List.setIfInBounds_toArray, List.set_cons_succ, List.set_cons_zero]
                  obtain ⟨⟨u0, hu0⟩, hfz⟩ := HR5.out.spot (k := h) (by have := HHT.out; have := HCN.out; omega)
                  clear hR
                  go_wp2
                  go_roundw
                  case rel =>
                    obtain ⟨cs5, hb5, _⟩ := HR5.out
                    refine ⟨h + 1, by go_num, HHT.out, HW5.out.put hb5 _ _, ?_, (HGH.out.trans HG5.out).setC (p := ⟨bn, h, none⟩) HBN.out _⟩
                    rw [← wearMid_set nn Wf i h HHT.out, HWN.out, if_pos HKH.out]
                    exact HR5.out.set (by rw [wearMid_len]; exact HHT.out) (by have := HHT.out; have := HCN.out; omega) _
                  case measure => have := HHT.out; simp [intOf]; omega
              · have HKH : Hid (¬ rota[i]? = some h) := Lib.hid (by rw [HK0.out]; intro e; exact hkh (Option.some.inj e))
                have d1 : ((k : Int) == (h : Int)) = false := by simp; omega
                have d3 : decide ((k : Int) = (h : Int)) = false := decide_eq_false (by omega)
                clear hkh
                go_upto_region 14 with fail
                refine wp_region_lit 17 [[], [], [], [], [(2, 98), (3, 99)], [(4, 100)], [], [(6, 102)], [], [(7, 103), (8, 104)], [(9, 105)], [], [(10, 106), (11, 107)], [(12, 108)], [(5, 101), (13, 109)], [(14, 110)], [(0, 96), (1, 97)]] Grow (fun qi qv qw => match qi with
                    | 0 => qv = .slice (some ⟨bn, 0, none⟩) nn cn
                    | 1 => qv = .int .i64 (h : Nat)
                    | 2 => qv = .slice (some ⟨bn, 0, none⟩) nn cn
                    | 3 => qv = .int .i64 (h : Nat)
                    | 4 => qv = .pointer (some ⟨bn, h, none⟩)
                    | 5 => qv = .int .i64 x
                    | 6 => qv = .pointer (some ⟨bx, 1, none⟩)
                    | 7 => qv = .slice (some ⟨brw, orw, none⟩) rows.length cbrw
                    | 8 => qv = .int .i64 (i : Nat)
                    | 9 => qv = .pointer (some ⟨brw, orw + i, none⟩)
                    | 10 => qv = .slice (some ⟨bs, os, none⟩) nn r.c
                    | 11 => qv = .int .i64 (h : Nat)
                    | 12 => qv = .pointer (some ⟨bs, os + h, none⟩)
                    | 13 => qv = .int .i64 sv
                    | 14 => qv = .int .i64 (x - sv)
                    | 15 => qv = .int .i64 (max 0 (x - sv))
                    | 16 => qv = .pointer (some ⟨bn, h, none⟩)
                    | _ => False) (by kernel_rfl) (by kernel_rfl) (fun _ _ _ => Grow.trans) Grow.refl ?_ ?_ ?_
                · intro i v y y' h k
                  match i, h with
                  | 0, h | 1, h | 2, h | 3, h | 4, h | 5, h | 6, h | 7, h | 8, h | 9, h | 10, h | 11, h | 12, h | 13, h | 14, h | 15, h | 16, h => exact h
                · simp only [StepsLit, List.take_succ_cons, List.take_zero]
                  refine ⟨?_, ?_, ?_, ?_, ?_, ?_, ?_, ?_, ?_, ?_, ?_, ?_, ?_, ?_, ?_, ?_, ?_, trivial⟩
                  all_goals
                    intro w5 hR
                    have hGw : Grow wh w5 := hR.of_drew
                    obtain ⟨hxc1, hrc, hsc, hcx⟩ := HCL.out w5 hGw
                    clear hR hGw
                    simp only [depV]
                    repeat (rintro _ rfl)
                    try go_simp
                  all_goals first
                    | (with_reducible exact Grow.refl _)
                    | (with_reducible exact ⟨Grow.refl _, rfl⟩)
                    | skip
                  all_goals
                    refine ⟨Grow.refl _, ?_⟩
                    split <;> omega
                · intro w5 hR
                  have HG5 : Hid (Grow wh w5) := Lib.hid hR.of_drew
                  have HR5 := Lib.hid (HRH.out.grow HG5.out)
                  have HW5 := Lib.hid (HWH.out.grow HG5.out)
                  simp only [finVC, List.take_succ_cons, List.take_zero, List.drop_succ_cons, List.drop_zero]
                  rintro _ rfl
                  rintro _ rfl
                  rintro _ rfl
                  rintro _ rfl
                  rintro _ rfl
                  rintro _ rfl
                  rintro _ rfl
                  rintro _ rfl
                  rintro _ rfl
                  rintro _ rfl
                  rintro _ rfl
                  rintro _ rfl
                  rintro _ rfl
                  rintro _ rfl
                  rintro _ rfl
                  rintro _ rfl
                  rintro _ rfl
                  simp only [Act.put, List.setIfInBounds_toArray, List.set_cons_succ, List.set_cons_zero]
                  obtain ⟨⟨u0, hu0⟩, hfz⟩ := HR5.out.spot (k := h) (by have := HHT.out; have := HCN.out; omega)
                  clear hR
                  go_wp2
                  go_roundw
                  case rel =>
                    obtain ⟨cs5, hb5, _⟩ := HR5.out
                    refine ⟨h + 1, by go_num, HHT.out, HW5.out.put hb5 _ _, ?_, (HGH.out.trans HG5.out).setC (p := ⟨bn, h, none⟩) HBN.out _⟩
                    rw [← wearMid_set nn Wf i h HHT.out, HWN.out, if_neg HKH.out]
                    exact HR5.out.set (by rw [wearMid_len]; exact HHT.out) (by have := HHT.out; have := HCN.out; omega) _
                  case measure => have := HHT.out; simp [intOf]; omega
            · obtain rfl : nn = h := by omega
              have hhd1 : decide ((nn : Int) < (nn : Int)) = false := by simp
              have hhd2 : decide (nn < nn) = false := by simp
              have hil9 : (i : Int) ≤ 9 := by have := HHIT.out; omega
              have HGW2 := HGH
              have HNI : Hid (RowAt wh bn cn (wearRow nn Wf (i + 1))) := Lib.hid (by rw [← wearMid_all]; exact HRH.out)
              go_upto_region 15 with fail
              go_wp2_with (at_builtin; refine wpList_append_ints rfl _ _ 23 rfl wh.heap.size 3 i0 (.int .i64 0) 8 Try.underlying23 hi hz0 hz1 hz2 rfl _ 0 [] rfl ?c0 (some ⟨bn, 0, none⟩) nn cn wh.heap.size (wearRow nn Wf (i + 1)) rfl ?c5 ?c1 ?c2 ?c3 ?c4 ?_)
              case c0 => exact hown0 _ _ rfl
              case c5 => exact (wearRow_len _ _ _).symm
              case c1 => exact (HNI.out.ints HNI.out.lt).below (Grow.alloc _ _)
              case c2 => unfold maxLen; omega
              case c3 => omega
              case c4 => simp
              intro v' w2 hown hgr
              obtain ⟨Ac, cc, rfl⟩ := own_form hown
              have hown' : w2.ownsRow wh.heap.size 3 1 (.slice Ac (wearRow nn Wf (i + 1)).length cc) (wearRow nn Wf (i + 1)).length ((wearRow nn Wf (i + 1)).map (Value.int .i64)) := by rw [wearRow_len]; simpa using hown
              have hg2 : Grow wh w2 := (((Below.refl _ wh).alloc (Nat.le_refl _) _)).grown hgr (by simp) (fun k hk => by simp [Value.ownBlock] at hk; omega)
              have HIT : Hid (IntsT w2 (bn + 1) Ac (wearRow nn Wf (i + 1))) := Lib.hid ((own_intsT hown' (by rw [wearRow_len]; exact hn1)).mono (by have := HNI.out.lt; omega))
              have HG2 := Lib.hid hg2
              have HNB := Lib.hid (news_one (BlockIs.new w2 23 #[.slice Ac nn cc]))
              clear hown hgr hown' hg2
              go_wp2_with (at_builtin; refine wpList_append_own _ rfl _ _ 37 rfl W.heap.size 23 j0 (.slice none 0 0) 1 24 Try.underlying37 hj hy0 hy1 hy2 rfl (by omega) _ (i + 1) (R.map rowV) rfl ?d0 ⟨w2.heap.size, 0, none⟩ 1 1 [.slice Ac nn cc] rfl rfl ?d1 ?d2 ?d3 ?d4 ?d5 ?_)
              case d0 => exact (by have hq := ((HWH.out.grow HG2.out).grow (Grow.alloc w2 (.cells #[.slice Ac nn cc] 23))).own; rw [HWH.out.len] at hq; exact hq)
              case d1 => exact HNB.out
              case d2 => simp [Value.oneCell']
              case d3 => unfold maxLen; omega
              case d4 => omega
              case d5 => have h1 := HGW2.out.size; have h2 := HG2.out.size; simp; omega
              intro v' w3 hown hgr _
              obtain ⟨Aw, cw, rfl⟩ := own_form hown
              have HX3 := Lib.hid (Grow.alloc w2 (.cells #[.slice Ac nn cc] 23))
              have hgr' : (w2.alloc (.cells #[.slice Ac nn cc] 23)).grownBy w3 (Value.slice A R.length cap).ownBlock := by rw [HWH.out.len]; exact hgr
              have HX2 := Lib.hid ((HWH.out.grow HG2.out).grow HX3.out)
              have HWE : Hid (Wearies w3 W.heap.size bn Aw cw (R ++ [⟨Ac, cc, wearRow nn Wf (i + 1)⟩]) nn Wf (i + 1)) := Lib.hid (Wearies.more HX2.out (HIT.out.grow HX3.out) (by rw [HWH.out.len]; exact hown) hgr')
              have HN3 : Hid (RowAt w3 bn cn (wearMid nn Wf (i + 1) 0)) := Lib.hid (by rw [wearMid_zero]; exact ((HNI.out.grow HG2.out).grow HX3.out).grown HX2.out.own (by decide) hgr')
              have HG3 : Hid (Grow W w3) := Lib.hid (grown_grow ((HGH.out.trans HG2.out).trans HX3.out) HX2.out.own hgr')
              clear hown hgr hgr' HX3 HNB HIT HG2 HX2 HNI HGW2
              go_wp2
              go_roundw
              case rel => exact ⟨i + 1, Aw, cw, _, rfl, rfl, by go_num, HHIT.out, HWE.out, HN3.out, HG3.out⟩
              case measure => have := HHIT.out; simp [intOf]; omega
    · obtain rfl : i = rota.length := by omega
      have hid1 : decide ((rota.length : Int) < (rota.length : Int)) = false := by simp
      have hid2 : decide (rota.length < rota.length) = false := by simp
      go_wp2
      exact bodyPost_ret (results_run67 Try.results21 _ _ _ _ rfl rfl) rfl ⟨A, cap, R, rfl, own_rows HWI.out.own HWI.out.rows, HWI.out.is, HG.out.trans HGI.out⟩

end Go.Proofs.Ythlihchndmbkaaa
