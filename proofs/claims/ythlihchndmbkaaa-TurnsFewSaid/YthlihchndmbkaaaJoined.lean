/- Joined: TurnsJoined: mathematics and the law's walk. -/
import Derived.Test.YthlihchndmbkaaaLimit
import Derived.Test.YthlihchndmbkaaaHands
namespace Go.Proofs.Ythlihchndmbkaaa
open Go.RowKit

theorem maySign_same {t u : TaskD} (h1 : u.limit = t.limit) (h2 : u.rest = t.rest) (xs : List Int) (h : Int) : maySignD u xs h = maySignD t xs h := by
  unfold maySignD
  rw [h1, h2]
/-- one more hand -/
def joinD (t : TaskD) (x : HandD) : TaskD := ⟨t.hands ++ [x], t.parts, t.limit, t.rest, t.swap⟩
theorem join_easy (t : TaskD) (x : HandD) : Easy t.hands.length t (joinD t x) ∧ Easy t.hands.length (joinD t x) t := by
  have e : ∀ k, k < t.hands.length → ∃ h, t.hands[k]? = some h ∧ (joinD t x).hands[k]? = some h := fun k hk => ⟨t.hands[k], List.getElem?_eq_getElem hk, by show (t.hands ++ [x])[k]? = _; rw [List.getElem?_append_left hk]; exact List.getElem?_eq_getElem hk⟩
  refine ⟨⟨rfl, rfl, fun k hk => ?_⟩, ⟨rfl, rfl, fun k hk => ?_⟩⟩
  all_goals
    obtain ⟨h, h1, h2⟩ := e k hk
    refine ⟨h, h, by assumption, by assumption, ?_⟩
    omega
theorem join_mis {t : TaskD} {x : HandD} (hk : okTask t = true) (hu : okTask (joinD t x) = true) {ms : List Nat} (hf : ∀ h ∈ ms, h < t.hands.length) (hl : ms.length ≤ t.parts.length) (hi : Bool) :
    (afterD hi (joinD t x) ms).mis = (afterD hi t ms).mis := by
  have h0 : ∀ p ∈ t.parts, 0 ≤ p := fun p hp => ((okTask_parts hk).2.2.2.1 p hp).1
  have a := easy_le (join_easy t x).1 (okTask_parts hk).1.2 (okTask_parts hu).1.2 h0 hf hl hi
  have b := easy_le (join_easy t x).2 (okTask_parts hu).1.2 (okTask_parts hk).1.2 h0 hf hl hi
  omega
theorem joined_facts {t : TaskD} {x : HandD} (hk : okTask t = true) (hu : okTask (joinD t x) = true) {ys : List Int} {k : Int} (hp : planD t = some (ys, k)) :
    (∃ zs n, planD (joinD t x) = some (zs, n) ∧ n ≤ k) ∧ rightApiD (joinD t x) ys = (true, 0) ∧ ∃ b, mistD (joinD t x) ys = (b, k, 0) := by
  obtain ⟨ms, rfl, rfl, hl, hf, _⟩ := planD_some hk hp
  have hfu : Fit (joinD t x) ms := ⟨fun h hh => by have := hf.1 h hh; show h < (t.hands ++ [x]).length; rw [List.length_append]; omega, fun i y hy => (maySign_same (u := joinD t x) (t := t) rfl rfl _ _).trans (hf.2 i y hy)⟩
  have hm := join_mis hk hu hf.1 (Nat.le_of_eq hl) true
  have ho := okRota_natsL hu (ms := ms) hl hfu.1
  refine ⟨?_, ?_, _, by rw [mistD_ok hu ho, natsOf_natsL]; show (_, (afterD true (joinD t x) ms).mis, _) = (_, (afterD true t ms).mis, _); rw [hm]⟩
  · cases hq : planD (joinD t x) with
    | none => exact absurd hfu (planD_none hu hq ms hl)
    | some p =>
      obtain ⟨zs, n⟩ := p
      obtain ⟨_, _, _, _, _, hb⟩ := planD_some hu hq
      refine ⟨zs, n, rfl, ?_⟩
      have e : misOf (joinD t x) ms = misOf t ms := hm
      have := hb ms hl hfu
      omega
  · unfold rightApiD
    rw [if_pos hu, if_pos ho, (fit_iff.1 hfu).2]

/-- integers in a block from lo to below hi -/
def IntsL (w : World) (lo hi : Nat) (A : Option Addr) (xs : List Int) : Prop :=
  xs = [] ∨ ∃ b off, A = some ⟨b, off, none⟩ ∧ lo ≤ b ∧ b < hi ∧ ∀ (j : Nat) (u : Int), xs[j]? = some u → w.cell? ⟨b, off + j, none⟩ = some (.int .i64 u)
theorem IntsFc.toL {w : World} {lo cap : Nat} {A : Option Addr} {xs : List Int} (h : IntsFc w lo A cap xs) : IntsL w lo w.heap.size A xs := h.1
theorem IntsL.below {w w' : World} {lo hi : Nat} {A : Option Addr} {xs : List Int} (h : IntsL w lo hi A xs) (hb : Below hi w w') : IntsL w' lo hi A xs := by
  rcases h with h | ⟨b, off, rfl, h1, h2, h3⟩
  · exact .inl h
  · exact .inr ⟨b, off, rfl, h1, h2, fun j u hj => (hb.cell (p := ⟨b, off + j, none⟩) h2).trans (h3 j u hj)⟩
theorem IntsL.grown {w w' : World} {lo hi : Nat} {A : Option Addr} {xs : List Int} (h : IntsL w lo hi A xs) (hs : hi ≤ w.heap.size) {row : Option Nat} (hg : w.grownBy w' row) (hr : ∀ q, row = some q → q < lo) : IntsL w' lo hi A xs := by
  rcases h with h | ⟨b, off, rfl, h1, h2, h3⟩
  · exact .inl h
  · refine .inr ⟨b, off, rfl, h1, h2, fun j u hj => ?_⟩
    rw [World.cell?_of_block (w := w) (w' := w') (a := ⟨b, off + j, none⟩) (hg.block b (by omega) (fun e => by have := hr b e.symm; omega))]
    exact h3 j u hj
theorem IntsL.setCell {w : World} {lo hi : Nat} {A : Option Addr} {xs : List Int} (h : IntsL w lo hi A xs) {p : Addr} (hp : p.block < lo ∨ hi ≤ p.block) (v : Value) : IntsL (w.setCell p v) lo hi A xs := by
  rcases h with h | ⟨b, off, rfl, h1, h2, h3⟩
  · exact .inl h
  · refine .inr ⟨b, off, rfl, h1, h2, fun j u hj => ?_⟩
    rw [World.cell?_of_block (w := w) (w' := w.setCell p v) (a := ⟨b, off + j, none⟩) (Below.heap_setCell w p v b (by omega))]
    exact h3 j u hj
theorem IntsL.ints {w : World} {lo hi n : Nat} {A : Option Addr} {xs : List Int} (h : IntsL w lo hi A xs) (hn : hi ≤ n) : Ints w n A xs := by
  rcases h with h | ⟨b, off, rfl, h1, h2, h3⟩
  · exact .inl h
  · exact .inr ⟨b, off, rfl, by omega, h3⟩
theorem hand_new {w : World} {b : Nat} {x : HandD} (h : BlockIs w b 52 (cellsH x)) : HandsAt w w.heap.size (some ⟨b, 0, none⟩) [x] := by
  refine .inr ⟨b, 0, rfl, h.lt, fun i y hi j hj => ?_⟩
  have hl := lt_of_at hi
  simp only [List.length_cons, List.length_nil] at hl
  obtain rfl : i = 0 := by omega
  obtain rfl := Option.some.inj hi
  rw [h.cell]
  simp

set_option maxRecDepth 100000 in
set_option maxHeartbeats 16000000 in
theorem turnsJoined_any (t : TaskR) (x : HandD) (w : World) (ht : TaskAt w w.heap.size t) :
    Calls Try.prog 6 #[taskV t, handV x] w fun e w' => e = .returned (.bool true) ∧ Below w.heap.size w w' := by
  have HWK := Lib.hid works_any
  have HVA := Lib.hid (fun (w0 : World) (hw : Grow w w0) => valid_any t w.heap.size w0 (ht.below hw) hw.size)
  cases hv : validD t.d
  · rw [hv] at HVA
    clear hv ht
    go_enter Try.func6, Try.ntmps6
    go_upto_region 1 with fail
    obtain ⟨W, hW, hg, hf, _, hsz⟩ := two_blocks w 25 52 (cellsT t) (cellsH x)
    rw [hW]
    clear hW
    have hcc := hf.cell
    have HG := Lib.hid hg
    clear hf hg
    go_wp2_with fail
    refine (HVA.out _ HG.out).mono ?_
    rintro e w2 ⟨rfl, hb2⟩
    have HG2 : Hid (Grow w w2) := HG.out.trans hb2
    clear hcc hb2
    go_wp2_with fail
    refine (HWK.out _).mono ?_
    rintro e w6 ⟨rfl, hb6⟩
    have HG6 : Hid (Grow w w6) := HG2.out.trans hb6
    clear hb6
    go_wp2
    go_ret
    exact ⟨rfl, HG6.out⟩
  · obtain ⟨hk, hp6⟩ := validD_iff.1 hv
    rw [hv] at HVA
    have hparts := okTask_parts hk
    have HPA := Lib.hid (fun (w0 : World) (hw : Grow w w0) => planApi_any t w.heap.size w0 (ht.below hw) hw.size)
    have HCO := Lib.hid (fun (w0 : World) (hw : Grow w w0) => rCopy_any t w.heap.size w0 (ht.below hw) hw.size (by omega) (by omega))
    have HUA : Hid (∀ (A B : Option Addr) (ca cb lo'' lo lo' : Nat) (w0 : World), HandsT w0 lo'' A ca (t.d.hands ++ [x]) → IntsL w0 lo lo' B t.d.parts → lo' ≤ w0.heap.size → TaskAt w0 w0.heap.size ⟨joinD t.d x, A, ca, B, cb⟩) := fun A B ca cb lo'' lo lo' w0 h1 h2 h3 => ⟨h1.at_, h2.ints h3⟩
    obtain ⟨j0, hj, hy0, hy1, hy2⟩ := info_parts Try.infoHand
    have hl3 := hparts.1.2
    have HLEN : Hid (t.d.hands.length + 1 = (t.d.hands ++ [x]).length) := Lib.hid (by rw [List.length_append]; rfl)
    have HFM : Hid (t.d.hands.flatMap cellsHL ++ [x].flatMap cellsHL = (t.d.hands ++ [x]).flatMap cellsHL) := Lib.hid List.flatMap_append.symm
    have HRC := Lib.hid (fun (A B : Option Addr) (ca cb : Nat) (w0 : World) (h : TaskAt w0 w0.heap.size ⟨joinD t.d x, A, ca, B, cb⟩) => rCheck_any ⟨joinD t.d x, A, ca, B, cb⟩ _ w0 h (Nat.le_refl _))
    have HPU := Lib.hid (fun (A B : Option Addr) (ca cb : Nat) (w0 : World) (h : TaskAt w0 w0.heap.size ⟨joinD t.d x, A, ca, B, cb⟩) => planApi_any ⟨joinD t.d x, A, ca, B, cb⟩ _ w0 h (Nat.le_refl _))
    clear hv
    cases hu : okTask (joinD t.d x)
    · have hu' : ¬ okTask (joinD t.d x) = true := by rw [hu]; simp
      simp only [if_neg hu'] at HRC
      clear hu hu' HPU hk hp6 ht hparts
      go_enter Try.func6, Try.ntmps6
      go_upto_region 1 with fail
      obtain ⟨W, hW, hg, hf, hx, hsz⟩ := two_blocks w 25 52 (cellsT t) (cellsH x)
      rw [hW]
      clear hW
      have hcc := hf.cell
      have HG := Lib.hid hg
      have HF := Lib.hid hf
      have HX := Lib.hid hx
      clear hf hg hx
      go_wp2_with fail
      refine (HVA.out _ HG.out).mono ?_
      rintro e w2 ⟨rfl, hb2⟩
      have HG2 : Hid (Grow W w2) := hb2
      clear hcc hb2
      have hcc := (HG2.out.block HF.out).cell
      go_wp2_with fail
      refine (HCO.out _ (HG.out.trans HG2.out)).mono ?_
      rintro e w3 ⟨A3, ca3, B3, cb3, lo3, rfl, hT3, ⟨hq3, hlo3⟩, hI3, hb3⟩
      have HG3 : Hid (Grow W w3) := HG2.out.trans hb3
      have hW2 := HG2.out.size
      have hw2 := (HG.out.trans HG2.out).size
      have HT3 := Lib.hid hT3
      have HI3 := Lib.hid hI3
      have HQ3 := Lib.hid hq3
      have HLE3 : Hid (w2.heap.size ≤ w3.heap.size) := hb3.size
      clear hcc hb3 hT3 hI3 hq3
      go_upto_region 4 with fail
      obtain ⟨W4, hW4, hg4, hu4, hsz4⟩ := one_block w3 25 (cellsT ⟨t.d, A3, ca3, B3, cb3⟩)
      rw [hW4]
      clear hW4
      have hle23 : w2.heap.size ≤ w3.heap.size := HLE3.out
      obtain ⟨bu, ebu⟩ : ∃ b, w3.heap.size = b := ⟨_, rfl⟩
      rw [ebu] at hu4 hsz4 hle23 ⊢
      have HG4 : Hid (Grow W W4) := HG3.out.trans hg4
      have HT4 := Lib.hid (HT3.out.grow hg4)
      have HI4 := Lib.hid ((show IntsL w3 lo3 bu B3 t.d.parts by rw [← ebu]; exact HI3.out.toL).below (Below.mono hg4 (Nat.le_of_eq ebu.symm)))
      have HU4 := Lib.hid hu4
      have huc := hu4.cell
      have hxc := (HG4.out.block HX.out).cell
      clear hg4 hu4 HT3 HI3
      have hz4 : bu < W4.heap.size := hsz4
      have hz0 : w.heap.size < W4.heap.size := by omega
      have hz1 : w.heap.size + 1 < W4.heap.size := by omega
      have HNB := Lib.hid (hand_new (w := W4.alloc (.cells (cellsH x) 52)) (b := W4.heap.size) (x := x) (BlockIs.new _ _ _))
      go_wp2_with (at_builtin; go_loud (refine wpList_append_hands rfl _ _ 22 rfl w2.heap.size 52 j0 (.agg #[.int .i64 0, .int .i64 0, .int .i64 0, .int .i64 0, .int .i64 0, .int .i64 0, .int .i64 0]) 56 Try.underlying22 hj hy0 hy1 hy2 rfl _ t.d.hands.length (t.d.hands.flatMap cellsHL) rfl ?c0 (some ⟨W4.heap.size, 0, none⟩) 1 1 (W4.alloc (.cells (cellsH x) 52)).heap.size [x] rfl rfl ?c1 ?c2 ?c3 ?c4 ?_))
      case c0 => exact HT4.out.grow (Grow.alloc _ _)
      case c1 => exact HNB.out
      case c2 => unfold maxLen; omega
      case c3 => omega
      case c4 => simp; omega
      intro v' w5 hown hgr
      obtain ⟨A5, ca5, rfl⟩ := own_form hown
      have hown5 : HandsT w5 w2.heap.size A5 ca5 (t.d.hands ++ [x]) := by
        unfold HandsT
        rw [← HFM.out, ← HLEN.out]
        exact hown
      have hqt : ∀ q, (Value.slice A3 t.d.hands.length ca3).ownBlock = some q → w2.heap.size ≤ q := fun q hq => own_ge HT4.out q hq
      have hnu : some bu ≠ (Value.slice A3 t.d.hands.length ca3).ownBlock := fun e => own_type HT4.out HU4.out (by decide) e.symm
      have hnt : some w.heap.size ≠ (Value.slice A3 t.d.hands.length ca3).ownBlock := fun e => by have := hqt _ e.symm; omega
      have hb5 : Below w.heap.size w w5 := (show Below w.heap.size w (W4.alloc (.cells (cellsH x) 52)) from (HG.out.trans HG4.out).trans (Grow.alloc W4 (.cells (cellsH x) 52))).grown hgr (by simp; omega) (fun k hk => by have := hqt k hk; omega)
      have k1 : BlockIs w5 w.heap.size 25 (cellsT t) := ((HG4.out.block HF.out).old _).grown hgr hnt
      have k2 : BlockIs w5 bu 25 (cellsT ⟨t.d, A3, ca3, B3, cb3⟩) := (HU4.out.old _).grown hgr hnu
      have k4 : IntsL w5 lo3 bu B3 t.d.parts := (HI4.out.below (Below.mono (Grow.alloc W4 (.cells (cellsH x) 52)) (Nat.le_of_lt hz4))).grown (by simp; omega) hgr HQ3.out
      have J0 := Lib.hid hb5
      have J1 := Lib.hid k1
      have J2 := Lib.hid k2
      have J3 := Lib.hid hown5
      have J4 := Lib.hid k4
      clear hown hgr hown5 hqt hnu hnt hb5 k1 huc hxc HT4 HI4 HU4 HG4 HNB hz4 hz0 hz1
      have huc := k2.cell
      have huf := k2.frozen
      clear k2 k4
      go_upto_region 5 with fail
      rw [HLEN.out]
      obtain ⟨w6, hw6⟩ : ∃ w6, w5.setCell ⟨bu, 0, none⟩ (.slice A5 (t.d.hands ++ [x]).length ca5) = w6 := ⟨_, rfl⟩
      have hub : w2.heap.size ≤ bu := hle23
      have K0 : Hid (Grow w w6) := Lib.hid (by rw [← hw6]; exact Grow.setC J0.out (p := ⟨bu, 0, none⟩) (by show w.heap.size ≤ bu; omega) _)
      have K1 : Hid (BlockIs w6 w.heap.size 25 (cellsT t)) := Lib.hid (by rw [← hw6]; exact J1.out.far (p := ⟨bu, 0, none⟩) (by show w.heap.size ≠ bu; omega) _)
      have K2 : Hid (BlockIs w6 bu 25 (cellsT ⟨joinD t.d x, A5, ca5, B3, cb3⟩)) := Lib.hid (by rw [← hw6]; exact J2.out.near 0 _)
      have K3 : Hid (HandsT w6 w2.heap.size A5 ca5 (t.d.hands ++ [x])) := Lib.hid (by rw [← hw6]; exact own_other J3.out J2.out (by decide) 0 _)
      have K4 : Hid (IntsL w6 lo3 bu B3 t.d.parts) := Lib.hid (by rw [← hw6]; exact J4.out.setCell (p := ⟨bu, 0, none⟩) (.inr (Nat.le_refl _)) _)
      rw [hw6]
      clear hw6 huc huf J0 J1 J2 J3 J4
      have hcc := K1.out.cell
      have huc := K2.out.cell
      go_wp2_with fail
      refine (HRC.out _ _ _ _ _ (HUA.out _ _ _ _ _ _ _ _ K3.out K4.out (Nat.le_of_lt K2.out.lt))).mono ?_
      rintro e w5 ⟨rfl, hb5⟩
      have HG5 : Hid (Grow w w5) := K0.out.trans hb5
      clear hb5
      go_wp2_with fail
      refine (HWK.out _).mono ?_
      rintro e w6 ⟨rfl, hb6⟩
      have HG6 : Hid (Grow w w6) := HG5.out.trans hb6
      clear hb6
      go_wp2
      go_ret
      exact ⟨rfl, HG6.out⟩
    · simp only [if_pos hu] at HRC
      have HJF := Lib.hid (fun (ys : List Int) (k : Int) (hp : planD t.d = some (ys, k)) => joined_facts hk hu hp)
      have HPT : Hid (∀ {lo v m er w}, PlanApiV t.d lo v m er w → (planD t.d = none ∧ v = .slice none 0 0 ∧ m = .int .i64 0 ∧ er = 3) ∨ ∃ ys k b off cap, planD t.d = some (ys, k) ∧ v = .slice (some ⟨b, off, none⟩) ys.length cap ∧ IntsFc w lo (some ⟨b, off, none⟩) cap ys ∧ m = .int .i64 k ∧ er = 0) := fun h => by
        unfold PlanApiV at h
        rw [if_pos hk] at h
        cases hp : planD t.d with
        | none => rw [hp] at h; exact .inl ⟨rfl, h⟩
        | some p => rw [hp] at h; obtain ⟨b, off, cap, h⟩ := h; exact .inr ⟨p.1, p.2, b, off, cap, rfl, h⟩
      have HPV : Hid (∀ {lo v m er w}, PlanApiV (joinD t.d x) lo v m er w → (planD (joinD t.d x) = none ∧ ∃ l c, v = .slice none l c ∧ m = .int .i64 0 ∧ er = 3) ∨ ∃ zs n A l c, planD (joinD t.d x) = some (zs, n) ∧ v = .slice A l c ∧ m = .int .i64 n ∧ er = 0) := fun h => by
        unfold PlanApiV at h
        rw [if_pos hu] at h
        cases hp : planD (joinD t.d x) with
        | none => rw [hp] at h; obtain ⟨h1, h2, h3⟩ := h; exact .inl ⟨rfl, _, _, h1, h2, h3⟩
        | some p => rw [hp] at h; obtain ⟨b, off, cap, h1, _, h2, h3⟩ := h; exact .inr ⟨p.1, p.2, _, _, _, rfl, h1, h2, h3⟩
      have HRA := Lib.hid (fun (ys : List Int) (A B : Option Addr) (ca cb : Nat) (A1 : Option Addr) (c1 : Nat) (w0 : World) (h : TaskAt w0 w0.heap.size ⟨joinD t.d x, A, ca, B, cb⟩) (hi : IntsFc w0 w.heap.size A1 c1 ys) => rightApi_any ⟨joinD t.d x, A, ca, B, cb⟩ ys A1 c1 _ w0 h hi.1.ints (Nat.le_refl _) hi.2)
      have HMA := Lib.hid (fun (ys : List Int) (A B : Option Addr) (ca cb : Nat) (A1 : Option Addr) (c1 : Nat) (w0 : World) (h : TaskAt w0 w0.heap.size ⟨joinD t.d x, A, ca, B, cb⟩) (hi : IntsFc w0 w.heap.size A1 c1 ys) => mistakes_any ⟨joinD t.d x, A, ca, B, cb⟩ ys A1 c1 _ w0 h hi.1.ints (Nat.le_refl _))
      clear hu hk hp6 ht hparts
      go_enter Try.func6, Try.ntmps6
      go_upto_region 1 with fail
      obtain ⟨W, hW, hg, hf, hx, hsz⟩ := two_blocks w 25 52 (cellsT t) (cellsH x)
      rw [hW]
      clear hW
      have hcc := hf.cell
      have HG := Lib.hid hg
      have HF := Lib.hid hf
      have HX := Lib.hid hx
      clear hf hg hx
      go_wp2_with fail
      refine (HVA.out _ HG.out).mono ?_
      rintro e w2 ⟨rfl, hb2⟩
      have HG2 : Hid (Grow W w2) := hb2
      clear hcc hb2
      have hcc := (HG2.out.block HF.out).cell
      go_wp2_with fail
      refine (HCO.out _ (HG.out.trans HG2.out)).mono ?_
      rintro e w3 ⟨A3, ca3, B3, cb3, lo3, rfl, hT3, ⟨hq3, hlo3⟩, hI3, hb3⟩
      have HG3 : Hid (Grow W w3) := HG2.out.trans hb3
      have hW2 := HG2.out.size
      have hw2 := (HG.out.trans HG2.out).size
      have HT3 := Lib.hid hT3
      have HI3 := Lib.hid hI3
      have HQ3 := Lib.hid hq3
      have HLE3 : Hid (w2.heap.size ≤ w3.heap.size) := hb3.size
      clear hcc hb3 hT3 hI3 hq3
      go_upto_region 4 with fail
      obtain ⟨W4, hW4, hg4, hu4, hsz4⟩ := one_block w3 25 (cellsT ⟨t.d, A3, ca3, B3, cb3⟩)
      rw [hW4]
      clear hW4
      have hle23 : w2.heap.size ≤ w3.heap.size := HLE3.out
      obtain ⟨bu, ebu⟩ : ∃ b, w3.heap.size = b := ⟨_, rfl⟩
      rw [ebu] at hu4 hsz4 hle23 ⊢
      have HG4 : Hid (Grow W W4) := HG3.out.trans hg4
      have HT4 := Lib.hid (HT3.out.grow hg4)
      have HI4 := Lib.hid ((show IntsL w3 lo3 bu B3 t.d.parts by rw [← ebu]; exact HI3.out.toL).below (Below.mono hg4 (Nat.le_of_eq ebu.symm)))
      have HU4 := Lib.hid hu4
      have huc := hu4.cell
      have hxc := (HG4.out.block HX.out).cell
      clear hg4 hu4 HT3 HI3
      have hz4 : bu < W4.heap.size := hsz4
      have hz0 : w.heap.size < W4.heap.size := by omega
      have hz1 : w.heap.size + 1 < W4.heap.size := by omega
      have HNB := Lib.hid (hand_new (w := W4.alloc (.cells (cellsH x) 52)) (b := W4.heap.size) (x := x) (BlockIs.new _ _ _))
      go_wp2_with (at_builtin; go_loud (refine wpList_append_hands rfl _ _ 22 rfl w2.heap.size 52 j0 (.agg #[.int .i64 0, .int .i64 0, .int .i64 0, .int .i64 0, .int .i64 0, .int .i64 0, .int .i64 0]) 56 Try.underlying22 hj hy0 hy1 hy2 rfl _ t.d.hands.length (t.d.hands.flatMap cellsHL) rfl ?c0 (some ⟨W4.heap.size, 0, none⟩) 1 1 (W4.alloc (.cells (cellsH x) 52)).heap.size [x] rfl rfl ?c1 ?c2 ?c3 ?c4 ?_))
      case c0 => exact HT4.out.grow (Grow.alloc _ _)
      case c1 => exact HNB.out
      case c2 => unfold maxLen; omega
      case c3 => omega
      case c4 => simp; omega
      intro v' w5 hown hgr
      obtain ⟨A5, ca5, rfl⟩ := own_form hown
      have hown5 : HandsT w5 w2.heap.size A5 ca5 (t.d.hands ++ [x]) := by
        unfold HandsT
        rw [← HFM.out, ← HLEN.out]
        exact hown
      have hqt : ∀ q, (Value.slice A3 t.d.hands.length ca3).ownBlock = some q → w2.heap.size ≤ q := fun q hq => own_ge HT4.out q hq
      have hnu : some bu ≠ (Value.slice A3 t.d.hands.length ca3).ownBlock := fun e => own_type HT4.out HU4.out (by decide) e.symm
      have hnt : some w.heap.size ≠ (Value.slice A3 t.d.hands.length ca3).ownBlock := fun e => by have := hqt _ e.symm; omega
      have hb5 : Below w.heap.size w w5 := (show Below w.heap.size w (W4.alloc (.cells (cellsH x) 52)) from (HG.out.trans HG4.out).trans (Grow.alloc W4 (.cells (cellsH x) 52))).grown hgr (by simp; omega) (fun k hk => by have := hqt k hk; omega)
      have k1 : BlockIs w5 w.heap.size 25 (cellsT t) := ((HG4.out.block HF.out).old _).grown hgr hnt
      have k2 : BlockIs w5 bu 25 (cellsT ⟨t.d, A3, ca3, B3, cb3⟩) := (HU4.out.old _).grown hgr hnu
      have k4 : IntsL w5 lo3 bu B3 t.d.parts := (HI4.out.below (Below.mono (Grow.alloc W4 (.cells (cellsH x) 52)) (Nat.le_of_lt hz4))).grown (by simp; omega) hgr HQ3.out
      have J0 := Lib.hid hb5
      have J1 := Lib.hid k1
      have J2 := Lib.hid k2
      have J3 := Lib.hid hown5
      have J4 := Lib.hid k4
      clear hown hgr hown5 hqt hnu hnt hb5 k1 huc hxc HT4 HI4 HU4 HG4 HNB hz4 hz0 hz1
      have huc := k2.cell
      have huf := k2.frozen
      clear k2 k4
      go_upto_region 5 with fail
      rw [HLEN.out]
      obtain ⟨w6, hw6⟩ : ∃ w6, w5.setCell ⟨bu, 0, none⟩ (.slice A5 (t.d.hands ++ [x]).length ca5) = w6 := ⟨_, rfl⟩
      have hub : w2.heap.size ≤ bu := hle23
      have K0 : Hid (Grow w w6) := Lib.hid (by rw [← hw6]; exact Grow.setC J0.out (p := ⟨bu, 0, none⟩) (by show w.heap.size ≤ bu; omega) _)
      have K1 : Hid (BlockIs w6 w.heap.size 25 (cellsT t)) := Lib.hid (by rw [← hw6]; exact J1.out.far (p := ⟨bu, 0, none⟩) (by show w.heap.size ≠ bu; omega) _)
      have K2 : Hid (BlockIs w6 bu 25 (cellsT ⟨joinD t.d x, A5, ca5, B3, cb3⟩)) := Lib.hid (by rw [← hw6]; exact J2.out.near 0 _)
      have K3 : Hid (HandsT w6 w2.heap.size A5 ca5 (t.d.hands ++ [x])) := Lib.hid (by rw [← hw6]; exact own_other J3.out J2.out (by decide) 0 _)
      have K4 : Hid (IntsL w6 lo3 bu B3 t.d.parts) := Lib.hid (by rw [← hw6]; exact J4.out.setCell (p := ⟨bu, 0, none⟩) (.inr (Nat.le_refl _)) _)
      rw [hw6]
      clear hw6 huc huf J0 J1 J2 J3 J4
      have hcc := K1.out.cell
      have huc := K2.out.cell
      go_wp2_with fail
      refine (HRC.out _ _ _ _ _ (HUA.out _ _ _ _ _ _ _ _ K3.out K4.out (Nat.le_of_lt K2.out.lt))).mono ?_
      rintro e w5 ⟨rfl, hb5⟩
      have HG5 : Hid (Grow w w5) := K0.out.trans hb5
      have L1 := Lib.hid (K1.out.below hb5 K1.out.lt)
      have L2 := Lib.hid (K2.out.below hb5 K2.out.lt)
      have L3 := Lib.hid (K3.out.grow hb5)
      have L4 := Lib.hid (K4.out.below (Below.mono hb5 (Nat.le_of_lt K2.out.lt)))
      clear hb5 hcc huc K0 K1 K2 K3 K4
      have hcc := L1.out.cell
      have huc := L2.out.cell
      go_wp2_with fail
      refine (HPA.out _ HG5.out).mono ?_
      rintro e w7 ⟨v, m, er, rfl, hpv, hb7⟩
      have HG7 : Hid (Grow w w7) := HG5.out.trans hb7
      have M1 := Lib.hid (L1.out.below hb7 L1.out.lt)
      have M2 := Lib.hid (L2.out.below hb7 L2.out.lt)
      have M3 := Lib.hid (L3.out.grow hb7)
      have M4 := Lib.hid (L4.out.below (Below.mono hb7 (Nat.le_of_lt L2.out.lt)))
      have HLE : Hid (w.heap.size ≤ w5.heap.size) := HG5.out.size
      clear hb7 hcc huc L1 L2 L3 L4
      have hcc := M1.out.cell
      have huc := M2.out.cell
      rcases HPT.out hpv with ⟨hpn, rfl, rfl, rfl⟩ | ⟨ys, k, b, off, cap, hps, rfl, hI, rfl, rfl⟩
      · clear hpv hpn
        go_wp2_with fail
        refine (HPU.out _ _ _ _ _ (HUA.out _ _ _ _ _ _ _ _ M3.out M4.out (Nat.le_of_lt M2.out.lt))).mono ?_
        rintro e w8 ⟨v, m, er, rfl, hpv, hb8⟩
        have HG8 : Hid (Grow w w8) := HG7.out.trans hb8
        clear hb8 hcc huc
        rcases HPV.out hpv with ⟨_, l', c', rfl, rfl, rfl⟩ | ⟨zs, n, A', l', c', _, rfl, rfl, rfl⟩
        all_goals
          clear hpv
          go_wp2_with fail
          refine (HWK.out _).mono ?_
          rintro e w9 ⟨rfl, hb9⟩
          have HG9 : Hid (Grow w w9) := HG8.out.trans hb9
          clear hb9
          go_wp2
          go_ret
          exact ⟨rfl, HG9.out⟩
      · obtain ⟨⟨zs, n, hq, hnk⟩, hr, bb, hm⟩ := HJF.out ys k hps
        have HRY := Lib.hid (HRA.out ys)
        have HMY := Lib.hid (HMA.out ys)
        rw [hr] at HRY
        rw [hm] at HMY
        have HI := Lib.hid (hI.mono HLE.out)
        have HQ := Lib.hid hq
        have hle : decide (n ≤ k) = true := decide_eq_true hnk
        clear hpv hps hq hr hm hI hnk HJF
        go_wp2_with fail
        refine (HPU.out _ _ _ _ _ (HUA.out _ _ _ _ _ _ _ _ M3.out M4.out (Nat.le_of_lt M2.out.lt))).mono ?_
        rintro e w8 ⟨v, m, er, rfl, hpv, hb8⟩
        have HG8 : Hid (Grow w w8) := HG7.out.trans hb8
        have HI8 := Lib.hid (HI.out.grow hb8)
        have N2 := Lib.hid (M2.out.below hb8 M2.out.lt)
        have N3 := Lib.hid (M3.out.grow hb8)
        have N4 := Lib.hid (M4.out.below (Below.mono hb8 (Nat.le_of_lt M2.out.lt)))
        clear hb8 hcc huc
        have huc := N2.out.cell
        rcases HPV.out hpv with ⟨hpn, _⟩ | ⟨zs', n', A', l', c', hps, rfl, rfl, rfl⟩
        · rw [HQ.out] at hpn; simp at hpn
        obtain ⟨rfl, rfl⟩ := Prod.mk.inj (Option.some.inj (HQ.out.symm.trans hps))
        clear hpv hps
        go_wp2_with fail
        refine (HRY.out _ _ _ _ _ cap _ (HUA.out _ _ _ _ _ _ _ _ N3.out N4.out (Nat.le_of_lt N2.out.lt)) HI8.out).mono ?_
        rintro e w9 ⟨rfl, hb9⟩
        have HG9 : Hid (Grow w w9) := HG8.out.trans hb9
        have HI9 := Lib.hid (HI8.out.grow hb9)
        have O2 := Lib.hid (N2.out.below hb9 N2.out.lt)
        have O3 := Lib.hid (N3.out.grow hb9)
        have O4 := Lib.hid (N4.out.below (Below.mono hb9 (Nat.le_of_lt N2.out.lt)))
        clear hb9 huc
        have huc := O2.out.cell
        go_wp2_with fail
        refine (HMY.out _ _ _ _ _ cap _ (HUA.out _ _ _ _ _ _ _ _ O3.out O4.out (Nat.le_of_lt O2.out.lt)) HI9.out).mono ?_
        rintro e wa ⟨rfl, hba⟩
        have HGA : Hid (Grow w wa) := HG9.out.trans hba
        clear hba huc
        have hkk : (k == k) = true := by simp
        go_wp2_with fail
        refine (HWK.out _).mono ?_
        rintro e wb ⟨rfl, hbb⟩
        have HGB : Hid (Grow w wb) := HGA.out.trans hbb
        clear hbb
        go_wp2
        go_ret
        exact ⟨rfl, HGB.out⟩

end Go.Proofs.Ythlihchndmbkaaa
