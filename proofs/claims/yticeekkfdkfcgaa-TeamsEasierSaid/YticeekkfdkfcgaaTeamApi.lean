/- TeamApi: the cheapest team that fits, as the program finds it. -/
import Derived.Test.YticeekkfdkfcgaaApiT
namespace Go.Proofs.Yticeekkfdkfcgaa
open Go.RowKit Go.Shelf

attribute [local go_sem] Oper.semAt_some

/-- what is kept of the teams that have come: the cheapest one, of several the first, and its fee -/
def pickT (g : Fin 1024 → Int) (s : Nat × Int) (x : Fin 1024) : Nat × Int := if s.1 = 0 ∨ g x < s.2 then (x.val, g x) else s
def teamD (f : Fin 1024 → Nat) (g : Fin 1024 → Int) (n : Nat) : Nat × Int := ((tmTo (2 ^ n)).filter (fitF f)).foldl (pickT g) (0, 0)
theorem pickT_snoc (g : Fin 1024 → Int) (l : List (Fin 1024)) (x : Fin 1024) : (l ++ [x]).foldl (pickT g) (0, 0) = pickT g (l.foldl (pickT g) (0, 0)) x := by rw [List.foldl_append]; rfl
theorem results_team {fn : Func} (h : fn.results = #[.cell 4 3, .cell 5 3, .tmp 6]) (t : Array Value) (W : World) (b1 b2 : Nat) (v1 v2 : Int) (u : Value)
    (h1 : W.cell? ⟨b1, 0, none⟩ = some (.int .i64 v1)) (h2 : W.cell? ⟨b2, 0, none⟩ = some (.int .i64 v2)) (ht1 : t.getD 4 undef = .pointer (some ⟨b1, 0, none⟩)) (ht2 : t.getD 5 undef = .pointer (some ⟨b2, 0, none⟩)) (hu : t.getD 6 undef = u) :
    (results fn t).run Try.prog W = .ok (.tuple #[.int .i64 v1, .int .i64 v2, u]) W := by
  simp only [results, h]
  simp at ht1 ht2 hu
  simp [go_sem, ht1, ht2, h1, h2, hu]
abbrev brokenF (c : CrewR) (j : JobD) (x : Fin 1024) : Nat := brokenT c j x.val
abbrev feeF (c : CrewR) (x : Fin 1024) : Int := feeL (membersL c.people x.val)

set_option maxRecDepth 100000 in
set_option maxHeartbeats 16000000 in
/-- the program's Team -/
theorem teamApi_any (c : CrewR) (j : JobD) (n : Nat) (w : World) (hA : CrewAt w n c) (hn : n ≤ w.heap.size) (hs : Short c) :
    Calls Try.prog 22 #[crewV c, jobV j] w fun e w' => ∃ (t : Nat) (f er : Int), e = .returned (.tuple #[.int .i64 t, .int .i64 f, .int .i64 er]) ∧ (crewErr c.d j ≠ 0 → t = 0 ∧ f = 0 ∧ er = crewErr c.d j) ∧ (crewErr c.d j = 0 → t = (teamD (brokenF c j) (feeF c) c.people.length).1 ∧ (t = 0 → f = 0 ∧ er = 3) ∧ (t ≠ 0 → f = (teamD (brokenF c j) (feeF c) c.people.length).2 ∧ er = 0)) ∧ Below w.heap.size w w' := by
  have HAT := Lib.hid (fun (w0 : World) (hw : Grow w w0) => ((hA.more hn).below hw).more hw.size)
  have HAB := Lib.hid (fun (w0 : World) (hw : Below w.heap.size w w0) => ((hA.more hn).below hw))
  have HR := Lib.hid (fun (w0 : World) (hw : Grow w w0) => read_any c j w0.heap.size w0 (HAT.out w0 hw) (Nat.le_refl _) hs)
  obtain ⟨er, her⟩ : ∃ z, crewErr c.d j = z := ⟨_, rfl⟩
  have HPO : Hid (∀ (t : Nat) (f e1 : Int) (w' : World), (er ≠ 0 → t = 0 ∧ f = 0 ∧ e1 = er) → (er = 0 → t = (teamD (brokenF c j) (feeF c) c.people.length).1 ∧ (t = 0 → f = 0 ∧ e1 = 3) ∧ (t ≠ 0 → f = (teamD (brokenF c j) (feeF c) c.people.length).2 ∧ e1 = 0)) → Below w.heap.size w w' → ∃ (t' : Nat) (f' e' : Int), Ending.returned (Value.tuple #[.int .i64 t, .int .i64 f, .int .i64 e1]) = .returned (.tuple #[.int .i64 t', .int .i64 f', .int .i64 e']) ∧ (er ≠ 0 → t' = 0 ∧ f' = 0 ∧ e' = er) ∧ (er = 0 → t' = (teamD (brokenF c j) (feeF c) c.people.length).1 ∧ (t' = 0 → f' = 0 ∧ e' = 3) ∧ (t' ≠ 0 → f' = (teamD (brokenF c j) (feeF c) c.people.length).2 ∧ e' = 0)) ∧ Below w.heap.size w w') := Lib.hid fun t f e1 w' h1 h2 h3 => ⟨t, f, e1, rfl, h1, h2, h3⟩
  rw [her] at HR ⊢
  obtain ⟨PO, hPO⟩ : ∃ z : Ending → World → Prop, (fun e w' => ∃ (t' : Nat) (f' e' : Int), e = Ending.returned (.tuple #[.int .i64 t', .int .i64 f', .int .i64 e']) ∧ (er ≠ 0 → t' = 0 ∧ f' = 0 ∧ e' = er) ∧ (er = 0 → t' = (teamD (brokenF c j) (feeF c) c.people.length).1 ∧ (t' = 0 → f' = 0 ∧ e' = 3) ∧ (t' ≠ 0 → f' = (teamD (brokenF c j) (feeF c) c.people.length).2 ∧ e' = 0)) ∧ Below w.heap.size w w') = z := ⟨_, rfl⟩
  have HPO2 : Hid (∀ (t : Nat) (f e1 : Int) (w' : World), (er ≠ 0 → t = 0 ∧ f = 0 ∧ e1 = er) → (er = 0 → t = (teamD (brokenF c j) (feeF c) c.people.length).1 ∧ (t = 0 → f = 0 ∧ e1 = 3) ∧ (t ≠ 0 → f = (teamD (brokenF c j) (feeF c) c.people.length).2 ∧ e1 = 0)) → Below w.heap.size w w' → PO (Ending.returned (Value.tuple #[.int .i64 t, .int .i64 f, .int .i64 e1])) w') := Lib.hid fun t f e1 w' h1 h2 h3 => by rw [← hPO]; exact HPO.out t f e1 w' h1 h2 h3
  rw [hPO]
  clear hA hn her HPO hPO
  refine (callsIn_wide (n := 8)).1 ?_
  have hro : Fence.wide.round = none := rfl
  have h38 : Fence.wide.fn 38 := trivial
  have h48 : Fence.wide.fn 48 := trivial
  refine callsIn_of_wp_marks Try.func22 rfl trivial ?_ hro
  simp only [Try.ntmps22, List.size_toArray, List.length_cons, List.length_nil, Nat.reduceAdd, Nat.reduceSub, Array.replicate_succ, Array.replicate_zero, List.push_toArray, List.append_toArray, List.nil_append, List.cons_append]
  obtain ⟨W, hW, hg, b0, b1, b2, b3, hz⟩ := four_blocks w 25 27 3 3 (cellsC c) (cellsJ j) #[.int .i64 0] #[.int .i64 0]
  have HG := Lib.hid hg
  have HB2 := Lib.hid b2
  have HB3 := Lib.hid b3
  have HRW := Lib.hid (HR.out W hg)
  have hcc := b0.cell
  have hjc := b1.cell
  clear hg b2 b3
  gi_wp2
  refine (callsIn_wide.2 HRW.out).mono ?_
  rintro e w1 ⟨v, rfl, hv, hb1⟩
  have HG1 : Hid (Grow W w1) := hb1
  clear hb1 hW b0 b1 hcc hjc
  by_cases h0 : er = 0
  · subst h0
    obtain ⟨hk1, hk2, sb, rfl, hsb, hbk⟩ := hv.2 rfl
    have HSB := Lib.hid hbk
    have HSL := Lib.hid hsb
    have HL8 := Lib.hid (good_ok hk1 hk2).len
    have HBC : Hid (∀ (x : Fin 1024) (w0 : World), Below w.heap.size w w0 → BlockIs w0 sb 3 (natCells (c.people.map fun x => breakD j x.d)) → Calls Try.prog 42 #[taskV c j (lawOf c.d j) (some ⟨sb, 0, none⟩) c.people.length, .int .i64 (x.val : Nat)] w0 fun e w' => e = .returned (.int .i64 (brokenF c j x : Nat)) ∧ Below w0.heap.size w0 w') := Lib.hid fun x w0 hw hb => task_broken hk1 hk2 sb x.val x.isLt w0 ((HAB.out w0 hw).1.more hw.size) hb
    have HFE : Hid (∀ (x : Fin 1024) (w0 : World), Below w.heap.size w w0 → Calls Try.prog 48 #[taskV c j (lawOf c.d j) (some ⟨sb, 0, none⟩) c.people.length, .int .i64 (x.val : Nat)] w0 fun e w' => e = .returned (.int .i64 (feeF c x)) ∧ Below w0.heap.size w0 w') := Lib.hid fun x w0 hw => task_fee hk1 hk2 _ _ x.val x.isLt w0 ((HAB.out w0 hw).1.more hw.size)
    obtain ⟨law, hlaw⟩ : ∃ z, lawOf c.d j = z := ⟨_, rfl⟩
    obtain ⟨f, hf⟩ : ∃ z, brokenF c j = z := ⟨_, rfl⟩
    obtain ⟨g, hg⟩ : ∃ z, feeF c = z := ⟨_, rfl⟩
    rw [hlaw] at HBC HFE ⊢
    rw [hf] at HBC HPO2
    rw [hg] at HFE HPO2
    clear hv hlaw hf hg hsb hbk hk1 hk2 HAT HAB HR HRW
    obtain ⟨w2, hw2, hg2, hf2, hz2⟩ := one_block w1 63 (cellsT c j law (some ⟨sb, 0, none⟩) c.people.length)
    have htc := hf2.cell
    gi_wp2
    have HG2 : Hid (Grow W w2) := Lib.hid (HG1.out.trans hg2)
    have HSB2 := Lib.hid (Grow.block hg2 HSB.out)
    have hsz1 := HG1.out.size
    have hsl := HSL.out
    have hsb1 := HSB.out.lt
    have hKw : Below w.heap.size w w2 := (HG.out.trans HG2.out)
    refine wpIn_rangeMeth (first := #[taskV c j law (some ⟨sb, 0, none⟩) c.people.length]) (lb := #[]) (gf := 47) rfl (enters_of Try.func47 (by kernel_rfl) rfl)
      (fitting_stops f c j law (some ⟨sb, 0, none⟩) c.people.length w.heap.size sb HL8.out w2 (by omega) (by omega) (fun x W' hk => HBC.out x W' (hKw.trans hk.below) (hk.same.trans HSB2.out))) (by omega) (by omega) (Below.refl _ _) (fun _ => rfl)
      (fun pre W' => Boxed W' (w.heap.size + 1 + 1) 3 (.int .i64 ((pre.foldl (pickT g) (0, 0)).1 : Nat)) ∧ Boxed W' (w.heap.size + 1 + 1 + 1) 3 (.int .i64 (pre.foldl (pickT g) (0, 0)).2) ∧ BlockIs W' w1.heap.size 63 (cellsT c j law (some ⟨sb, 0, none⟩) c.people.length) ∧ Below w.heap.size w W' ∧ w2.heap.size ≤ W'.heap.size)
      (fun _ _ => False)
      (OwnFrom.and (Own.from (boxed_own _ _ _) _) (OwnFrom.and (Own.from (boxed_own _ _ _) _) (OwnFrom.and (block_ownF _ _ _ _) (OwnFrom.and (ownFrom_below (Nat.le_refl _) (by omega)) (ownFrom_size _ _)))))
      (fun _ _ _ _ hs _ _ => hs)
      ⟨HG2.out.block HB2.out, HG2.out.block HB3.out, hf2, hKw, Nat.le_refl _⟩
      (fun x a' _ => a' = { tmps := #[crewV c, jobV j, .pointer (some ⟨w.heap.size, 0, none⟩), .pointer (some ⟨w.heap.size + 1, 0, none⟩), .pointer (some ⟨w.heap.size + 1 + 1, 0, none⟩), .pointer (some ⟨w.heap.size + 1 + 1 + 1, 0, none⟩), .int .i64 0, .pointer (some ⟨w1.heap.size, 0, none⟩), .int .i64 (x.val : Nat), undef, .tuple #[taskV c j law (some ⟨sb, 0, none⟩) c.people.length, .int .i64 0], crewV c, jobV j, .tuple #[taskV c j law (some ⟨sb, 0, none⟩) c.people.length, .int .i64 0], taskV c j law (some ⟨sb, 0, none⟩) c.people.length, .int .i64 0, .int .i64 0, .bool false, undef, taskV c j law (some ⟨sb, 0, none⟩) c.people.length, .func (.func 47) #[taskV c j law (some ⟨sb, 0, none⟩) c.people.length] #[], .int .i64 (x.val : Nat), undef, undef, undef, undef, undef, undef, undef, undef, undef, undef, undef, undef, undef, undef, undef, undef], defers := [] })
      (fun _ _ _ _ _ _ hs _ _ => hs)
      ?assign ?body ?done ?stop
    case assign =>
      rintro l pre x W3 K hi hK
      gi_wp2
      exact hK _ _ (KeepM.refl _ _ _ _) hi rfl
    case body =>
      rintro l pre x a' W3 hl' ⟨r, hr⟩ ⟨bS, bF, bT, hB, hZ⟩ rfl hlt
      have hsn := pickT_snoc g pre x
      obtain ⟨st, hst⟩ : ∃ z, pre.foldl (pickT g) (0, 0) = z := ⟨_, rfl⟩
      obtain ⟨tv, fv⟩ := st
      rw [hst] at bS bF hsn
      have HFX := Lib.hid (HFE.out x W3 hB)
      obtain ⟨gx, hgx⟩ : ∃ z, g x = z := ⟨_, rfl⟩
      rw [hgx] at HFX
      have HSN : Hid ((pre ++ [x]).foldl (pickT g) (0, 0) = if tv = 0 ∨ gx < fv then (x.val, gx) else (tv, fv)) := Lib.hid (by rw [hsn, ← hgx]; rfl)
      have cT := bT.cell
      have HBT := Lib.hid bT
      have HBS := Lib.hid (show BlockIs W3 (w.heap.size + 1 + 1) 3 #[.int .i64 (tv : Nat)] from bS)
      have HBF := Lib.hid (show BlockIs W3 (w.heap.size + 1 + 1 + 1) 3 #[.int .i64 fv] from bF)
      clear hst hsn hgx bS bF bT
      gi_wp2
      refine (CallsIn.inRound _ (callsIn_wide.2 HFX.out)).mono ?_
      rintro e w5 ⟨rfl, hg5⟩
      have S5 := Grow.block hg5 HBS.out
      have F5 := Grow.block hg5 HBF.out
      have T5 := Grow.block hg5 HBT.out
      have HK5 := Lib.hid (KeepM.of_grow (n₀ := w.heap.size) (q := sb) (m := w2.heap.size) hg5 (by have := hB.size; omega))
      have HB5 : Hid (Below w.heap.size w w5) := Lib.hid (hB.trans (Below.mono hg5 hB.size))
      have HZ5 : Hid (w2.heap.size ≤ w5.heap.size) := Lib.hid (by have := Below.size hg5; omega)
      have cS5 := S5.cell
      have fS5 := S5.frozen
      have cF5 := F5.cell
      have S6 := S5.near 0 (.int .i64 (x.val : Nat))
      have F6 := F5.far (p := ⟨w.heap.size + 1 + 1, 0, none⟩) (by simp) (.int .i64 (x.val : Nat))
      have T6 := T5.far (p := ⟨w.heap.size + 1 + 1, 0, none⟩) (by simp; omega) (.int .i64 (x.val : Nat))
      have cF6 := F6.cell
      have fF6 := F6.frozen
      have HS7 := Lib.hid (S6.far (p := ⟨w.heap.size + 1 + 1 + 1, 0, none⟩) (by simp) (.int .i64 gx))
      have HF7 := Lib.hid (F6.near 0 (.int .i64 gx))
      have HT7 := Lib.hid (T6.far (p := ⟨w.heap.size + 1 + 1 + 1, 0, none⟩) (by simp; omega) (.int .i64 gx))
      have HK7 := Lib.hid ((HK5.out.trans (KeepM.store w5 0 (.int .i64 (x.val : Nat)) (b := w.heap.size + 1 + 1) (by omega) (by omega) (by omega))).trans (KeepM.store _ 0 (.int .i64 gx) (b := w.heap.size + 1 + 1 + 1) (by omega) (by omega) (by omega)))
      have HB7 := Lib.hid ((HB5.out.setCell (p := ⟨w.heap.size + 1 + 1, 0, none⟩) (by simp; omega) (.int .i64 (x.val : Nat))).setCell (p := ⟨w.heap.size + 1 + 1 + 1, 0, none⟩) (by simp; omega) (.int .i64 gx))
      have HS5 := Lib.hid S5
      have HF5 := Lib.hid F5
      have HT5 := Lib.hid T5
      clear S5 F5 T5 S6 F6 T6 hg5 cT
      by_cases hc1 : tv = 0
      · subst hc1
        have HN := Lib.hid (HSN.out.trans (if_pos (.inl rfl)))
        gi_wp2
        refine ⟨HK7.out, ?_⟩
        dsimp only
        rw [HN.out]
        exact ⟨HS7.out, HF7.out, HT7.out, HB7.out, by have := HZ5.out; simp; omega⟩
      · have hz1 : (((tv : Nat) : Int) == 0) = false := by simpa using hc1
        by_cases hc2 : gx < fv
        · have hd : decide (gx < fv) = true := decide_eq_true hc2
          have HN := Lib.hid (HSN.out.trans (if_pos (.inr hc2)))
          gi_wp2
          refine ⟨HK7.out, ?_⟩
          dsimp only
          rw [HN.out]
          exact ⟨HS7.out, HF7.out, HT7.out, HB7.out, by have := HZ5.out; simp; omega⟩
        · have hd : decide (gx < fv) = false := decide_eq_false hc2
          have HN := Lib.hid (HSN.out.trans (if_neg (by rintro (h | h); exact hc1 h; exact hc2 h)))
          gi_wp2
          refine ⟨HK5.out, ?_⟩
          dsimp only
          rw [HN.out]
          exact ⟨HS5.out, HF5.out, HT5.out, HB5.out, HZ5.out⟩
    case done =>
      rintro D zs W3 hD rfl ⟨bS, bF, bT, hB, hZ⟩ hK
      obtain ⟨st, hst⟩ : ∃ z, teamD f g c.people.length = z := ⟨_, rfl⟩
      obtain ⟨tv, fv⟩ := st
      have hst' : ((tmTo (2 ^ c.people.length)).filter (fitF f)).foldl (pickT g) (0, 0) = (tv, fv) := hst
      rw [hst'] at bS bF
      rw [hst] at HPO2
      have HBS := Lib.hid (show BlockIs W3 (w.heap.size + 1 + 1) 3 #[.int .i64 (tv : Nat)] from bS)
      have HBF := Lib.hid (show BlockIs W3 (w.heap.size + 1 + 1 + 1) 3 #[.int .i64 fv] from bF)
      have cS := HBS.out.cell
      have fS := HBS.out.frozen
      have cF := HBF.out.cell
      have fF := HBF.out.frozen
      have HKD := Lib.hid hK
      have HBW := Lib.hid hB
      have hD2 : D ≠ w.heap.size + 1 + 1 := by omega
      have hD3 : D ≠ w.heap.size + 1 + 1 + 1 := by omega
      clear hst hst' bS bF hK hB
      by_cases hc1 : tv = 0
      · subst hc1
        have hs2 := HBS.out.near 0 (.int .i64 0)
        have hs3 := HBF.out.far (p := ⟨w.heap.size + 1 + 1, 0, none⟩) (by simp) (.int .i64 0)
        have c3 := hs3.cell
        have f3 := hs3.frozen
        have HT2 := Lib.hid (hs2.far (p := ⟨w.heap.size + 1 + 1 + 1, 0, none⟩) (by simp) (.int .i64 0))
        have HT3 := Lib.hid (hs3.near 0 (.int .i64 0))
        have HK3 := Lib.hid ((Below.heap_setCell (W3.setCell ⟨w.heap.size + 1 + 1, 0, none⟩ (.int .i64 0)) ⟨w.heap.size + 1 + 1 + 1, 0, none⟩ (.int .i64 0) D hD3).trans ((Below.heap_setCell W3 ⟨w.heap.size + 1 + 1, 0, none⟩ (.int .i64 0) D hD2).trans HKD.out))
        have HB7 := Lib.hid ((HBW.out.setCell (p := ⟨w.heap.size + 1 + 1, 0, none⟩) (by simp; omega) (.int .i64 0)).setCell (p := ⟨w.heap.size + 1 + 1 + 1, 0, none⟩) (by simp; omega) (.int .i64 0))
        clear hs2 hs3
        gi_wp2
        refine ⟨by simp, .inl ⟨_, _, rfl, run_takeDeferred HK3.out, ?_⟩⟩
        refine ⟨_, results_team rfl _ _ _ _ 0 0 _ ((OwnFrom.putObj (block_ownF (β := Unit) 0 _ _ _) (s := ()) _ HT2.out (Nat.zero_le _) HK3.out rfl).cell 0) ((OwnFrom.putObj (block_ownF (β := Unit) 0 _ _ _) (s := ()) _ HT3.out (Nat.zero_le _) HK3.out rfl).cell 0) rfl rfl rfl, ?_⟩
        exact HPO2.out 0 0 3 _ (fun h => absurd rfl h) (fun _ => ⟨rfl, fun _ => ⟨rfl, rfl⟩, fun h => absurd rfl h⟩) (HB7.out.trans (belowK_b (w := w) (Nat.le_refl _) _ D _ _ (by omega) HK3.out rfl rfl))
      · have hz1 : (((tv : Nat) : Int) == 0) = false := by simpa using hc1
        gi_wp2
        refine wpIn_wide.2 ?_
        go_region
        obtain ⟨W4, hW4, k2, k3, kK, kB⟩ : ∃ W4, ((W3.setCell ⟨w.heap.size + 1 + 1, 0, none⟩ (.int .i64 (tv : Nat))).setCell ⟨w.heap.size + 1 + 1 + 1, 0, none⟩ (.int .i64 fv)).drew = W4 ∧ BlockIs W4 (w.heap.size + 1 + 1) 3 #[.int .i64 (tv : Nat)] ∧ BlockIs W4 (w.heap.size + 1 + 1 + 1) 3 #[.int .i64 fv] ∧ W4.heap[D]? = some (.deferred (some [])) ∧ Below w.heap.size w W4 :=
          ⟨_, rfl, (HBS.out.near 0 (.int .i64 (tv : Nat))).far (p := ⟨w.heap.size + 1 + 1 + 1, 0, none⟩) (by simp) (.int .i64 fv), (HBF.out.far (p := ⟨w.heap.size + 1 + 1, 0, none⟩) (by simp) (.int .i64 (tv : Nat))).near 0 (.int .i64 fv), (Below.heap_setCell (W3.setCell ⟨w.heap.size + 1 + 1, 0, none⟩ (.int .i64 (tv : Nat))) ⟨w.heap.size + 1 + 1 + 1, 0, none⟩ (.int .i64 fv) D hD3).trans ((Below.heap_setCell W3 ⟨w.heap.size + 1 + 1, 0, none⟩ (.int .i64 (tv : Nat)) D hD2).trans HKD.out), ((HBW.out.setCell (p := ⟨w.heap.size + 1 + 1, 0, none⟩) (by simp; omega) (.int .i64 (tv : Nat))).setCell (p := ⟨w.heap.size + 1 + 1 + 1, 0, none⟩) (by simp; omega) (.int .i64 fv)).drew⟩
        rw [hW4]
        clear hW4
        gi_wp2
        refine ⟨by simp, .inl ⟨_, _, rfl, run_takeDeferred kK, ?_⟩⟩
        refine ⟨_, results_team rfl _ _ _ _ tv fv _ ((OwnFrom.putObj (block_ownF (β := Unit) 0 _ _ _) (s := ()) _ k2 (Nat.zero_le _) kK rfl).cell 0) ((OwnFrom.putObj (block_ownF (β := Unit) 0 _ _ _) (s := ()) _ k3 (Nat.zero_le _) kK rfl).cell 0) rfl rfl rfl, ?_⟩
        exact HPO2.out tv fv 0 _ (fun h => absurd rfl h) (fun _ => ⟨rfl, fun h => absurd h hc1, fun _ => ⟨rfl, rfl⟩⟩) (kB.trans (belowK_b (w := w) (Nat.le_refl _) _ D _ _ (by omega) kK rfl rfl))
    case stop =>
      rintro D pre W3 hD _ h _
      exact h.elim
  · obtain rfl := hv.1 h0
    have hne : (er != 0) = true := by simpa using h0
    clear hv
    obtain ⟨w2, rfl, hg2, hf2, hz2⟩ := one_block w1 63 zeroT
    have HG2 := Lib.hid (HG1.out.trans hg2)
    have hb2 := HG2.out.block HB2.out
    have hb3 := HG2.out.block HB3.out
    have c2 := hb2.cell
    have f2 := hb2.frozen
    have hs2 := hb2.near 0 (.int .i64 0)
    have hs3 := hb3.far (p := ⟨w.heap.size + 1 + 1, 0, none⟩) (by simp) (.int .i64 0)
    have c3 := hs3.cell
    have f3 := hs3.frozen
    have HT2 := Lib.hid (hs2.far (p := ⟨w.heap.size + 1 + 1 + 1, 0, none⟩) (by simp) (.int .i64 0))
    have HT3 := Lib.hid (hs3.near 0 (.int .i64 0))
    have hbw : Below w.heap.size w _ := HG.out.trans HG2.out
    have HB7 := Lib.hid ((hbw.setCell (p := ⟨w.heap.size + 1 + 1, 0, none⟩) (by simp; omega) (.int .i64 0)).setCell (p := ⟨w.heap.size + 1 + 1 + 1, 0, none⟩) (by simp; omega) (.int .i64 0))
    clear hbw
    clear hg2 hf2 hb2 hb3 hs2 hs3
    gi_wp2
    exact ⟨_, results_team rfl _ _ _ _ _ _ _ (HT2.out.cell 0) (HT3.out.cell 0) rfl rfl rfl, HPO2.out 0 0 er _ (fun _ => ⟨rfl, rfl, rfl⟩) (fun h => absurd h h0) HB7.out⟩

end Go.Proofs.Yticeekkfdkfcgaa
