/- Vital: who is in each team that fits, as the program finds it. -/
import Derived.Test.YticeekkfdkfcgaaRVital
import Derived.Test.YticeekkfdkfcgaaWhyApi
import Derived.Test.YticeekkfdkfcgaaRCopy
namespace Go.Proofs.Yticeekkfdkfcgaa
open Go.RowKit Go.Shelf

attribute [local go_sem] Oper.semAt_some

/-- what teams have in common -/
def comL (s : Nat) (l : List (Fin 1024)) : Nat := l.foldl (fun s x => s &&& x.val) s
theorem comL_snoc (s : Nat) (l : List (Fin 1024)) (x : Fin 1024) : comL s (l ++ [x]) = comL s l &&& x.val := by unfold comL; rw [List.foldl_append]; rfl
theorem comL_le (s : Nat) (l : List (Fin 1024)) : comL s l ≤ s := by
  unfold comL
  induction l generalizing s with
  | nil => exact Nat.le_refl _
  | cons x l ih => exact Nat.le_trans (ih _) Nat.and_le_left
theorem pick_pos (g : Fin 1024 → Int) : ∀ (l : List (Fin 1024)) (s : Nat × Int), (∀ x ∈ l, 1 ≤ x.val) → (s.1 ≠ 0 ∨ l ≠ []) → (l.foldl (pickT g) s).1 ≠ 0
  | [], s, _, h => by
    rcases h with h | h
    · exact h
    · exact absurd rfl h
  | x :: l, s, hx, _ => by
    rw [List.foldl_cons]
    refine pick_pos g l _ (fun y hy => hx y (List.mem_cons_of_mem _ hy)) (.inl ?_)
    have := hx x (List.mem_cons_self ..)
    unfold pickT
    split
    · show x.val ≠ 0
      omega
    · rename_i h
      exact fun e => h (.inl e)
theorem team_empty {f : Fin 1024 → Nat} {g : Fin 1024 → Int} {n : Nat} : (teamD f g n).1 = 0 ↔ (tmTo (2 ^ n)).filter (fitF f) = [] := by
  constructor
  · intro h
    by_cases he : (tmTo (2 ^ n)).filter (fitF f) = []
    · exact he
    · refine absurd h (pick_pos g _ (0, 0) (fun x hx => ?_) (.inr he))
      exact ((tmTo_mem _).1 (List.mem_filter.1 hx).1).1
  · intro h
    unfold teamD
    rw [h]
    rfl
/-- the numbers of members are the elements of the team -/
theorem mem_ones (P : List PersonR) (t : Nat) : ∀ k, k ≤ P.length → (memTo P t k).map (fun x => x.1.1) = onesTo t k
  | 0, _ => rfl
  | k + 1, h => by
    have ih := mem_ones P t k (by omega)
    cases hb : hasN t k with
    | true => rw [memTo_yes (List.getElem?_eq_getElem (show k < P.length by omega)) hb, ones_in hb, List.map_append, ih]; rfl
    | false => rw [memTo_no hb, ones_out hb, ih]

/-- an append onto a row of the call's own leaves what is no cells -/
theorem appended_others {W w1 : World} {n₀ e size k : Nat} {v : Value} {xs : List Value} {tmp : Obj} (hrow : W.ownsRow n₀ e size v k xs) (hgrow : (W.alloc tmp).grownBy w1 v.ownBlock) : KeepsOthers W w1 := by
  refine (KeepsOthers.alloc W tmp).trans (KeepsOthers.of_grownBy hgrow fun j o ej hj => ?_)
  rcases (hrow.alloc tmp).2 with ⟨rfl, _⟩ | ⟨g, cap, cur, rfl, _, hgb, _⟩
  · simp [Value.ownBlock] at ej
  · obtain rfl : g = j := by simpa [Value.ownBlock] using ej
    rw [hgb] at hj; cases hj; rfl
theorem ownRow_ownF {β : Type} (B n₀ : Nat) (t e : TypeId) (q : Nat) (k : β → Nat) (f : β → List Value) : OwnFrom B (fun (s : β) W => ∃ A cap, BlockIs W q t #[.slice A (k s) cap] ∧ W.ownsRow n₀ e 1 (.slice A (k s) cap) (k s) (f s)) := by
  rintro s X Y row ⟨A, cap, hb, hr⟩ hg hrow
  refine ⟨A, cap, block_own hb hg hrow, hr.kept hg ?_⟩
  rcases hr.2 with ⟨h, _⟩ | ⟨g, cap', cur, hv, _, hgb, _⟩
  · rw [h]; exact .inl rfl
  · refine .inr fun e' => ?_
    rw [hv] at e'
    obtain ⟨_, o, ho, hc⟩ := hrow g (by simpa [Value.ownBlock] using e'.symm)
    rw [hgb] at ho; cases ho; cases hc

/-- two boxes: whether a team has come, and what all have in common -/
def BoxesV (w2 : World) (fv : Bool) (cv : Nat) (a b : Value) (wx : World) : Prop := ∃ fb cb, a = .pointer (some ⟨fb, 0, none⟩) ∧ b = .pointer (some ⟨cb, 0, none⟩) ∧ fb ≠ cb ∧ w2.heap.size ≤ fb ∧ w2.heap.size ≤ cb ∧ BlockIs wx fb 4 #[.bool fv] ∧ BlockIs wx cb 3 #[.int .i64 (cv : Nat)] ∧ Grow w2 wx

set_option maxRecDepth 100000 in
set_option maxHeartbeats 16000000 in
/-- the program's Vital -/
theorem vitalApi_any (c : CrewR) (j : JobD) (n : Nat) (w : World) (hA : CrewAt w n c) (hn : n ≤ w.heap.size) (hs : Short c) :
    Calls Try.prog 26 #[crewV c, jobV j] w fun e w' => ∃ A cap, e = .returned (.tuple #[.slice A (vitL c j (brokenT c j)).length cap, .int .i64 (vitE c j (brokenT c j))]) ∧ Ints w' w'.heap.size A (natsL (vitL c j (brokenT c j))) ∧ Below w.heap.size w w' := by
  obtain ⟨i0, hi, hz0, hz1, hz2⟩ := info_parts Try.infoInt
  have HAT := Lib.hid (fun (w0 : World) (hw : Grow w w0) => ((hA.more hn).below hw).more hw.size)
  have HAB := Lib.hid (fun (w0 : World) (hw : Below w.heap.size w w0) => ((hA.more hn).below hw))
  have HR := Lib.hid (fun (w0 : World) (hw : Grow w w0) => read_any c j w0.heap.size w0 (HAT.out w0 hw) (Nat.le_refl _) hs)
  have HVE : Hid (vitE c j (brokenT c j) = if crewErr c.d j ≠ 0 then crewErr c.d j else if (teamD (fun x => brokenT c j x.val) (feeF c) c.people.length).1 = 0 then 3 else 0) := Lib.hid rfl
  have HVL : Hid (vitL c j (brokenT c j) = if vitE c j (brokenT c j) ≠ 0 then [] else onesTo (comTo (fun x => brokenT c j x.val) (2 ^ c.people.length - 1) (2 ^ c.people.length)) c.people.length) := Lib.hid rfl
  obtain ⟨ve, hve⟩ : ∃ z, vitE c j (brokenT c j) = z := ⟨_, rfl⟩
  obtain ⟨vl, hvl⟩ : ∃ z, vitL c j (brokenT c j) = z := ⟨_, rfl⟩
  obtain ⟨er, her⟩ : ∃ z, crewErr c.d j = z := ⟨_, rfl⟩
  rw [hve, her] at HVE
  rw [hve, hvl] at HVL
  rw [her] at HR
  rw [hve, hvl]
  obtain ⟨PO, hPO⟩ : ∃ z : Ending → World → Prop, (fun e w' => ∃ A cap, e = Ending.returned (.tuple #[.slice A vl.length cap, .int .i64 ve]) ∧ Ints w' w'.heap.size A (natsL vl) ∧ Below w.heap.size w w') = z := ⟨_, rfl⟩
  have HPO : Hid (∀ (A : Option Addr) (m cap : Nat) (e1 : Int) (w' : World), m = vl.length → e1 = ve → Ints w' w'.heap.size A (natsL vl) → Below w.heap.size w w' → PO (Ending.returned (.tuple #[.slice A m cap, .int .i64 e1])) w') := Lib.hid (fun A m cap e1 w' h1 h2 h3 h4 => by rw [← hPO, h1, h2]; exact ⟨A, cap, rfl, h3, h4⟩)
  rw [hPO]
  clear hA hn her hve hvl hPO
  refine (callsIn_wide (n := 8)).1 ?_
  have hro : Fence.wide.round = none := rfl
  have h38 : Fence.wide.fn 38 := trivial
  have h52 : Fence.wide.fn 52 := trivial
  refine callsIn_of_wp_marks Try.func26 rfl trivial ?_ hro
  simp only [Try.ntmps26, List.size_toArray, List.length_cons, List.length_nil, Nat.reduceAdd, Nat.reduceSub, Array.replicate_succ, Array.replicate_zero, List.push_toArray, List.append_toArray, List.nil_append, List.cons_append]
  gi_upto_region 1 with fail
  obtain ⟨W, hW, hg, b0, b1, hz⟩ := two_blocks w 25 27 (cellsC c) (cellsJ j)
  rw [hW]
  clear hW
  have HG := Lib.hid hg
  have HRW := Lib.hid (HR.out W hg)
  have hcc := b0.cell
  have hjc := b1.cell
  clear hg b0 b1
  gi_wp2
  refine (callsIn_wide.2 HRW.out).mono ?_
  rintro e w1 ⟨v, rfl, hv, hb1⟩
  have HG1 : Hid (Grow W w1) := hb1
  clear hb1 hcc hjc HR HRW
  by_cases h0 : er = 0
  · subst h0
    obtain ⟨hk1, hk2, sb, rfl, hsb, hbk⟩ := hv.2 rfl
    have HSB := Lib.hid hbk
    have HSL := Lib.hid hsb
    have HL8 := Lib.hid (good_ok hk1 hk2).len
    have HBC : Hid (∀ (x : Fin 1024) (w0 : World), Below w.heap.size w w0 → BlockIs w0 sb 3 (natCells (c.people.map fun x => breakD j x.d)) → Calls Try.prog 42 #[taskV c j (lawOf c.d j) (some ⟨sb, 0, none⟩) c.people.length, .int .i64 (x.val : Nat)] w0 fun e w' => e = .returned (.int .i64 (brokenT c j x.val : Nat)) ∧ Below w0.heap.size w0 w') := Lib.hid fun x w0 hw hb => task_broken hk1 hk2 sb x.val x.isLt w0 ((HAB.out w0 hw).1.more hw.size) hb
    obtain ⟨law, hlaw⟩ : ∃ z, lawOf c.d j = z := ⟨_, rfl⟩
    obtain ⟨f, hf⟩ : ∃ z, (fun x : Fin 1024 => brokenT c j x.val) = z := ⟨_, rfl⟩
    have HBF : Hid (∀ (x : Fin 1024) (w0 : World), Below w.heap.size w w0 → BlockIs w0 sb 3 (natCells (c.people.map fun x => breakD j x.d)) → Calls Try.prog 42 #[taskV c j law (some ⟨sb, 0, none⟩) c.people.length, .int .i64 (x.val : Nat)] w0 fun e w' => e = .returned (.int .i64 (f x : Nat)) ∧ Below w0.heap.size w0 w') := Lib.hid (by rw [← hlaw, ← hf]; exact HBC.out)
    have HVE1 : Hid (ve = if (teamD f (feeF c) c.people.length).1 = 0 then 3 else 0) := Lib.hid (by rw [← hf]; exact HVE.out)
    have HVL1 : Hid (vl = if ve ≠ 0 then [] else onesTo (comTo f (2 ^ c.people.length - 1) (2 ^ c.people.length)) c.people.length) := Lib.hid (by rw [← hf]; exact HVL.out)
    rw [hlaw]
    clear hv hlaw hf hsb hbk hk1 hk2 HAT HBC HVE HVL
    gi_upto_region 4 with fail
    obtain ⟨w2, hw2, hg2, hf2, hzw2⟩ := one_block w1 63 (cellsT c j law (some ⟨sb, 0, none⟩) c.people.length)
    rw [hw2]
    have HG2 := Lib.hid hg2
    have HF2 := Lib.hid hf2
    have htc := hf2.cell
    clear hw2 hg2 hf2
    have hl8 := HL8.out
    have hl0 : (0 : Int) ≤ (c.people.length : Int) := by omega
    have hl64 : c.people.length ≤ 64 := by omega
    have hpl : 2 ^ c.people.length ≤ 256 := Nat.pow_le_pow_right (n := 2) (by omega) hl8
    have hp1 : 1 ≤ 2 ^ c.people.length := Nat.one_le_two_pow
    have hpI : ((2 : Int) ^ c.people.length) = ((2 ^ c.people.length : Nat) : Int) := (Int.natCast_pow 2 _).symm
    obtain ⟨m, hm⟩ : ∃ z, 2 ^ c.people.length = z := ⟨_, rfl⟩
    have HM := Lib.hid hm
    rw [hm] at hpl hp1 hpI
    have hwr : IntKind.i64.wrap ((2 : Int) ^ c.people.length) = (m : Int) := by rw [hpI]; exact IntWalk.i64_in _ (by omega)
    have hwr2 : IntKind.i64.wrap ((m : Int) - 1) = ((m - 1 : Nat) : Int) := by
      rw [IntWalk.i64_in _ (by omega)]
      omega
    clear hm hpI
    gi_cut [8, 9] from 22 (fun a b wx => BoxesV w2 false (m - 1) a b wx)
    case first =>
      refine wpIn_wide.2 ?_
      go_region
      · gi_wp2
        gi_meet
        obtain ⟨w3, hw3, hg3, k1, k2, _⟩ := two_blocks w2 4 3 #[.bool false] #[.int .i64 ((m - 1 : Nat) : Int)]
        rw [hw3]
        exact ⟨w2.heap.size, w2.heap.size + 1, rfl, rfl, by omega, by omega, by omega, k1, k2, hg3.drew⟩
      · gi_wp2
        gi_meet
        obtain ⟨w3, hw3, hg3, k1, k2, _⟩ := two_blocks w2 3 4 #[.int .i64 ((m - 1 : Nat) : Int)] #[.bool false]
        rw [hw3]
        exact ⟨w2.heap.size + 1, w2.heap.size, rfl, rfl, by omega, by omega, by omega, k2, k1, hg3.drew⟩
    case rest =>
      obtain ⟨fb, cb, rfl, rfl, hfc, hf2, hc2, bF, bC, hg3⟩ := hcut
      rename World => w3
      clear hwr hwr2 htc
      have HK3 := Lib.hid (hg3.block HF2.out)
      have HSB3 := Lib.hid (hg3.block (HG2.out.block HSB.out))
      have hKw : Below w.heap.size w w3 := (HG.out.trans (HG1.out.trans (HG2.out.trans hg3)))
      have htc := HK3.out.cell
      have hs2 := HG2.out.size
      have hs1 := HG1.out.size
      have hs0 := HG.out.size
      have hs3 := hg3.size
      have hsl := HSL.out
      have hsb1 := HSB.out.lt
      have hfl := bF.lt
      have hcl := bC.lt
      have htl := HF2.out.lt
      clear hg3
      gi_wp2
      refine wpIn_rangeMeth (first := #[taskV c j law (some ⟨sb, 0, none⟩) c.people.length]) (lb := #[]) (gf := 47) rfl (enters_of Try.func47 (by kernel_rfl) rfl)
        (fitting_stops f c j law (some ⟨sb, 0, none⟩) c.people.length w.heap.size sb HL8.out w3 (by omega) (by omega) (fun x W' hk => HBF.out x W' (hKw.trans hk.below) (hk.same.trans HSB3.out))) (by omega) (by omega) (Below.refl _ _) (fun _ => rfl)
        (fun pre W' => BlockIs W' fb 4 #[.bool (!pre.isEmpty)] ∧ BlockIs W' cb 3 #[.int .i64 (comL (m - 1) pre : Nat)] ∧ BlockIs W' w1.heap.size 63 (cellsT c j law (some ⟨sb, 0, none⟩) c.people.length) ∧ Below w.heap.size w W' ∧ w3.heap.size ≤ W'.heap.size)
        (fun _ _ => False)
        (OwnFrom.and (block_ownP _ _ _ _) (OwnFrom.and (block_ownP _ _ _ _) (OwnFrom.and (block_ownF _ _ _ _) (OwnFrom.and (ownFrom_below (Nat.le_refl _) (by omega)) (ownFrom_size _ _)))))
        (fun _ _ _ _ hs _ _ => hs)
        ⟨bF, bC, HK3.out, hKw, Nat.le_refl _⟩
        (fun x a' _ => a' = { tmps := #[crewV c, jobV j, .pointer (some ⟨w.heap.size, 0, none⟩), .pointer (some ⟨w.heap.size + 1, 0, none⟩), .slice none 0 0, .int .i64 0, .pointer (some ⟨w1.heap.size, 0, none⟩), .int .i64 0, .pointer (some ⟨fb, 0, none⟩), .pointer (some ⟨cb, 0, none⟩), .int .i64 (x.val : Nat), undef, undef, .tuple #[taskV c j law (some ⟨sb, 0, none⟩) c.people.length, .int .i64 0], crewV c, jobV j, .tuple #[taskV c j law (some ⟨sb, 0, none⟩) c.people.length, .int .i64 0], taskV c j law (some ⟨sb, 0, none⟩) c.people.length, .int .i64 0, .int .i64 0, .bool false, undef, u22, u23, u24, u25, u26, u27, taskV c j law (some ⟨sb, 0, none⟩) c.people.length, .func (.func 47) #[taskV c j law (some ⟨sb, 0, none⟩) c.people.length] #[], .int .i64 (x.val : Nat), u31, u32, u33, u34, u35, u36, u37, u38, u39, u40, u41, u42, u43, u44, u45], defers := [] })
        (fun _ _ _ _ _ _ hs _ _ => hs)
        ?assign ?body ?done ?stop
      case assign =>
        rintro l pre x W3 K hi hK
        gi_wp2
        exact hK _ _ (KeepM.refl _ _ _ _) hi rfl
      case body =>
        rintro l pre x a' W3 hl' ⟨r, hr⟩ ⟨kF, kC, kT, hB, hZ⟩ rfl hlt
        have hsn := comL_snoc (m - 1) pre x
        have hle := comL_le (m - 1) pre
        obtain ⟨cv, hcv⟩ : ∃ z, comL (m - 1) pre = z := ⟨_, rfl⟩
        rw [hcv] at hsn hle kC
        have ha := and_i64 cv x.val (by omega) (by have := x.isLt; omega)
        obtain ⟨nv, hnv⟩ : ∃ z, cv &&& x.val = z := ⟨_, rfl⟩
        rw [hnv] at hsn ha
        have HSN := Lib.hid hsn
        obtain ⟨ev, hev⟩ : ∃ z, (!pre.isEmpty) = z := ⟨_, rfl⟩
        rw [hev] at kF
        have cF := kF.cell
        have fF := kF.frozen
        have kC6 := kC.far (p := ⟨fb, 0, none⟩) (fun e => hfc e.symm) (.bool true)
        have cC := kC.cell
        have cC6 := kC6.cell
        have fC6 := kC6.frozen
        have HF7 := Lib.hid ((kF.near 0 (.bool true)).far (p := ⟨cb, 0, none⟩) hfc (.int .i64 (nv : Nat)))
        have HC7 := Lib.hid (kC6.near 0 (.int .i64 (nv : Nat)))
        have HT7 := Lib.hid ((kT.far (p := ⟨fb, 0, none⟩) (by simp; omega) (.bool true)).far (p := ⟨cb, 0, none⟩) (by simp; omega) (.int .i64 (nv : Nat)))
        have HK7 := Lib.hid ((KeepM.store W3 0 (.bool true) (n₀ := w.heap.size) (q := sb) (m := w3.heap.size) (b := fb) (by omega) (by omega) (by omega)).trans (KeepM.store (W3.setCell ⟨fb, 0, none⟩ (.bool true)) 0 (.int .i64 (nv : Nat)) (b := cb) (by omega) (by omega) (by omega)))
        have HB7 := Lib.hid ((hB.setCell (p := ⟨fb, 0, none⟩) (by simp; omega) (.bool true)).setCell (p := ⟨cb, 0, none⟩) (by simp; omega) (.int .i64 (nv : Nat)))
        have HZ7 := Lib.hid hZ
        clear hcv hnv hev kF kC kT hB hZ hsn kC6 hle
        gi_wp2
        refine ⟨HK7.out, ?_⟩
        dsimp only
        rw [HSN.out]
        refine ⟨?_, HC7.out, HT7.out, HB7.out, by have := HZ7.out; simp; omega⟩
        have e : (!(pre ++ [x]).isEmpty) = true := by cases pre <;> rfl
        rw [e]
        exact HF7.out
      case done =>
        rintro D zs W3 hD rfl ⟨kF, kC, kT, hB, hZ⟩ hK
        have HK := Lib.hid hK
        have HB := Lib.hid hB
        have HZ := Lib.hid hZ
        have HT := Lib.hid kT
        have cF := kF.cell
        have cC := kC.cell
        have cT := kT.cell
        have HTE := Lib.hid (team_empty (f := f) (g := feeF c) (n := c.people.length))
        have HCM : Hid (comTo f (2 ^ c.people.length - 1) (2 ^ c.people.length) = comL (m - 1) ((tmTo (2 ^ c.people.length)).filter (fitF f))) := Lib.hid (by rw [HM.out]; rfl)
        have hcl := comL_le (m - 1) ((tmTo (2 ^ c.people.length)).filter (fitF f))
        obtain ⟨L, hL⟩ : ∃ z, (tmTo (2 ^ c.people.length)).filter (fitF f) = z := ⟨_, rfl⟩
        rw [hL] at cF cC HTE HCM hcl
        obtain ⟨cm, hcm⟩ : ∃ z, comL (m - 1) L = z := ⟨_, rfl⟩
        rw [hcm] at cC HCM hcl
        clear hK hB hZ kF kC kT hL hcm
        by_cases hE : L = []
        · have HVE2 : Hid (ve = 3) := Lib.hid (by rw [HVE1.out, if_pos (HTE.out.2 hE)])
          have HVL2 : Hid (vl = []) := Lib.hid (by rw [HVL1.out, if_pos (by rw [HVE2.out]; decide)])
          subst hE
          have cF0 : W3.cell? ⟨fb, 0, none⟩ = some (.bool false) := cF 0
          clear cF cC cT HTE HCM
          gi_wp2
          refine ⟨by simp, .inl ⟨_, _, rfl, run_takeDeferred HK.out, ?_⟩⟩
          refine ⟨_, results_pair45 Try.results26 _ _ _ _ rfl rfl, ?_⟩
          exact HPO.out none 0 0 3 _ (by rw [HVL2.out]; rfl) HVE2.out.symm (by rw [HVL2.out]; exact .inl rfl) (HB.out.trans (belowK_b (w := w) (Nat.le_refl _) _ D _ _ (by omega) HK.out rfl rfl))
        · have HVE2 : Hid (ve = 0) := Lib.hid (by rw [HVE1.out, if_neg (fun h => hE (HTE.out.1 h))])
          have HVL2 : Hid (vl = onesTo cm c.people.length) := Lib.hid (by rw [HVL1.out, if_neg (by rw [HVE2.out]; decide), HCM.out])
          have hee : (!L.isEmpty) = true := by cases L with
            | nil => exact absurd rfl hE
            | cons _ _ => rfl
          rw [hee] at cF
          have cF0 : W3.cell? ⟨fb, 0, none⟩ = some (.bool true) := cF 0
          have cC0 : W3.cell? ⟨cb, 0, none⟩ = some (.int .i64 (cm : Nat)) := cC 0
          have hcz : cb < W3.heap.size := by have := HZ.out; omega
          have htz : w1.heap.size < W3.heap.size := by have := HZ.out; omega
          clear cF cC hee hE HTE HCM
          gi_wp2_with (gi_at_call 52; refine (members_in Fence.wide _ trivial rfl c j law (some ⟨sb, 0, none⟩) c.people.length cm _).mono ?_; rintro e w' ⟨rfl, rfl⟩)
          obtain ⟨W5, hW5, hg5, kP, kT5, kM5, hz5⟩ := three_blocks W3 33 63 3 #[.slice none 0 0] (cellsT c j law (some ⟨sb, 0, none⟩) c.people.length) #[.int .i64 (cm : Nat)]
          rw [hW5]
          have HB5 : Hid (Below w.heap.size w W5) := Lib.hid (HB.out.trans (Below.mono hg5 HB.out.size))
          have hPW : People W5 w.heap.size c.pa c.people := (HAB.out W5 HB5.out).1
          have hz3w := HB.out.size
          have hcm1 : cm < 1000000 := by omega
          clear hW5 cT cF0 cC0 hcz htz
          refine wpIn_rangeFunc_ownH hro (by omega) (gf := 64) (lb := #[.pointer (some ⟨W3.heap.size + 1, 0, none⟩), .pointer (some ⟨W3.heap.size + 1 + 1, 0, none⟩)]) rfl trivial (enters_of Try.func64 (by kernel_rfl) rfl)
            (members_stops _ (by omega) (W3.heap.size + 1) (W3.heap.size + 1 + 1) w.heap.size c j law (some ⟨sb, 0, none⟩) c.people.length cm hcm1 (by omega) W5 kT5 kM5 hPW (by omega)) KeepT.trans (keepT_b (by omega) (by omega) (by omega)) (Below.refl _ _) (fun _ => rfl)
            (fun pre W' => (∃ A cap, BlockIs W' W3.heap.size 33 #[.slice A pre.length cap] ∧ W'.ownsRow W5.heap.size 3 1 (.slice A pre.length cap) pre.length (pre.map fun x => Value.int .i64 (x.1.1 : Nat))) ∧ Below W3.heap.size W3 W' ∧ W5.heap.size ≤ W'.heap.size)
            (fun _ _ _ => False)
            (OwnFrom.and (ownRow_ownF _ _ _ _ _ (fun pre : List (Mem c.people) => pre.length) (fun pre => pre.map fun x => Value.int .i64 (x.1.1 : Nat))) (OwnFrom.and (ownFrom_below (Nat.le_refl _) (by omega)) (ownFrom_size _ _)))
            (fun _ _ _ _ _ hs _ _ => hs)
            ⟨⟨none, 0, kP, rfl, .inl ⟨rfl, rfl⟩⟩, hg5, Nat.le_refl _⟩
            (fun x a' _ => a' = { tmps := #[crewV c, jobV j, .pointer (some ⟨w.heap.size, 0, none⟩), .pointer (some ⟨w.heap.size + 1, 0, none⟩), .slice none 0 0, .int .i64 0, .pointer (some ⟨w1.heap.size, 0, none⟩), .int .i64 0, .pointer (some ⟨fb, 0, none⟩), .pointer (some ⟨cb, 0, none⟩), undef, .pointer (some ⟨W3.heap.size, 0, none⟩), .int .i64 (x.1.1 : Nat), .tuple #[taskV c j law (some ⟨sb, 0, none⟩) c.people.length, .int .i64 0], crewV c, jobV j, .tuple #[taskV c j law (some ⟨sb, 0, none⟩) c.people.length, .int .i64 0], taskV c j law (some ⟨sb, 0, none⟩) c.people.length, .int .i64 0, .int .i64 0, .bool false, undef, u22, u23, u24, u25, u26, u27, taskV c j law (some ⟨sb, 0, none⟩) c.people.length, .func (.func 47) #[taskV c j law (some ⟨sb, 0, none⟩) c.people.length] #[], u30, u31, u32, u33, .bool true, .bool false, taskV c j law (some ⟨sb, 0, none⟩) c.people.length, .int .i64 (cm : Nat), .func (.func 64) #[] #[.pointer (some ⟨W3.heap.size + 1, 0, none⟩), .pointer (some ⟨W3.heap.size + 1 + 1, 0, none⟩)], .int .i64 (x.1.1 : Nat), personV x.1.2, u41, u42, u43, u44, u45], defers := [] })
            (fun _ _ _ _ _ _ hs _ _ => hs)
            ?assign2 ?body2 ?done2 ?stop2
          case assign2 =>
            rintro l pre x W K hi hK
            gi_wp2
            exact hK _ _ (keepsFrom_grow _ (Grow.refl _)) (KeepT.refl _ _ _ _) hi rfl
          case body2 =>
            rintro l pre x a' W hl' ⟨r, hr⟩ ⟨⟨A, cap, kP, hrow⟩, hB, hZ⟩ rfl hlt
            have hnp : W.ownsRow W5.heap.size 3 1 (.slice A pre.length cap) pre.length (pre.map fun x => Value.int .i64 (x.1.1 : Nat)) := hrow
            have HROW2 := Lib.hid (own_grow hnp (Grow.alloc W (.cells #[.int .i64 (x.1.1 : Nat)] 3)))
            have HROW := Lib.hid hnp
            have HP := Lib.hid kP
            have HBW := Lib.hid hB
            have HZW := Lib.hid hZ
            have hcP := kP.cell
            have hpz : W3.heap.size < W.heap.size := by omega
            have hpl : pre.length ≤ 8 := by omega
            clear hrow hnp kP hB hZ
            obtain ⟨xs, hxs⟩ : ∃ z, (pre.map fun x : Mem c.people => Value.int .i64 (x.1.1 : Nat)) = z := ⟨_, rfl⟩
            have HXS := Lib.hid hxs
            rw [hxs] at HROW2 HROW
            clear hxs
            gi_wp2_with (gi_at_builtin; go_loud (refine wpListIn_append_own _ rfl _ _ 33 rfl W5.heap.size 3 i0 (.int .i64 0) 1 8 Try.underlying33 hi hz0 hz1 hz2 rfl (by omega) _ pre.length xs rfl ?d0 ⟨W.heap.size, 0, none⟩ 1 1 [.int .i64 (x.1.1 : Nat)] rfl rfl ?d1 ?d2 ?d3 ?d4 ?d5 ?_))
            case d0 => exact HROW2.out
            case d1 => exact news_one (BlockIs.new _ _ _)
            case d2 => simp [Value.oneCell']
            case d3 => unfold maxLen; omega
            case d4 => omega
            case d5 => have := HZW.out; simp; omega
            intro v' w7 hown' hgr7 _
            obtain ⟨A7, c7, rfl⟩ := own_form hown'
            have hgb : Below W5.heap.size W w7 := below_grown ((Below.refl _ W).alloc HZW.out _) HROW2.out hgr7 (by have := HZW.out; simp; omega)
            have kP7 := HP.out.below hgb (by omega)
            have cP7 := kP7.cell
            have fP7 := kP7.frozen
            have HKO := Lib.hid (appended_others HROW.out hgr7)
            have HKT : Hid (KeepT w.heap.size (W3.heap.size + 1) (W3.heap.size + 1 + 1) W w7) := Lib.hid ⟨Below.mono hgb (by omega), hgb.block _ (by omega), hgb.block _ (by omega)⟩
            have HP8 := Lib.hid (kP7.near 0 (.slice A7 (pre.length + 1) c7))
            have HR8 : Hid ((w7.setCell ⟨W3.heap.size, 0, none⟩ (.slice A7 (pre.length + 1) c7)).ownsRow W5.heap.size 3 1 (.slice A7 (pre.length + 1) c7) (pre.length + 1) ((pre ++ [x]).map fun x => Value.int .i64 (x.1.1 : Nat))) := Lib.hid (by
              rw [List.map_append, HXS.out]
              exact own_keep hown' (KeepTy.store kP7 (by decide) _ _))
            have HB8 := Lib.hid ((HBW.out.trans (Below.mono hgb (by omega))).setCell (p := ⟨W3.heap.size, 0, none⟩) (Nat.le_refl _) (.slice A7 (pre.length + 1) c7))
            have hz7 := hgb.size
            clear hgb kP7 hown' hgr7 hcP HROW2
            gi_wp2
            refine ⟨(HKO.out.trans (KeepsOthers.setCell _ _ _)).from _, HKT.out.trans (KeepT.store _ _ _ (by omega) (by omega) (by omega)), ⟨A7, c7, ?_, ?_⟩, HB8.out, by have := HZW.out; simp; omega⟩
            · rw [List.length_append]; exact HP8.out
            · rw [List.length_append]; exact HR8.out
          case done2 =>
            rintro D2 zs W6 hD2 rfl ⟨⟨A, cap, kP, hrow⟩, hB6, hZ6⟩ hK2
            have kD : W6.heap[D]? = some (.deferred (some [])) := (hB6.block D (by have := (Array.getElem?_eq_some_iff.1 HK.out).1; omega)).trans HK.out
            have cP := kP.cell
            gi_wp2
            refine ⟨by simp, .inl ⟨_, _, rfl, run_takeDeferred hK2, ?_⟩⟩
            have hDD : D ≠ D2 := by have h1 := (Array.getElem?_eq_some_iff.1 HK.out).1; omega
            have kD2 : (W6.putObj D2 (.deferred none)).heap[D]? = some (.deferred (some [])) := (World.putObj_heap_other (fun e => hDD e)).trans kD
            refine ⟨by simp, .inl ⟨_, _, rfl, run_takeDeferred kD2, ?_⟩⟩
            refine ⟨_, results_pair45 Try.results26 _ _ _ _ rfl rfl, ?_⟩
            have hmo := mem_ones c.people cm c.people.length (Nat.le_refl _)
            have hlen : (membersL c.people cm).length = vl.length := by
              rw [HVL2.out, ← hmo, List.length_map]
              rfl
            have hxs : ((membersL c.people cm).map fun x => Value.int .i64 (x.1.1 : Nat)) = (natsL vl).map (Value.int .i64) := by
              rw [HVL2.out, ← hmo, natsL, List.map_map, List.map_map]
              rfl
            have hr2 := ownsRow_putObj (ownsRow_putObj hrow (.deferred none) hK2 rfl) (.deferred none) kD2 rfl
            rw [hxs] at hr2
            exact HPO.out A _ cap 0 _ hlen HVE2.out.symm (own_ints hr2).1 ((HB.out.trans (Below.mono hB6 HB.out.size)).trans ((belowK_b (w := w) (Nat.le_refl _) _ D2 _ _ (by omega) hK2 rfl rfl).trans (belowK_b (w := w) (Nat.le_refl _) _ D _ _ (by omega) kD2 rfl rfl)))
          case stop2 =>
            rintro D2 cd pre W6 hD2 _ h _
            exact h.elim
      case stop =>
        rintro D pre W3 hD _ h _
        exact h.elim
  · obtain rfl := hv.1 h0
    have hne : (er != 0) = true := by simpa using h0
    have HVE2 : Hid (ve = er) := Lib.hid (by rw [HVE.out, if_pos h0])
    have HVL2 : Hid (vl = []) := Lib.hid (by rw [HVL.out, if_pos (by rw [HVE2.out]; exact h0)])
    clear hv
    gi_upto_region 2 with fail
    obtain ⟨w2, hw2, hg2, hf2, hzw2⟩ := one_block w1 63 zeroT
    have HG2 : Hid (Grow w w2) := Lib.hid (HG.out.trans (HG1.out.trans hg2))
    rw [hw2]
    clear hw2 hg2 hf2 hzw2
    gi_wp2
    exact ⟨_, results_pair45 Try.results26 _ _ _ _ rfl rfl, HPO.out none 0 0 er _ (by rw [HVL2.out]; rfl) HVE2.out.symm (by rw [HVL2.out]; exact .inl rfl) HG2.out⟩

theorem rVital_flat (c : CrewR) (j : JobD) (n : Nat) (w : World) (hA : CrewAt w n c) (hn : n ≤ w.heap.size) (hs : Short c) :
    Calls Try.prog 27 #[crewV c, jobV j] w fun e w' => ∃ A cap, e = .returned (.tuple #[.slice A (vitL c j (brokenT c j)).length cap, .int .i64 (vitE c j (brokenT c j))]) ∧ Ints w' w'.heap.size A (natsL (vitL c j (brokenT c j))) ∧ Below w.heap.size w w' :=
  rVital_any c j (brokenT c j) n w hA hn hs (fun h => rb_any hA hn h) (fun h => ⟨(good_ok (crewErr_ok' h).1 (crewErr_ok' h).2).len, (good_ok (crewErr_ok' h).1 (crewErr_ok' h).2).fees⟩)

end Go.Proofs.Yticeekkfdkfcgaa
