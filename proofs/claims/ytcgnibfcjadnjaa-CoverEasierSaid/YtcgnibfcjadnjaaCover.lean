/- Cover: the groups that cover a slot, as the program finds them. -/
import Derived.Test.YtcgnibfcjadnjaaSubs
import Derived.WalkMore
import Derived.RangeFuncBox
namespace Go.Proofs.Ytcgnibfcjadnjaa
open Go.RowKit Go.Shelf

attribute [local go_sem] Oper.semAt_some

def valsF (l : List (Fin 32)) : List Nat := l.map (·.val)
def coverF (p : Pool) (s : Nat) (l : List (Fin 32)) : List Nat := (valsF l).foldl (coverStep p s) []
theorem coverF_snoc (p : Pool) (s : Nat) (l : List (Fin 32)) (x : Fin 32) : coverF p s (l ++ [x]) = coverStep p s (coverF p s l) x.val := by
  unfold coverF valsF
  rw [List.map_append, List.foldl_append]
  rfl
theorem coverF_all {p : Pool} (G : Good p) (s : Nat) : coverF p s (subsF (ableD p s)) = coveringD p s := by
  unfold coverF valsF coveringD
  rw [subsF_vals _ (able_32 G s)]
theorem coverStep_len (p : Pool) (s : Nat) (l : List Nat) (g : Nat) : (coverStep p s l g).length ≤ l.length + 1 := by
  unfold coverStep
  split
  · omega
  · split
    · simp
    · omega
theorem fold_len (p : Pool) (s : Nat) : ∀ (l : List Nat) (acc : List Nat), (l.foldl (coverStep p s) acc).length ≤ acc.length + l.length
  | [], acc => Nat.le_refl _
  | g :: l, acc => by
    have h1 := fold_len p s l (coverStep p s acc g)
    have h2 := coverStep_len p s acc g
    rw [List.foldl_cons, List.length_cons]
    omega
theorem coverF_len (p : Pool) (s : Nat) (l : List (Fin 32)) : (coverF p s l).length ≤ l.length := by
  have := fold_len p s (valsF l) []
  unfold coverF
  simp only [valsF, List.length_map, List.length_nil] at *
  omega
theorem coverF_32 (p : Pool) (s : Nat) : ∀ (l : List (Fin 32)) (x : Nat), x ∈ coverF p s l → x < 32 := by
  have key : ∀ (l : List (Fin 32)) (acc : List Nat), (∀ x, x ∈ acc → x < 32) → ∀ x, x ∈ (valsF l).foldl (coverStep p s) acc → x < 32 := by
    intro l
    induction l with
    | nil => exact fun acc h x hx => h x hx
    | cons g l ih =>
      intro acc h
      refine ih _ fun x hx => ?_
      unfold coverStep at hx
      split at hx
      · exact h x hx
      · split at hx
        · rcases List.mem_append.1 hx with hx | hx
          · exact h x hx
          · obtain rfl : x = g.val := by simpa using hx
            exact g.isLt
        · exact h x hx
  exact fun l x hx => key l [] (fun x hx => by cases hx) x hx
theorem own_block_ne {w : World} {base e size n : Nat} {v : Value} {xs : List Value} (h : w.ownsRow base e size v n xs) {b : Nat} {t : TypeId} {cs : Array Value} (hb : BlockIs w b t cs) (ht : t ≠ e) : some b ≠ v.ownBlock := by
  rcases h.2 with ⟨rfl, _⟩ | ⟨g, c, cur, hv, hg, hh, _⟩
  · simp [Value.ownBlock]
  · subst hv
    intro hq
    simp [Value.ownBlock] at hq
    subst hq
    have := hb.symm.trans hh
    simp at this
    exact ht this.2
/-- a row of the call's own stays where only what is no cells turns -/
theorem own_keepF {w w' : World} {base e size n : Nat} {v : Value} {xs : List Value} {row : Option Nat} (h : w.ownsRow base e size v n xs) (hg : w.grownBy w' row) (hr : ∀ r, row = some r → ∃ o : Obj, w.heap[r]? = some o ∧ o.isCells = false) : w'.ownsRow base e size v n xs := by
  refine ⟨h.1, ?_⟩
  rcases h.2 with h2 | ⟨g, c, cur, hv, hge, hh, r⟩
  · exact .inl h2
  · refine .inr ⟨g, c, cur, hv, hge, ?_, r⟩
    exact (hg.block g (Array.getElem?_eq_some_iff.1 hh).1 fun e => by
      obtain ⟨o, ho, hc⟩ := hr g e.symm
      rw [hh] at ho
      cases ho
      cases hc).trans hh
theorem own_setCell_other {w : World} {base e size n b : Nat} {v : Value} {xs : List Value} {t : TypeId} {cs : Array Value} (hb : BlockIs w b t cs) (h : w.ownsRow base e size v n xs) (ht : t ≠ e) (u : Value) : (w.setCell ⟨b, 0, none⟩ u).ownsRow base e size v n xs := by
  have hn := own_block_ne h hb ht
  refine ⟨h.1, ?_⟩
  rcases h.2 with h2 | ⟨g, c, cur, hv, hge, hh, r⟩
  · exact .inl h2
  · refine .inr ⟨g, c, cur, hv, hge, ?_, r⟩
    subst hv
    exact (Below.heap_setCell w ⟨b, 0, none⟩ u g (fun e => hn (by simp [Value.ownBlock, e]))).trans hh
/-- integers in a block of groups from lo on -/
def GrpT (w : World) (lo : Nat) (A : Option Addr) (xs : List Int) : Prop := xs = [] ∨ ∃ b cs, A = some ⟨b, 0, none⟩ ∧ lo ≤ b ∧ BlockIs w b 83 cs ∧ ∀ (i : Nat) (x : Int), xs[i]? = some x → cs[i]? = some (Value.int .i64 x)
theorem GrpT.ints {w : World} {lo : Nat} {A : Option Addr} {xs : List Int} (h : GrpT w lo A xs) : Ints w w.heap.size A xs := by
  rcases h with rfl | ⟨b, cs, rfl, _, hb, hc⟩
  · exact .inl rfl
  · exact .inr ⟨b, 0, rfl, hb.lt, fun j x hj => by rw [Nat.zero_add, hb.cell]; exact hc j x hj⟩
theorem GrpT.mono {w : World} {lo lo' : Nat} {A : Option Addr} {xs : List Int} (h : GrpT w lo A xs) (hl : lo' ≤ lo) : GrpT w lo' A xs := by
  rcases h with rfl | ⟨b, cs, rfl, h1, hb, hc⟩
  · exact .inl rfl
  · exact .inr ⟨b, cs, rfl, by omega, hb, hc⟩
theorem GrpT.grow {w w' : World} {lo : Nat} {A : Option Addr} {xs : List Int} (h : GrpT w lo A xs) (g : Grow w w') : GrpT w' lo A xs := by
  rcases h with rfl | ⟨b, cs, rfl, h1, hb, hc⟩
  · exact .inl rfl
  · exact .inr ⟨b, cs, rfl, h1, g.block hb, hc⟩
theorem own_grpT {w : World} {base n cap : Nat} {A : Option Addr} {xs : List Int} (h : w.ownsRow base 83 1 (.slice A n cap) n (xs.map (Value.int .i64))) (hn : n = xs.length) : GrpT w base A xs := by
  subst hn
  have h' := h
  rcases h.2 with ⟨e, e2⟩ | ⟨g, c, cur, hv, hg, hh, h2, h3, h4, h5⟩
  · exact .inl (List.eq_nil_of_length_eq_zero e2)
  · injection hv with e1 e2 e3
    subst e1 e3
    have hB : BlockIs w g 83 cur := hh
    refine .inr ⟨g, cur, rfl, hg, hB, fun i x hi => ?_⟩
    have hc := World.ownsRow.cells (g := g) h' rfl i (.int .i64 x) (by rw [List.getElem?_map, hi]; rfl)
    rwa [show (⟨g, 0, none⟩ : Addr).add i = ⟨g, i, none⟩ by (simp [Addr.add]; try omega), hB.cell] at hc
/-- what stands while the groups are gone through -/
structure CovI (w W0 W : World) (h : PoolH) (p : Pool) (s : Nat) (L : List Nat) : Prop where
  row : ∃ A cap, BlockIs W (w.heap.size + 1 + 1) 74 #[.slice A L.length cap] ∧ W.ownsRow (W0.heap.size + 2) 83 1 (.slice A L.length cap) L.length ((natsL L).map (Value.int .i64))
  box : BlockIs W w.heap.size 73 (cellsN h p)
  slot : BlockIs W (w.heap.size + 1) 3 #[.int .i64 (s : Nat)]
  grow : Below w.heap.size w W
  size : W0.heap.size ≤ W.heap.size
theorem covI_own {w W0 : World} {h : PoolH} {p : Pool} {s B : Nat} (hB : w.heap.size ≤ B) : OwnFrom B (fun (pre : List (Fin 32)) W => CovI w W0 W h p s (coverF p s pre)) := by
  intro pre X Y row hs hg hr
  obtain ⟨⟨A, cap, h1, h2⟩, h3, h4, h5, h6⟩ := hs
  refine ⟨⟨A, cap, block_own h1 hg hr, own_keepF h2 hg fun r e => (hr r e).2⟩, block_own h3 hg hr, block_own h4 hg hr, ?_, Nat.le_trans h6 hg.size⟩
  exact (ownFrom_below (w₀ := w) (Nat.le_refl _) hB) () X Y row h5 hg hr
theorem CovI.keep {w W0 W W' : World} {h : PoolH} {p : Pool} {s : Nat} {L : List Nat} (k : CovI w W0 W h p s L) (hg : Grow W W') : CovI w W0 W' h p s L := by
  obtain ⟨⟨A, cap, h1, h2⟩, h3, h4, h5, h6⟩ := k
  exact ⟨⟨A, cap, hg.block h1, own_grow h2 hg⟩, hg.block h3, hg.block h4, h5.trans (Below.mono hg h5.size), Nat.le_trans h6 hg.size⟩

set_option maxRecDepth 100000 in
set_option maxHeartbeats 16000000 in
theorem covering_any (h : PoolH) (p : Pool) (G : Good p) (s : Nat) (w : World) (hA : PoolAt w w.heap.size h p.i) (hs : s < p.needs.length) :
    Calls Try.prog 55 #[poolN h p, .int .i64 s] w fun e w' => ∃ A cap, e = .returned (.slice A (coveringD p s).length cap) ∧ GrpT w' w.heap.size A (natsL (coveringD p s)) ∧ Below w.heap.size w w' := by
  obtain ⟨i0, hi, hz0, hz1, hz2⟩ := info_parts Try.infoGroup
  have HAB := Lib.hid (fun (w0 : World) (hw : Grow w w0) => able_any h p G s w0 (hA.grow hw) hs)
  have HCV := Lib.hid (fun (g : Nat) (hg : g < 32) (w0 : World) (hw : Grow w w0) => isCovered_any h p G s g w0 (hA.grow hw) hs hg)
  have ha32 := able_32 G s
  have HCA := Lib.hid (coverF_all G s)
  obtain ⟨ab, hab⟩ : ∃ z, ableD p s = z := ⟨_, rfl⟩
  rw [hab] at HAB ha32 HCA
  rw [← HCA.out]
  clear hab hA
  obtain ⟨fa, fc, na, nc⟩ := h
  have hro : Fence.wide.round = none := rfl
  have h76 : Fence.wide.fn 76 := trivial
  have h67 : Fence.wide.fn 67 := trivial
  refine (callsIn_wide (n := 8)).1 ?_
  refine callsIn_of_wp_marks Try.func55 rfl trivial ?_ hro
  simp only [Try.ntmps55, List.size_toArray, List.length_cons, List.length_nil, Nat.reduceAdd, Nat.reduceSub, Array.replicate_succ, Array.replicate_zero, List.push_toArray, List.append_toArray, List.nil_append, List.cons_append]
  refine wpIn_wide.2 ?_
  go_upto_region 1 with fail
  obtain ⟨W1, hW1, hg1, hf1, hf2, hsz1⟩ := two_blocks w 73 3 (cellsN ⟨fa, fc, na, nc⟩ p) #[.int .i64 (s : Nat)]
  have hz1 : W1.heap.size = w.heap.size + 1 + 1 := by rw [← hW1]; simp
  rw [hW1]
  obtain ⟨W, hW, hg2, hf3, hsz⟩ := one_block W1 74 #[.slice none 0 0]
  have HB := Lib.hid (hg2.block hf1)
  have HS := Lib.hid (hg2.block hf2)
  have HL : Hid (BlockIs W (w.heap.size + 1 + 1) 74 #[.slice none 0 0]) := Lib.hid (by rw [← hz1]; exact hf3)
  have HG := Lib.hid (hg1.trans hg2)
  have hWz : w.heap.size + 1 + 1 < W.heap.size := by omega
  go_step3
  go_wp2
  go_step3
  clear hW1 hg1 hf1 hf2 hsz1 hW hg2 hf3 hsz hz1
  have hcc := HB.out.cell
  have hsc := HS.out.cell 0
  go_wp2_with fail
  refine (HAB.out W HG.out).mono ?_
  rintro e W0 ⟨rfl, hb1⟩
  have HG1 : Hid (Grow W W0) := hb1
  clear hb1 hcc hsc
  go_wp2
  refine (wpIn_wide (n := 8)).1 ?_
  have hW0s : w.heap.size + 1 + 1 < W0.heap.size := by have := HG1.out.size; omega
  refine wpIn_rangeSeq (first := #[.int .i64 (ab : Nat)]) (lb := #[]) (gf := 68) rfl (enters_of Try.func68 (by kernel_rfl) rfl)
    (subs_stops ab ha32 W0) (Below.refl _ _) (fun _ => rfl)
    (fun pre W' => CovI w W0 W' ⟨fa, fc, na, nc⟩ p s (coverF p s pre))
    (fun _ _ => False)
    (covI_own (by omega))
    (fun _ _ _ _ hs _ _ => hs)
    ⟨⟨none, 0, HG1.out.block HL.out, rfl, .inl ⟨rfl, rfl⟩⟩, HG1.out.block HB.out, HG1.out.block HS.out, HG.out.trans HG1.out, Nat.le_refl _⟩
    (fun x a' _ => a' = { tmps := #[poolN ⟨fa, fc, na, nc⟩ p, .int .i64 (s : Nat), .pointer (some ⟨w.heap.size, 0, none⟩), .pointer (some ⟨w.heap.size + 1, 0, none⟩), .slice none 0 0, .pointer (some ⟨w.heap.size + 1 + 1, 0, none⟩), .int .i64 (x.val : Nat), undef, undef, poolN ⟨fa, fc, na, nc⟩ p, .int .i64 (s : Nat), .int .i64 (ab : Nat), .func (.func 68) #[.int .i64 (ab : Nat)] #[], .int .i64 (x.val : Nat), undef, undef, undef, undef, undef, undef, undef, undef, undef, undef, undef, undef, undef, undef, undef, undef, undef, undef, undef], defers := [] })
    (fun _ _ _ _ _ _ hs _ _ => hs)
    ?assign ?body ?done ?stop
  case assign =>
    rintro l pre x W3 K hi hK
    gi_wp2
    exact hK _ _ (KeepS.refl _ _) hi rfl
  case body =>
    rintro l pre x a' W3 rfl ⟨r, hr⟩ hI rfl hlt
    have HSN := Lib.hid (coverF_snoc p s pre x)
    have hlen := coverF_len p s pre
    have HL32 := Lib.hid (coverF_32 p s pre)
    obtain ⟨L, hL⟩ : ∃ z, coverF p s pre = z := ⟨_, rfl⟩
    rw [hL] at HSN hlen HL32 hI
    have HI := Lib.hid hI
    obtain ⟨⟨A, cap, hrow, hown⟩, hbox, hslot, hgw, hsw⟩ := hI
    have HRW := Lib.hid hrow
    have HOW := Lib.hid hown
    have hW3s : W0.heap.size + 1 < W3.heap.size := (Array.getElem?_eq_some_iff.1 hr).1
    have HIN : Hid (Ints W3 W3.heap.size A (natsL L)) := Lib.hid (own_ints hown).1
    have hrc := hrow.cell 0
    clear hL hr hrow hown hbox hslot
    have HX32 := Lib.hid x.isLt
    obtain ⟨xv, hxv⟩ : ∃ z, x.val = z := ⟨_, rfl⟩
    rw [hxv] at HSN HX32 ⊢
    have hx32 : xv < 32 := HX32.out
    have HCX := Lib.hid (fun (w0 : World) (hw : Grow w w0) => HCV.out xv hx32 w0 hw)
    have HCS : Hid (coverStep p s L xv = if L.any (fun y => subN y xv) then L else if coveredD p s xv then L ++ [xv] else L) := rfl
    rw [HCS.out] at HSN
    obtain ⟨cv, hcv⟩ : ∃ z, coveredD p s xv = z := ⟨_, rfl⟩
    rw [hcv] at HCX HSN
    have HLN : Hid (L.length ≤ 32) := Lib.hid (by omega)
    have hl32 := HLN.out
    clear hxv hcv HCS HCV
    gi_wp2_with fail
    gi_loopw [16] (fun iv wr => ∃ k : Nat, k ≤ L.length ∧ iv = .int .i64 (k : Nat) ∧ Hid ((L.take k).any (fun y => subN y xv) = false) ∧ wr = W3) (fun iv _ => L.length - (intOf iv).toNat)
    case atStart => exact ⟨0, Nat.zero_le _, rfl, rfl, rfl⟩
    case round =>
      obtain ⟨k, hk, rfl, HA, rfl⟩ := hrel
      rename World => W3
      by_cases hlk : k < L.length
      · have hd : decide ((k : Int) < (L.length : Int)) = true := decide_eq_true (by omega)
        have hk0 : (0 : Int) ≤ (k : Int) := by omega
        have hk1 : (k : Int) < (L.length : Int) := by omega
        obtain ⟨yb, yo, y, rfl, hyb, hyc, HY⟩ := ints_nat HIN.out hlk
        have hy32 := HL32.out y (List.mem_of_getElem? HY.out)
        have HIC := Lib.hid (fun w0 => includes_nat xv y w0 (by omega) (by omega))
        have HT := Lib.hid (any_take_succ (fun y => subN y xv) HY.out HA.out)
        obtain ⟨q, hq'⟩ : ∃ z, subN y xv = z := ⟨_, rfl⟩
        rw [hq'] at HIC HT
        clear hq'
        cases q with
        | true =>
          have HE : Hid (coverF p s (pre ++ [x]) = L) := Lib.hid (by rw [HSN.out, if_pos (any_of_take (k := k + 1) _ (by rw [HT.out]))])
          gi_wp2_with fail
          refine (CallsIn.inRound _ (callsIn_wide.2 (HIC.out _))).mono ?_
          rintro e w5 ⟨rfl, rfl⟩
          gi_wp2
          exact ⟨KeepS.refl _ _, by dsimp only; rw [HE.out]; exact HI.out⟩
        | false =>
          gi_wp2_with fail
          refine (CallsIn.inRound _ (callsIn_wide.2 (HIC.out _))).mono ?_
          rintro e w5 ⟨rfl, rfl⟩
          gi_wp2
          go_roundw
          case rel => exact ⟨k + 1, by omega, by go_num, HT, by first | rfl | trivial⟩
          case measure => simp [intOf]; omega
      · obtain rfl : k = L.length := by omega
        have hd : decide ((L.length : Int) < (L.length : Int)) = false := decide_eq_false (by omega)
        have HE : Hid (coverF p s (pre ++ [x]) = if cv then L ++ [xv] else L) := Lib.hid (by
          have h := HA.out
          rw [List.take_length] at h
          rw [HSN.out, h]
          rfl)
        have hbc := HI.out.box.cell
        have hsc := HI.out.slot.cell 0
        have HGW := Lib.hid hgw
        have HSW := Lib.hid hsw
        have HZW := Lib.hid hW3s
        clear hrc HA
        gi_wp2_with fail
        refine (CallsIn.inRound _ (callsIn_wide.2 (HCX.out W3 HGW.out))).mono ?_
        rintro e w5 ⟨rfl, hb5⟩
        have HG5 : Hid (Grow W3 w5) := hb5
        clear hb5 hbc hsc
        cases cv with
        | false =>
          have HE2 : Hid (coverF p s (pre ++ [x]) = L) := Lib.hid (by rw [HE.out]; rfl)
          gi_wp2
          exact ⟨KeepS.of_below HG5.out hW3s, by dsimp only; rw [HE2.out]; exact HI.out.keep HG5.out⟩
        | true =>
          have HE2 : Hid (coverF p s (pre ++ [x]) = L ++ [xv]) := Lib.hid (by rw [HE.out]; rfl)
          have HP := Lib.hid (HG5.out.block HRW.out)
          have HROW := Lib.hid (own_grow HOW.out HG5.out)
          have HROW2 := Lib.hid (own_grow HROW.out (Grow.alloc w5 (.cells #[.int .i64 (xv : Nat)] 83)))
          have hcP := HP.out.cell
          have HZ5 : Hid (W0.heap.size + 2 ≤ w5.heap.size) := Lib.hid (by have := HG5.out.size; omega)
          have HB5 := Lib.hid (HG5.out.block HI.out.box)
          have HS5 := Lib.hid (HG5.out.block HI.out.slot)
          have HGW5 : Hid (Below w.heap.size w w5) := Lib.hid (HGW.out.trans (Below.mono HG5.out HGW.out.size))
          obtain ⟨n, hn⟩ : ∃ z, L.length = z := ⟨_, rfl⟩
          have HN := Lib.hid hn
          have hn32 : n ≤ 32 := by omega
          rw [hn] at hcP HP HROW HROW2 ⊢
          obtain ⟨xs, hxs⟩ : ∃ z, (natsL L).map (Value.int .i64) = z := ⟨_, rfl⟩
          have HXS := Lib.hid hxs
          rw [hxs] at HROW HROW2
          clear hxs hn hk hd hlk hl32
          gi_wp2_with (gi_at_builtin; go_loud (refine wpListIn_append_own _ rfl _ _ 74 rfl (W0.heap.size + 2) 83 i0 (.int .i64 0) 1 8 Try.underlying74 hi hz0 hz1 hz2 rfl (by omega) _ n xs rfl ?d0 ⟨w5.heap.size, 0, none⟩ 1 1 [.int .i64 (xv : Nat)] rfl rfl ?d1 ?d2 ?d3 ?d4 ?d5 ?_))
          case d0 => exact HROW2.out
          case d1 => exact news_one (BlockIs.new _ _ _)
          case d2 => simp [Value.oneCell']
          case d3 => unfold maxLen; omega
          case d4 => omega
          case d5 => have := HZ5.out; simp; omega
          intro v' w7 hown' hgr7 _
          obtain ⟨A7, c7, rfl⟩ := own_form hown'
          have hgb : Below (W0.heap.size + 2) w5 w7 := below_grown ((Below.refl _ w5).alloc HZ5.out _) HROW2.out hgr7 (by have := HZ5.out; simp; omega)
          have kP7 := HP.out.below hgb (by omega)
          have cP7 := kP7.cell
          have fP7 := kP7.frozen
          have HP8 := Lib.hid (kP7.near 0 (.slice A7 (n + 1) c7))
          have HR8 : Hid ((w7.setCell ⟨w.heap.size + 1 + 1, 0, none⟩ (.slice A7 (n + 1) c7)).ownsRow (W0.heap.size + 2) 83 1 (.slice A7 (n + 1) c7) (n + 1) ((natsL (L ++ [xv])).map (Value.int .i64))) := Lib.hid (by
            have e : (natsL (L ++ [xv])).map (Value.int .i64) = xs ++ [.int .i64 (xv : Nat)] := by rw [← HXS.out]; simp [natsL]
            rw [e]
            exact own_setCell_other kP7 hown' (by decide) _)
          have HB8 := Lib.hid ((HB5.out.below hgb (by omega)).far (p := ⟨w.heap.size + 1 + 1, 0, none⟩) (by simp; omega) (.slice A7 (n + 1) c7))
          have HS8 := Lib.hid ((HS5.out.below hgb (by omega)).far (p := ⟨w.heap.size + 1 + 1, 0, none⟩) (by simp) (.slice A7 (n + 1) c7))
          have HG8 := Lib.hid ((HGW5.out.trans (Below.mono hgb (by omega))).setCell (p := ⟨w.heap.size + 1 + 1, 0, none⟩) (by simp; omega) (.slice A7 (n + 1) c7))
          have HK8 : Hid (KeepS W0.heap.size W3 (w7.setCell ⟨w.heap.size + 1 + 1, 0, none⟩ (.slice A7 (n + 1) c7))) := Lib.hid ((KeepS.of_below HG5.out HZW.out).trans ((KeepS.of_below hgb (by omega)).trans (KeepS.store _ _ _ (by omega) (by omega))))
          have HZ8 : Hid (W0.heap.size ≤ (w7.setCell ⟨w.heap.size + 1 + 1, 0, none⟩ (.slice A7 (n + 1) c7)).heap.size) := Lib.hid (by have h1 := hgb.size; have h2 := HZ5.out; simp; omega)
          have HNL : Hid ((L ++ [xv]).length = n + 1) := Lib.hid (by rw [List.length_append, HN.out]; rfl)
          clear hgb kP7 hown' hgr7 hcP HROW2
          gi_wp2
          refine ⟨HK8.out, ?_⟩
          dsimp only
          rw [HE2.out]
          exact ⟨⟨A7, c7, by rw [HNL.out]; exact HP8.out, by rw [HNL.out]; exact HR8.out⟩, HB8.out, HS8.out, HG8.out, HZ8.out⟩
  case done =>
    rintro D zs W3 hD rfl hI hK
    obtain ⟨⟨A, cap, hrow, hown⟩, hbox, hslot, hgw, hsw⟩ := hI
    have hrc := hrow.cell 0
    go_wp2
    refine ⟨by simp, .inl ⟨_, _, rfl, run_takeDeferred hK, ?_⟩⟩
    exact ⟨_, results_tmp rfl _ _ _, A, cap, rfl, (own_grpT (ownsRow_putObj hown (.deferred none) hK rfl) (natsL_length _).symm).mono (by omega), hgw.trans (belowK_b (w := w) (Nat.le_refl _) W3 D _ _ (by omega) hK rfl rfl)⟩
  case stop =>
    rintro D pre W3 hD _ h _
    exact h.elim

end Go.Proofs.Ytcgnibfcjadnjaa
