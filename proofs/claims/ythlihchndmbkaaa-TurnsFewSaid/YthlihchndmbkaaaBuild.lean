/- Build: plan$1, the search. -/
import Derived.Test.YthlihchndmbkaaaKeeps
import Derived.Test.YthlihchndmbkaaaRegion
import Derived.Test.YthlihchndmbkaaaRegionS
namespace Go.Proofs.Ythlihchndmbkaaa
open Go.RowKit

/-- what stands fast while plan searches -/
structure EnvD (lo n : Nat) (t : TaskR) (br bw bt bb bc bf : Nat) : Prop where
  hok : okTask t.d = true
  n_le : n ≤ br ∧ n ≤ bw ∧ n ≤ bf
  lt : br < lo ∧ bw < lo ∧ bt < lo ∧ bb < lo ∧ bc < lo ∧ bf < lo
  ne : br ≠ bw ∧ br ≠ bf ∧ bw ≠ bf ∧ bt ≠ br ∧ bt ≠ bw ∧ bt ≠ bf ∧ bb ≠ br ∧ bb ≠ bw ∧ bb ≠ bf ∧ bc ≠ br ∧ bc ≠ bw ∧ bc ≠ bf
abbrev capV (br bw bt bb bc : Nat) : Array Value := #[.pointer (some ⟨br, 0, none⟩), .pointer (some ⟨bw, 0, none⟩), .pointer (some ⟨bt, 0, none⟩), .pointer (some ⟨bb, 0, none⟩), .pointer (some ⟨bc, 0, none⟩)]
structure EnvAt (w : World) (lo n : Nat) (t : TaskR) (br bw bt bb bc : Nat) : Prop where
  le : lo ≤ w.heap.size
  tk : TaskAt w n t
  atT : BlockIs w bt 67 (cellsT t)
  atB : BlockIs w bb 92 #[.func (.func 60) #[] (capV br bw bt bb bc)]
  atC : BlockIs w bc 80 (cellsC 68 67 t)
theorem EnvAt.keep {lo n br bw bt bb bc bf : Nat} {t : TaskR} {w w' : World} (h : EnvAt w lo n t br bw bt bb bc) (d : EnvD lo n t br bw bt bb bc bf) (k : Keeps lo br bw bf w w') : EnvAt w' lo n t br bw bt bb bc := by
  obtain ⟨_, ⟨a1, a2, a3⟩, ⟨l1, l2, l3, l4, l5, l6⟩, ⟨_, _, _, n1, n2, n3, n4, n5, n6, n7, n8, n9⟩⟩ := d
  exact ⟨Nat.le_trans h.le k.size, h.tk.below (k.below (by omega) a1 a2 a3), k.is h.atT l3 n1 n2 n3, k.is h.atB l4 n4 n5 n6, k.is h.atC l5 n7 n8 n9⟩

theorem Keeps.mono {lo lo' x y z : Nat} {w w' : World} (h : Keeps lo x y z w w') (hl : lo' ≤ lo) : Keeps lo' x y z w w' :=
  ⟨h.os, h.tape, h.output, h.size, fun k hk h1 h2 h3 => h.block k (Nat.lt_of_lt_of_le hk hl) h1 h2 h3⟩
def NewRow (bf : Nat) (j : Int) (v : Value) (w : World) : Prop := ∃ g, v = .slice (some ⟨g, 0, none⟩) 1 1 ∧ g ≠ bf ∧ BlockIs w g 3 #[.int .i64 j]
theorem NewRow.keep {bf r : Nat} {xs ys : List Int} {j : Int} {v : Value} {x y : World} (h : NewRow bf j v x) (k : R8 bf r xs ys x y) : NewRow bf j v y := by
  obtain ⟨g, e1, e2, e3⟩ := h
  exact ⟨g, e1, e2, k.is e3 e2⟩
theorem R8.of_drew {bf r : Nat} {xs ys : List Int} {x y : World} (h : R8 bf r xs ys x.drew y) : R8 bf r xs ys x y :=
  ⟨⟨h.grown.os, h.grown.tape, h.grown.output, h.grown.size, fun k hk hn => h.grown.block k hk hn⟩, fun g => h.row g, fun g => h.more g⟩
theorem R3.of_drew {lo br bw : Nat} {xs : List Int} {m : Int} {x y : World} (h : R3 lo br bw xs m x.drew y) : R3 lo br bw xs m x y :=
  ⟨⟨h.keeps.os, h.keeps.tape, h.keeps.output, h.keeps.size, fun k hk h1 h2 h3 => h.keeps.block k hk h1 h2 h3⟩, fun g => h.hasR g, fun g => h.hasW g, fun g => h.doneR g, fun g => h.doneW g⟩
def NewF (lo : Nat) (xs : List Int) (v : Value) (w : World) : Prop := ∃ b off cap, v = .slice (some ⟨b, off, none⟩) xs.length cap ∧ IntsFc w lo (some ⟨b, off, none⟩) cap xs
theorem NewF.keep {lo br bw : Nat} {xs : List Int} {m : Int} {v : Value} {x y : World} (h : NewF lo xs v x) (h1 : br < lo) (h2 : bw < lo) (k : R3 lo br bw xs m x y) : NewF lo xs v y := by
  obtain ⟨b, off, cap, e1, e2⟩ := h
  exact ⟨b, off, cap, e1, k.intsFc h1 h2 e2⟩
theorem Keeps.any {lo x y : Nat} {w w' : World} (h : Keeps lo x y y w w') (z : Nat) : Keeps lo x y z w w' := ⟨h.os, h.tape, h.output, h.size, fun k hk h1 h2 _ => h.block k hk h1 h2 h2⟩
theorem RowAt.spot {w : World} {b r : Nat} {xs : List Int} (h : RowAt w b r xs) {k : Nat} (hk : k < r) : (∃ v, w.cell? ⟨b, k, none⟩ = some v) ∧ w.frozen? ⟨b, k, none⟩ = false := by
  obtain ⟨cs, h1, h2, _⟩ := h
  refine ⟨⟨cs[k]'(by omega), ?_⟩, h1.frozen k⟩
  rw [h1.cell]
  exact Array.getElem?_eq_getElem (by omega)
theorem R8.best {bf r lo br bw : Nat} {xs ys : List Int} {best : BestD} {x y : World} (h : R8 bf r xs ys x y) (n1 : br ≠ bf) (n2 : bw ≠ bf) (hl : bf < lo) (hb : BestAt x lo br bw best) : BestAt y lo br bw best := by
  match best, hb with
  | none, ⟨h1, u, h2⟩ => exact ⟨h.is h1 n1, u, h.is h2 n2⟩
  | some (zs, m), ⟨⟨b, off, cap, h1, h2⟩, h3⟩ =>
    refine ⟨⟨b, off, cap, h.is h1 n1, ?_, h2.2⟩, h.is h3 n2⟩
    rcases h2.1 with rfl | ⟨b', off', e, hb', hl', hc⟩
    · exact .inl rfl
    · refine .inr ⟨b', off', e, hb', Nat.lt_of_lt_of_le hl' h.grown.size, fun j u hj => ?_⟩
      rw [World.cell?_of_block (w := x) (w' := y) (a := ⟨b', off' + j, none⟩) (h.grown.block b' hl' (fun e => by have := Option.some.inj e; omega))]
      exact hc j u hj
theorem natsL_len (l : List Nat) : (natsL l).length = l.length := by unfold natsL; rw [List.length_map]

set_option maxRecDepth 100000 in
set_option maxHeartbeats 16000000 in
theorem build_any (lo n : Nat) (t : TaskR) (br bw bt bb bc bf r : Nat) (hd : EnvD lo n t br bw bt bb bc bf) (hr : t.d.parts.length ≤ r) :
    ∀ (m : Nat) (first : List Nat) (s : StD) (best : BestD) (w : World), first.length + m = t.d.parts.length → StOK s → s.parts = first.length → (∀ h ∈ first, h < t.d.hands.length) →
      EnvAt w lo n t br bw bt bb bc → BestAt w lo br bw best → RowAt w bf r (natsL first) →
      Calls Try.prog 60 #[.slice (some ⟨bf, 0, none⟩) first.length r, stV s, .pointer (some ⟨br, 0, none⟩), .pointer (some ⟨bw, 0, none⟩), .pointer (some ⟨bt, 0, none⟩), .pointer (some ⟨bb, 0, none⟩), .pointer (some ⟨bc, 0, none⟩)] w fun e w' =>
        e = .returned (.tuple #[]) ∧ BestAt w' lo br bw (buildD t.d m (natsL first) s best) ∧ Keeps w.heap.size br bw bf w w' ∧ RowAt w' bf r (natsL first) := by
  intro m
  induction m with
  | zero =>
    intro first s best w hm hs hq hh he hb hrow
    have HE := Lib.hid he
    have HB := Lib.hid hb
    have HROW := Lib.hid hrow
    go_enter Try.func60, Try.ntmps60
    go_upto_region 1 with fail
    obtain ⟨W, hW, hg, hS, hsz⟩ := one_block w 77 (cellsS s)
    rw [hW]
    clear hW
    obtain ⟨b8, e8⟩ : ∃ b, w.heap.size = b := ⟨_, rfl⟩
    have hlo8 : lo ≤ b8 := by rw [← e8]; exact he.le
    rw [e8] at hS hsz ⊢
    have HG := Lib.hid hg
    have HS := Lib.hid hS
    have hscc := hS.cell
    have HBW := Lib.hid (hb.grow hg)
    clear hg hS he hb hrow
    go_cut [17] (fun v wx => v = .bool (overD best s) ∧ W = wx)
    case first =>
      match best, HBW with
      | none, HBW =>
        obtain ⟨h1, v1, h2⟩ := HBW.out
        have hrc : W.cell? ⟨br, 0, none⟩ = some (.slice none 0 0) := h1.cell 0
        have hnil := none_neq_nil
        clear h1 h2
        go_wp2
        go_meet
        exact ⟨rfl, rfl⟩
      | some (xs, mm), HBW =>
        obtain ⟨⟨b, off, cap, h1, _⟩, h2⟩ := HBW.out
        have hrc : W.cell? ⟨br, 0, none⟩ = some (.slice (some ⟨b, off, none⟩) xs.length cap) := h1.cell 0
        have hwc : W.cell? ⟨bw, 0, none⟩ = some (.int .i64 mm) := h2.cell 0
        have hnil := some_neq_nil
        clear h1 h2
        go_wp2
        go_meet
        exact ⟨rfl, rfl⟩
    case rest =>
      obtain ⟨rfl, rfl⟩ := hcut
      cases hov : overD best s
      · have HST := Lib.hid (buildD_zero (t := t.d) (first := natsL first) hov)
        have hxl : (natsL first).length = t.d.parts.length := by rw [natsL_len]; omega
        have hp1 := (okTask_parts hd.hok).2.2.1
        have hlen : ((first.length : Int) == (t.d.parts.length : Int)) = true := by simp; omega
        have hlen2 : decide ((first.length : Int) = (t.d.parts.length : Int)) = true := decide_eq_true (by omega)
        have HEW := Lib.hid (HE.out.keep hd (.of_grow HG.out HE.out.le))
        have htc := HEW.out.atT.cell
        have HRW := Lib.hid (HROW.out.keep (Below.block HG.out _ HROW.out.lt))
        have hvr : VarAt W br 23 ∧ VarAt W bw 3 := by
          match best, HBW.out with
          | none, ⟨h1, v, h2⟩ => exact ⟨⟨_, h1⟩, ⟨_, h2⟩⟩
          | some (_, _), ⟨⟨_, _, _, h1, _⟩, h2⟩ => exact ⟨⟨_, h1⟩, ⟨_, h2⟩⟩
        have HVR := Lib.hid hvr
        clear hvr
        have h8r : b8 ≠ br := by have := hd.lt.1; omega
        have h8w : b8 ≠ bw := by have := hd.lt.2.1; omega
        have hbr : br < lo := hd.lt.1
        have hbw : bw < lo := hd.lt.2.1
        have hne : br ≠ bw := hd.ne.1
        have hn4 : bf ≠ br := hd.ne.2.1.symm
        have hn5 : bf ≠ bw := hd.ne.2.2.1.symm
        have hloW : lo ≤ W.heap.size := by omega
        rw [← natsL_len first] at hlen hlen2 ⊢
        clear HROW
        generalize hgx : natsL first = xs at *
        have HGX := Lib.hid hgx
        clear hgx
        go_upto_region 3 with fail
        refine wp_region_litS 6 [[], [(0, 25)], [], [(2, 27)], [(1, 26)], [(3, 28)]] (R3 lo br bw xs s.mis) (fun i v w' => match i with
            | 0 => v = .slice (some ⟨bf, 0, none⟩) xs.length r
            | 1 => NewF lo xs v w'
            | 2 => v = .pointer (some ⟨b8, 4, none⟩)
            | 3 => v = .int .i64 s.mis
            | 4 => ∃ b off cap, BlockIs w' br 23 #[.slice (some ⟨b, off, none⟩) xs.length cap] ∧ IntsFc w' lo (some ⟨b, off, none⟩) cap xs
            | 5 => BlockIs w' bw 3 #[.int .i64 s.mis]
            | _ => False) (by kernel_rfl) (by kernel_rfl) (fun _ _ _ => R3.trans) (R3.refl _ _ _ _ _) ?_ ?_ ?_
        · intro i v y y' h k
          match i, h with
          | 1, h => exact h.keep hbr hbw k
          | 4, h => exact k.doneR h
          | 5, h => exact k.doneW h
          | 0, h | 2, h | 3, h => exact h
        · simp only [StepsLit, List.take_succ_cons, List.take_zero]
          refine ⟨?_, ?_, ?_, ?_, ?_, ?_, trivial⟩
          all_goals
            intro w5 hR
            replace hR := hR.of_drew
            have hb8 := (hR.is HS.out h8r h8w).cell
            have HROW5 := Lib.hid (HRW.out.keep (hR.keeps.block bf HRW.out.lt hn4 hn5 hn5))
            have HV5 := Lib.hid (And.intro (hR.hasR HVR.out.1) (hR.hasW HVR.out.2))
            obtain ⟨⟨ur, hur⟩, ⟨uw, huw⟩⟩ := HV5.out
            have hurc := hur.cell
            have hurf := hur.frozen
            have huwc := huw.cell
            have huwf := huw.frozen
            have hlo5 : lo ≤ w5.heap.size := Nat.le_trans hloW hR.keeps.size
            clear hR hur huw
            simp only [depV]
            repeat (rintro _ rfl)
            try (intro v1 hv1; obtain ⟨b, off, cap, rfl, hf1⟩ := hv1)
            try go_simp
          all_goals first
            | (with_reducible exact R3.refl _ _ _ _ _ _)
            | (with_reducible exact ⟨R3.refl _ _ _ _ _ _, rfl⟩)
            | skip
          · have hcl := clone_any (some ⟨bf, 0, none⟩) r w5.heap.size xs w5 (HROW5.out.ints HROW5.out.lt) (by rintro rfl; simp at hxl; omega) (by omega) (Nat.le_refl _)
            rw [hxl] at hcl
            refine hcl.mono ?_
            rintro e w6 ⟨b, off, cap, rfl, hF, hb6⟩
            exact ⟨R3.of_grow hb6, b, off, cap, by rw [hxl], hF.mono hlo5⟩
          · have h := R3.putR (lo := lo) (bw := bw) (m := s.mis) (cap := cap) (xs := xs) hne.symm hbr HV5.out.1 hf1
            rw [hxl] at h
            exact ⟨h.1, b, off, cap, h.2.1, h.2.2⟩
          · exact R3.putW hne hbw HV5.out.2
        · intro w5 hR
          replace hR := hR.of_drew
          have HK5 : Hid (Keeps w.heap.size br bw bf w w5) := Lib.hid ((Keeps.of_grow HG.out (Nat.le_refl _)).trans ((hR.keeps.any bf).mono HG.out.size))
          have HROW5 := Lib.hid (HRW.out.keep (hR.keeps.block bf HRW.out.lt hn4 hn5 hn5))
          clear hR
          simp only [finVC, List.take_succ_cons, List.take_zero, List.drop_succ_cons, List.drop_zero]
          rintro _ rfl
          intro v1 hv1
          rintro _ rfl
          rintro _ rfl
          intro v4 hv4
          intro v5 hv5
          simp only [Act.put, List.setIfInBounds_toArray, List.set_cons_succ, List.set_cons_zero]
          go_wp2
          have hgx := HGX.out
          subst hgx
          refine bodyPost_ret (v := .tuple #[]) (by simp [results, Try.results60]) rfl ⟨rfl, ?_, HK5.out, HROW5.out⟩
          rw [HST.out]
          exact ⟨hv4, hv5⟩
      · have HOV := Lib.hid (buildD_over (t := t.d) (n := 0) (first := natsL first) hov)
        go_wp2
        refine bodyPost_ret (v := .tuple #[]) (by simp [results, Try.results60]) rfl ⟨rfl, ?_, ?_, ?_⟩
        · rw [HOV.out]; exact HBW.out
        · rw [e8]; exact .of_grow HG.out (Nat.le_of_eq e8.symm)
        · exact HROW.out.keep (Below.block HG.out _ HROW.out.lt)
  | succ m ih =>
    intro first s best w hm hs hq hh he hb hrow
    have HE := Lib.hid he
    have HB := Lib.hid hb
    have HROW := Lib.hid hrow
    go_enter Try.func60, Try.ntmps60
    go_upto_region 1 with fail
    obtain ⟨W, hW, hg, hS, hsz⟩ := one_block w 77 (cellsS s)
    rw [hW]
    clear hW
    obtain ⟨b8, e8⟩ : ∃ b, w.heap.size = b := ⟨_, rfl⟩
    have hlo8 : lo ≤ b8 := by rw [← e8]; exact he.le
    rw [e8] at hS hsz ⊢
    have HG := Lib.hid hg
    have HS := Lib.hid hS
    have hscc := hS.cell
    have HBW := Lib.hid (hb.grow hg)
    clear hg hS he hb hrow
    go_cut [17] (fun v wx => v = .bool (overD best s) ∧ W = wx)
    case first =>
      match best, HBW with
      | none, HBW =>
        obtain ⟨h1, v1, h2⟩ := HBW.out
        have hrc : W.cell? ⟨br, 0, none⟩ = some (.slice none 0 0) := h1.cell 0
        have hnil := none_neq_nil
        clear h1 h2
        go_wp2
        go_meet
        exact ⟨rfl, rfl⟩
      | some (xs, mm), HBW =>
        obtain ⟨⟨b, off, cap, h1, _⟩, h2⟩ := HBW.out
        have hrc : W.cell? ⟨br, 0, none⟩ = some (.slice (some ⟨b, off, none⟩) xs.length cap) := h1.cell 0
        have hwc : W.cell? ⟨bw, 0, none⟩ = some (.int .i64 mm) := h2.cell 0
        have hnil := some_neq_nil
        clear h1 h2
        go_wp2
        go_meet
        exact ⟨rfl, rfl⟩
    case rest =>
      obtain ⟨rfl, rfl⟩ := hcut
      cases hov : overD best s
      · have HST := Lib.hid (buildD_succ (t := t.d) (n := m) (first := natsL first) hov)
        have hlen : ((first.length : Int) == (t.d.parts.length : Int)) = false := by simp; omega
        have hlen2 : decide ((first.length : Int) = (t.d.parts.length : Int)) = false := decide_eq_false (by omega)
        have HEW := Lib.hid (HE.out.keep hd (.of_grow HG.out HE.out.le))
        have htc := HEW.out.atT.cell
        have HMS := Lib.hid (fun (w0 : World) (j : Nat) (hrow : RowAt w0 bf r (natsL first)) => maySign_any t (natsL first) (j : Int) (some ⟨bf, 0, none⟩) r w0.heap.size w0 (hrow.ints hrow.lt) (Nat.le_refl _) (by rw [natsL_len]; have := (okTask_parts hd.hok).2.2.1.2; omega) (by rw [natsL_len]; omega) (okTask_parts hd.hok).2.2.2.2.1)
        rw [natsL_len] at HMS
        have hl3 : t.d.hands.length ≤ 3 := (okTask_parts hd.hok).1.2
        go_upto_region 5 with fail
        go_loopw [33] (fun iv wr => ∃ j : Nat, j ≤ t.d.hands.length ∧ iv = .int .i64 j ∧ BestAt wr lo br bw (triedD t.d m (natsL first) s best j) ∧ EnvAt wr lo n t br bw bt bb bc ∧ RowAt wr bf r (natsL first) ∧ BlockIs wr b8 77 (cellsS s) ∧ Keeps w.heap.size br bw bf w wr) (fun i _ => t.d.hands.length - (intOf i).toNat)
        case atStart => exact ⟨0, Nat.zero_le _, rfl, HBW.out, HEW.out, HROW.out.keep (Below.block HG.out _ HROW.out.lt), HS.out, .of_grow HG.out (Nat.le_refl _)⟩
        case round =>
          obtain ⟨j, hj, rfl, hB1, hE1, hR1, hS1, hK1⟩ := hrel
          rename World => wr
          have HB1 := Lib.hid hB1
          have HE1 := Lib.hid hE1
          have HR1 := Lib.hid hR1
          have HS1 := Lib.hid hS1
          have HK1 := Lib.hid hK1
          clear hB1 hE1 hR1 hS1 hK1 htc hscc
          have htc := HE1.out.atT.cell
          by_cases hlt : j < t.d.hands.length
          · have HLT := Lib.hid hlt
            have HTS := Lib.hid (triedD_succ t.d m (natsL first) s best j)
            unfold tryD at HTS
            have HM := Lib.hid (HMS.out wr j HR1.out)
            obtain ⟨mv, hmv⟩ : ∃ mv, maySignD t.d (natsL first) (j : Int) = mv := ⟨_, rfl⟩
            rw [hmv] at HM HTS
            clear hmv
            go_wp2_with fail
            refine HM.out.mono ?_
            rintro e w2 ⟨rfl, hb2⟩
            have HG2 : Hid (Grow wr w2) := hb2
            clear htc hb2
            cases mv
            · have HE2 := Lib.hid (HE1.out.keep hd (.of_grow HG2.out HE1.out.le))
              have HTF : Hid (triedD t.d m (natsL first) s best (j + 1) = triedD t.d m (natsL first) s best j) := HTS.out
              go_wp2
              go_roundw
              case rel => exact ⟨j + 1, HLT.out, by go_num, by rw [HTF.out]; exact HB1.out.grow HG2.out, HE2.out, HR1.out.keep (Below.block HG2.out _ HR1.out.lt), HG2.out.block HS1.out, HK1.out.trans (.of_grow HG2.out HK1.out.size)⟩
              case measure => have := HLT.out; simp [intOf]; omega
            · have HE2 := Lib.hid (HE1.out.keep hd (.of_grow HG2.out HE1.out.le))
              have HS2 := Lib.hid (HG2.out.block HS1.out)
              have HR2 := Lib.hid (HR1.out.keep (Below.block HG2.out _ HR1.out.lt))
              have HB2 := Lib.hid (HB1.out.grow HG2.out)
              have hn1 : bb ≠ bf := hd.ne.2.2.2.2.2.2.2.2.1
              have hn2 : bc ≠ bf := hd.ne.2.2.2.2.2.2.2.2.2.2.2
              have hn3 : b8 ≠ bf := by have := hd.lt.2.2.2.2.2; omega
              have hfr : first.length < r := by omega
              go_upto_region 8 with fail
              refine wp_region_lit 9 [[], [], [], [(2, 42)], [(1, 41), (3, 43)], [], [], [], [(5, 45), (6, 46), (7, 47)]] (R8 bf r (natsL first) (natsL first ++ [(j : Int)])) (fun i v w' => match i with
                  | 0 => v = .func (.func 60) #[] (capV br bw bt bb bc)
                  | 1 => v = .slice (some ⟨bf, 0, none⟩) first.length r
                  | 2 => v = .int .i64 j
                  | 3 => NewRow bf j v w'
                  | 4 => v = .slice (some ⟨bf, 0, none⟩) (first.length + 1) r ∧ RowAt w' bf r (natsL first ++ [(j : Int)])
                  | 5 => v = courseV 68 67 t
                  | 6 => v = stV s
                  | 7 => v = .int .i64 j
                  | 8 => v = stV (signD true t.d s j)
                  | _ => False) (by kernel_rfl) (by kernel_rfl) (fun _ _ _ => R8.trans) (R8.refl _ _ _ _) ?_ ?_ ?_
              · intro i v y y' h k
                match i, h with
                | 3, h => exact h.keep k
                | 4, h => exact ⟨h.1, k.more h.2⟩
                | 0, h | 1, h | 2, h | 5, h | 6, h | 7, h | 8, h => exact h
              · simp only [StepsLit, List.take_succ_cons, List.take_zero]
                refine ⟨?_, ?_, ?_, ?_, ?_, ?_, ?_, ?_, ?_, trivial⟩
                all_goals
                  intro w5 hR
                  replace hR := hR.of_drew
                  have hbb := (hR.is HE2.out.atB hn1).cell
                  have hbc := (hR.is HE2.out.atC hn2).cell
                  have hb8 := (hR.is HS2.out hn3).cell
                  have HRW := Lib.hid (hR.row HR2.out)
                  obtain ⟨⟨vf, hvf⟩, hff⟩ := HRW.out.spot hfr
                  have hroom : first.length + 1 ≤ r := hfr
                  have HE5 := Lib.hid (HE2.out.keep hd (hR.keeps HE2.out.le))
                  clear hR
                  simp only [depV]
                  repeat (rintro _ rfl)
                  try (intro v3 hv3; obtain ⟨g, rfl, hg1, hg2⟩ := hv3; have hgc := hg2.cell)
                  try go_simp
                all_goals first
                  | (with_reducible exact R8.refl _ _ _ _ _)
                  | (with_reducible exact ⟨R8.refl _ _ _ _ _, rfl⟩)
                  | skip
                · exact ⟨R8.of_grow (Grow.alloc _ _) HRW.out.lt, w5.heap.size, rfl, by have := HRW.out.lt; omega, BlockIs.new _ _ _⟩
                · have h := R8.append (j : Int) HRW.out (by rw [natsL_len]; exact hfr)
                  rw [natsL_len] at h
                  exact ⟨h.1, h.2⟩
                · refine (sign_any true 68 67 endFn_high endFn_low t s j n w5 HE5.out.tk (Nat.le_trans (Nat.le_trans hd.n_le.1 (Nat.le_of_lt hd.lt.1)) HE5.out.le) hd.hok hs (by omega) HLT.out).mono ?_
                  rintro e w6 ⟨rfl, hb6⟩
                  exact ⟨R8.of_grow hb6 HRW.out.lt, rfl⟩
              · intro w5 hR
                replace hR := hR.of_drew
                have HE5 := Lib.hid (HE2.out.keep hd (hR.keeps HE2.out.le))
                have HS5 := Lib.hid (hR.is HS2.out hn3)
                have HB5 := Lib.hid (hR.best hd.ne.2.1 hd.ne.2.2.1 hd.lt.2.2.2.2.2 HB2.out)
                have HK5 : Hid (Keeps w.heap.size br bw bf w w5) := Lib.hid ((HK1.out.trans (.of_grow HG2.out HK1.out.size)).trans (hR.keeps (Nat.le_trans HK1.out.size HG2.out.size)))
                clear hR
                simp only [finVC, List.take_succ_cons, List.take_zero, List.drop_succ_cons, List.drop_zero]
                rintro _ rfl
                rintro _ rfl
                rintro _ rfl
                intro v3 hv3
                intro v4 hv4
                rintro _ rfl
                rintro _ rfl
                rintro _ rfl
                rintro _ rfl
                simp only [Act.put, List.setIfInBounds_toArray, List.set_cons_succ, List.set_cons_zero]
                obtain ⟨g, rfl, _, _⟩ := hv3
                obtain ⟨rfl, hrow5⟩ := hv4
                have hl1 : (first ++ [j]).length = first.length + 1 := by simp
                have hl2 : natsL (first ++ [j]) = natsL first ++ [(j : Int)] := by simp [natsL]
                have hso := signD_ok (hi := true) hd.hok hs (by omega) HLT.out
                have hIH := ih (first ++ [j]) (signD true t.d s j) (triedD t.d m (natsL first) s best j) w5 (by omega) hso.1 (by rw [hso.2, hq, hl1]; omega) (fun x hx => by
                  rcases List.mem_append.1 hx with h | h
                  · exact hh x h
                  · rw [List.mem_singleton.1 h]; exact HLT.out) HE5.out HB5.out (by rw [hl2]; exact hrow5)
                rw [hl1, hl2] at hIH
                have HIH := Lib.hid hIH
                clear hIH hso hl1 hl2 hrow5
                have HTT : Hid (triedD t.d m (natsL first) s best (j + 1) = buildD t.d m (natsL first ++ [(j : Int)]) (signD true t.d s j) (triedD t.d m (natsL first) s best j)) := HTS.out
                have henters : ∀ args w, (callFunc 60 args).run Try.prog w = .ok (.enter 60 args) w := Go.Proofs.enters_of Try.func60 (by kernel_rfl) rfl
                go_wp2_with fail
                refine HIH.out.mono ?_
                rintro e w9 ⟨rfl, hB9, hK9, hR9⟩
                have HB9 := Lib.hid hB9
                have HK9 := Lib.hid hK9
                have HR9 := Lib.hid hR9
                clear hB9 hK9 hR9
                go_wp2
                go_roundw
                case rel => exact ⟨j + 1, HLT.out, by go_num, by rw [HTT.out]; exact HB9.out, HE5.out.keep hd (HK9.out.mono HE5.out.le), HR9.out.back, HK9.out.is HS5.out HS5.out.lt (by have := hd.lt.1; omega) (by have := hd.lt.2.1; omega) hn3, HK5.out.trans (HK9.out.mono HK5.out.size)⟩
                case measure => have := HLT.out; simp [intOf]; omega
          · obtain rfl : j = t.d.hands.length := by omega
            go_wp2
            refine bodyPost_end (v := .tuple #[]) (by simp [results, Try.results60]) rfl ⟨rfl, ?_, HK1.out, HR1.out⟩
            rw [HST.out]
            exact HB1.out
      · have HOV := Lib.hid (buildD_over (t := t.d) (n := m + 1) (first := natsL first) hov)
        go_wp2
        refine bodyPost_ret (v := .tuple #[]) (by simp [results, Try.results60]) rfl ⟨rfl, ?_, ?_, ?_⟩
        · rw [HOV.out]; exact HBW.out
        · rw [e8]; exact .of_grow HG.out (Nat.le_of_eq e8.symm)
        · exact HROW.out.keep (Below.block HG.out _ HROW.out.lt)

end Go.Proofs.Ythlihchndmbkaaa
