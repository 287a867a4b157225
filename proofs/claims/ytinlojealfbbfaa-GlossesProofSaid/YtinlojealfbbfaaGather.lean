/- Gather: glosses.gather. -/
import Derived.Test.YtinlojealfbbfaaColl
import Derived.Test.YtinlojealfbbfaaSlicesG
import Derived.Test.YtinlojealfbbfaaRegion
namespace Go.Proofs.Ytinlojealfbbfaa
open Go.RowKit
open Go.ChangeMaps (setBlock)

/-- the messages of the first i lists -/
def msTo (Ls : List LstR) (i : Nat) : List GlossD := (Ls.take i).flatMap (·.l)
theorem msTo_succ {Ls : List LstR} {i : Nat} {r : LstR} (h : Ls[i]? = some r) : msTo Ls (i + 1) = msTo Ls i ++ r.l := by
  unfold msTo
  rw [take_snoc h, List.flatMap_append]
  simp
theorem contG_any (L : List GrpR) (x : GlossD) (lo : Nat) (w : World) (h : OwnG w lo L) (hl : ∀ y ∈ L, y.l.length ≤ 1000000) :
    Calls Try.prog 77 #[foundG L x.author x.stamp, glossV x] w fun e w' => e = .returned (.bool (contD L x)) ∧ Below w.heap.size w w' := by
  unfold foundG contD
  cases hf : findG L x.author x.stamp with
  | none => exact containsG_any none 0 w.heap.size [] x w (.inl rfl) (by simp) (Nat.le_refl _)
  | some p =>
    obtain ⟨j, y⟩ := p
    have hy := List.mem_of_getElem? (findG_some hf).1
    have ho : GlossT w lo y.A y.c y.l := h.1 y hy
    exact containsG_any y.A y.c w.heap.size y.l x w ho.at_ (hl y hy) (Nat.le_refl _)
theorem InvG.lens {ms : List GlossD} {L : List GrpR} (h : InvG ms L) : ∀ y ∈ L, y.l.length ≤ ms.length := fun y hy => by
  have h1 := h.once y hy
  have h2 := h.key y hy
  exact nodup_len h1 (fun x hx => (h2 x hx).1)

/-- what slices.SortFunc does to a row of glosses of the call's own -/
def SortGOK : Prop := ∀ (w : World) (base n cap : Nat) (A : Option Addr) (xs : List GlossD), w.ownsRow base 55 6 (.slice A n cap) n (xs.flatMap cellsGL) → xs.length ≤ 1000000 →
    Calls Try.prog 78 #[.slice A n cap, .func (.func 79) #[] #[]] w fun r w' => r = .returned (.tuple #[]) ∧ ∃ ys : List GlossD, ys.Perm xs ∧ ys.Pairwise (fun x y => cmpG x y ≤ 0) ∧
      w'.ownsRow base 55 6 (.slice A n cap) n (ys.flatMap cellsGL) ∧ w.grownBy w' (Value.ownBlock (.slice A n cap))
theorem own_other' {w w' : World} {base e size n : Nat} {v : Value} {xs : List Value} (h : w.ownsRow base e size v n xs) (g : ∀ b, base ≤ b → w'.heap[b]? = w.heap[b]?) : w'.ownsRow base e size v n xs := by
  obtain ⟨h1, h2⟩ := h
  refine ⟨h1, ?_⟩
  rcases h2 with h2 | ⟨g1, cap, cur, hv, hg, hh, r⟩
  · exact .inl h2
  · exact .inr ⟨g1, cap, cur, hv, hg, (g g1 hg).trans hh, r⟩
theorem results_pair23 {fn : Func} (h : fn.results = #[.tmp 2, .tmp 3]) (t : Array Value) (W : World) (u1 u2 : Value) (h1 : t.getD 2 undef = u1) (h2 : t.getD 3 undef = u2) :
    (results fn t).run Try.prog W = .ok (.tuple #[u1, u2]) W := by
  simp only [results, h]
  simp at h1 h2
  simp [go_sem, h1, h2]
/-- what gather answers -/
def GatherV (ms : List GlossD) (lo : Nat) (v : Value) (cl : Bool) (w : World) : Prop := ∃ A c all, v = .slice A all.length c ∧ GlossT w lo A c all ∧ all.length ≤ ms.length ∧ (∀ x ∈ all, x ∈ ms) ∧ (cl = true ↔ Clash ms) ∧ (¬ Clash ms → SortedG ms all)

set_option maxRecDepth 100000 in
set_option maxHeartbeats 16000000 in
theorem gather_any (HSORT : SortGOK) (Ls : List LstR) (A : Option Addr) (c n : Nat) (w : World) (hL : ListsAt w n A Ls) (hn : n ≤ w.heap.size) (h9 : (msTo Ls Ls.length).length ≤ 1000) (hl9 : Ls.length ≤ 1000) :
    Calls Try.prog 62 #[.slice A Ls.length c] w fun e w' => ∃ v cl, e = .returned (.tuple #[v, .bool cl]) ∧ GatherV (msTo Ls Ls.length) w.heap.size v cl w' ∧ Below w.heap.size w w' := by
  obtain ⟨j0, hj, hy0, hy1, hy2⟩ := info_parts Try.infoGloss
  have HL := Lib.hid (hL.more hn)
  have HM9 := Lib.hid h9
  clear hL hn h9
  have hmm := @run_makeMap Try.prog
  go_enter Try.func62, Try.ntmps62
  go_upto_region 3 with fail
  clear hmm
  obtain ⟨m, hm⟩ : ∃ q, w.heap.size = q := ⟨_, rfl⟩
  obtain ⟨W, hW⟩ : ∃ W, w.alloc (.map #[] 0) = W := ⟨_, rfl⟩
  have hg : Grow w W := by rw [← hW]; exact Grow.alloc _ _
  have hm0 : GrpsAt W m [] := by rw [← hW, ← hm]; exact heap_alloc_new w _
  have hmW : m < W.heap.size := hm0.lt
  rw [hW, hm]
  have HG := Lib.hid hg
  have HM0 := Lib.hid hm0
  have HMW := Lib.hid hmW
  rw [hm] at HL
  have HLW := Lib.hid (HL.out.below (by rw [← hm]; exact hg))
  clear hW hg hm0 HL
  go_wp2_with fail
  go_loopw [15] (fun iv wr => ∃ (i : Nat) (L : List GrpR), iv = .int .i64 i ∧ i ≤ Ls.length ∧ InvG (msTo Ls i) L ∧ OwnG wr m L ∧ GrpsAt wr m L ∧ Below m W wr) (fun v _ => Ls.length - (intOf v).toNat)
  case atStart => exact ⟨0, [], rfl, Nat.zero_le _, InvG.start, OwnG.nil _ _, HM0.out, Below.refl _ _⟩
  case round =>
    obtain ⟨i, L, rfl, hi', hinv, hown, hgrp, hbel⟩ := hrel
    rename World => wr
    have HIN := Lib.hid hinv
    have HOW := Lib.hid hown
    have HGP := Lib.hid hgrp
    have HBE := Lib.hid hbel
    clear hinv hown hgrp hbel
    by_cases hlt : i < Ls.length
    · have hld : decide ((i : Int) < (Ls.length : Int)) = true := decide_eq_true (by omega)
      have hldn : decide (i < Ls.length) = true := decide_eq_true hlt
      have hii : (i : Int) < (Ls.length : Int) := by omega
      have hi0 : (0 : Int) ≤ (i : Int) := by omega
      obtain ⟨b, off, r, rfl, hb, hrc, HR, _⟩ := (HLW.out.below HBE.out).at_ hlt
      have hrg := HLW.out.2 r (List.mem_of_getElem? HR.out)
      have HMS := Lib.hid (msTo_succ HR.out)
      have hr9 : r.l.length ≤ 1000 := by
        have h1 := HM9.out
        have h2 : (msTo Ls Ls.length) = (msTo Ls (i + 1)) ++ ((Ls.drop (i + 1)).flatMap (·.l)) := by
          unfold msTo
          rw [List.take_length, ← List.flatMap_append, List.take_append_drop]
        rw [h2, List.length_append, HMS.out, List.length_append] at h1
        omega
      have hms9 : (msTo Ls i).length + r.l.length ≤ 1000 := by
        have h1 := HM9.out
        have h2 : (msTo Ls Ls.length) = (msTo Ls (i + 1)) ++ ((Ls.drop (i + 1)).flatMap (·.l)) := by
          unfold msTo
          rw [List.take_length, ← List.flatMap_append, List.take_append_drop]
        rw [h2, List.length_append, HMS.out, List.length_append] at h1
        omega
      obtain ⟨⟨Ar, cr, lr⟩, hr⟩ : ∃ q, r = q := ⟨_, rfl⟩
      subst hr
      dsimp only at hr9 hms9 HMS hrg
      replace hrc : wr.cell? ⟨b, off + i, none⟩ = some (.slice Ar lr.length cr) := hrc
      obtain ⟨ms, hms⟩ : ∃ q, msTo Ls i = q := ⟨_, rfl⟩
      rw [hms] at HIN HMS hms9
      have HRG := Lib.hid hrg
      clear hms hb hrg
      go_upto_region 6 with fail
      clear hrc
      go_wp2_with fail
      go_loopw [21] (fun kv wx => ∃ (k : Nat) (L : List GrpR), kv = .int .i64 k ∧ k ≤ lr.length ∧ InvG (ms ++ lr.take k) L ∧ OwnG wx m L ∧ GrpsAt wx m L ∧ Below m W wx) (fun v _ => lr.length - (intOf v).toNat)
      case atStart => exact ⟨0, L, rfl, Nat.zero_le _, by simpa using HIN.out, HOW.out, HGP.out, HBE.out⟩
      case round =>
        clear HIN HOW HGP
        obtain ⟨k, L, rfl, hk', hinv, hown, hgrp, hbel⟩ := hrel
        rename World => wx
        have HIN := Lib.hid hinv
        have HOW := Lib.hid hown
        have HGP := Lib.hid hgrp
        have HBX := Lib.hid hbel
        clear hinv hown hgrp hbel
        by_cases hkt : k < lr.length
        · have hkd : decide ((k : Int) < (lr.length : Int)) = true := decide_eq_true (by omega)
          have hkdn : decide (k < lr.length) = true := decide_eq_true hkt
          have hki : (k : Int) < (lr.length : Int) := by omega
          have hk0 : (0 : Int) ≤ (k : Int) := by omega
          have hrg : GlossAt wx m Ar lr := HRG.out.below HBX.out
          obtain ⟨bx, ox, x, rfl, hbx, hxc, HX⟩ := hrg.at_ hkt
          have HTK := Lib.hid (take_snoc HX.out)
          have e0 := hxc 0 (by omega); have e1 := hxc 1 (by omega); have e2 := hxc 2 (by omega); have e3 := hxc 3 (by omega); have e4 := hxc 4 (by omega); have e5 := hxc 5 (by omega)
          rw [Nat.add_zero] at e0
          clear hxc hrg hbx
          go_upto_region 8 with fail
          obtain ⟨W3, hW3, hg3, hf3, hsz3⟩ := one_block wx 55 (cellsG x)
          rw [hW3]
          clear hW3
          obtain ⟨b8, e8⟩ : ∃ z, wx.heap.size = z := ⟨_, rfl⟩
          rw [e8] at hf3 hsz3 ⊢
          have HG3 := Lib.hid hg3
          have HF3 := Lib.hid hf3
          have hgc := hf3.cell
          clear hg3 hf3 e0 e1 e2 e3 e4 e5
          go_upto_region 9 with fail
          obtain ⟨W4, hW4, hg4, hf4, hsz4⟩ := one_block W3 95 #[.int .i64 x.author, .int .i64 x.stamp]
          rw [hW4]
          clear hW4
          obtain ⟨b9, e9⟩ : ∃ z, W3.heap.size = z := ⟨_, rfl⟩
          rw [e9] at hf4 hsz4 ⊢
          have HG4 : Hid (Grow wx W4) := Lib.hid (HG3.out.trans hg4)
          have HF4 := Lib.hid hf4
          have HFX := Lib.hid (hg4.block HF3.out)
          have hmx : m < wx.heap.size := HGP.out.lt
          clear hgc hg4 hf4 HG3 HF3
          have HCT := Lib.hid (fun (w0 : World) (hw : Grow W4 w0) => contG_any L x m w0 (HOW.out.grow (HG4.out.trans hw)) (fun y hy => by have h1 := HIN.out.lens y hy; rw [List.length_append, List.length_take] at h1; omega))
          have HLK := Lib.hid (fun (w0 : World) (hw : Grow W4 w0) => run_lookupG (HGP.out.grow (HG4.out.trans hw)) x.author x.stamp)
          obtain ⟨fv, hfv⟩ : ∃ z, foundG L x.author x.stamp = z := ⟨_, rfl⟩
          rw [hfv] at HCT HLK
          obtain ⟨ct, hct⟩ : ∃ z, contD L x = z := ⟨_, rfl⟩
          rw [hct] at HCT
          have HCD := Lib.hid hct
          clear hfv hct
          refine wp_region_lit 6 [[], [], [(0, 30), (1, 31)], [], [(2, 32), (3, 33)], [(4, 34)]] Grow (fun qi v w' => match qi with
              | 0 => v = .map (some m)
              | 1 => v = keyV x.author x.stamp
              | 2 => v = fv
              | 3 => v = glossV x
              | 4 => v = .bool ct
              | 5 => v = .bool (!ct)
              | _ => False) (by kernel_rfl) (by kernel_rfl) (fun _ _ _ => Grow.trans) Grow.refl ?_ ?_ ?_
          · intro i v y y' h k
            match i, h with
            | 0, h | 1, h | 2, h | 3, h | 4, h | 5, h => exact h
          · simp only [StepsLit, List.take_succ_cons, List.take_zero]
            refine ⟨?_, ?_, ?_, ?_, ?_, ?_, trivial⟩
            · intro w5 hR
              have hGw : Grow W4 w5 := hR.of_drew
              have HGW := Lib.hid hGw
              have hxc := (HGW.out.block HFX.out).cell
              have hkc := (HGW.out.block HF4.out).cell
              clear hR hGw
              simp only [depV]
              try go_simp
              all_goals first
                | (with_reducible exact Grow.refl _)
                | (with_reducible exact ⟨Grow.refl _, rfl⟩)
            · intro w5 hR
              have hGw : Grow W4 w5 := hR.of_drew
              have HGW := Lib.hid hGw
              have hxc := (HGW.out.block HFX.out).cell
              have hkc := (HGW.out.block HF4.out).cell
              clear hR hGw
              simp only [depV]
              try go_simp
              all_goals first
                | (with_reducible exact Grow.refl _)
                | (with_reducible exact ⟨Grow.refl _, rfl⟩)
            · intro w5 hR
              have hGw : Grow W4 w5 := hR.of_drew
              have HGW := Lib.hid hGw
              have hxc := (HGW.out.block HFX.out).cell
              have hkc := (HGW.out.block HF4.out).cell
              clear hR hGw
              simp only [depV]
              rintro _ rfl
              rintro _ rfl
              have hlk := HLK.out w5 HGW.out
              try go_simp
              all_goals first
                | (with_reducible exact Grow.refl _)
                | (with_reducible exact ⟨Grow.refl _, rfl⟩)
            · intro w5 hR
              have hGw : Grow W4 w5 := hR.of_drew
              have HGW := Lib.hid hGw
              have hxc := (HGW.out.block HFX.out).cell
              have hkc := (HGW.out.block HF4.out).cell
              clear hR hGw
              simp only [depV]
              try go_simp
              all_goals first
                | (with_reducible exact Grow.refl _)
                | (with_reducible exact ⟨Grow.refl _, rfl⟩)
            · intro w5 hR
              have hGw : Grow W4 w5 := hR.of_drew
              have HGW := Lib.hid hGw
              have hxc := (HGW.out.block HFX.out).cell
              have hkc := (HGW.out.block HF4.out).cell
              clear hR hGw
              simp only [depV]
              rintro _ rfl
              rintro _ rfl
              try go_simp
              refine (HCT.out w5 HGW.out).mono ?_
              rintro e w6 ⟨rfl, hb6⟩
              exact ⟨hb6, rfl⟩
            · intro w5 hR
              have hGw : Grow W4 w5 := hR.of_drew
              have HGW := Lib.hid hGw
              have hxc := (HGW.out.block HFX.out).cell
              have hkc := (HGW.out.block HF4.out).cell
              clear hR hGw
              simp only [depV]
              rintro _ rfl
              try go_simp
              all_goals first
                | (with_reducible exact Grow.refl _)
                | (with_reducible exact ⟨Grow.refl _, rfl⟩)
          · intro w5 hR
            have HG5 : Hid (Grow W4 w5) := Lib.hid hR.of_drew
            clear hR
            simp only [finVC, List.take_succ_cons, List.take_zero, List.drop_succ_cons, List.drop_zero]
            rintro _ rfl
            rintro _ rfl
            rintro _ rfl
            rintro _ rfl
            rintro _ rfl
            rintro _ rfl
            simp only [Act.put, List.setIfInBounds_toArray, List.set_cons_succ, List.set_cons_zero]
            have HGX : Hid (Grow wx w5) := Lib.hid (HG4.out.trans HG5.out)
            have HFX5 := Lib.hid (HG5.out.block HFX.out)
            have HF45 := Lib.hid (HG5.out.block HF4.out)
            cases ct with
            | true =>
              have HI2 : Hid (InvG (ms ++ lr.take (k + 1)) L) := Lib.hid (by rw [HTK.out, ← List.append_assoc]; exact HIN.out.old HCD.out)
              have HB2 : Hid (Below m W w5) := Lib.hid (HBX.out.trans (Below.mono HGX.out (by omega)))
              go_wp2
              go_roundw
              case rel => exact ⟨k + 1, L, by go_num, hkt, HI2.out, HOW.out.grow HGX.out, HGP.out.grow HGX.out, HB2.out⟩
              case measure => simp [intOf]; omega
            | false =>
              obtain ⟨W6, hW6⟩ : ∃ z, w5.alloc (.cells (cellsG x) 55) = z := ⟨_, rfl⟩
              have hg6 : Grow w5 W6 := by rw [← hW6]; exact Grow.alloc _ _
              have hn6 : BlockIs W6 w5.heap.size 55 (cellsG x) := by rw [← hW6]; exact BlockIs.new _ _ _
              have hgp6 := HGP.out.grow (HGX.out.trans hg6)
              obtain ⟨L1, j, y, hj1, hrun, hL1, hinv1⟩ := entry_step hgp6 HIN.out HCD.out
              have how6 : OwnG W6 m L1 := by
                have h := HOW.out.grow (HGX.out.trans hg6)
                rcases hL1 with rfl | rfl
                · exact h
                · exact h.empty _ _
              obtain ⟨W7, hW7⟩ : ∃ z, setBlock W6 m (.map (entsG L1) L1.length) = z := ⟨_, rfl⟩
              rw [hW7] at hrun
              have hgp7 : GrpsAt W7 m L1 := by rw [← hW7]; exact setBlock_at hgp6
              have how7 : OwnG W7 m L1 := by rw [← hW7]; exact how6.setMap hgp6 _
              have hm6 : m < W6.heap.size := hgp6.lt
              have hb7 : Below m W W7 := by rw [← hW7]; exact below_setMap (HBX.out.trans (Below.mono (HGX.out.trans hg6) (by omega))) (Nat.le_of_lt hm6) _
              have hn7 : BlockIs W7 w5.heap.size 55 (cellsG x) := by
                rw [← hW7]
                exact ((setBlock_grown W6 m _).block _ hn6.lt (fun e => by have h1 := HGX.out.size; injection e with e; omega)).trans hn6
              have hxc := HFX5.out.cell
              have hkc := HF45.out.cell
              have HJ1 := Lib.hid hj1
              have HIV := Lib.hid hinv1
              have HO7 := Lib.hid how7
              have HP7 := Lib.hid hgp7
              have HB7 := Lib.hid hb7
              have HN7 := Lib.hid hn7
              have hyl : y.l.length ≤ 1000 := by
                have h1 := (HIV.out none 0).lens ⟨y.au, y.st, none, 0, y.l ++ [x]⟩ (List.mem_set (lt_of_at HJ1.out) _)
                simp at h1
                omega
              have hmz : m ≤ W7.heap.size := Nat.le_of_lt hgp7.lt
              clear hj1 hL1 hinv1 how6 how7 hgp6 hgp7 hb7 hn6 hn7 hW7 hg6 hm6
              go_wp2_with (at_builtin; go_loud (refine wpList_append_own_at _ rfl _ _ 25 rfl m 55 j0 (.agg #[.int .i64 0, .int .i64 0, .int .i64 0, .int .i64 0, .int .i64 0, .int .i64 0]) 6 48 Try.underlying25 hj hy0 hy1 hy2 rfl (by omega) _ y.l.length (y.l.flatMap cellsGL) rfl ?d0 ⟨w5.heap.size, 0, none⟩ 1 1 (cellsGL x) rfl rfl ?d1 ?d2 ?d3 ?d4 ?d5 ?_))
              case d0 => exact HO7.out.1 y (List.mem_of_getElem? HJ1.out)
              case d1 =>
                intro q u hu
                have h1 := HN7.out.cell q
                rw [show (⟨w5.heap.size, 0, none⟩ : Addr).add q = ⟨w5.heap.size, q, none⟩ by (simp [Addr.add]; try omega), h1]
                exact Array.getElem?_toList.symm.trans hu
              case d2 => exact one_gloss x
              case d3 => unfold maxLen; omega
              case d4 => omega
              case d5 => exact hmz
              intro v' w8 hown hgr _ hat
              obtain ⟨An, cn, rfl⟩ := own_form hown
              have hgp8 : GrpsAt w8 m L1 := (hgr.block m HP7.out.lt (fun e => own_notMap (HO7.out.1 y (List.mem_of_getElem? HJ1.out)) HP7.out e.symm)).trans HP7.out
              have how8 := HO7.out.put HJ1.out hgr (l := y.l ++ [x]) (by simp) (by rw [List.flatMap_append]; simpa using hown) hat
              have hst := run_storeG hgp8 HJ1.out An cn (y.l.length + 1) (y.l ++ [x]) (by simp)
              have hb8 : Below m W w8 := HB7.out.grown hgr hmz (fun q hq => own_ge (HO7.out.1 y (List.mem_of_getElem? HJ1.out)) q hq)
              obtain ⟨W9, hW9⟩ : ∃ z, setBlock w8 m (.map (entsG (L1.set j ⟨y.au, y.st, An, cn, y.l ++ [x]⟩)) L1.length) = z := ⟨_, rfl⟩
              rw [hW9] at hst
              replace hst : (Instr.entryStore 93 (.map (some m)) (.int .i64 ((j : Nat) : Int)) (.slice An (y.l.length + 1) cn)).run Try.prog w8 = .ok () W9 := hst
              have hgp9 : GrpsAt W9 m (L1.set j ⟨y.au, y.st, An, cn, y.l ++ [x]⟩) := by
                rw [← hW9]
                unfold GrpsAt
                rw [setBlock_at hgp8, List.length_set]
              have how9 : OwnG W9 m (L1.set j ⟨y.au, y.st, An, cn, y.l ++ [x]⟩) := by rw [← hW9]; exact how8.setMap hgp8 _
              have hb9 : Below m W W9 := by rw [← hW9]; exact below_setMap hb8 (Nat.le_of_lt hgp8.lt) _
              have HI2 : Hid (InvG (ms ++ lr.take (k + 1)) (L1.set j ⟨y.au, y.st, An, cn, y.l ++ [x]⟩)) := Lib.hid (by rw [HTK.out, ← List.append_assoc]; exact HIV.out An cn)
              have HP9 := Lib.hid hgp9
              have HO9 := Lib.hid how9
              have HB9 := Lib.hid hb9
              clear hown hgr hat hgp8 how8 hb8 hW9 hgp9 how9 hb9 hrun hxc hkc
              go_wp2
              go_roundw
              case rel => exact ⟨k + 1, _, by go_num, hkt, HI2.out, HO9.out, HP9.out, HB9.out⟩
              case measure => simp [intOf]; omega
        · obtain rfl : k = lr.length := by omega
          have hkd : decide ((lr.length : Int) < (lr.length : Int)) = false := by simp
          have hkdn : decide (lr.length < lr.length) = false := by simp
          have HI2 : Hid (InvG (msTo Ls (i + 1)) L) := Lib.hid (by rw [HMS.out]; have h := HIN.out; rwa [List.take_length] at h)
          clear hkt HIN
          go_wp2
          go_roundw
          case rel => exact ⟨i + 1, L, by go_num, hlt, HI2.out, HOW.out, HGP.out, HBX.out⟩
          case measure => simp [intOf]; omega
    · obtain rfl : i = Ls.length := by omega
      have hld : decide ((Ls.length : Int) < (Ls.length : Int)) = false := by simp
      have hldn : decide (Ls.length < Ls.length) = false := by simp
      clear hlt
      clear hld hldn
      have hld : decide ((Ls.length : Int) < (Ls.length : Int)) = false := by simp
      have hldn : decide (Ls.length < Ls.length) = false := by simp
      obtain ⟨ms, hms⟩ : ∃ q, msTo Ls Ls.length = q := ⟨_, rfl⟩
      have HMSE := Lib.hid hms
      rw [hms] at HIN HM9
      clear hms
      have hrange := range_grps HGP.out
      go_upto_region 14 with fail
      clear hld hldn hrange
      obtain ⟨r, hr⟩ : ∃ q, wr.heap.size = q := ⟨_, rfl⟩
      obtain ⟨W2, hW2⟩ : ∃ q, wr.alloc (.mapIter (some m) L.length #[] L.length) = q := ⟨_, rfl⟩
      have hit0 : IterAt W2 r m L.length #[] := by rw [← hW2, ← hr]; exact IterAt.new wr m L.length
      have hg2 : Grow wr W2 := by rw [← hW2]; exact Grow.alloc _ _
      have hz2 : r < W2.heap.size := hit0.lt
      rw [hW2, hr]
      have HIT0 := Lib.hid hit0
      have HG2 := Lib.hid hg2
      have hmr : m < r := by rw [← hr]; exact HGP.out.lt
      have HRZ : Hid (wr.heap.size = r) := Lib.hid hr
      clear hW2 hit0 hg2 hr
      go_wp2_with fail
      go_loopw [2, 3] (fun v cv wx => ∃ (seen : Array Nat) (A' : Option Addr) (c' n : Nat), v = .slice A' n c' ∧ cv = .bool (collC L seen.toList) ∧ seen.toList.Nodup ∧ Hid (n = (collL L seen.toList).length) ∧ IterAt wx r m L.length seen ∧ Grow wr wx ∧ r < wx.heap.size ∧ wx.ownsRow (r + 1) 55 6 (.slice A' n c') n ((collL L seen.toList).flatMap cellsGL)) (fun _ _ wx => (leftOf (entsG L) (wx.iterSeen r)).size)
      case atStart => exact ⟨#[], none, 0, 0, rfl, rfl, List.nodup_nil, rfl, HIT0.out, HG2.out, hz2, own_nilG _ _⟩
      case round =>
        obtain ⟨seen, A', c', n, rfl, rfl, hnd, HN, hit, hgw, hzx, hown⟩ := hrel
        rename World => wx
        have hgp := HGP.out.grow hgw
        have hn9 : n ≤ 1000 := by have h1 := coll_len HIN.out hnd; have h2 := HN.out; have h3 := HM9.out; omega
        rcases next_grps 0 hit hgp with ⟨hall, hn⟩ | ⟨k, y, hy, hk, w1, hw, hn⟩
        · have hnx : ∀ ty, (Instr.next (.pointer (some ⟨r, 0, none⟩)) false ty).run Try.prog wx = _ := fun _ => hn
          have hall' : ∀ k y, L[k]? = some y → k ∈ seen.toList := fun k y h => Array.mem_toList_iff.2 (hall k y h)
          have HC := Lib.hid (coll_clash HIN.out hall')
          have HMEM := Lib.hid (coll_all HIN.out hall')
          have HND := Lib.hid (coll_nodup HIN.out hnd)
          have HLE := Lib.hid (coll_len HIN.out hnd)
          have HST := Lib.hid (fun (h : (collL L seen.toList).length ≤ 1000000) => HSORT wx (r + 1) n c' A' (collL L seen.toList) hown h)
          have HGW := Lib.hid hgw
          have hge : ∀ q, Value.ownBlock (.slice A' n c') = some q → r + 1 ≤ q := fun q hq => own_ge hown q hq
          generalize collC L seen.toList = cl at HC ⊢
          generalize collL L seen.toList = xs at HN HMEM HND HLE HST
          clear hnd hit hgp hn hall hall' hown hgw
          go_wp2_with fail
          refine (HST.out (by have := HN.out; omega)).mono ?_
          rintro e w4 ⟨rfl, ys, hp, hs, hown4, hgr4⟩
          have hb4 : Below w.heap.size w w4 := by
            refine (HG.out.trans' ?_)
            rw [hm]
            refine HBE.out.trans ?_
            have h1 : Below wr.heap.size wr w4 := Below.grown (show Below wr.heap.size wr wx from HGW.out) hgr4 (by rw [HRZ.out]; omega) (fun q hq => by have := hge q hq; rw [HRZ.out]; omega)
            exact Below.mono h1 (by rw [HRZ.out]; omega)
          have hlen := hp.length_eq
          have HNY : Hid (n = ys.length) := Lib.hid (by rw [hlen]; exact HN.out)
          have HV : Hid (GatherV ms w.heap.size (.slice A' n c') cl w4) := Lib.hid ⟨A', c', ys, by rw [← HNY.out], by
            unfold GlossT
            rw [← HNY.out]
            exact own_mono hown4 (by rw [hm]; omega), by have := HLE.out; omega, fun x hx => (HMEM.out x).1 (hp.mem_iff.1 hx), HC.out, fun hc => sorted_coll HND.out HMEM.out hp hs hc⟩
          have HB4 := Lib.hid hb4
          clear hp hs hown4 hgr4 hb4 hlen
          go_wp2
          exact bodyPost_ret (results_pair23 Try.results62 _ _ _ _ rfl rfl) rfl ⟨_, _, rfl, by rw [HMSE.out]; exact HV.out, HB4.out⟩
        · obtain ⟨hit2, hb2, hz2', hoth⟩ := step_grps hit hw
          generalize setBlock w1 r (.mapIter (some m) L.length (seen.push k) L.length) = w2 at hn hit2 hb2 hz2' hoth
          have hnx : ∀ ty, (Instr.next (.pointer (some ⟨r, 0, none⟩)) false ty).run Try.prog wx = _ := fun _ => hn
          have hgp2 : GrpsAt w2 m L := (hoth m (by omega)).trans hgp
          have hen := entry_grps hit2 hgp2 hy
          have hown2 := own_other' hown (w' := w2) (fun b h => hoth b (by omega))
          have hgw2 : Grow wr w2 := by
            refine hgw.trans' ?_
            rw [HRZ.out]
            exact hb2
          have hyo : w2.ownsRow m 55 6 (grpV y) y.l.length (y.l.flatMap cellsGL) := own_grow (HOW.out.1 y (List.mem_of_getElem? hy)) hgw2
          have hya : GlossAt w2 w2.heap.size y.A y.l := GlossT.at_ (lo := m) (cap := y.c) hyo
          have hy9 : y.l.length ≤ 1000 := by have h1 := HIN.out.lens y (List.mem_of_getElem? hy); have := HM9.out; omega
          have HCL := Lib.hid (collL_snoc (seen := seen.toList) hy)
          have HCC := Lib.hid (collC_snoc (seen := seen.toList) hy)
          have hnd2 : (seen.push k).toList.Nodup := by
            rw [Array.toList_push]
            exact List.nodup_append.2 ⟨hnd, by simp, fun a ha b hb e => hk (Array.mem_toList_iff.1 (by rw [List.mem_singleton.1 hb] at e; rw [← e]; exact ha))⟩
          have HND2 := Lib.hid hnd2
          have HPU : Hid ((seen.push k).toList = seen.toList ++ [k]) := Lib.hid (Array.toList_push ..)
          have HMEAS := Lib.hid (left_grps hy hk)
          have HIS := Lib.hid hit.seen
          have HO2 := Lib.hid hown2
          have HI2 := Lib.hid hit2
          have HGW2 := Lib.hid hgw2
          have HYA := Lib.hid hya
          obtain ⟨cl, hcl⟩ : ∃ q, collC L seen.toList = q := ⟨_, rfl⟩
          rw [hcl] at HCC ⊢
          obtain ⟨xs, hxs⟩ : ∃ q, collL L seen.toList = q := ⟨_, rfl⟩
          rw [hxs] at HCL HN HO2
          clear hit hw hgp hoth hown hown2 hgw hgw2 hyo hya hnd hnd2 hgp2 hit2 hn hcl hxs hy hk
          go_wp2_with (at_builtin; go_loud (refine wpList_append_gloss rfl _ _ 25 rfl (r + 1) 55 j0 (.agg #[.int .i64 0, .int .i64 0, .int .i64 0, .int .i64 0, .int .i64 0, .int .i64 0]) 48 Try.underlying25 hj hy0 hy1 hy2 rfl _ n (xs.flatMap cellsGL) rfl HO2.out y.A y.l.length y.c _ y.l rfl rfl HYA.out ?c2 ?c3 ?c4 ?_))
          case c2 => unfold maxLen; omega
          case c3 => omega
          case c4 => omega
          intro v' w3 hown3 hgr3
          obtain ⟨An, cn, rfl⟩ := own_form hown3
          have hge : ∀ q, Value.ownBlock (.slice A' n c') = some q → r + 1 ≤ q := fun q hq => own_ge HO2.out q hq
          have hg3 : Grow wr w3 := Below.grown (show Below wr.heap.size wr w2 from HGW2.out) hgr3 (by rw [HRZ.out]; omega) (fun q hq => by have := hge q hq; rw [HRZ.out]; omega)
          have hit3 : IterAt w3 r m L.length (seen.push k) := (hgr3.block r (by omega) (fun e => by have := hge r e.symm; omega)).trans HI2.out
          have HO3 : Hid (w3.ownsRow (r + 1) 55 6 (.slice An (n + y.l.length) cn) (n + y.l.length) ((collL L (seen.push k).toList).flatMap cellsGL)) := Lib.hid (by
            rw [HPU.out, HCL.out, List.flatMap_append]
            exact hown3)
          have HN3 : Hid (n + y.l.length = (collL L (seen.push k).toList).length) := Lib.hid (by rw [HPU.out, HCL.out, List.length_append, ← HN.out])
          have HC3 : Hid (collC L (seen.push k).toList = (cl || decide (1 < y.l.length))) := Lib.hid (by rw [HPU.out, HCC.out])
          have HG3 := Lib.hid hg3
          have HI3 := Lib.hid hit3
          clear hown3 hgr3 hg3 hit3 hge hb2 hen hnx
          cases cl with
          | true =>
            go_wp2
            go_roundw
            case rel => exact ⟨seen.push k, An, cn, n + y.l.length, rfl, by rw [HC3.out]; rfl, HND2.out, HN3.out, HI3.out, HG3.out, HI3.out.lt, HO3.out⟩
            case measure => rw [HI3.out.seen, HIS.out]; exact HMEAS.out
          | false =>
            by_cases hl1 : 1 < y.l.length
            · have d1 : decide ((1 : Int) < (y.l.length : Int)) = true := decide_eq_true (by omega)
              have d2 : decide (1 < y.l.length) = true := decide_eq_true hl1
              clear hl1
              go_wp2
              go_roundw
              case rel => exact ⟨seen.push k, An, cn, n + y.l.length, rfl, by rw [HC3.out, d2]; rfl, HND2.out, HN3.out, HI3.out, HG3.out, HI3.out.lt, HO3.out⟩
              case measure => rw [HI3.out.seen, HIS.out]; exact HMEAS.out
            · have d1 : decide ((1 : Int) < (y.l.length : Int)) = false := decide_eq_false (by omega)
              have d2 : decide (1 < y.l.length) = false := decide_eq_false hl1
              clear hl1
              go_wp2
              go_roundw
              case rel => exact ⟨seen.push k, An, cn, n + y.l.length, rfl, by rw [HC3.out, d2]; rfl, HND2.out, HN3.out, HI3.out, HG3.out, HI3.out.lt, HO3.out⟩
              case measure => rw [HI3.out.seen, HIS.out]; exact HMEAS.out

end Go.Proofs.Ytinlojealfbbfaa
