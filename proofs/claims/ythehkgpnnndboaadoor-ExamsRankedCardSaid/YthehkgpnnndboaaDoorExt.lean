/- Ext: truths$1, which goes through all possible truths that begin with some points; written by wip/tools/ext9.py. -/
import Derived.Test.YthehkgpnnndboaaDoorNarrow
import Derived.Test.YthehkgpnnndboaaDoorOnes
namespace Go.Proofs.YthehkgpnnndboaaDoor
open Go.RowKit Go.Shelf

attribute [local go_sem] Oper.semAt_some

theorem round_wide {P : Program} {n m l : Nat} {f : FuncId} {tmps : Array Value} {assign body : Code} {w : World} {R : Ending → World → Prop} (h : RoundIn Fence.wide n P l f tmps assign body w R) : RoundIn Fence.wide m P l f tmps assign body w R :=
  ⟨h.1, fun c cs _ => h.2 c cs (by simp [Fence.room, Fence.wide])⟩
abbrev cellsT (ps : List Int) : Array Value := #[.int .i64 (ps[0]?.getD 0), .int .i64 (ps[1]?.getD 0), .int .i64 (ps[2]?.getD 0), .int .i64 (ps[3]?.getD 0)]
def encT (p : PaperR) (ps : List Int) : Array Value := #[.agg (cellsT ps), .int .i64 (wrongS p.d.judges ps : Nat)]
theorem padT_cells : ∀ {ps : List Int}, ps.length ≤ 4 → ((padT ps).map (Value.int .i64)).toArray = cellsT ps
  | [], _ => rfl
  | [_], _ => rfl
  | [_, _], _ => rfl
  | [_, _, _], _ => rfl
  | [_, _, _, _], _ => rfl
  | _ :: _ :: _ :: _ :: _ :: _, h => by simp at h
theorem TAt.cells {W : World} {bt n : Nat} {t : TypeId} {ps : List Int} (h : TAt W bt t n ps) (hk : ps.length = n) (hn : n ≤ 4) : BlockIs W bt t (cellsT ps) := by
  rw [← padT_cells (by omega)]
  exact h.full hk hn
abbrev capT (bs yb bt bx : Nat) : Array Value := #[.pointer (some ⟨bs, 0, none⟩), .pointer (some ⟨yb, 0, none⟩), .pointer (some ⟨bt, 0, none⟩), .pointer (some ⟨bx, 0, none⟩)]
theorem walkTo_prefix (js : List JudgeI) (wrong : Int) (l : List ItemI) (ps : List Int) {k n : Nat} (h : k ≤ n) : ∃ more, walkTo js wrong l ps n = walkTo js wrong l ps k ++ more := by
  induction n with
  | zero =>
    obtain rfl : k = 0 := by omega
    exact ⟨[], by simp⟩
  | succ n ih =>
    by_cases hk : k = n + 1
    · subst hk; exact ⟨[], by simp⟩
    · obtain ⟨more, hm⟩ := ih (by omega)
      exact ⟨more ++ walkD js wrong l (ps ++ [(n : Int)]), by rw [walkTo_succ, hm, List.append_assoc]⟩
/-- what stands while truths goes on -/
structure EnvT (W : World) (p : PaperR) (l n₀ bs yb bt bx : Nat) : Prop where
  survey : BlockIs W bs 73 (cellsP p)
  yield : BlockIs W yb 104 #[.func (.yield l) #[] #[]]
  ext : BlockIs W bx 105 #[.func (.func 67) #[] (capT bs yb bt bx)]
  paper : PaperAt W n₀ p
theorem EnvT.grow {W W' : World} {p : PaperR} {l n₀ bs yb bt bx : Nat} (h : EnvT W p l n₀ bs yb bt bx) (g : Grow W W') (hn : n₀ ≤ W.heap.size) : EnvT W' p l n₀ bs yb bt bx := ⟨g.block h.survey, g.block h.yield, g.block h.ext, h.paper.below (Below.mono g hn)⟩
theorem EnvT.keep {W W' : World} {p : PaperR} {l n₀ q base bs yb bt bx : Nat} (h : EnvT W p l n₀ bs yb bt bx) (k : KeepE n₀ q base bt W W') (h1 : base ≤ bs) (h2 : base ≤ yb) (h3 : base ≤ bx) (n1 : bs ≠ bt) (n2 : yb ≠ bt) (n3 : bx ≠ bt) : EnvT W' p l n₀ bs yb bt bx :=
  ⟨k.block h1 n1 h.survey, k.block h2 n2 h.yield, k.block h3 n3 h.ext, h.paper.below k.below⟩

set_option maxRecDepth 100000 in
set_option maxHeartbeats 16000000 in
theorem extend_any (p : PaperR) (G : GoodP (withW p.d 0)) (l n₀ q base bs yb bt bx : Nat) (J Jx : List (List Int) → World → Prop) (hJl : LowFrom base J) (hn0 : n₀ ≤ base) (hbs : base ≤ bs) (hyb : base ≤ yb) (hbt : base ≤ bt) (hbx : base ≤ bx) (n1 : bs ≠ bt) (n2 : yb ≠ bt) (n3 : bx ≠ bt)
    (hY : ∀ pre x W1, J pre W1 → pre ++ [x] <+: truthsL p.d → YieldAt Fence.wide 8 Tryd.prog l (encT p x) W1 fun e W' => KeepM n₀ q base W1 W' ∧ ((e = .returned (.bool true) ∧ J (pre ++ [x]) W') ∨ (e = .returned (.bool false) ∧ Jx (pre ++ [x]) W'))) :
    ∀ (m : Nat) (ps : List Int) (pre post : List (List Int)) (W1 : World), ps.length + m = p.items.length → pre ++ walkD p.d.judges p.d.wrong (p.items.drop ps.length) ps ++ post = truthsL p.d →
      EnvT W1 p l n₀ bs yb bt bx → TAt W1 bt 81 p.items.length ps → J pre W1 → base ≤ W1.heap.size →
      Calls Tryd.prog 67 #[.int .i64 (ps.length : Nat), .agg (cellsB (biasP p.d.judges ps)), .pointer (some ⟨bs, 0, none⟩), .pointer (some ⟨yb, 0, none⟩), .pointer (some ⟨bt, 0, none⟩), .pointer (some ⟨bx, 0, none⟩)] W1 fun e W' =>
        KeepE n₀ q base bt W1 W' ∧ TAt W' bt 81 p.items.length ps ∧ ((e = .returned (.bool true) ∧ J (pre ++ walkD p.d.judges p.d.wrong (p.items.drop ps.length) ps) W') ∨ (e = .returned (.bool false) ∧ ∃ pr, pr <+: truthsL p.d ∧ Jx pr W')) := by
  have hi4 : p.items.length ≤ 4 := G.i4
  intro m
  induction m with
  | zero =>
    intro ps pre post W1 hm hall hE hT hJ hwl
    have hro : Fence.wide.round = none := rfl
    have HE := Lib.hid hE
    have HT := Lib.hid hT
    have HJ := Lib.hid hJ
    have HWL := Lib.hid hwl
    have HWG := Lib.hid (fun (w0 : World) => wrong_any p ps w0 (by have : p.d.judges.length ≤ 4 := G.j4; rw [d_len] at this; exact this))
    have HPOP := Lib.hid (wrongS_pop (js := p.d.judges) G.j4 ps)
    have h16 := wrongS_lt (js := p.d.judges) G.j4 ps
    have hwr := G.wr
    have hwrI : p.d.wrong = p.wrong := rfl
    have HWS : Hid (encT p ps = #[.agg (cellsT ps), .int .i64 (wrongS p.d.judges ps : Nat)]) := rfl
    obtain ⟨ws, hws⟩ : ∃ z, wrongS p.d.judges ps = z := ⟨_, rfl⟩
    rw [hws] at HWG HPOP h16 HWS
    have HON := Lib.hid (fun w0 => ones_any ws w0 (by omega))
    rw [HPOP.out] at HON
    have hcu : IntKind.u64.wrap (ws : Int) = (ws : Int) := IntWalk.u64_in _ (by omega)
    clear hE hT hJ hwl hws
    refine (callsIn_wide (n := 8)).1 ?_
    refine callsIn_of_wp Tryd.func67 rfl trivial ?_ hro
    simp only [Tryd.ntmps67, List.size_toArray, List.length_cons, List.length_nil, Nat.reduceAdd, Nat.reduceSub, Array.replicate_succ, Array.replicate_zero, List.push_toArray, List.append_toArray, List.nil_append, List.cons_append]
    refine wpIn_wide.2 ?_
    go_upto_region 1 with fail
    obtain ⟨W2, hW2, hg2, hf2, hsz2⟩ := one_block W1 107 (cellsB (biasP p.d.judges ps))
    rw [hW2]
    clear hW2
    obtain ⟨bb, hbb⟩ : ∃ z, W1.heap.size = z := ⟨_, rfl⟩
    have hbl : base ≤ bb := by rw [← hbb]; exact HWL.out
    have hbn : bb ≠ bt := by rw [← hbb]; obtain ⟨cs, _, hq, _⟩ := HT.out; exact Nat.ne_of_gt hq.lt
    rw [hbb] at hf2 hsz2 ⊢
    have HK2 : Hid (KeepE n₀ q base bt W1 W2) := Lib.hid (KeepE.of_grow hg2 (Nat.le_trans hn0 HWL.out))
    have HE2 := Lib.hid (HE.out.grow hg2 (Nat.le_trans hn0 HWL.out))
    have HT2 := Lib.hid (HT.out.grow hg2)
    have HJ2 : Hid (J pre W2) := Lib.hid (hJl _ _ _ HJ.out (Below.mono hg2 HWL.out))
    have HB2 := Lib.hid hf2
    have HL2 : Hid (base ≤ W2.heap.size) := Lib.hid (Nat.le_trans HWL.out hg2.size)
    clear hg2 hf2 hsz2 hbb
    have hsc := HE2.out.survey.cell
    have hbc := HB2.out.cell
    go_wp2_with fail
    refine (HWG.out W2).mono ?_
    rintro e W3 ⟨rfl, hb3⟩
    have hg3 : Grow W2 W3 := hb3
    have HK3 : Hid (KeepE n₀ q base bt W1 W3) := Lib.hid (HK2.out.trans (KeepE.of_grow hg3 (Nat.le_trans hn0 HL2.out)))
    have HE3 := Lib.hid (HE2.out.grow hg3 (Nat.le_trans hn0 HL2.out))
    have HT3 := Lib.hid (HT2.out.grow hg3)
    have HJ3 : Hid (J pre W3) := Lib.hid (hJl _ _ _ HJ2.out (Below.mono hg3 HL2.out))
    have HB3 := Lib.hid (hg3.block HB2.out)
    have HL3 : Hid (base ≤ W3.heap.size) := Lib.hid (Nat.le_trans HL2.out hg3.size)
    clear hg3 hb3 hsc hbc HK2 HE2 HT2 HJ2 HB2 HL2
    have hsc := HE3.out.survey.cell
    by_cases hw : (wrongC p.d.judges ps : Int) ≤ p.wrong
    · have hdw : decide (p.wrong < (wrongC p.d.judges ps : Int)) = false := decide_eq_false (by omega)
      go_wp2_with fail
      go_quiet (first | (go_at_call 69; exact quiet_same (HON.out _)))
      obtain ⟨W4, hW4⟩ : ∃ z, W3.drewN nq = z := ⟨_, rfl⟩
      have hg4 : Grow W3 W4 := by rw [← hW4]; exact Below.drewN_ (Below.refl _ _) _
      rw [hW4]
      have HK4 : Hid (KeepE n₀ q base bt W1 W4) := Lib.hid (HK3.out.trans (KeepE.of_grow hg4 (Nat.le_trans hn0 HL3.out)))
      have HE4 := Lib.hid (HE3.out.grow hg4 (Nat.le_trans hn0 HL3.out))
      have HT4 := Lib.hid (HT3.out.grow hg4)
      have HJ4 : Hid (J pre W4) := Lib.hid (hJl _ _ _ HJ3.out (Below.mono hg4 HL3.out))
      have HB4 := Lib.hid (hg4.block HB3.out)
      have HL4 : Hid (base ≤ W4.heap.size) := Lib.hid (Nat.le_trans HL3.out hg4.size)
      clear hg4 hW4 hsc HK3 HE3 HT3 HJ3 HB3 HL3
      have hsc := HE4.out.survey.cell
      have hlen : ((ps.length : Int) == (p.items.length : Int)) = true := by simp; omega
      have HD : Hid (p.items.drop ps.length = []) := Lib.hid (List.drop_of_length_le (by omega))
      have HWD : Hid (walkD p.d.judges p.d.wrong (p.items.drop ps.length) ps = [ps]) := Lib.hid (by rw [HD.out, walkD, if_pos (show (wrongC p.d.judges ps : Int) ≤ p.d.wrong from hw)])
      have HPR : Hid (pre ++ [ps] <+: truthsL p.d) := Lib.hid ⟨post, by rw [← hall, HWD.out]⟩
      obtain ⟨fn, tmps, assign, body, hy, hR⟩ := hY pre ps W4 HJ4.out HPR.out
      rw [HWS.out] at hy
      have htc := (HT4.out.cells (by omega) hi4).cell
      have hyc := HE4.out.yield.cell 0
      go_upto_region 5 with fail
      refine (wpIn_wide (n := 8)).1 ?_
      gi_wp2
      refine (round_wide hR).mono ?_
      rintro e W5 ⟨hkk, hJ5⟩
      have HK5 : Hid (KeepE n₀ q base bt W1 W5) := Lib.hid (HK4.out.trans (KeepE.of_keep hkk))
      have HT5 := Lib.hid (HT4.out.keep (hkk.same bt (.inr hbt) (by obtain ⟨cs, _, hq, _⟩ := HT4.out; exact hq.lt)))
      rcases hJ5 with ⟨rfl, hJ5⟩ | ⟨rfl, hJx5⟩
      · gi_wp2
        go_wp2
        go_ret
        exact ⟨HK5.out, HT5.out, .inl ⟨rfl, by rw [HWD.out]; exact hJ5⟩⟩
      · gi_wp2
        go_wp2
        go_ret
        exact ⟨HK5.out, HT5.out, .inr ⟨rfl, _, HPR.out, hJx5⟩⟩
    · have hdw : decide (p.wrong < (wrongC p.d.judges ps : Int)) = true := decide_eq_true (by omega)
      have HWN : Hid (walkD p.d.judges p.d.wrong (p.items.drop ps.length) ps = []) := Lib.hid (by
        cases p.items.drop ps.length with
        | nil => rw [walkD, if_neg (show ¬ (wrongC p.d.judges ps : Int) ≤ p.d.wrong from hw)]
        | cons y l => rw [walkD, if_neg (show ¬ (wrongC p.d.judges ps : Int) ≤ p.d.wrong from hw)])
      go_wp2_with fail
      go_quiet (first | (go_at_call 69; exact quiet_same (HON.out _)))
      have hg4 : Grow W3 (W3.drewN nq) := Below.drewN_ (Below.refl _ _) _
      go_wp2
      go_ret
      exact ⟨HK3.out.trans (KeepE.of_grow hg4 (Nat.le_trans hn0 HL3.out)), HT3.out.grow hg4, .inl ⟨rfl, by rw [HWN.out, List.append_nil]; exact hJl _ _ _ HJ3.out (Below.mono hg4 HL3.out)⟩⟩
  | succ m ih =>
    intro ps pre post W1 hm hall hE hT hJ hwl
    have hro : Fence.wide.round = none := rfl
    have HE := Lib.hid hE
    have HT := Lib.hid hT
    have HJ := Lib.hid hJ
    have HWL := Lib.hid hwl
    have HWG := Lib.hid (fun (w0 : World) => wrong_any p ps w0 (by have : p.d.judges.length ≤ 4 := G.j4; rw [d_len] at this; exact this))
    have HPOP := Lib.hid (wrongS_pop (js := p.d.judges) G.j4 ps)
    have h16 := wrongS_lt (js := p.d.judges) G.j4 ps
    have hwr := G.wr
    have hwrI : p.d.wrong = p.wrong := rfl
    have HWS : Hid (encT p ps = #[.agg (cellsT ps), .int .i64 (wrongS p.d.judges ps : Nat)]) := rfl
    obtain ⟨ws, hws⟩ : ∃ z, wrongS p.d.judges ps = z := ⟨_, rfl⟩
    rw [hws] at HWG HPOP h16 HWS
    have HON := Lib.hid (fun w0 => ones_any ws w0 (by omega))
    rw [HPOP.out] at HON
    have hcu : IntKind.u64.wrap (ws : Int) = (ws : Int) := IntWalk.u64_in _ (by omega)
    clear hE hT hJ hwl hws
    refine (callsIn_wide (n := 8)).1 ?_
    refine callsIn_of_wp Tryd.func67 rfl trivial ?_ hro
    simp only [Tryd.ntmps67, List.size_toArray, List.length_cons, List.length_nil, Nat.reduceAdd, Nat.reduceSub, Array.replicate_succ, Array.replicate_zero, List.push_toArray, List.append_toArray, List.nil_append, List.cons_append]
    refine wpIn_wide.2 ?_
    go_upto_region 1 with fail
    obtain ⟨W2, hW2, hg2, hf2, hsz2⟩ := one_block W1 107 (cellsB (biasP p.d.judges ps))
    rw [hW2]
    clear hW2
    obtain ⟨bb, hbb⟩ : ∃ z, W1.heap.size = z := ⟨_, rfl⟩
    have hbl : base ≤ bb := by rw [← hbb]; exact HWL.out
    have hbn : bb ≠ bt := by rw [← hbb]; obtain ⟨cs, _, hq, _⟩ := HT.out; exact Nat.ne_of_gt hq.lt
    rw [hbb] at hf2 hsz2 ⊢
    have HK2 : Hid (KeepE n₀ q base bt W1 W2) := Lib.hid (KeepE.of_grow hg2 (Nat.le_trans hn0 HWL.out))
    have HE2 := Lib.hid (HE.out.grow hg2 (Nat.le_trans hn0 HWL.out))
    have HT2 := Lib.hid (HT.out.grow hg2)
    have HJ2 : Hid (J pre W2) := Lib.hid (hJl _ _ _ HJ.out (Below.mono hg2 HWL.out))
    have HB2 := Lib.hid hf2
    have HL2 : Hid (base ≤ W2.heap.size) := Lib.hid (Nat.le_trans HWL.out hg2.size)
    clear hg2 hf2 hsz2 hbb
    have hsc := HE2.out.survey.cell
    have hbc := HB2.out.cell
    go_wp2_with fail
    refine (HWG.out W2).mono ?_
    rintro e W3 ⟨rfl, hb3⟩
    have hg3 : Grow W2 W3 := hb3
    have HK3 : Hid (KeepE n₀ q base bt W1 W3) := Lib.hid (HK2.out.trans (KeepE.of_grow hg3 (Nat.le_trans hn0 HL2.out)))
    have HE3 := Lib.hid (HE2.out.grow hg3 (Nat.le_trans hn0 HL2.out))
    have HT3 := Lib.hid (HT2.out.grow hg3)
    have HJ3 : Hid (J pre W3) := Lib.hid (hJl _ _ _ HJ2.out (Below.mono hg3 HL2.out))
    have HB3 := Lib.hid (hg3.block HB2.out)
    have HL3 : Hid (base ≤ W3.heap.size) := Lib.hid (Nat.le_trans HL2.out hg3.size)
    clear hg3 hb3 hsc hbc HK2 HE2 HT2 HJ2 HB2 HL2
    have hsc := HE3.out.survey.cell
    by_cases hw : (wrongC p.d.judges ps : Int) ≤ p.wrong
    · have hdw : decide (p.wrong < (wrongC p.d.judges ps : Int)) = false := decide_eq_false (by omega)
      go_wp2_with fail
      go_quiet (first | (go_at_call 69; exact quiet_same (HON.out _)))
      obtain ⟨W4, hW4⟩ : ∃ z, W3.drewN nq = z := ⟨_, rfl⟩
      have hg4 : Grow W3 W4 := by rw [← hW4]; exact Below.drewN_ (Below.refl _ _) _
      rw [hW4]
      have HK4 : Hid (KeepE n₀ q base bt W1 W4) := Lib.hid (HK3.out.trans (KeepE.of_grow hg4 (Nat.le_trans hn0 HL3.out)))
      have HE4 := Lib.hid (HE3.out.grow hg4 (Nat.le_trans hn0 HL3.out))
      have HT4 := Lib.hid (HT3.out.grow hg4)
      have HJ4 : Hid (J pre W4) := Lib.hid (hJl _ _ _ HJ3.out (Below.mono hg4 HL3.out))
      have HB4 := Lib.hid (hg4.block HB3.out)
      have HL4 : Hid (base ≤ W4.heap.size) := Lib.hid (Nat.le_trans HL3.out hg4.size)
      clear hg4 hW4 hsc HK3 HE3 HT3 HJ3 HB3 HL3
      have hsc := HE4.out.survey.cell
      have hlen : ((ps.length : Int) == (p.items.length : Int)) = false := by rw [beq_eq_false_iff_ne]; omega
      obtain ⟨it, hit⟩ : ∃ y, p.items[ps.length]? = some y := ⟨_, List.getElem?_eq_getElem (by omega)⟩
      have HD : Hid (p.items.drop ps.length = it :: p.items.drop (ps.length + 1)) := Lib.hid (by
        obtain ⟨h1, h2⟩ := List.getElem?_eq_some_iff.1 hit
        rw [List.drop_eq_getElem_cons h1, h2])
      obtain ⟨_, him⟩ := G.it it (List.mem_of_getElem? hit)
      obtain ⟨mm, hmm⟩ : ∃ k : Nat, it.m + 1 = (k : Int) := ⟨(it.m + 1).toNat, by omega⟩
      have HWD : Hid (walkD p.d.judges p.d.wrong (p.items.drop ps.length) ps = walkTo p.d.judges p.d.wrong (p.items.drop (ps.length + 1)) ps mm) := Lib.hid (by
        rw [HD.out, walkD_cons, if_pos (show (wrongC p.d.judges ps : Int) ≤ p.d.wrong from hw), hmm, Int.toNat_natCast])
      obtain ⟨ib, io, it', hia, hib, hic, hit'⟩ := HE4.out.paper.items.at_ (i := ps.length) (by omega)
      obtain rfl : it' = it := Option.some.inj ((show p.items[ps.length]? = some it' from hit').symm.trans hit)
      have hc1 : W4.cell? ⟨ib, io + ps.length * 2 + 1, none⟩ = some (.int .i64 it'.m) := hic 1 (by omega)
      have hs0 : W4.cell? ⟨bs, 0, none⟩ = some (.slice (some ⟨ib, io, none⟩) p.items.length p.ic) := (hsc 0).trans (by show some (Value.slice p.ia p.items.length p.ic) = _; rw [hia])
      have hq0 : (0 : Int) ≤ (ps.length : Int) := by omega
      have hq1 : (ps.length : Int) < (p.items.length : Int) := by omega
      have hq4 : (ps.length : Int) < 4 := by omega
      have hwm : IntKind.i64.wrap (it'.m + 1) = (mm : Int) := by rw [IntWalk.i64_in _ (by omega)]; exact hmm
      have HALL : Hid (pre ++ walkTo p.d.judges p.d.wrong (p.items.drop (ps.length + 1)) ps mm ++ post = truthsL p.d) := Lib.hid (by rw [← HWD.out]; exact hall)
      have hwk : IntKind.i64.wrap ((ps.length : Int) + 1) = (ps.length : Int) + 1 := IntWalk.i64_in _ (by omega)
      have HM30 : Hid (mm ≤ 31) := Lib.hid (by omega)
      clear hsc hit hit' hic hall hY hia
      go_wp2_with fail
      go_loopw [39] (fun iv wr => ∃ c : Nat, c ≤ mm ∧ iv = .int .i64 (c : Nat) ∧ KeepE n₀ q base bt W1 wr ∧ TAt wr bt 81 p.items.length ps ∧ J (pre ++ walkTo p.d.judges p.d.wrong (p.items.drop (ps.length + 1)) ps c) wr ∧ base ≤ wr.heap.size ∧ BlockIs wr bb 107 (cellsB (biasP p.d.judges ps))) (fun iv _ => mm - (intOf iv).toNat)
      case atStart => exact ⟨0, Nat.zero_le _, rfl, HK4.out, HT4.out, by rw [show walkTo p.d.judges p.d.wrong (p.items.drop (ps.length + 1)) ps 0 = [] from rfl, List.append_nil]; exact HJ4.out, HL4.out, HB4.out⟩
      case round =>
        obtain ⟨c, hc, rfl, hkr, htr, hjr, hlr, hbr⟩ := hrel
        have HKR := Lib.hid hkr
        have HTR := Lib.hid htr
        have HJR := Lib.hid hjr
        have HLR := Lib.hid hlr
        have HBR := Lib.hid hbr
        have HER := Lib.hid (HE.out.keep hkr hbs hyb hbx n1 n2 n3)
        clear hkr htr hjr hlr hbr
        by_cases hlt : c < mm
        · have hd : decide ((c : Int) < (mm : Int)) = true := decide_eq_true (by omega)
          obtain ⟨⟨v0, hv0⟩, hfz⟩ := HTR.out.spot (k := ps.length) (by omega)
          go_upto_region 10 with fail
          obtain ⟨W7, hW7⟩ : ∃ z, wr.setCell ⟨bt, ps.length, none⟩ (.int .i64 (c : Nat)) = z := ⟨_, rfl⟩
          have HK7 : Hid (KeepE n₀ q base bt W1 W7) := Lib.hid (by rw [← hW7]; exact HKR.out.trans (KeepE.store _ _ _ (Nat.le_trans hn0 hbt)))
          have HT7 : Hid (TAt W7 bt 81 p.items.length (ps ++ [(c : Int)])) := Lib.hid (by rw [← hW7]; exact HTR.out.store (by omega) hi4 _)
          have HJ7 : Hid (J (pre ++ walkTo p.d.judges p.d.wrong (p.items.drop (ps.length + 1)) ps c) W7) := Lib.hid (by rw [← hW7]; exact hJl _ _ _ HJR.out ((Below.refl _ _).setCell (p := ⟨bt, _, none⟩) hbt _))
          have HL7 : Hid (base ≤ W7.heap.size) := Lib.hid (by rw [← hW7]; simpa using HLR.out)
          have HB7 := Lib.hid (HBR.out.far (p := ⟨bt, ps.length, none⟩) hbn (.int .i64 (c : Nat)))
          rw [hW7] at HB7 ⊢
          have HE7 := Lib.hid (HE.out.keep HK7.out hbs hyb hbx n1 n2 n3)
          clear hW7 hv0 hfz HER
          have hn7 : n₀ ≤ W7.heap.size := Nat.le_trans hn0 HL7.out
          have HNA := Lib.hid (fun (w0 : World) (hg : Grow W7 w0) => narrow_any p G ps (c : Int) w0 ((HE7.out.paper.below (Below.mono hg hn7)).more (Nat.le_trans hn7 hg.size)) (by omega) (by have := HM30.out; omega))
          refine wp_region_lit 8 [[], [], [(1, 46)], [], [], [], [], [(3, 48), (4, 49), (5, 50), (6, 51)]] Grow (fun qi v w' => match qi with
              | 0 => v = .func (.func 67) #[] (capT bs yb bt bx)
              | 1 => v = .int .i64 (ps.length : Nat)
              | 2 => v = .int .i64 ((ps.length : Int) + 1)
              | 3 => v = paperV p
              | 4 => v = .agg (cellsB (biasP p.d.judges ps))
              | 5 => v = .int .i64 (ps.length : Nat)
              | 6 => v = .int .i64 (c : Nat)
              | 7 => v = .agg (cellsB (biasP p.d.judges (ps ++ [(c : Int)])))
              | _ => False) (by kernel_rfl) (by kernel_rfl) (fun _ _ _ => Grow.trans) Grow.refl ?_ ?_ ?_
          · intro i v y y' h k
            match i, h with
            | 0, h | 1, h | 2, h | 3, h | 4, h | 5, h | 6, h | 7, h => exact h
          · simp only [StepsLit, List.take_succ_cons, List.take_zero]
            refine ⟨?_, ?_, ?_, ?_, ?_, ?_, ?_, ?_, trivial⟩
            · intro w5b hR
              have hGw : Grow W7 w5b := hR.of_drew
              have HGW := Lib.hid hGw
              have hsc := (HGW.out.block HE7.out.survey).cell
              have hbc := (HGW.out.block HB7.out).cell
              have hxc := (HGW.out.block HE7.out.ext).cell 0
              clear hR hGw
              simp only [depV]
              try go_simp
              all_goals first
                | (with_reducible exact Grow.refl _)
                | (with_reducible exact ⟨Grow.refl _, rfl⟩)
            · intro w5b hR
              have hGw : Grow W7 w5b := hR.of_drew
              have HGW := Lib.hid hGw
              have hsc := (HGW.out.block HE7.out.survey).cell
              have hbc := (HGW.out.block HB7.out).cell
              have hxc := (HGW.out.block HE7.out.ext).cell 0
              clear hR hGw
              simp only [depV]
              try go_simp
              all_goals first
                | (with_reducible exact Grow.refl _)
                | (with_reducible exact ⟨Grow.refl _, rfl⟩)
            · intro w5b hR
              have hGw : Grow W7 w5b := hR.of_drew
              have HGW := Lib.hid hGw
              have hsc := (HGW.out.block HE7.out.survey).cell
              have hbc := (HGW.out.block HB7.out).cell
              have hxc := (HGW.out.block HE7.out.ext).cell 0
              clear hR hGw
              simp only [depV]
              rintro _ rfl
              try go_simp
              all_goals first
                | (with_reducible exact Grow.refl _)
                | (with_reducible exact ⟨Grow.refl _, rfl⟩)
            · intro w5b hR
              have hGw : Grow W7 w5b := hR.of_drew
              have HGW := Lib.hid hGw
              have hsc := (HGW.out.block HE7.out.survey).cell
              have hbc := (HGW.out.block HB7.out).cell
              have hxc := (HGW.out.block HE7.out.ext).cell 0
              clear hR hGw
              simp only [depV]
              try go_simp
              all_goals first
                | (with_reducible exact Grow.refl _)
                | (with_reducible exact ⟨Grow.refl _, rfl⟩)
            · intro w5b hR
              have hGw : Grow W7 w5b := hR.of_drew
              have HGW := Lib.hid hGw
              have hsc := (HGW.out.block HE7.out.survey).cell
              have hbc := (HGW.out.block HB7.out).cell
              have hxc := (HGW.out.block HE7.out.ext).cell 0
              clear hR hGw
              simp only [depV]
              try go_simp
              all_goals first
                | (with_reducible exact Grow.refl _)
                | (with_reducible exact ⟨Grow.refl _, rfl⟩)
            · intro w5b hR
              have hGw : Grow W7 w5b := hR.of_drew
              have HGW := Lib.hid hGw
              have hsc := (HGW.out.block HE7.out.survey).cell
              have hbc := (HGW.out.block HB7.out).cell
              have hxc := (HGW.out.block HE7.out.ext).cell 0
              clear hR hGw
              simp only [depV]
              try go_simp
              all_goals first
                | (with_reducible exact Grow.refl _)
                | (with_reducible exact ⟨Grow.refl _, rfl⟩)
            · intro w5b hR
              have hGw : Grow W7 w5b := hR.of_drew
              have HGW := Lib.hid hGw
              have hsc := (HGW.out.block HE7.out.survey).cell
              have hbc := (HGW.out.block HB7.out).cell
              have hxc := (HGW.out.block HE7.out.ext).cell 0
              clear hR hGw
              simp only [depV]
              try go_simp
              all_goals first
                | (with_reducible exact Grow.refl _)
                | (with_reducible exact ⟨Grow.refl _, rfl⟩)
            · intro w5b hR
              have hGw : Grow W7 w5b := hR.of_drew
              have HGW := Lib.hid hGw
              have hsc := (HGW.out.block HE7.out.survey).cell
              have hbc := (HGW.out.block HB7.out).cell
              have hxc := (HGW.out.block HE7.out.ext).cell 0
              clear hR hGw
              simp only [depV]
              rintro _ rfl
              rintro _ rfl
              rintro _ rfl
              rintro _ rfl
              try go_simp
              refine (HNA.out w5b HGW.out).mono ?_
              rintro e w6 ⟨rfl, hb6⟩
              exact ⟨hb6, rfl⟩
          · intro w5b hR
            have HG5b : Hid (Grow W7 w5b) := Lib.hid hR.of_drew
            clear hR
            simp only [finVC, List.take_succ_cons, List.take_zero, List.drop_succ_cons, List.drop_zero]
            rintro _ rfl
            rintro _ rfl
            rintro _ rfl
            rintro _ rfl
            rintro _ rfl
            rintro _ rfl
            rintro _ rfl
            rintro _ rfl
            simp only [Act.put, List.setIfInBounds_toArray, List.set_cons_succ, List.set_cons_zero]
            rename World => W8
            have hg8 : Grow W7 W8 := HG5b.out
            have HK8 : Hid (KeepE n₀ q base bt W1 W8) := Lib.hid (HK7.out.trans (KeepE.of_grow hg8 hn7))
            have HT8 := Lib.hid (HT7.out.grow hg8)
            have HJ8 : Hid (J (pre ++ walkTo p.d.judges p.d.wrong (p.items.drop (ps.length + 1)) ps c) W8) := Lib.hid (hJl _ _ _ HJ7.out (Below.mono hg8 HL7.out))
            have HL8 : Hid (base ≤ W8.heap.size) := Lib.hid (Nat.le_trans HL7.out hg8.size)
            have HB8 := Lib.hid (hg8.block HB7.out)
            have HE8 := Lib.hid (HE.out.keep HK8.out hbs hyb hbx n1 n2 n3)
            clear hg8 HG5b
            obtain ⟨more, hmore⟩ := walkTo_prefix p.d.judges p.d.wrong (p.items.drop (ps.length + 1)) ps (show c + 1 ≤ mm by omega)
            have hln : (ps ++ [(c : Int)]).length = ps.length + 1 := by simp
            have HIH := ih (ps ++ [(c : Int)]) (pre ++ walkTo p.d.judges p.d.wrong (p.items.drop (ps.length + 1)) ps c) (more ++ post) W8 (by omega) (by
              rw [hln, ← HALL.out, hmore, walkTo_succ]
              simp only [List.append_assoc]) HE8.out HT8.out HJ8.out HL8.out
            rw [hln, show ((ps.length + 1 : Nat) : Int) = (ps.length : Int) + 1 by omega] at HIH
            have HIH := Lib.hid HIH
            clear hmore hln
            go_wp2_with fail
            refine HIH.out.mono ?_
            rintro e W9 ⟨hk9, ht9, hj9⟩
            have HK9 : Hid (KeepE n₀ q base bt W1 W9) := Lib.hid (HK8.out.trans hk9)
            have HT9 := Lib.hid ht9.less
            have HB9 := Lib.hid (hk9.block hbl hbn HB8.out)
            have HL9 : Hid (base ≤ W9.heap.size) := Lib.hid (Nat.le_trans HL8.out hk9.size)
            clear hk9 ht9 HIH
            rcases hj9 with ⟨rfl, hj9⟩ | ⟨rfl, pr, hpr, hjx⟩
            · have HJ9 := Lib.hid hj9
              clear hj9
              go_wp2_with fail
              go_roundw
              case rel => exact ⟨c + 1, by omega, by go_num, HK9.out, HT9.out, by rw [walkTo_succ, ← List.append_assoc]; exact HJ9.out, HL9.out, HB9.out⟩
              case measure => simp [intOf]; omega
            · have HPX := Lib.hid hpr
              have HJX := Lib.hid hjx
              clear hpr hjx
              go_wp2_with fail
              go_ret
              exact ⟨HK9.out, HT9.out, .inr ⟨rfl, pr, HPX.out, HJX.out⟩⟩
        · obtain rfl : c = mm := by omega
          have hd : decide ((c : Int) < (c : Int)) = false := decide_eq_false (by omega)
          go_wp2
          go_ret
          exact ⟨HKR.out, HTR.out, .inl ⟨rfl, by rw [HWD.out]; exact HJR.out⟩⟩
    · have hdw : decide (p.wrong < (wrongC p.d.judges ps : Int)) = true := decide_eq_true (by omega)
      have HWN : Hid (walkD p.d.judges p.d.wrong (p.items.drop ps.length) ps = []) := Lib.hid (by
        cases p.items.drop ps.length with
        | nil => rw [walkD, if_neg (show ¬ (wrongC p.d.judges ps : Int) ≤ p.d.wrong from hw)]
        | cons y l => rw [walkD, if_neg (show ¬ (wrongC p.d.judges ps : Int) ≤ p.d.wrong from hw)])
      go_wp2_with fail
      go_quiet (first | (go_at_call 69; exact quiet_same (HON.out _)))
      have hg4 : Grow W3 (W3.drewN nq) := Below.drewN_ (Below.refl _ _) _
      go_wp2
      go_ret
      exact ⟨HK3.out.trans (KeepE.of_grow hg4 (Nat.le_trans hn0 HL3.out)), HT3.out.grow hg4, .inl ⟨rfl, by rw [HWN.out, List.append_nil]; exact hJl _ _ _ HJ3.out (Below.mono hg4 HL3.out)⟩⟩

end Go.Proofs.YthehkgpnnndboaaDoor
