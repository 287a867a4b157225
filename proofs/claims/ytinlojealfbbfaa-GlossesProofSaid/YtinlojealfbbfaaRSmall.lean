/- RSmall: the specification's smallest. -/
import Derived.Test.YtinlojealfbbfaaHeardM
import Derived.BigQuiet
namespace Go.Proofs.Ytinlojealfbbfaa
open Go.RowKit

theorem quiet_same {P : Program} {f : FuncId} {args : Array Value} {w : World} {n : Nat} {v : Value} (h : Calls P f args (w.drewN n) fun e w' => e = .returned v ∧ w.drewN n = w') :
    Calls P f args (w.drewN n) fun e w'' => e = .returned v ∧ ∃ m, w'' = w.drewN m := h.mono fun _ _ ⟨he, hk⟩ => ⟨he, n, hk.symm⟩
theorem popD_below : ∀ n : Nat, n ≤ 10 → ∀ k : Nat, k < 2 ^ n → popD k ≤ n := by
  have h : ∀ n ∈ List.range 11, ∀ k ∈ List.range (2 ^ n), popD k ≤ n := by decide +kernel
  exact fun n hn k hk => h n (List.mem_range.2 (by omega)) k (List.mem_range.2 hk)
/-- one more set, as the specification takes it -/
theorem readTo_empty {n : Nat} {l : List GlossD} {k : Nat} (hn : n ≤ 10) (hk : k < 2 ^ n) (h : (readTo n l k).1 = []) (ha : agreesD k l = true) : (readTo n l (k + 1)).1 = [k] := by
  have hi := readTo_is n l k
  have hf := hi.none h
  have hp := popD_below n hn k hk
  by_cases h1 : popD k < (readTo n l k).2
  · rw [readTo_new h1 ha]
  · rw [readTo_same (by omega) ha, h]; rfl
theorem readTo_head {n : Nat} {l : List GlossD} {k h0 : Nat} {S : List Nat} (h : (readTo n l k).1 = h0 :: S) : popD h0 = (readTo n l k).2 ∧ h0 < k := by
  have hi := (readTo_is n l k).all
  have hm : h0 ∈ (readTo n l k).1 := by rw [h]; simp
  rw [hi, List.mem_filter, List.mem_range] at hm
  simp only [Bool.and_eq_true, decide_eq_true_eq] at hm
  exact ⟨hm.2.2, hm.1⟩

set_option maxRecDepth 100000 in
set_option maxHeartbeats 8000000 in
theorem rsmall_any (f : FilmsR) (l : List GlossD) (A1 : Option Addr) (c1 n : Nat) (w : World) (hA : GlossAt w n A1 l) (hn : n ≤ w.heap.size) (hl : l.length ≤ 1000) (hs : ∀ x ∈ l, SignsOK x) (sn : Nat) (hsn : f.d.signs = sn) (h10 : sn ≤ 10) :
    Calls Try.prog 50 #[filmsV f, .slice A1 l.length c1] w fun e w' => ∃ A' c', e = .returned (.slice A' (readD sn l).length c') ∧ w'.ownsRow w.heap.size 3 1 (.slice A' (readD sn l).length c') (readD sn l).length ((natsL (readD sn l)).map (Value.int .i64)) ∧ Below w.heap.size w w' := by
  obtain ⟨⟨frames, signs⟩, A, ca⟩ := f
  dsimp only at hsn
  subst hsn
  obtain ⟨i0, hi, hz0, hz1, hz2⟩ := info_parts Try.infoInt
  have hp9 : 2 ^ sn ≤ 1024 := Nat.le_trans (Nat.pow_le_pow_right (n := 2) (by omega) h10) (by decide)
  have HAG := Lib.hid (fun (k : Nat) (hk : k < 1024) (w0 : World) (hw : Grow w w0) => rAgrees_any k l A1 c1 w0.heap.size w0 (((hA.more hn).below hw).more hw.size) hl hs (by omega))
  have HSZ := Lib.hid (fun (s : Nat) (w0 : World) (hk : s < 1024) => rSize_any s w0 hk)
  have HRD : Hid (readD sn l = (readTo sn l (2 ^ sn)).1) := rfl
  have HLN := Lib.hid (readTo_len sn l)
  have HEM := Lib.hid (fun (k : Nat) (hk : k < 2 ^ sn) (h : (readTo sn l k).1 = []) (ha : agreesD k l = true) => readTo_empty (n := sn) (l := l) h10 hk h ha)
  generalize readD sn l = res at HRD ⊢
  have hcv : IntKind.u64.wrap (sn : Int) = (sn : Int) := IntWalk.u64_in _ (by omega)
  have hsn0 : (0 : Int) ≤ (sn : Int) := by omega
  obtain ⟨pw, hpw⟩ : ∃ q, 2 ^ sn = q := ⟨_, rfl⟩
  have hwr : IntKind.i64.wrap ((2 : Int) ^ sn) = (pw : Int) := by
    have h : ((2 : Int) ^ sn) = ((2 ^ sn : Nat) : Int) := (Int.natCast_pow 2 sn).symm
    rw [h, hpw]
    exact IntWalk.i64_in _ (by omega)
  rw [hpw] at hp9 HRD HEM
  clear hA hn hl hs hpw
  go_enter Try.func50, Try.ntmps50
  go_upto_region 1 with fail
  obtain ⟨W, hW, hg, hf, hsz⟩ := one_block w 24 (cellsF ⟨⟨frames, (sn : Int)⟩, A, ca⟩)
  rw [hW]
  clear hW
  have HF := Lib.hid hf
  have HG := Lib.hid hg
  clear hf hg
  go_wp2_with fail
  go_loopw [5, 6] (fun v iv wr => ∃ (k : Nat) (S : List Nat) (A' : Option Addr) (c' : Nat), k ≤ pw ∧ iv = .int .i64 k ∧ v = .slice A' S.length c' ∧ Hid (S = (readTo sn l k).1) ∧ wr.ownsRow W.heap.size 3 1 (.slice A' S.length c') S.length ((natsL S).map (Value.int .i64)) ∧ Grow W wr) (fun _ v _ => pw - (intOf v).toNat)
  case atStart => exact ⟨0, [], none, 0, Nat.zero_le _, rfl, rfl, rfl, own_nil _ _ _, Grow.refl _⟩
  case round =>
    obtain ⟨k, S, A', c', hk, rfl, rfl, HS, hown, hgr⟩ := hrel
    rename World => wr
    have HOW := Lib.hid hown
    have HGR := Lib.hid hgr
    have hfc1 : wr.cell? ⟨w.heap.size, 1, none⟩ = some (.int .i64 (sn : Nat)) := (hgr.block HF.out).cell 1
    clear hown hgr
    by_cases hlt : k < pw
    · have hld : decide ((k : Int) < (pw : Int)) = true := decide_eq_true (by omega)
      have hldn : decide (k < pw) = true := decide_eq_true hlt
      have HLT := Lib.hid hlt
      have hk4 : k < 1024 := by omega
      have hS9 : S.length ≤ 1024 := by have h1 := HLN.out k; have h2 := HS.out; rw [← h2] at h1; omega
      have HAK := Lib.hid (HAG.out k hk4 wr (HG.out.trans HGR.out))
      obtain ⟨ag, hag⟩ : ∃ q, agreesD k l = q := ⟨_, rfl⟩
      have HGD := Lib.hid hag
      rw [hag] at HAK
      clear hag hlt
      go_wp2_with fail
      refine HAK.out.mono ?_
      rintro e w3 ⟨rfl, rfl⟩
      cases ag with
      | false =>
        have HSK : Hid (S = (readTo sn l (k + 1)).1) := Lib.hid (by rw [readTo_skip (.inr HGD.out)]; exact HS.out)
        go_wp2
        go_roundw
        case rel => exact ⟨k + 1, S, A', c', HLT.out, by go_num, rfl, HSK, HOW.out, HGR.out⟩
        case measure => have := HLT.out; simp [intOf]; omega
      | true =>
        match S, HS, HOW, hS9 with
        | [], HS, HOW, _ =>
          have HSN : Hid ([k] = (readTo sn l (k + 1)).1) := Lib.hid (HEM.out k HLT.out HS.out.symm HGD.out).symm
          have HOA := Lib.hid (own_grow HOW.out (Grow.alloc wr (.cells #[.int .i64 (k : Nat)] 3)))
          rw [show ([] : List Nat).length = 0 from rfl]
          go_upto_region 6 with fail
          go_quiet (fail)
          go_upto_region 8 with fail
          generalize hwa : World.drewN wr _ = wa
          have HGA : Hid (Grow wr wa) := Lib.hid (by rw [← hwa]; exact Below.drewN_ (Grow.refl wr) _)
          clear hwa
          try replace hc0 := HGA.out.cell hc0
          go_quiet (fail)
          go_upto_region 9 with fail
          generalize hwd : World.drewN wa _ = wd
          have HGD2 : Hid (Grow wr wd) := Lib.hid (by rw [← hwd]; exact Below.drewN_ HGA.out _)
          clear hwd
          have HOA : Hid ((wd.alloc (.cells #[.int .i64 (k : Nat)] 3)).ownsRow W.heap.size 3 1 (.slice A' 0 c') 0 []) := Lib.hid (own_grow HOW.out (HGD2.out.trans (Grow.alloc _ _)))
          go_wp2_with (at_builtin; go_loud (refine wpList_append_own _ rfl _ _ 22 rfl W.heap.size 3 i0 (.int .i64 0) 1 8 Try.underlying22 hi hz0 hz1 hz2 rfl (by omega) _ 0 [] rfl ?d0 ⟨wd.heap.size, 0, none⟩ 1 1 [.int .i64 (k : Nat)] rfl rfl ?d1 ?d2 ?d3 ?d4 ?d5 ?_))
          case d0 => exact HOA.out
          case d1 => exact news_one (BlockIs.new _ _ _)
          case d2 => simp [Value.oneCell']
          case d3 => unfold maxLen; omega
          case d4 => omega
          case d5 => have h1 := HGR.out.size; have h2 := HGD2.out.size; simp; omega
          intro v' wq hown hgr _
          obtain ⟨Aw, cw, rfl⟩ := own_form hown
          have HO3 : Hid (wq.ownsRow W.heap.size 3 1 (.slice Aw 1 cw) 1 ((natsL [k]).map (Value.int .i64))) := Lib.hid (by
            simpa using hown)
          have HGQ : Hid (Grow W wq) := Lib.hid (below_grown (HGR.out.trans (HGD2.out.trans (Grow.alloc _ _))) HOA.out hgr (by have h1 := HGR.out.size; have h2 := HGD2.out.size; simp; omega))
          clear hown hgr HOA
          go_wp2
          go_roundw
          case rel => exact ⟨k + 1, [k], Aw, cw, HLT.out, by go_num, rfl, HSN, HO3.out, HGQ.out⟩
          case measure => have := HLT.out; simp [intOf]; omega
        | h0 :: S, HS, HOW, hS9 =>
          have hh := readTo_head (n := sn) (l := l) (k := k) (h0 := h0) (S := S) HS.out.symm
          have hh4 : h0 < 1024 := by omega
          have HHP := Lib.hid hh.1
          obtain ⟨g, cs, rfl, hB, hcs⟩ : ∃ g cs, A' = some ⟨g, 0, none⟩ ∧ BlockIs wr g 3 cs ∧ cs[0]? = some (.int .i64 (h0 : Nat)) := by
            rcases HOW.out.2 with ⟨_, h2⟩ | ⟨g, c, cur, hv, _, hh', h2, h3, h4, h5⟩
            · simp at h2
            · injection hv with e1 _ _
              refine ⟨g, cur, e1, hh', ?_⟩
              have h6 := congrArg (fun q => q[0]?) h5
              rw [List.getElem?_take_of_lt (by simp)] at h6
              rw [← Array.getElem?_toList, h6]
              rfl
          have hc0 : wr.cell? ⟨g, 0, none⟩ = some (.int .i64 (h0 : Nat)) := by rw [hB.cell]; exact hcs
          obtain ⟨m9, hm9⟩ : ∃ q, (h0 :: S).length = q := ⟨_, rfl⟩
          have hm0 : 0 < m9 := by rw [← hm9]; simp
          have HM9 := Lib.hid hm9
          rw [hm9] at HOW hS9 ⊢
          have l1 : decide ((0 : Int) < (m9 : Int)) = true := decide_eq_true (by omega)
          have l1n : decide (0 < m9) = true := decide_eq_true hm0
          have l2 : ((m9 : Int) == 0) = false := by rw [beq_eq_false_iff_ne]; omega
          have l2n : decide ((m9 : Int) = 0) = false := decide_eq_false (by omega)
          have l3n : decide (m9 = 0) = false := decide_eq_false (by omega)
          have hml : (0 : Int) < (m9 : Int) := by omega
          clear hh hB hcs hm9
          rcases Nat.lt_trichotomy (popD k) (popD h0) with hp | hp | hp
          · have d1 : decide ((popD k : Int) < (popD h0 : Int)) = true := decide_eq_true (by omega)
            have d1n : decide (popD k < popD h0) = true := decide_eq_true hp
            have HSN : Hid ([k] = (readTo sn l (k + 1)).1) := Lib.hid (by rw [readTo_new (by rw [← HHP.out]; exact hp) HGD.out])
            clear hp
            go_upto_region 6 with fail
            go_quiet (first | (go_at_call 25; exact quiet_same (HSZ.out _ _ (by first | exact hk4 | exact hh4))))
            go_upto_region 8 with fail
            generalize hwa : World.drewN wr _ = wa
            have HGA : Hid (Grow wr wa) := Lib.hid (by rw [← hwa]; exact Below.drewN_ (Grow.refl wr) _)
            clear hwa
            try replace hc0 := HGA.out.cell hc0
            go_quiet (fail)
            go_upto_region 9 with fail
            generalize hwd : World.drewN wa _ = wd
            have HGD2 : Hid (Grow wr wd) := Lib.hid (by rw [← hwd]; exact Below.drewN_ HGA.out _)
            clear hwd
            have HOA : Hid ((wd.alloc (.cells #[.int .i64 (k : Nat)] 3)).ownsRow W.heap.size 3 1 (.slice none 0 0) 0 []) := Lib.hid (own_nil _ _ _)
            go_wp2_with (at_builtin; go_loud (refine wpList_append_own _ rfl _ _ 22 rfl W.heap.size 3 i0 (.int .i64 0) 1 8 Try.underlying22 hi hz0 hz1 hz2 rfl (by omega) _ 0 [] rfl ?d0 ⟨wd.heap.size, 0, none⟩ 1 1 [.int .i64 (k : Nat)] rfl rfl ?d1 ?d2 ?d3 ?d4 ?d5 ?_))
            case d0 => exact HOA.out
            case d1 => exact news_one (BlockIs.new _ _ _)
            case d2 => simp [Value.oneCell']
            case d3 => unfold maxLen; omega
            case d4 => omega
            case d5 => have h1 := HGR.out.size; have h2 := HGD2.out.size; simp; omega
            intro v' wq hown hgr _
            obtain ⟨Aw, cw, rfl⟩ := own_form hown
            have HO3 : Hid (wq.ownsRow W.heap.size 3 1 (.slice Aw 1 cw) 1 ((natsL [k]).map (Value.int .i64))) := Lib.hid (by
              simpa using hown)
            have HGQ : Hid (Grow W wq) := Lib.hid (below_grown (HGR.out.trans (HGD2.out.trans (Grow.alloc _ _))) HOA.out hgr (by have h1 := HGR.out.size; have h2 := HGD2.out.size; simp; omega))
            clear hown hgr HOA
            go_wp2
            go_roundw
            case rel => exact ⟨k + 1, [k], Aw, cw, HLT.out, by go_num, rfl, HSN, HO3.out, HGQ.out⟩
            case measure => have := HLT.out; simp [intOf]; omega
          · have d1 : decide ((popD k : Int) < (popD h0 : Int)) = false := decide_eq_false (by omega)
            have d1n : decide (popD k < popD h0) = false := decide_eq_false (by omega)
            have d2 : ((popD k : Int) == (popD h0 : Int)) = true := by simp [hp]
            have d2n : decide ((popD k : Int) = (popD h0 : Int)) = true := decide_eq_true (by omega)
            have d3n : decide (popD k = popD h0) = true := decide_eq_true hp
            have HSN : Hid (h0 :: S ++ [k] = (readTo sn l (k + 1)).1) := Lib.hid (by rw [readTo_same (by rw [← HHP.out]; exact hp) HGD.out, ← HS.out])
            clear hp
            go_upto_region 6 with fail
            go_quiet (first | (go_at_call 25; exact quiet_same (HSZ.out _ _ (by first | exact hk4 | exact hh4))))
            go_upto_region 8 with fail
            generalize hwa : World.drewN wr _ = wa
            have HGA : Hid (Grow wr wa) := Lib.hid (by rw [← hwa]; exact Below.drewN_ (Grow.refl wr) _)
            clear hwa
            try replace hc0 := HGA.out.cell hc0
            go_quiet (first | (go_at_call 25; exact quiet_same (HSZ.out _ _ (by first | exact hk4 | exact hh4))))
            go_upto_region 9 with fail
            generalize hwd : World.drewN wa _ = wd
            have HGD2 : Hid (Grow wr wd) := Lib.hid (by rw [← hwd]; exact Below.drewN_ HGA.out _)
            clear hwd
            have HOA := Lib.hid (own_grow HOW.out (HGD2.out.trans (Grow.alloc wd (.cells #[.int .i64 (k : Nat)] 3))))
            go_wp2_with (at_builtin; go_loud (refine wpList_append_own _ rfl _ _ 22 rfl W.heap.size 3 i0 (.int .i64 0) 1 8 Try.underlying22 hi hz0 hz1 hz2 rfl (by omega) _ m9 ((natsL (h0 :: S)).map (Value.int .i64)) rfl ?d0 ⟨wd.heap.size, 0, none⟩ 1 1 [.int .i64 (k : Nat)] rfl rfl ?d1 ?d2 ?d3 ?d4 ?d5 ?_))
            case d0 => exact HOA.out
            case d1 => exact news_one (BlockIs.new _ _ _)
            case d2 => simp [Value.oneCell']
            case d3 => unfold maxLen; omega
            case d4 => omega
            case d5 => have h1 := HGR.out.size; have h2 := HGD2.out.size; simp; omega
            intro v' wq hown hgr _
            obtain ⟨Aw, cw, rfl⟩ := own_form hown
            have HO3 : Hid (wq.ownsRow W.heap.size 3 1 (.slice Aw (m9 + 1) cw) (m9 + 1) ((natsL (h0 :: S ++ [k])).map (Value.int .i64))) := Lib.hid (by
              rw [← natsL_snoc, List.map_append]
              simpa using hown)
            have HGQ : Hid (Grow W wq) := Lib.hid (below_grown (HGR.out.trans (HGD2.out.trans (Grow.alloc _ _))) HOA.out hgr (by have h1 := HGR.out.size; have h2 := HGD2.out.size; simp; omega))
            clear hown hgr HOA
            go_wp2
            go_roundw
            case rel => exact ⟨k + 1, (h0 :: S ++ [k]), Aw, cw, HLT.out, by go_num, congrArg (fun z => Value.slice Aw z cw) (by rw [List.length_append, HM9.out]; rfl), HSN, by rw [show (h0 :: S ++ [k]).length = m9 + 1 by rw [List.length_append, HM9.out]; rfl]; exact HO3.out, HGQ.out⟩
            case measure => have := HLT.out; simp [intOf]; omega
          · have d1 : decide ((popD k : Int) < (popD h0 : Int)) = false := decide_eq_false (by omega)
            have d1n : decide (popD k < popD h0) = false := decide_eq_false (by omega)
            have d2 : ((popD k : Int) == (popD h0 : Int)) = false := by rw [beq_eq_false_iff_ne]; omega
            have d2n : decide ((popD k : Int) = (popD h0 : Int)) = false := decide_eq_false (by omega)
            have d3n : decide (popD k = popD h0) = false := decide_eq_false (by omega)
            have HSN : Hid (h0 :: S = (readTo sn l (k + 1)).1) := Lib.hid (by rw [readTo_skip (.inl (by rw [← HHP.out]; exact hp)), ← HS.out])
            clear hp
            go_upto_region 6 with fail
            go_quiet (first | (go_at_call 25; exact quiet_same (HSZ.out _ _ (by first | exact hk4 | exact hh4))))
            go_upto_region 8 with fail
            generalize hwa : World.drewN wr _ = wa
            have HGA : Hid (Grow wr wa) := Lib.hid (by rw [← hwa]; exact Below.drewN_ (Grow.refl wr) _)
            clear hwa
            try replace hc0 := HGA.out.cell hc0
            go_quiet (first | (go_at_call 25; exact quiet_same (HSZ.out _ _ (by first | exact hk4 | exact hh4))))
            go_wp2
            go_roundw
            case rel => exact ⟨k + 1, h0 :: S, _, c', HLT.out, by go_num, congrArg (fun z => Value.slice _ z c') HM9.out.symm, HSN, by rw [HM9.out]; exact own_grow HOW.out (Below.drewN_ HGA.out _), HGR.out.trans (Below.drewN_ HGA.out _)⟩
            case measure => have := HLT.out; simp [intOf]; omega
    · obtain rfl : k = pw := by omega
      have hld : decide ((k : Int) < (k : Int)) = false := by simp
      have hldn : decide (k < k) = false := by simp
      have HR1 : Hid (S = res) := Lib.hid (HS.out.trans HRD.out.symm)
      have HNR : Hid (S.length = res.length) := Lib.hid (by rw [HR1.out])
      have HOR := Lib.hid (own_mono HOW.out HG.out.size)
      clear hlt
      go_wp2
      go_ret
      exact ⟨A', c', congrArg (fun z => Ending.returned (Value.slice A' z c')) HNR.out, by rw [← HR1.out]; exact HOR.out, HG.out.trans HGR.out⟩

end Go.Proofs.Ytinlojealfbbfaa
