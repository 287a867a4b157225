/- Readings: the smallest sets that agree with some glosses, as the program finds them. -/
import Derived.Test.YtinlojealfbbfaaCount
namespace Go.Proofs.Ytinlojealfbbfaa
open Go.RowKit

abbrev natsL (l : List Nat) : List Int := l.map fun (n : Nat) => (n : Int)
theorem Try.infoInt : (Try.prog.info? 3).map (fun i => (i.zero, i.size, i.bytes)) = some (some (.int .i64 0), 1, 8) := by kernel_rfl
theorem natsL_snoc (xs : List Nat) (h : Nat) : natsL xs ++ [(h : Int)] = natsL (xs ++ [h]) := by simp
theorem own_nil (w : World) (lo : Nat) (t : TypeId) : w.ownsRow lo t 1 (.slice none 0 0) 0 [] := ⟨rfl, .inl ⟨rfl, rfl⟩⟩
/-- the sets found among those below k, and their size -/
def readTo (n : Nat) (l : List GlossD) : Nat → List Nat × Nat
  | 0 => ([], n)
  | k + 1 => if (decide ((readTo n l k).2 < popD k) || !agreesD k l) = true then readTo n l k else if popD k < (readTo n l k).2 then ([k], popD k) else ((readTo n l k).1 ++ [k], (readTo n l k).2)
def readD (n : Nat) (l : List GlossD) : List Nat := (readTo n l (2 ^ n)).1
theorem readTo_len (n : Nat) (l : List GlossD) : ∀ k, (readTo n l k).1.length ≤ k
  | 0 => Nat.le_refl _
  | k + 1 => by
    have ih := readTo_len n l k
    unfold readTo
    split
    · omega
    · split
      · simp
      · simp; exact ih
theorem popD_le (s : Nat) : popD s ≤ 10 := by
  unfold popD
  have h : ∀ (l : List Nat), (l.map fun i => s / 2 ^ i % 2).sum ≤ l.length := by
    intro l
    induction l with
    | nil => simp
    | cons a l ih => simp only [List.map_cons, List.sum_cons, List.length_cons]; omega
  exact h (List.range 10)
theorem readTo_fw (n : Nat) (l : List GlossD) (hn : n ≤ 10) : ∀ k, (readTo n l k).2 ≤ 10
  | 0 => hn
  | k + 1 => by
    have ih := readTo_fw n l hn k
    unfold readTo
    split
    · exact ih
    · split
      · exact popD_le k
      · exact ih
theorem readTo_skip {n : Nat} {l : List GlossD} {k : Nat} (h : (readTo n l k).2 < popD k ∨ agreesD k l = false) : readTo n l (k + 1) = readTo n l k := by
  show (if _ then _ else _) = _
  rw [if_pos (by rcases h with h | h <;> simp [h])]
theorem readTo_new {n : Nat} {l : List GlossD} {k : Nat} (h : popD k < (readTo n l k).2) (ha : agreesD k l = true) : readTo n l (k + 1) = ([k], popD k) := by
  show (if _ then _ else _) = _
  rw [if_neg (by simp [ha]; omega), if_pos h]
theorem readTo_same {n : Nat} {l : List GlossD} {k : Nat} (h : popD k = (readTo n l k).2) (ha : agreesD k l = true) : readTo n l (k + 1) = ((readTo n l k).1 ++ [k], (readTo n l k).2) := by
  show (if _ then _ else _) = _
  rw [if_neg (by simp [ha]; omega), if_neg (by omega)]

set_option maxRecDepth 100000 in
set_option maxHeartbeats 8000000 in
theorem readings_any (f : FilmsR) (m h : RowG) (l : List GlossD) (A1 : Option Addr) (c1 n : Nat) (w : World) (hA : GlossAt w n A1 l) (hn : n ≤ w.heap.size) (hl : l.length ≤ 1000) (hs : ∀ x ∈ l, SignsOK x) (sn : Nat) (hsn : f.d.signs = sn) (h10 : sn ≤ 10) :
    Calls Try.prog 44 #[notesV f m h, .slice A1 l.length c1] w fun e w' => ∃ A' c', e = .returned (.slice A' (readD sn l).length c') ∧ w'.ownsRow w.heap.size 3 1 (.slice A' (readD sn l).length c') (readD sn l).length ((natsL (readD sn l)).map (Value.int .i64)) ∧ Below w.heap.size w w' := by
  obtain ⟨⟨frames, signs⟩, A, ca⟩ := f
  dsimp only at hsn
  subst hsn
  obtain ⟨i0, hi, hz0, hz1, hz2⟩ := info_parts Try.infoInt
  have hp9 : 2 ^ sn ≤ 1024 := Nat.le_trans (Nat.pow_le_pow_right (n := 2) (by omega) h10) (by decide)
  have HAG := Lib.hid (fun (k : Nat) (hk : k < 1024) (w0 : World) (hw : Grow w w0) => agrees_any k l A1 c1 w.heap.size w0 ((hA.more hn).below hw) hw.size hl hs (by omega))
  have HCN := Lib.hid (fun (k : Nat) (hk : k < 1024) (w0 : World) => count_any k w0 hk)
  have HRD : Hid (readD sn l = (readTo sn l (2 ^ sn)).1) := rfl
  generalize readD sn l = res at HRD ⊢
  obtain ⟨pw, hpw⟩ : ∃ q, 2 ^ sn = q := ⟨_, rfl⟩
  have HWR : Hid (wrap64 ((2 : Int) ^ sn) = (pw : Int)) := Lib.hid (by
    have h : ((2 : Int) ^ sn) = ((2 ^ sn : Nat) : Int) := (Int.natCast_pow 2 sn).symm
    rw [h, hpw]
    exact IntWalk.wrap64_in _ (by omega))
  rw [hpw] at hp9 HRD
  have HF10 := Lib.hid (readTo_fw sn l h10)
  have HLN := Lib.hid (readTo_len sn l)
  clear hA hn hl hs hpw
  go_enter Try.func44, Try.ntmps44
  go_upto_region 1 with fail
  obtain ⟨W, hW, hg, hf, hsz⟩ := one_block w 71 (cellsN ⟨⟨frames, (sn : Int)⟩, A, ca⟩ m h)
  rw [hW]
  clear hW
  have hcc := hf.cell
  have HG := Lib.hid hg
  clear hf hg
  go_upto_region 4 with fail
  rw [HWR.out]
  clear hcc
  go_wp2_with fail
  go_loopw [5, 6, 16] (fun v fv iv wr => ∃ (k n fw : Nat) (A' : Option Addr) (c' : Nat), k ≤ pw ∧ iv = .int .i64 k ∧ v = .slice A' n c' ∧ fv = .int .i64 fw ∧ Hid (n = (readTo sn l k).1.length) ∧ Hid (fw = (readTo sn l k).2) ∧ wr.ownsRow W.heap.size 3 1 (.slice A' n c') n ((natsL (readTo sn l k).1).map (Value.int .i64)) ∧ Grow W wr) (fun _ _ v _ => pw - (intOf v).toNat)
  case atStart => exact ⟨0, 0, sn, none, 0, Nat.zero_le _, rfl, rfl, rfl, rfl, rfl, own_nil _ _ _, Grow.refl _⟩
  case round =>
    obtain ⟨k, n, fw, A', c', hk, rfl, rfl, rfl, HN, HFW, hown, hgr⟩ := hrel
    rename World => wr
    have HOW := Lib.hid hown
    have HGR := Lib.hid hgr
    clear hown hgr
    by_cases hlt : k < pw
    · have hld : decide ((k : Int) < (pw : Int)) = true := decide_eq_true (by omega)
      have hldn : decide (k < pw) = true := decide_eq_true hlt
      have HLT := Lib.hid hlt
      have hk4 : k < 1024 := by omega
      have hn9 : n ≤ 1024 := by have h1 := HLN.out k; have h2 := HN.out; omega
      have hfw9 : fw ≤ 10 := by have h1 := HF10.out k; have h2 := HFW.out; omega
      have HAK := Lib.hid (HAG.out k hk4 wr (HG.out.trans HGR.out))
      have hpk9 := popD_le k
      obtain ⟨pk, hpk⟩ : ∃ q, popD k = q := ⟨_, rfl⟩
      have HPK := Lib.hid hpk
      have HCK := Lib.hid (HCN.out k hk4)
      rw [hpk] at HCK hpk9
      obtain ⟨ag, hag⟩ : ∃ q, agreesD k l = q := ⟨_, rfl⟩
      have HGD := Lib.hid hag
      rw [hag] at HAK
      clear hpk hag hlt
      go_wp2_with fail
      refine (HCK.out _).mono ?_
      rintro e w2 ⟨rfl, rfl⟩
      by_cases h1 : fw < pk
      · have d1 : decide ((fw : Int) < (pk : Int)) = true := decide_eq_true (by omega)
        have d1n : decide (fw < pk) = true := decide_eq_true h1
        have HSK : Hid (readTo sn l (k + 1) = readTo sn l k) := Lib.hid (readTo_skip (.inl (by rw [← HFW.out, HPK.out]; exact h1)))
        clear h1
        go_wp2
        go_roundw
        case rel => exact ⟨k + 1, n, fw, A', c', HLT.out, by go_num, rfl, rfl, by rw [HSK.out]; exact HN.out, by rw [HSK.out]; exact HFW.out, by rw [HSK.out]; exact HOW.out, HGR.out⟩
        case measure => have := HLT.out; simp [intOf]; omega
      · have d1 : decide ((fw : Int) < (pk : Int)) = false := decide_eq_false (by omega)
        have d1n : decide (fw < pk) = false := decide_eq_false h1
        go_wp2_with fail
        refine HAK.out.mono ?_
        rintro e w3 ⟨rfl, hb3⟩
        have HG3 : Hid (Grow wr w3) := hb3
        clear hb3
        cases ag with
        | false =>
          have HSK : Hid (readTo sn l (k + 1) = readTo sn l k) := Lib.hid (readTo_skip (.inr HGD.out))
          clear h1
          go_wp2
          go_roundw
          case rel => exact ⟨k + 1, n, fw, A', c', HLT.out, by go_num, rfl, rfl, by rw [HSK.out]; exact HN.out, by rw [HSK.out]; exact HFW.out, by rw [HSK.out]; exact own_grow HOW.out HG3.out, HGR.out.trans HG3.out⟩
          case measure => have := HLT.out; simp [intOf]; omega
        | true =>
          by_cases h2 : pk < fw
          · have d2 : decide ((pk : Int) < (fw : Int)) = true := decide_eq_true (by omega)
            have d2n : decide (pk < fw) = true := decide_eq_true h2
            have HNW : Hid (readTo sn l (k + 1) = ([k], pk)) := Lib.hid (by rw [← HPK.out]; exact readTo_new (by rw [HPK.out, ← HFW.out]; exact h2) HGD.out)
            clear h1 h2
            have HOA : Hid ((w3.alloc (.cells #[.int .i64 (k : Nat)] 3)).ownsRow W.heap.size 3 1 (.slice none 0 0) 0 []) := Lib.hid (own_nil _ _ _)
            go_wp2_with (at_builtin; go_loud (refine wpList_append_own _ rfl _ _ 22 rfl W.heap.size 3 i0 (.int .i64 0) 1 8 Try.underlying22 hi hz0 hz1 hz2 rfl (by omega) _ 0 ([]) rfl ?d0 ⟨w3.heap.size, 0, none⟩ 1 1 [.int .i64 (k : Nat)] rfl rfl ?d1 ?d2 ?d3 ?d4 ?d5 ?_))
            case d0 => exact HOA.out
            case d1 => exact news_one (BlockIs.new _ _ _)
            case d2 => simp [Value.oneCell']
            case d3 => unfold maxLen; omega
            case d4 => omega
            case d5 => have h1 := HGR.out.size; have h2 := HG3.out.size; simp; omega
            intro v' wq hown hgr _
            obtain ⟨Aw, cw, rfl⟩ := own_form hown
            have HO3 : Hid (wq.ownsRow W.heap.size 3 1 (.slice Aw 1 cw) 1 ((natsL [k]).map (Value.int .i64))) := Lib.hid (by simpa using hown)
            have HGQ : Hid (Grow W wq) := Lib.hid (below_grown (HGR.out.trans (HG3.out.trans (Grow.alloc _ _))) HOA.out hgr (by have h1 := HGR.out.size; have h2 := HG3.out.size; simp; omega))
            clear hown hgr HOA
            go_wp2
            go_roundw
            case rel => exact ⟨k + 1, 1, pk, Aw, cw, HLT.out, by go_num, rfl, rfl, by rw [HNW.out]; rfl, by rw [HNW.out]; rfl, by rw [HNW.out]; exact HO3.out, HGQ.out⟩
            case measure => have := HLT.out; simp [intOf]; omega
          · have d2 : decide ((pk : Int) < (fw : Int)) = false := decide_eq_false (by omega)
            have d2n : decide (pk < fw) = false := decide_eq_false h2
            have HSM : Hid (readTo sn l (k + 1) = ((readTo sn l k).1 ++ [k], fw)) := Lib.hid (by rw [HFW.out]; exact readTo_same (by rw [HPK.out, ← HFW.out]; omega) HGD.out)
            clear h1 h2
            have HOA := Lib.hid (own_grow HOW.out (HG3.out.trans (Grow.alloc w3 (.cells #[.int .i64 (k : Nat)] 3))))
            go_wp2_with (at_builtin; go_loud (refine wpList_append_own _ rfl _ _ 22 rfl W.heap.size 3 i0 (.int .i64 0) 1 8 Try.underlying22 hi hz0 hz1 hz2 rfl (by omega) _ n ((natsL (readTo sn l k).1).map (Value.int .i64)) rfl ?d0 ⟨w3.heap.size, 0, none⟩ 1 1 [.int .i64 (k : Nat)] rfl rfl ?d1 ?d2 ?d3 ?d4 ?d5 ?_))
            case d0 => exact HOA.out
            case d1 => exact news_one (BlockIs.new _ _ _)
            case d2 => simp [Value.oneCell']
            case d3 => unfold maxLen; omega
            case d4 => omega
            case d5 => have h1 := HGR.out.size; have h2 := HG3.out.size; simp; omega
            intro v' wq hown hgr _
            obtain ⟨Aw, cw, rfl⟩ := own_form hown
            have HO3 : Hid (wq.ownsRow W.heap.size 3 1 (.slice Aw (n + 1) cw) (n + 1) ((natsL ((readTo sn l k).1 ++ [k])).map (Value.int .i64))) := Lib.hid (by
              rw [← natsL_snoc, List.map_append]
              simpa using hown)
            have HGQ : Hid (Grow W wq) := Lib.hid (below_grown (HGR.out.trans (HG3.out.trans (Grow.alloc _ _))) HOA.out hgr (by have h1 := HGR.out.size; have h2 := HG3.out.size; simp; omega))
            have HN3 : Hid (n + 1 = ((readTo sn l k).1 ++ [k]).length) := Lib.hid (by rw [List.length_append, ← HN.out]; rfl)
            clear hown hgr HOA
            go_wp2
            go_roundw
            case rel => exact ⟨k + 1, n + 1, fw, Aw, cw, HLT.out, by go_num, rfl, rfl, by rw [HSM.out]; exact HN3.out, by rw [HSM.out]; rfl, by rw [HSM.out]; exact HO3.out, HGQ.out⟩
            case measure => have := HLT.out; simp [intOf]; omega
    · obtain rfl : k = pw := by omega
      have hld : decide ((k : Int) < (k : Int)) = false := by simp
      have hldn : decide (k < k) = false := by simp
      have HR1 : Hid ((readTo sn l k).1 = res) := Lib.hid HRD.out.symm
      have HNR : Hid (n = res.length) := Lib.hid (by rw [← HR1.out]; exact HN.out)
      have HOR : Hid (wr.ownsRow w.heap.size 3 1 (.slice A' n c') n ((natsL res).map (Value.int .i64))) := Lib.hid (by
        rw [← HR1.out]
        obtain ⟨h1, h | ⟨g, c, cur, hv, hg, r⟩⟩ := HOW.out
        · exact ⟨h1, .inl h⟩
        · exact ⟨h1, .inr ⟨g, c, cur, hv, Nat.le_trans HG.out.size hg, r⟩⟩)
      clear hlt
      go_wp2
      go_ret
      exact ⟨A', c', congrArg (fun z => Ending.returned (Value.slice A' z c')) HNR.out, by rw [← HNR.out]; exact HOR.out, HG.out.trans HGR.out⟩

end Go.Proofs.Ytinlojealfbbfaa
