/- Which forms and entries agree with what was seen. -/
import Derived.Test.YtfpmkolaiomabaaGreatSeen
namespace Go.Proofs.YtfpmkolaiomabaaGreat
open Go.RowKit

/-- how many of the seen moves were found, after one more of the form's moves -/
def stepF (ss : List Int) (n : Nat) (d : Int) : Nat := match ss[n]? with
  | some x => if hasD x d then n + 1 else n
  | none => n
def foundD (ss ms : List Int) : Nat := ms.foldl (stepF ss) 0
theorem stepF_le {ss : List Int} {n : Nat} (h : n ≤ ss.length) (d : Int) : stepF ss n d ≤ ss.length := by
  unfold stepF
  split
  next x hx =>
    have := (List.getElem?_eq_some_iff.1 hx).1
    split <;> omega
  next => exact h
theorem foundD_le (ss ms : List Int) : foundD ss ms ≤ ss.length := by
  suffices h : ∀ (l : List Int) (n : Nat), n ≤ ss.length → l.foldl (stepF ss) n ≤ ss.length from h ms 0 (Nat.zero_le _)
  intro l
  induction l with
  | nil => exact fun _ h => h
  | cons d l ih => exact fun n h => ih _ (stepF_le h d)
theorem foundD_take {ss ms : List Int} {k : Nat} {d : Int} (h : ms[k]? = some d) : foundD ss (ms.take (k + 1)) = stepF ss (foundD ss (ms.take k)) d := by
  rw [take_snoc h, foundD, List.foldl_append]
  rfl
theorem stepF_some {ss : List Int} {n : Nat} {x d : Int} (h : ss[n]? = some x) : stepF ss n d = if hasD x d = true then n + 1 else n := by
  unfold stepF; rw [h]
theorem stepF_none {ss : List Int} {n : Nat} {d : Int} (h : ¬n < ss.length) : stepF ss n d = n := by
  unfold stepF; rw [List.getElem?_eq_none (by omega)]
def agreesMovesD (s : SeenD) (ms : List Int) : Bool := decide (foundD s.moves ms = s.moves.length) && decide ((ms.length : Int) - foundD s.moves ms ≤ s.lost)

set_option maxRecDepth 100000 in
set_option maxHeartbeats 4000000 in
theorem agreesMoves_any (s : SeenD) (A A' : Option Addr) (cap cap' B B' : Nat) (ms : List Int) (w : World) (hA : Ints w B A s.moves) (hA' : Ints w B' A' ms) (hB : B ≤ w.heap.size) (hB' : B' ≤ w.heap.size) (hl : s.moves.length ≤ 6) (hl' : ms.length ≤ 6)
    (hs : ∀ (j : Nat) (x : Int), s.moves[j]? = some x → 1 ≤ x ∧ x ≤ 255) (hm : ∀ (j : Nat) (x : Int), ms[j]? = some x → 0 ≤ x ∧ x ≤ 7) :
    Calls Tryz.prog 143 #[seenV s A cap, .slice A' ms.length cap'] w fun e w' => e = .returned (.bool (agreesMovesD s ms)) ∧ Below w.heap.size w w' := by
  go_enter Tryz.func143, Tryz.ntmps143
  go_upto_region 1 with fail
  obtain ⟨W, hW, hg, hf, hsz⟩ := one_block w 100 (cellsS s A cap)
  rw [hW]
  clear hW
  have hAW := (hA.more hB).below hg
  have hAW' := (hA'.more hB').below hg
  clear hA hA'
  have HS := Lib.hid hs
  have HM := Lib.hid hm
  have HL := Lib.hid hl
  have HL' := Lib.hid hl'
  have HG := Lib.hid hg
  have hfc := hf.cell
  clear hf hg hs hm hl hl'
  go_wp2
  go_loopw [5, 10] (fun n i wr => ∃ k : Nat, k ≤ ms.length ∧ n = .int .i64 (foundD s.moves (ms.take k)) ∧ i = .int .i64 k ∧ wr = W) (fun _ i _ => ms.length - (intOf i).toNat)
  case atStart => exact ⟨0, Nat.zero_le _, by simp [foundD], rfl, rfl⟩
  case round =>
    obtain ⟨k, hk, rfl, rfl, rfl⟩ := hrel
    have hn : foundD s.moves (ms.take k) ≤ s.moves.length := foundD_le _ _
    have HT : Hid (∀ d, ms[k]? = some d → foundD s.moves (ms.take (k + 1)) = stepF s.moves (foundD s.moves (ms.take k)) d) := fun d h => foundD_take h
    have HE : Hid (k = ms.length → foundD s.moves (ms.take k) = foundD s.moves ms) := fun h => by rw [h, List.take_length]
    have hl6 := HL.out
    have hl6' := HL'.out
    generalize foundD s.moves (ms.take k) = n at hn HT HE ⊢
    by_cases hlt : k < ms.length
    · obtain ⟨b, off, d, rfl, hb, hc, HX⟩ := hAW'.at_ hlt
      obtain ⟨hd0, hd7⟩ := HM.out _ _ HX.out
      by_cases hn2 : n < s.moves.length
      · obtain ⟨b2, off2, x, rfl, hb2, hc2, HY⟩ := hAW.at_ hn2
        obtain ⟨hx0, hx7⟩ := HS.out _ _ HY.out
        clear hAW hAW'
        go_wp2_with (first | (go_at_call 141; refine (has_any _ _ _ (by omega) (by omega) (by omega) (by omega)).mono ?_; rintro e w6 ⟨rfl, rfl⟩))
        all_goals go_roundw
        all_goals first
          | exact ⟨k + 1, by omega, by rw [HT.out _ HX.out, stepF_some HY.out, if_pos ‹hasD x d = true›]; go_num, by go_num, trivial⟩
          | exact ⟨k + 1, by omega, by rw [HT.out _ HX.out, stepF_some HY.out, if_neg ‹¬hasD x d = true›], by go_num, trivial⟩
          | exact ⟨k + 1, by omega, by rw [HT.out _ HX.out, stepF_some HY.out, if_neg (by simp [*])], by go_num, trivial⟩
          | (simp [intOf]; omega)
      · obtain rfl : n = s.moves.length := by omega
        clear hAW hAW'
        go_wp2
        all_goals go_roundw
        all_goals first
          | exact ⟨k + 1, by omega, by rw [HT.out _ HX.out, stepF_none hn2], by go_num, trivial⟩
          | (simp [intOf]; omega)
    · obtain rfl : k = ms.length := by omega
      have HE2 := HE.out rfl
      subst HE2
      clear hAW hAW' HE HT
      go_wp2
      all_goals go_ret
      all_goals refine ⟨ret_bool ?_, HG.out⟩
      all_goals unfold agreesMovesD
      all_goals first
        | (have hq : foundD s.moves ms = s.moves.length := by omega
           rw [hq]; simp; done)
        | (rw [decide_eq_false (show ¬foundD s.moves ms = s.moves.length by omega)]; simp; done)

/-- within the bounds in which sets are reckoned: so is what is seen where it is valid, and so it stays where a part is narrowed -/
structure SeenIn (s : SeenD) : Prop where
  r0 : 0 ≤ s.rights
  r1 : s.rights < 8589934592
  l0 : 0 ≤ s.lefts
  l1 : s.lefts < 8589934592
  f0 : 0 ≤ s.faces
  f1 : s.faces < 8589934592
  g0 : 0 ≤ s.regions
  g1 : s.regions < 8589934592
  len : s.moves.length ≤ 6
  mv : ∀ (j : Nat) (x : Int), s.moves[j]? = some x → 1 ≤ x ∧ x ≤ 255

def agreesAsD (s : SeenD) (f : FormD) : Bool :=
  (hasD s.rights (f.right + 1) && hasD s.lefts (f.left + 1)) && ((inB f.column s.cl s.ch && inB f.row s.rl s.rh) && (hasD s.faces f.face && agreesMovesD s f.moves))

set_option maxRecDepth 100000 in
set_option maxHeartbeats 4000000 in
theorem agreesAs_any (s : SeenD) (f : FormD) (A A' : Option Addr) (cap cap' B B' : Nat) (w : World) (hA : Ints w B A s.moves) (hA' : Ints w B' A' f.moves) (hB : B ≤ w.heap.size) (hB' : B' ≤ w.heap.size) (hs : SeenIn s) (hok : okForm f = true) :
    Calls Tryz.prog 122 #[seenV s A cap, formV f A' cap'] w fun e w' => e = .returned (.bool (agreesAsD s f)) ∧ Below w.heap.size w w' := by
  have hb1 : -1 ≤ f.right ∧ f.right ≤ 31 ∧ -1 ≤ f.left ∧ f.left ≤ 31 ∧ 0 ≤ f.face ∧ f.face ≤ 7 ∧ f.moves.length ≤ 6 := by simp [okForm, inB] at hok; omega
  obtain ⟨hr0, hr1, hl0, hl1, hf0, hf1, hlen⟩ := hb1
  have HMV := Lib.hid (fun w0 (h : Grow w w0) => agreesMoves_any s A A' cap cap' w.heap.size w.heap.size f.moves w0 ((hA.more hB).below h) ((hA'.more hB').below h) h.size h.size hs.len hlen hs.mv (fun j x hx => okForm_move hok j x hx))
  clear hA hA'
  have HS := Lib.hid hs
  obtain ⟨sr0, sr1, sl0, sl1, sf0, sf1, -, -, -, -⟩ := hs
  go_enter Tryz.func122, Tryz.ntmps122
  go_upto_region 1 with fail
  obtain ⟨W, hW, hg, hf, hf', hsz⟩ := two_blocks w 100 24 (cellsS s A cap) (cellsF f A' cap')
  rw [hW]
  clear hW
  have HF := Lib.hid hf
  have HF' := Lib.hid hf'
  have HG := Lib.hid hg
  have hfc := hf.cell
  have hfc' := hf'.cell
  clear hf hf' hg
  go_cut [5] (fun v wx => v = .bool (hasD s.rights (f.right + 1) && hasD s.lefts (f.left + 1)) ∧ W = wx)
  case first =>
    go_wp2_with (first | (go_at_call 141; refine (has_any _ _ _ (by omega) (by omega) (by omega) (by omega)).mono ?_; rintro e w6 ⟨rfl, rfl⟩))
    all_goals (go_meet; exact ⟨by simp_all, rfl⟩)
  case rest =>
    obtain ⟨rfl, rfl⟩ := hcut
    generalize hb5 : (hasD s.rights (f.right + 1) && hasD s.lefts (f.left + 1)) = b5
    have HB5 := Lib.hid hb5
    clear hb5
    go_upto_region 2 with fail
    go_cut [6] (fun v wx => v = .bool (inB f.column s.cl s.ch && inB f.row s.rl s.rh) ∧ Grow W wx)
    case first =>
      have HG0 := Lib.hid (Grow.refl W)
      go_wp2_with (go_at_call 142; first
        | (refine (contains_any _ _ _ _).mono ?_; rintro e w2 ⟨rfl, hb2⟩; have HB2 : Hid (Grow W w2) := Grow.trans HB1.out hb2; clear hb2; have HB3 := HB2)
        | (refine (contains_any _ _ _ _).mono ?_; rintro e w1 ⟨rfl, hb1⟩; have HB1 : Hid (Grow W w1) := hb1; clear hb1; have hfc1 := (Grow.block HB1.out HF.out).cell; have hfc1' := (Grow.block HB1.out HF'.out).cell))
      all_goals go_meet
      all_goals refine ⟨by simp_all, ?_⟩
      all_goals first
        | exact HB2.out
        | exact HB1.out
    case rest =>
      obtain ⟨rfl, hgr⟩ := hcut
      have HG4 := Lib.hid hgr
      have hfc4 := (Grow.block hgr HF.out).cell
      have hfc4' := (Grow.block hgr HF'.out).cell
      clear hgr
      generalize hb6 : (inB f.column s.cl s.ch && inB f.row s.rl s.rh) = b6
      have HB6 := Lib.hid hb6
      clear hb6
      have HO : Hid (agreesAsD s f = (b5 && (b6 && (hasD s.faces f.face && agreesMovesD s f.moves)))) := by
        rw [Hid, agreesAsD, HB5.out, HB6.out]
      go_wp2_with (first
        | (go_at_call 141; refine (has_any _ _ _ (by omega) (by omega) (by omega) (by omega)).mono ?_; rintro e w6 ⟨rfl, rfl⟩)
        | (go_at_call 143; refine (HMV.out _ (HG.out.trans HG4.out)).mono ?_; rintro e w7 ⟨rfl, hb7⟩; have HG7 : Hid (Grow W w7) := Grow.trans HG4.out hb7; clear hb7))
      all_goals go_ret
      all_goals refine ⟨ret_bool ?_, ?_⟩
      all_goals first
        | exact HG.out.trans HG7.out
        | exact HG.out.trans HG4.out
        | (rw [HO.out]; simp_all; done)

end Go.Proofs.YtfpmkolaiomabaaGreat
