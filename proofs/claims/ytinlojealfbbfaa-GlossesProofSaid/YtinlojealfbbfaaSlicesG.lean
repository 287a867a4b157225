/- SlicesG: slices.IndexFunc and slices.ContainsFunc at integers and at glosses, slices.Index and slices.Contains at glosses. -/
import Derived.Test.YtinlojealfbbfaaGloss
import Derived.BigQuiet
import Derived.Deep.DeepCutAuto
namespace Go.Proofs.Ytinlojealfbbfaa
open Go.RowKit


set_option maxHeartbeats 800000 in
theorem indexInt0_any (A : Option Addr) (cap B : Nat) (xs : List Int) (w : World) (hA : Ints w B A xs) (hl : xs.length ≤ 1000000) (g : Nat) (q : Int → Bool) (eg : ∀ args w, (callFunc g args).run Try.prog w = .ok (.enter g args) w)
    (hp : ∀ x, Calls Try.prog g #[.int .i64 x] w fun e w' => e = .returned (.bool (q x)) ∧ w = w') :
    Calls Try.prog 86 #[.slice A xs.length cap, .func (.func g) #[] #[]] w (IndexPost (xs.any q) w) := by
  have HP := Lib.hid hp
  clear hp
  go_enter Try.func86, Try.ntmps86
  go_wp2
  go_loop [8] (fun i => ∃ k : Nat, k ≤ xs.length ∧ i = .int .i64 k ∧ (xs.take k).any q = false) (fun i => xs.length - (intOf i).toNat)
  case atStart => exact ⟨0, Nat.zero_le _, rfl, rfl⟩
  case round =>
    obtain ⟨k, hk, rfl, hor⟩ := hrel
    by_cases hlt : k < xs.length
    · obtain ⟨b, off, x, rfl, hb, hc, HX⟩ := hA.at_ hlt
      have HT := Lib.hid (any_take_succ q HX.out hor)
      clear hA hor
      go_wp2_with (first | (refine (HP.out _).mono ?_; rintro e w' ⟨rfl, rfl⟩))
      · go_ret
        exact ⟨k, by rw [any_of_take q (by rw [HT.out]; assumption)]; simp, rfl, rfl⟩
      · go_round
        case rel => exact ⟨k + 1, by omega, by go_num, by rw [HT.out]; assumption⟩
        case measure => simp [intOf]; omega
    · obtain rfl : k = xs.length := by omega
      have HO := Lib.hid hor
      clear hor hA
      go_wp2
      go_ret
      exact ⟨-1, by have := HO.out; rw [List.take_length] at this; rw [this]; rfl, rfl, rfl⟩
set_option maxHeartbeats 800000 in
theorem containsInt0_any (A : Option Addr) (cap B : Nat) (xs : List Int) (w : World) (hA : Ints w B A xs) (hl : xs.length ≤ 1000000) (g : Nat) (q : Int → Bool) (eg : ∀ args w, (callFunc g args).run Try.prog w = .ok (.enter g args) w)
    (hp : ∀ x, Calls Try.prog g #[.int .i64 x] w fun e w' => e = .returned (.bool (q x)) ∧ w = w') :
    Calls Try.prog 73 #[.slice A xs.length cap, .func (.func g) #[] #[]] w fun e w' => e = .returned (.bool (xs.any q)) ∧ w = w' := by
  have HI := Lib.hid (indexInt0_any A cap B xs w hA hl g q eg hp)
  clear hp hA eg
  go_enter Try.func73, Try.ntmps73
  go_wp2_with (first | (go_at_call 86; refine HI.out.mono ?_; rintro e w' ⟨n, hn, rfl, rfl⟩; have HN := Lib.hid hn; clear hn))
  go_ret
  exact ⟨ret_bool HN.out, rfl⟩

set_option maxRecDepth 100000 in
set_option maxHeartbeats 2000000 in
theorem indexGloss_any (A : Option Addr) (cap B : Nat) (l : List GlossD) (w : World) (hA : GlossAt w B A l) (hl : l.length ≤ 1000000) (hB : B ≤ w.heap.size) (g : Nat) (c : Value) (q : GlossD → Bool) (eg : ∀ args w, (callFunc g args).run Try.prog w = .ok (.enter g args) w)
    (hp : ∀ x w', x ∈ l → Grow w w' → Calls Try.prog g #[glossV x, c] w' fun e w'' => e = .returned (.bool (q x)) ∧ Below w'.heap.size w' w'') :
    Calls Try.prog 87 #[.slice A l.length cap, .func (.func g) #[] #[c]] w (IndexPostB (l.any q) w) := by
  have HP := Lib.hid hp
  clear hp
  go_enter Try.func87, Try.ntmps87
  go_wp2
  go_loopw [8] (fun i wr => ∃ k : Nat, k ≤ l.length ∧ i = .int .i64 k ∧ (l.take k).any q = false ∧ Grow w wr) (fun i _ => l.length - (intOf i).toNat)
  case atStart => exact ⟨0, Nat.zero_le _, rfl, rfl, Grow.refl _⟩
  case round =>
    obtain ⟨k, hk, rfl, hor, hg⟩ := hrel
    rename World => wr
    by_cases hlt : k < l.length
    · obtain ⟨b, off, x, rfl, hb, hc, HX⟩ := (hA.below (Below.mono hg hB)).at_ hlt
      have HT := Lib.hid (any_take_succ q HX.out hor)
      have HG := Lib.hid hg
      have e0 := hc 0 (by omega); have e1 := hc 1 (by omega); have e2 := hc 2 (by omega); have e3 := hc 3 (by omega); have e4 := hc 4 (by omega); have e5 := hc 5 (by omega)
      rw [Nat.add_zero] at e0
      clear hA hor hg hc
      go_wp2_with fail
      refine (HP.out x wr (List.mem_of_getElem? HX.out) HG.out).mono ?_
      rintro e w2 ⟨rfl, hb2⟩
      have HG2 := Lib.hid (HG.out.trans hb2)
      clear hb2
      go_wp2
      · go_ret
        exact ⟨k, by rw [any_of_take q (by rw [HT.out]; assumption)]; simp, rfl, HG2.out⟩
      · go_roundw
        case rel => exact ⟨k + 1, by omega, by go_num, by rw [HT.out]; assumption, HG2.out⟩
        case measure => simp [intOf]; omega
    · obtain rfl : k = l.length := by omega
      have HO := Lib.hid hor
      have HG := Lib.hid hg
      clear hor hA hg
      go_wp2
      go_ret
      exact ⟨-1, by have := HO.out; rw [List.take_length] at this; rw [this]; rfl, rfl, HG.out⟩
set_option maxHeartbeats 400000 in
theorem containsFuncGloss_any (A : Option Addr) (cap B : Nat) (l : List GlossD) (w : World) (hA : GlossAt w B A l) (hl : l.length ≤ 1000000) (hB : B ≤ w.heap.size) (g : Nat) (c : Value) (q : GlossD → Bool) (eg : ∀ args w, (callFunc g args).run Try.prog w = .ok (.enter g args) w)
    (hp : ∀ x w', x ∈ l → Grow w w' → Calls Try.prog g #[glossV x, c] w' fun e w'' => e = .returned (.bool (q x)) ∧ Below w'.heap.size w' w'') :
    Calls Try.prog 76 #[.slice A l.length cap, .func (.func g) #[] #[c]] w fun e w' => e = .returned (.bool (l.any q)) ∧ Below w.heap.size w w' := by
  have HI := Lib.hid (indexGloss_any A cap B l w hA hl hB g c q eg hp)
  clear hp hA eg
  go_enter Try.func76, Try.ntmps76
  go_wp2_with fail
  refine HI.out.mono ?_
  rintro e w' ⟨n, hn, rfl, hb⟩
  have HN := Lib.hid hn
  have HB := Lib.hid hb
  clear hn hb
  go_wp2
  go_ret
  exact ⟨ret_bool HN.out, HB.out⟩

set_option maxRecDepth 100000 in
set_option maxHeartbeats 2000000 in
theorem indexG_any (A : Option Addr) (cap B : Nat) (l : List GlossD) (y : GlossD) (w : World) (hA : GlossAt w B A l) (hl : l.length ≤ 1000000) (hB : B ≤ w.heap.size) :
    Calls Try.prog 88 #[.slice A l.length cap, glossV y] w (IndexPostB (l.any fun x => decide (y = x)) w) := by
  go_enter Try.func88, Try.ntmps88
  go_upto_region 1 with fail
  obtain ⟨W, hW, hg, hf, hsz⟩ := one_block w 55 (cellsG y)
  rw [hW]
  clear hW
  have HF := Lib.hid hf
  have HG := Lib.hid hg
  clear hf hg
  go_wp2_with fail
  go_loopw [8] (fun i wr => ∃ k : Nat, k ≤ l.length ∧ i = .int .i64 k ∧ ((l.take k).any fun x => decide (y = x)) = false ∧ Grow W wr) (fun i _ => l.length - (intOf i).toNat)
  case atStart => exact ⟨0, Nat.zero_le _, rfl, rfl, Grow.refl _⟩
  case round =>
    obtain ⟨k, hk, rfl, hor, hgr⟩ := hrel
    rename World => wr
    by_cases hlt : k < l.length
    · obtain ⟨b, off, x, rfl, hb, hc, HX⟩ := (hA.below (Below.mono (HG.out.trans hgr) hB)).at_ hlt
      have HT := Lib.hid (any_take_succ (fun x => decide (y = x)) HX.out hor)
      have HR := Lib.hid hgr
      have e0 := hc 0 (by omega); have e1 := hc 1 (by omega); have e2 := hc 2 (by omega); have e3 := hc 3 (by omega); have e4 := hc 4 (by omega); have e5 := hc 5 (by omega)
      rw [Nat.add_zero] at e0
      have hyc := (hgr.block HF.out).cell
      have hki : (k : Int) < (l.length : Int) := by omega
      have hk0 : (0 : Int) ≤ (k : Int) := by omega
      have heq : ∀ w0 : World, (Op.equalIn 10000 55 (glossV y) (glossV x)).run Try.prog w0 = .ok (decide (y = x)) w0 := run_eqG y x
      clear hA hor hgr hc
      by_cases hxy : y = x
      · have hd : decide (y = x) = true := decide_eq_true hxy
        have HTT : Hid ((l.any fun x => decide (y = x)) = true) := Lib.hid (any_of_take _ (by rw [HT.out]; exact hd))
        rw [hd] at heq
        clear hxy hd HT
        go_upto_region 4 with fail
        go_quiet (fail)
        have HD : Hid (Grow W (wr.drewN nq)) := Lib.hid (Below.drewN_ HR.out _)
        clear hyc e0 e1 e2 e3 e4 e5
        go_wp2
        go_ret
        exact ⟨k, by rw [HTT.out]; simp, rfl, HG.out.trans HD.out⟩
      · have hd : decide (y = x) = false := decide_eq_false hxy
        have HTF : Hid (((l.take (k + 1)).any fun x => decide (y = x)) = false) := Lib.hid (by rw [HT.out]; exact hd)
        rw [hd] at heq
        clear hxy hd HT
        go_upto_region 4 with fail
        go_quiet (fail)
        have HD : Hid (Grow W (wr.drewN nq)) := Lib.hid (Below.drewN_ HR.out _)
        clear hyc e0 e1 e2 e3 e4 e5
        go_wp2
        go_roundw
        case rel => exact ⟨k + 1, by omega, by go_num, HTF.out, HD.out⟩
        case measure => simp [intOf]; omega
    · obtain rfl : k = l.length := by omega
      have HO := Lib.hid hor
      have HR := Lib.hid hgr
      clear hor hA hgr
      go_wp2
      go_ret
      exact ⟨-1, by have := HO.out; rw [List.take_length] at this; rw [this]; rfl, rfl, HG.out.trans HR.out⟩
set_option maxHeartbeats 400000 in
theorem containsG_any (A : Option Addr) (cap B : Nat) (l : List GlossD) (y : GlossD) (w : World) (hA : GlossAt w B A l) (hl : l.length ≤ 1000000) (hB : B ≤ w.heap.size) :
    Calls Try.prog 77 #[.slice A l.length cap, glossV y] w fun e w' => e = .returned (.bool (l.any fun x => decide (y = x))) ∧ Below w.heap.size w w' := by
  have HI := Lib.hid (fun (w0 : World) (hw : Grow w w0) => indexG_any A cap B l y w0 (hA.below (Below.mono hw hB)) hl (Nat.le_trans hB hw.size))
  clear hA
  go_enter Try.func77, Try.ntmps77
  go_upto_region 1 with fail
  obtain ⟨W, hW, hg, hf, hsz⟩ := one_block w 55 (cellsG y)
  rw [hW]
  clear hW
  have hyc := hf.cell
  have HG := Lib.hid hg
  clear hf hg
  go_wp2_with fail
  refine (HI.out _ HG.out).mono ?_
  rintro e w' ⟨n, hn, rfl, hb⟩
  have HN := Lib.hid hn
  have HB := Lib.hid hb
  clear hn hb
  go_wp2
  go_ret
  exact ⟨ret_bool HN.out, HG.out.trans HB.out⟩

end Go.Proofs.Ytinlojealfbbfaa
