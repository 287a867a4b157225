/- All: slices.ContainsFunc and allOf at integers, items and judges; written by wip/tools/all9.py. -/
import Derived.Test.YthehkgpnnndboaaDoorPaper
import Derived.Test.YthehkgpnnndboaaDoorForms
namespace Go.Proofs.YthehkgpnnndboaaDoor
open Go.RowKit

set_option maxHeartbeats 400000 in
theorem indexInt_any (A : Option Addr) (cap B : Nat) (xs : List Int) (w : World) (hA : Ints w B A xs) (hl : xs.length ≤ 1000000) (c : Value) (q : Int → Bool)
    (hp : ∀ x, Calls Tryd.prog 95 #[.int .i64 x, c] w fun e w' => e = .returned (.bool (q x)) ∧ w = w') :
    Calls Tryd.prog 100 #[.slice A xs.length cap, .func (.func 95) #[] #[c]] w (IndexPost (xs.any q) w) := by
  have HP := Lib.hid hp
  clear hp
  go_enter Tryd.func100, Tryd.ntmps100
  go_wp2
  go_loop [8] (fun i => ∃ k : Nat, k ≤ xs.length ∧ i = .int .i64 k ∧ (xs.take k).any q = false) (fun i => xs.length - (intOf i).toNat)
  case atStart => exact ⟨0, Nat.zero_le _, rfl, rfl⟩
  case round =>
    obtain ⟨k, hk, rfl, hor⟩ := hrel
    by_cases hlt : k < xs.length
    · obtain ⟨b, off, x, rfl, hb, hc, HX⟩ := hA.at_ hlt
      have HT := Lib.hid (any_take_succ q HX.out hor)
      clear hA hor
      go_wp2_with (first | (go_at_call 95; refine (HP.out _).mono ?_; rintro e w' ⟨rfl, rfl⟩))
      · go_ret
        exact ⟨k, by rw [any_of_take q (by rw [HT.out]; assumption)]; simp, rfl, rfl⟩
      · go_round
        case rel => exact ⟨k + 1, by omega, by go_num, by rw [HT.out]; assumption⟩
        case measure => simp [intOf]; omega
    · obtain rfl : k = xs.length := by omega
      have HO := Lib.hid hor
      clear hor hA
      go_wp2
      go_ret
      exact ⟨-1, by have := HO.out; rw [List.take_length] at this; rw [this]; rfl, rfl, rfl⟩

set_option maxHeartbeats 400000 in
theorem containsInt_any (A : Option Addr) (cap B : Nat) (xs : List Int) (w : World) (hA : Ints w B A xs) (hl : xs.length ≤ 1000000) (c : Value) (q : Int → Bool)
    (hp : ∀ x, Calls Tryd.prog 95 #[.int .i64 x, c] w fun e w' => e = .returned (.bool (q x)) ∧ w = w') :
    Calls Tryd.prog 94 #[.slice A xs.length cap, .func (.func 95) #[] #[c]] w fun e w' => e = .returned (.bool (xs.any q)) ∧ w = w' := by
  have HI := Lib.hid (indexInt_any A cap B xs w hA hl c q hp)
  clear hp hA
  go_enter Tryd.func94, Tryd.ntmps94
  go_wp2_with (first | (go_at_call 100; refine HI.out.mono ?_; rintro e w' ⟨n, hn, rfl, rfl⟩; have HN := Lib.hid hn; clear hn))
  go_ret
  exact ⟨ret_bool HN.out, rfl⟩

set_option maxHeartbeats 400000 in
theorem allInt1_any (x : Int) (b : Nat) (g : Nat) (q : Int → Bool) (w : World) (hc : w.cell? ⟨b, 0, none⟩ = some (.func (.func g) #[] #[]))
    (eg : ∀ args w, (callFunc g args).run Tryd.prog w = .ok (.enter g args) w)
    (hq : Calls Tryd.prog g #[.int .i64 x] w fun e w' => e = .returned (.bool (q x)) ∧ w = w') :
    Calls Tryd.prog 95 #[.int .i64 x, .pointer (some ⟨b, 0, none⟩)] w fun e w' => e = .returned (.bool (!q x)) ∧ w = w' := by
  have HQ := Lib.hid hq
  clear hq
  go_enter Tryd.func95, Tryd.ntmps95
  go_wp2_with (first | (refine HQ.out.mono ?_; rintro e w' ⟨rfl, rfl⟩))
  go_ret
  exact ⟨rfl, rfl⟩

set_option maxHeartbeats 400000 in
theorem allInt_any (A : Option Addr) (cap B : Nat) (xs : List Int) (lo hi : Int) (w : World) (hA : Ints w B A xs) (hl : xs.length ≤ 1000000) (hB : B ≤ w.heap.size) (g : Nat) (q : Int → Bool)
    (eg : ∀ args w, (callFunc g args).run Tryd.prog w = .ok (.enter g args) w)
    (hq : ∀ x w, Calls Tryd.prog g #[.int .i64 x] w fun e w' => e = .returned (.bool (q x)) ∧ w = w') :
    Calls Tryd.prog 82 #[.slice A xs.length cap, .int .i64 lo, .int .i64 hi, .func (.func g) #[] #[]] w fun e w' => e = .returned (.bool (inB xs.length lo hi && xs.all q)) ∧ Below w.heap.size w w' := by
  have hb : Below w.heap.size w (w.alloc (.cells #[.func (.func g) #[] #[]] 122)) := (Below.refl _ _).alloc (Nat.le_refl _) _
  have hC := containsInt_any A cap w.heap.size xs _ ((hA.more hB).below hb) hl (.pointer (some ⟨w.heap.size, 0, none⟩)) (fun x => !q x)
    (fun x => allInt1_any x w.heap.size g q _ (by simp) eg (hq x _))
  have HC := Lib.hid hC
  have HWI := Lib.hid (fun w0 => within_any xs.length lo hi w0)
  obtain ⟨wi, hwi⟩ : ∃ z, inB xs.length lo hi = z := ⟨_, rfl⟩
  rw [hwi] at HWI ⊢
  clear hC hA hq hwi
  go_enter Tryd.func82, Tryd.ntmps82
  cases wi
  · go_wp2_with (first | (go_at_call 77; refine (HWI.out _).mono ?_; rintro e w' ⟨rfl, rfl⟩))
    go_ret
    exact ⟨rfl, by (repeat (first | (with_reducible exact Below.refl _ _) | (with_reducible assumption) | (with_reducible refine Below.drewN_ ?_ _) | (with_reducible refine Below.drew ?_) | (with_reducible refine Below.alloc ?_ (by first | omega | (simp <;> omega)) _) | (with_reducible refine Below.setCell ?_ (by first | omega | (simp <;> omega)) _)))⟩
  · go_wp2_with (first | (go_at_call 77; refine (HWI.out _).mono ?_; rintro e w' ⟨rfl, rfl⟩) | (go_at_call 94; refine HC.out.mono ?_; rintro e w' ⟨rfl, rfl⟩))
    go_ret
    exact ⟨ret_bool (by simp [List.not_any_eq_all_not]), by (repeat (first | (with_reducible exact Below.refl _ _) | (with_reducible assumption) | (with_reducible refine Below.drewN_ ?_ _) | (with_reducible refine Below.drew ?_) | (with_reducible refine Below.alloc ?_ (by first | omega | (simp <;> omega)) _) | (with_reducible refine Below.setCell ?_ (by first | omega | (simp <;> omega)) _)))⟩

set_option maxRecDepth 100000 in
set_option maxHeartbeats 2000000 in
theorem indexItem_any (A : Option Addr) (cap B : Nat) (l : List ItemI) (w : World) (hA : Flats cellsI 2 w B A l) (hl : l.length ≤ 1000000) (hB : B ≤ w.heap.size) (c : Value) (q : ItemI → Bool)
    (hp : ∀ x w', x ∈ l → Grow w w' → Calls Tryd.prog 97 #[itemV x, c] w' fun e w'' => e = .returned (.bool (q x)) ∧ Below w'.heap.size w' w'') :
    Calls Tryd.prog 101 #[.slice A l.length cap, .func (.func 97) #[] #[c]] w (IndexPostB (l.any q) w) := by
  have HP := Lib.hid hp
  clear hp
  go_enter Tryd.func101, Tryd.ntmps101
  go_wp2
  go_loopw [8] (fun i wr => ∃ k : Nat, k ≤ l.length ∧ i = .int .i64 k ∧ (l.take k).any q = false ∧ Grow w wr) (fun i _ => l.length - (intOf i).toNat)
  case atStart => exact ⟨0, Nat.zero_le _, rfl, rfl, Grow.refl _⟩
  case round =>
    obtain ⟨k, hk, rfl, hor, hg⟩ := hrel
    by_cases hlt : k < l.length
    · obtain ⟨b, off, x, rfl, hb, hc, HX⟩ := (hA.below (Below.mono hg hB)).at_ hlt
      have HT : Hid ((l.take (k + 1)).any q = q x) := by
        rw [Hid, take_snoc HX.out, List.any_append, hor]; simp
      have HG := Lib.hid hg
      have hmem : x ∈ l := List.mem_of_getElem? HX.out
      have e0 := hc 0 (by omega); have e1 := hc 1 (by omega)
      rw [Nat.add_zero] at e0
      clear hA hor hg hc 
      go_wp2_with fail
      refine (HP.out x wr hmem HG.out).mono ?_
      rintro e w2 ⟨rfl, hb2⟩
      have HG2 := Lib.hid (HG.out.trans hb2)
      clear hb2
      go_wp2
      · go_ret
        refine ⟨k, ?_, rfl, HG2.out⟩
        have : l.any q = true := any_of_take q (by rw [HT.out]; assumption)
        rw [this]; simp
      · go_roundw
        case rel => exact ⟨k + 1, by omega, by go_num, by rw [HT.out]; assumption, HG2.out⟩
        case measure => simp [intOf]; omega
    · obtain rfl : k = l.length := by omega
      have HO := Lib.hid hor
      clear hor hA
      go_wp2
      go_ret
      exact ⟨-1, by have := HO.out; rw [List.take_length] at this; rw [this]; rfl, rfl, hg⟩

set_option maxHeartbeats 400000 in
theorem containsItem_any (A : Option Addr) (cap B : Nat) (l : List ItemI) (w : World) (hA : Flats cellsI 2 w B A l) (hl : l.length ≤ 1000000) (hB : B ≤ w.heap.size) (c : Value) (q : ItemI → Bool)
    (hp : ∀ x w', x ∈ l → Grow w w' → Calls Tryd.prog 97 #[itemV x, c] w' fun e w'' => e = .returned (.bool (q x)) ∧ Below w'.heap.size w' w'') :
    Calls Tryd.prog 96 #[.slice A l.length cap, .func (.func 97) #[] #[c]] w fun e w' => e = .returned (.bool (l.any q)) ∧ Below w.heap.size w w' := by
  have HI := Lib.hid (indexItem_any A cap B l w hA hl hB c q hp)
  clear hp hA
  go_enter Tryd.func96, Tryd.ntmps96
  go_wp2_with fail
  refine HI.out.mono ?_
  rintro e w' ⟨n, hn, rfl, hb⟩
  have HN := Lib.hid hn
  have HB := Lib.hid hb
  clear hn hb
  go_wp2
  go_ret
  exact ⟨ret_bool HN.out, HB.out⟩

set_option maxHeartbeats 400000 in
theorem allItem1_any (x : ItemI) (b : Nat) (g : Nat) (cs : Array Value) (q : ItemI → Bool) (w : World) (hc : w.cell? ⟨b, 0, none⟩ = some (.func (.func g) #[] cs))
    (eg : ∀ args w, (callFunc g args).run Tryd.prog w = .ok (.enter g args) w)
    (hq : ∀ w', Grow w w' → Calls Tryd.prog g (#[itemV x] ++ cs) w' fun e w'' => e = .returned (.bool (q x)) ∧ Below w'.heap.size w' w'') :
    Calls Tryd.prog 97 #[itemV x, .pointer (some ⟨b, 0, none⟩)] w fun e w' => e = .returned (.bool (!q x)) ∧ Below w.heap.size w w' := by
  have HQ := Lib.hid hq
  have hca : ∀ o, (w.alloc o).cell? ⟨b, 0, none⟩ = some (.func (.func g) #[] cs) := fun o => (Grow.alloc w o).cell hc
  clear hq hc
  go_enter Tryd.func97, Tryd.ntmps97
  go_wp2_with (first | (refine (HQ.out _ (Grow.alloc _ _)).mono ?_; rintro e w' ⟨rfl, hb⟩; have HB := Lib.hid hb; clear hb))
  go_ret
  exact ⟨rfl, (Grow.alloc w _).trans HB.out⟩

set_option maxHeartbeats 400000 in
theorem allItem_any (A : Option Addr) (cap B : Nat) (l : List ItemI) (lo hi : Int) (w : World) (hA : Flats cellsI 2 w B A l) (hl : l.length ≤ 1000000) (hB : B ≤ w.heap.size) (g : Nat) (cs : Array Value) (q : ItemI → Bool)
    (eg : ∀ args w, (callFunc g args).run Tryd.prog w = .ok (.enter g args) w)
    (hq : ∀ x w', x ∈ l → Grow w w' → Calls Tryd.prog g (#[itemV x] ++ cs) w' fun e w'' => e = .returned (.bool (q x)) ∧ Below w'.heap.size w' w'') :
    Calls Tryd.prog 84 #[.slice A l.length cap, .int .i64 lo, .int .i64 hi, .func (.func g) #[] cs] w fun e w' => e = .returned (.bool (inB l.length lo hi && l.all q)) ∧ Below w.heap.size w w' := by
  have hg : Grow w (w.alloc (.cells #[.func (.func g) #[] cs] 125)) := Grow.alloc _ _
  have hcell : (w.alloc (.cells #[.func (.func g) #[] cs] 125)).cell? ⟨w.heap.size, 0, none⟩ = some (.func (.func g) #[] cs) := by simp
  have hC := containsItem_any A cap w.heap.size l _ ((hA.more hB).below hg) hl hg.size (.pointer (some ⟨w.heap.size, 0, none⟩)) (fun x => !q x)
    (fun x w' hx hw => allItem1_any x w.heap.size g cs q w' (hw.cell hcell) eg (fun w'' hw' => hq x w'' hx (hg.trans (hw.trans hw'))))
  have HC := Lib.hid hC
  have HGG := Lib.hid hg
  have HWI := Lib.hid (fun w0 => within_any l.length lo hi w0)
  obtain ⟨wi, hwi⟩ : ∃ z, inB l.length lo hi = z := ⟨_, rfl⟩
  rw [hwi] at HWI ⊢
  clear hC hA hq hg hcell hwi
  go_enter Tryd.func84, Tryd.ntmps84
  cases wi
  · go_wp2_with (first | (go_at_call 77; refine (HWI.out _).mono ?_; rintro e w' ⟨rfl, rfl⟩))
    go_ret
    exact ⟨rfl, HGG.out⟩
  · go_wp2_with (first | (go_at_call 77; refine (HWI.out _).mono ?_; rintro e w' ⟨rfl, rfl⟩) | (go_at_call 96; refine HC.out.mono ?_; rintro e w' ⟨rfl, hb⟩; have HB := Lib.hid hb; clear hb))
    go_ret
    exact ⟨ret_bool (by simp [List.not_any_eq_all_not]), HGG.out.trans HB.out⟩

set_option maxRecDepth 100000 in
set_option maxHeartbeats 2000000 in
theorem indexJudge_any (A : Option Addr) (cap B : Nat) (l : List JudgeR) (w : World) (hA : Flats cellsJ 4 w B A l) (hl : l.length ≤ 1000000) (hB : B ≤ w.heap.size) (c : Value) (q : JudgeR → Bool)
    (hp : ∀ x w', x ∈ l → Grow w w' → Calls Tryd.prog 99 #[judgeV x, c] w' fun e w'' => e = .returned (.bool (q x)) ∧ Below w'.heap.size w' w'') :
    Calls Tryd.prog 102 #[.slice A l.length cap, .func (.func 99) #[] #[c]] w (IndexPostB (l.any q) w) := by
  have HP := Lib.hid hp
  clear hp
  go_enter Tryd.func102, Tryd.ntmps102
  go_wp2
  go_loopw [8] (fun i wr => ∃ k : Nat, k ≤ l.length ∧ i = .int .i64 k ∧ (l.take k).any q = false ∧ Grow w wr) (fun i _ => l.length - (intOf i).toNat)
  case atStart => exact ⟨0, Nat.zero_le _, rfl, rfl, Grow.refl _⟩
  case round =>
    obtain ⟨k, hk, rfl, hor, hg⟩ := hrel
    by_cases hlt : k < l.length
    · obtain ⟨b, off, x, rfl, hb, hc, HX⟩ := (hA.below (Below.mono hg hB)).at_ hlt
      have HT : Hid ((l.take (k + 1)).any q = q x) := by
        rw [Hid, take_snoc HX.out, List.any_append, hor]; simp
      have HG := Lib.hid hg
      have hmem : x ∈ l := List.mem_of_getElem? HX.out
      have e0 := hc 0 (by omega); have e1 := hc 1 (by omega); have e2 := hc 2 (by omega); have e3 := hc 3 (by omega)
      rw [Nat.add_zero] at e0
      clear hA hor hg hc 
      go_wp2_with fail
      refine (HP.out x wr hmem HG.out).mono ?_
      rintro e w2 ⟨rfl, hb2⟩
      have HG2 := Lib.hid (HG.out.trans hb2)
      clear hb2
      go_wp2
      · go_ret
        refine ⟨k, ?_, rfl, HG2.out⟩
        have : l.any q = true := any_of_take q (by rw [HT.out]; assumption)
        rw [this]; simp
      · go_roundw
        case rel => exact ⟨k + 1, by omega, by go_num, by rw [HT.out]; assumption, HG2.out⟩
        case measure => simp [intOf]; omega
    · obtain rfl : k = l.length := by omega
      have HO := Lib.hid hor
      clear hor hA
      go_wp2
      go_ret
      exact ⟨-1, by have := HO.out; rw [List.take_length] at this; rw [this]; rfl, rfl, hg⟩

set_option maxHeartbeats 400000 in
theorem containsJudge_any (A : Option Addr) (cap B : Nat) (l : List JudgeR) (w : World) (hA : Flats cellsJ 4 w B A l) (hl : l.length ≤ 1000000) (hB : B ≤ w.heap.size) (c : Value) (q : JudgeR → Bool)
    (hp : ∀ x w', x ∈ l → Grow w w' → Calls Tryd.prog 99 #[judgeV x, c] w' fun e w'' => e = .returned (.bool (q x)) ∧ Below w'.heap.size w' w'') :
    Calls Tryd.prog 98 #[.slice A l.length cap, .func (.func 99) #[] #[c]] w fun e w' => e = .returned (.bool (l.any q)) ∧ Below w.heap.size w w' := by
  have HI := Lib.hid (indexJudge_any A cap B l w hA hl hB c q hp)
  clear hp hA
  go_enter Tryd.func98, Tryd.ntmps98
  go_wp2_with fail
  refine HI.out.mono ?_
  rintro e w' ⟨n, hn, rfl, hb⟩
  have HN := Lib.hid hn
  have HB := Lib.hid hb
  clear hn hb
  go_wp2
  go_ret
  exact ⟨ret_bool HN.out, HB.out⟩

set_option maxHeartbeats 400000 in
theorem allJudge1_any (x : JudgeR) (b : Nat) (g : Nat) (cs : Array Value) (q : JudgeR → Bool) (w : World) (hc : w.cell? ⟨b, 0, none⟩ = some (.func (.func g) #[] cs))
    (eg : ∀ args w, (callFunc g args).run Tryd.prog w = .ok (.enter g args) w)
    (hq : ∀ w', Grow w w' → Calls Tryd.prog g (#[judgeV x] ++ cs) w' fun e w'' => e = .returned (.bool (q x)) ∧ Below w'.heap.size w' w'') :
    Calls Tryd.prog 99 #[judgeV x, .pointer (some ⟨b, 0, none⟩)] w fun e w' => e = .returned (.bool (!q x)) ∧ Below w.heap.size w w' := by
  have HQ := Lib.hid hq
  have hca : ∀ o, (w.alloc o).cell? ⟨b, 0, none⟩ = some (.func (.func g) #[] cs) := fun o => (Grow.alloc w o).cell hc
  clear hq hc
  go_enter Tryd.func99, Tryd.ntmps99
  go_wp2_with (first | (refine (HQ.out _ (Grow.alloc _ _)).mono ?_; rintro e w' ⟨rfl, hb⟩; have HB := Lib.hid hb; clear hb))
  go_ret
  exact ⟨rfl, (Grow.alloc w _).trans HB.out⟩

set_option maxHeartbeats 400000 in
theorem allJudge_any (A : Option Addr) (cap B : Nat) (l : List JudgeR) (lo hi : Int) (w : World) (hA : Flats cellsJ 4 w B A l) (hl : l.length ≤ 1000000) (hB : B ≤ w.heap.size) (g : Nat) (cs : Array Value) (q : JudgeR → Bool)
    (eg : ∀ args w, (callFunc g args).run Tryd.prog w = .ok (.enter g args) w)
    (hq : ∀ x w', x ∈ l → Grow w w' → Calls Tryd.prog g (#[judgeV x] ++ cs) w' fun e w'' => e = .returned (.bool (q x)) ∧ Below w'.heap.size w' w'') :
    Calls Tryd.prog 86 #[.slice A l.length cap, .int .i64 lo, .int .i64 hi, .func (.func g) #[] cs] w fun e w' => e = .returned (.bool (inB l.length lo hi && l.all q)) ∧ Below w.heap.size w w' := by
  have hg : Grow w (w.alloc (.cells #[.func (.func g) #[] cs] 123)) := Grow.alloc _ _
  have hcell : (w.alloc (.cells #[.func (.func g) #[] cs] 123)).cell? ⟨w.heap.size, 0, none⟩ = some (.func (.func g) #[] cs) := by simp
  have hC := containsJudge_any A cap w.heap.size l _ ((hA.more hB).below hg) hl hg.size (.pointer (some ⟨w.heap.size, 0, none⟩)) (fun x => !q x)
    (fun x w' hx hw => allJudge1_any x w.heap.size g cs q w' (hw.cell hcell) eg (fun w'' hw' => hq x w'' hx (hg.trans (hw.trans hw'))))
  have HC := Lib.hid hC
  have HGG := Lib.hid hg
  have HWI := Lib.hid (fun w0 => within_any l.length lo hi w0)
  obtain ⟨wi, hwi⟩ : ∃ z, inB l.length lo hi = z := ⟨_, rfl⟩
  rw [hwi] at HWI ⊢
  clear hC hA hq hg hcell hwi
  go_enter Tryd.func86, Tryd.ntmps86
  cases wi
  · go_wp2_with (first | (go_at_call 77; refine (HWI.out _).mono ?_; rintro e w' ⟨rfl, rfl⟩))
    go_ret
    exact ⟨rfl, HGG.out⟩
  · go_wp2_with (first | (go_at_call 77; refine (HWI.out _).mono ?_; rintro e w' ⟨rfl, rfl⟩) | (go_at_call 98; refine HC.out.mono ?_; rintro e w' ⟨rfl, hb⟩; have HB := Lib.hid hb; clear hb))
    go_ret
    exact ⟨ret_bool (by simp [List.not_any_eq_all_not]), HGG.out.trans HB.out⟩

end Go.Proofs.YthehkgpnnndboaaDoor
