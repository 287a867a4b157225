/- Example: the crew and the jobs of the chapter's examples. Works: the program answers the chapter's examples as the chapter says; written by wip/tools/works3.py. -/
import Derived.Test.YticeekkfdkfcgaaWhyApi
import Derived.Test.YticeekkfdkfcgaaRChain
namespace Go.Proofs.Yticeekkfdkfcgaa
open Go.RowKit

/-- blocks that are made one behind the other -/
def allocs (w : World) : List (TypeId × Array Value) → World
  | [] => w
  | x :: l => allocs (w.alloc (.cells x.2 x.1)) l
theorem allocs_grow : ∀ (l : List (TypeId × Array Value)) (w : World), Grow w (allocs w l)
  | [], w => Grow.refl w
  | _ :: l, w => (Grow.alloc w _).trans (allocs_grow l _)
theorem allocs_at : ∀ (l : List (TypeId × Array Value)) (w : World) (i : Nat) (x : TypeId × Array Value), l[i]? = some x → BlockIs (allocs w l) (w.heap.size + i) x.1 x.2
  | y :: l, w, 0, x, h => by
    obtain rfl : y = x := by simpa using h
    exact (allocs_grow l _).block (BlockIs.new w _ _)
  | y :: l, w, i + 1, x, h => by
    have := allocs_at l (w.alloc (.cells y.2 y.1)) i x (by simpa using h)
    rw [World.size_alloc] at this
    rwa [show w.heap.size + (i + 1) = w.heap.size + 1 + i by omega]

def exCrew (b : Nat) : CrewR := ⟨3, [⟨⟨[5, 4, 0], 3, 15, [], false, 50⟩, some ⟨b + 2, 0, none⟩, 3, none, 0⟩, ⟨⟨[0, 5, 3], 3, 15, [], true, 40⟩, some ⟨b + 3, 0, none⟩, 3, none, 0⟩, ⟨⟨[4, 0, 4], 1, 3, [7], false, 30⟩, some ⟨b + 4, 0, none⟩, 3, some ⟨b + 5, 0, none⟩, 1⟩, ⟨⟨[3, 3, 3], 255, 1, [], false, 10⟩, some ⟨b + 6, 0, none⟩, 3, none, 0⟩], [⟨2, 1, false⟩, ⟨4, 2, false⟩, ⟨3, 2, true⟩, ⟨5, 1, false⟩], some ⟨b + 7, 0, none⟩, 4, some ⟨b + 1, 0, none⟩, 4⟩
def exJob0 : JobD := ⟨0, 2, 7, 1, 2, 1⟩
def exJob1 : JobD := ⟨0, 2, 3, 0, 0, 1⟩
def exJob2 : JobD := ⟨0, 2, 7, 1, 1, 1⟩
abbrev ints3 (a b c : Int) : Array Value := #[.int .i64 a, .int .i64 b, .int .i64 c]
abbrev exPeople (b : Nat) : Array Value := #[.slice (some ⟨b + 1 + 1, 0, none⟩) 3 3, .int .i64 3, .int .i64 15, .slice none 0 0, .bool false, .int .i64 50, .slice (some ⟨b + 1 + 1 + 1, 0, none⟩) 3 3, .int .i64 3, .int .i64 15, .slice none 0 0, .bool true, .int .i64 40, .slice (some ⟨b + 1 + 1 + 1 + 1, 0, none⟩) 3 3, .int .i64 1, .int .i64 3, .slice (some ⟨b + 1 + 1 + 1 + 1 + 1, 0, none⟩) 1 1, .bool false, .int .i64 30, .slice (some ⟨b + 1 + 1 + 1 + 1 + 1 + 1, 0, none⟩) 3 3, .int .i64 255, .int .i64 1, .slice none 0 0, .bool false, .int .i64 10]
abbrev exLaws : Array Value := #[.int .i64 2, .int .i64 1, .bool false, .int .i64 4, .int .i64 2, .bool false, .int .i64 3, .int .i64 2, .bool true, .int .i64 5, .int .i64 1, .bool false]
abbrev exJobs : Array Value := #[.int .i64 0, .int .i64 2, .int .i64 7, .int .i64 1, .int .i64 2, .int .i64 1, .int .i64 0, .int .i64 2, .int .i64 3, .int .i64 0, .int .i64 0, .int .i64 1, .int .i64 0, .int .i64 2, .int .i64 7, .int .i64 1, .int .i64 1, .int .i64 1]
abbrev exBlocks (b : Nat) : List (TypeId × Array Value) := [(25, #[.int .i64 3, .slice (some ⟨b + 1 + 1 + 1 + 1 + 1 + 1 + 1, 0, none⟩) 4 4, .slice (some ⟨b + 1, 0, none⟩) 4 4]), (58, exLaws), (3, ints3 5 4 0), (3, ints3 0 5 3), (3, ints3 4 0 4), (3, #[.int .i64 7]), (3, ints3 3 3 3), (52, exPeople b), (27, exJobs)]
theorem ints3_at {w : World} {a : Nat} {x y z : Int} (h : BlockIs w a 3 (ints3 x y z)) : Ints w w.heap.size (some ⟨a, 0, none⟩) [x, y, z] := .inr ⟨a, 0, rfl, h.lt, fun i u hi => by
  rw [h.cell]
  match i, hi with
  | 0, hi | 1, hi | 2, hi =>
    obtain rfl := Option.some.inj hi
    rfl⟩
theorem ex_at (w : World) : CrewAt (allocs w (exBlocks w.heap.size)) (allocs w (exBlocks w.heap.size)).heap.size (exCrew w.heap.size) := by
  have h := allocs_at (exBlocks w.heap.size) w
  have hl := h 1 _ rfl
  have h2 := ints3_at (h 2 _ rfl)
  have h3 := ints3_at (h 3 _ rfl)
  have h4 := ints3_at (h 4 _ rfl)
  have h5 := h 5 _ rfl
  have h6 := ints3_at (h 6 _ rfl)
  have h7 := h 7 _ rfl
  generalize allocs w (exBlocks w.heap.size) = W at *
  refine ⟨⟨.inr ⟨w.heap.size + 7, 0, rfl, h7.lt, fun i x hi j hj => ?_⟩, fun x hx => ?_⟩, .inr ⟨w.heap.size + 1, 0, rfl, hl.lt, fun i x hi j hj => ?_⟩⟩
  · rw [h7.cell]
    match i, hi with
    | 0, hi | 1, hi | 2, hi | 3, hi =>
      obtain rfl := Option.some.inj hi
      match j, hj with
      | 0, _ | 1, _ | 2, _ | 3, _ | 4, _ | 5, _ => rfl
  · obtain ⟨i, hi⟩ := List.mem_iff_getElem?.1 hx
    match i, hi with
    | 0, hi =>
      obtain rfl := Option.some.inj hi
      exact ⟨h2, .inl rfl⟩
    | 1, hi =>
      obtain rfl := Option.some.inj hi
      exact ⟨h3, .inl rfl⟩
    | 2, hi =>
      obtain rfl := Option.some.inj hi
      exact ⟨h4, .inr ⟨w.heap.size + 5, 0, rfl, h5.lt, fun i u hi => by
        rw [h5.cell]
        match i, hi with
        | 0, hi =>
          obtain rfl := Option.some.inj hi
          rfl⟩⟩
    | 3, hi =>
      obtain rfl := Option.some.inj hi
      exact ⟨h6, .inl rfl⟩
  · rw [hl.cell]
    match i, hi with
    | 0, hi | 1, hi | 2, hi | 3, hi =>
      obtain rfl := Option.some.inj hi
      match j, hj with
      | 0, _ | 1, _ | 2, _ => rfl
theorem results_exC {fn : Func} (h : fn.results = #[.cell 0 25, .tmp 1]) (t : Array Value) (W : World) (b : Nat) (v0 v1 v2 u : Value)
    (hb : BlockIs W b 25 #[v0, v1, v2]) (ht : t.getD 0 undef = .pointer (some ⟨b, 0, none⟩)) (hu : t.getD 1 undef = u) :
    (results fn t).run Try.prog W = .ok (.tuple #[.agg #[v0, v1, v2], u]) W := by
  have hc := hb.cell
  simp only [results, h]
  simp at ht hu
  simp [go_sem, ht, hc, hu]

set_option maxRecDepth 100000 in
set_option maxHeartbeats 16000000 in
theorem example_any (w : World) :
    Calls Try.prog 37 #[] w fun e w' => ∃ b, e = .returned (.tuple #[crewV (exCrew b), .slice (some ⟨b + 8, 0, none⟩) 3 3]) ∧ CrewAt w' w'.heap.size (exCrew b) ∧ BlockIs w' (b + 8) 27 exJobs ∧ Below w.heap.size w w' := by
  have HA := Lib.hid (ex_at w)
  have HJ := Lib.hid (allocs_at (exBlocks w.heap.size) w 8 _ rfl)
  have HC := Lib.hid (allocs_at (exBlocks w.heap.size) w 0 _ rfl)
  have HG := Lib.hid (allocs_grow (exBlocks w.heap.size) w)
  obtain ⟨PO, hPO⟩ : ∃ z : Ending → World → Prop, (fun e w' => ∃ b, e = Ending.returned (.tuple #[crewV (exCrew b), .slice (some ⟨b + 8, 0, none⟩) 3 3]) ∧ CrewAt w' w'.heap.size (exCrew b) ∧ BlockIs w' (b + 8) 27 exJobs ∧ Below w.heap.size w w') = z := ⟨_, rfl⟩
  have HPO : Hid (PO (Ending.returned (.tuple #[crewV (exCrew w.heap.size), .slice (some ⟨w.heap.size + 8, 0, none⟩) 3 3])) (allocs w (exBlocks w.heap.size))) := Lib.hid (by rw [← hPO]; exact ⟨_, rfl, HA.out, HJ.out, HG.out⟩)
  rw [hPO]
  clear hPO HA HJ HG
  go_enter Try.func37, Try.ntmps37
  go_wp2
  exact bodyPost_ret (results_exC Try.results37 _ (allocs w (exBlocks w.heap.size)) w.heap.size _ _ _ _ HC.out rfl rfl) rfl HPO.out
theorem ex_short (b : Nat) : Short (exCrew b) := ⟨by show 4 ≤ 1000000; omega, by show 4 ≤ 1000000; omega, fun x hx => by
  obtain ⟨i, hi⟩ := List.mem_iff_getElem?.1 hx
  match i, hi with
  | 0, hi | 1, hi | 2, hi | 3, hi =>
    obtain rfl := Option.some.inj hi
    exact ⟨Nat.le_trans (Nat.le_of_ble_eq_true rfl) (show 10 ≤ 1000000 by omega), Nat.le_trans (Nat.le_of_ble_eq_true rfl) (show 10 ≤ 1000000 by omega)⟩⟩
set_option maxRecDepth 100000 in
theorem ex_err0 (b : Nat) : crewErr (exCrew b).d exJob0 = 0 := by kernel_rfl
set_option maxRecDepth 100000 in
theorem ex_err2 (b : Nat) : crewErr (exCrew b).d exJob2 = 0 := by kernel_rfl
set_option maxRecDepth 100000 in
theorem ex_team (b : Nat) : teamD (brokenF (exCrew b) exJob0) (feeF (exCrew b)) 4 = (3, 90) := by kernel_rfl
set_option maxRecDepth 100000 in
theorem ex_why (b : Nat) : whyTo (keptP (exCrew b) (brokenT (exCrew b) exJob2)) 64 = some 33 := by kernel_rfl
set_option maxRecDepth 100000 in
theorem ex_chain (b : Nat) : chainT (exCrew b) exJob0 3 = some [0, 1, 2] := by kernel_rfl
set_option maxRecDepth 100000 in
theorem ex_terr (b : Nat) : teamErr (exCrew b).d exJob0 3 = 0 := by kernel_rfl

end Go.Proofs.Yticeekkfdkfcgaa

namespace Go.Proofs.Yticeekkfdkfcgaa
open Go.RowKit

theorem ex_teamCall (b n : Nat) (w : World) (hA : CrewAt w n (exCrew b)) (hn : n ≤ w.heap.size) :
    Calls Try.prog 22 #[crewV (exCrew b), jobV exJob0] w fun e w' => e = .returned (.tuple #[.int .i64 3, .int .i64 90, .int .i64 0]) ∧ Below w.heap.size w w' := by
  refine (teamApi_any (exCrew b) exJob0 n w hA hn (ex_short b)).mono ?_
  rintro e w' ⟨t, f, er, rfl, _, h2, hb⟩
  obtain ⟨q1, _, q3⟩ := h2 (ex_err0 b)
  have ht := ex_team b
  have hl : (exCrew b).people.length = 4 := rfl
  rw [hl, ht] at q1
  have q1 : t = 3 := q1
  obtain ⟨q4, q5⟩ := q3 (by omega)
  rw [hl, ht] at q4
  have q4 : f = 90 := q4
  subst q1 q4 q5
  exact ⟨rfl, hb⟩
theorem ex_whyCall (b n : Nat) (w : World) (hA : CrewAt w n (exCrew b)) (hn : n ≤ w.heap.size) :
    Calls Try.prog 24 #[crewV (exCrew b), jobV exJob2] w fun e w' => e = .returned (.tuple #[.int .i64 33, .int .i64 0]) ∧ Below w.heap.size w w' := by
  refine (whyApi_any (exCrew b) exJob2 n w hA hn (ex_short b)).mono ?_
  rintro e w' ⟨rfl, hb⟩
  have e1 : whY (exCrew b) exJob2 (brokenT (exCrew b) exJob2) = 33 := by
    unfold whY
    rw [ex_err2 b, ex_why b]
    rfl
  have e2 : whE (exCrew b) exJob2 (brokenT (exCrew b) exJob2) = 0 := by
    unfold whE
    rw [ex_err2 b, ex_why b]
    rfl
  rw [e1, e2]
  exact ⟨rfl, hb⟩
theorem ex_chainCall (b n : Nat) (w : World) (hA : CrewAt w n (exCrew b)) (hn : n ≤ w.heap.size) :
    Calls Try.prog 19 #[crewV (exCrew b), jobV exJob0, .int .i64 3] w fun e w' => ∃ A cap, e = .returned (.tuple #[.slice A 3 cap, .int .i64 0]) ∧ Ints w' w'.heap.size A [0, 1, 2] ∧ Below w.heap.size w w' := by
  refine (chainApi_flat (exCrew b) exJob0 3 n w hA hn (ex_short b)).mono ?_
  rintro e w' ⟨A, cap, rfl, hi, hb⟩
  have hc : chainT (exCrew b) exJob0 (3 : Int).toNat = some [0, 1, 2] := ex_chain b
  have e1 : chL (exCrew b) exJob0 3 = [0, 1, 2] := by
    unfold chL
    rw [ex_terr b, hc]
    rfl
  have e2 : chE (exCrew b) exJob0 3 = 0 := by
    unfold chE
    rw [ex_terr b, hc]
    rfl
  rw [e1] at hi ⊢
  rw [e2]
  exact ⟨A, cap, rfl, hi, hb⟩
/-- the languages 0, 1 and 2 somewhere, with an error or alone -/
def L012 (v : Value) (w : World) : Prop := ∃ A cap, v = .slice A 3 cap ∧ Ints w w.heap.size A [0, 1, 2]
theorem L012.grow {v : Value} {a b : World} (h : L012 v a) (g : Grow a b) : L012 v b := by
  obtain ⟨A, cap, e, h⟩ := h
  exact ⟨A, cap, e, (h.below g).more g.size⟩
def P012 (v : Value) (w : World) : Prop := ∃ A cap, v = .tuple #[.slice A 3 cap, .int .i64 0] ∧ Ints w w.heap.size A [0, 1, 2]
theorem P012.grow {v : Value} {a b : World} (h : P012 v a) (g : Grow a b) : P012 v b := by
  obtain ⟨A, cap, e, h⟩ := h
  exact ⟨A, cap, e, (h.below g).more g.size⟩

set_option maxRecDepth 100000 in
set_option maxHeartbeats 16000000 in
theorem works_any (w : World) :
    Calls Try.prog 11 #[] w fun e w' => e = .returned (.bool true) ∧ Below w.heap.size w w' := by
  go_enter Try.func11, Try.ntmps11
  go_wp2_with fail
  refine (example_any _).mono ?_
  rintro e w1 ⟨b, rfl, hca, hjb, hb1⟩
  have HG1 : Hid (Grow w w1) := hb1
  have HC1 := Lib.hid hca
  have HJ1 := Lib.hid hjb
  have HSH := Lib.hid (ex_short b)
  clear hca hjb hb1
  obtain ⟨c, hc⟩ : ∃ z, exCrew b = z := ⟨_, rfl⟩
  have HTM : Hid (∀ (w0 : World), Grow w1 w0 → Calls Try.prog 22 #[crewV c, jobV exJob0] w0 fun e w' => e = .returned (.tuple #[.int .i64 3, .int .i64 90, .int .i64 0]) ∧ Below w0.heap.size w0 w') := Lib.hid (fun w0 hw => by rw [← hc]; exact ex_teamCall b w1.heap.size w0 (HC1.out.below hw) hw.size)
  have HWH : Hid (∀ (w0 : World), Grow w1 w0 → Calls Try.prog 24 #[crewV c, jobV exJob2] w0 fun e w' => e = .returned (.tuple #[.int .i64 33, .int .i64 0]) ∧ Below w0.heap.size w0 w') := Lib.hid (fun w0 hw => by rw [← hc]; exact ex_whyCall b w1.heap.size w0 (HC1.out.below hw) hw.size)
  have HCH : Hid (∀ (w0 : World), Grow w1 w0 → Calls Try.prog 19 #[crewV c, jobV exJob0, .int .i64 3] w0 fun e w' => ∃ A cap, e = .returned (.tuple #[.slice A 3 cap, .int .i64 0]) ∧ Ints w' w'.heap.size A [0, 1, 2] ∧ Below w0.heap.size w0 w') := Lib.hid (fun w0 hw => by rw [← hc]; exact ex_chainCall b w1.heap.size w0 (HC1.out.below hw) hw.size)
  rw [hc]
  clear hc HC1 HSH
  obtain ⟨jb, hj⟩ : ∃ z, b + 8 = z := ⟨_, rfl⟩
  rw [hj] at HJ1 ⊢
  clear hj
  go_upto_region 2 with fail
  obtain ⟨w2, hw2, hg2, hf2, hz2⟩ := one_block w1 25 (cellsC c)
  rw [hw2]
  have HG2 := Lib.hid hg2
  have HF2 := Lib.hid hf2
  clear hw2 hg2 hf2 hz2
  refine wp_region_lit 12 [[], [], [(1, 16)], [(2, 17)], [(0, 15), (3, 18)], [(4, 19)], [(5, 14)], [(5, 14)], [(5, 14)], [(6, 20)], [(7, 21)], [(8, 22)]] Grow (fun qi v w' => match qi with
      | 0 => v = crewV c
      | 1 => v = .slice (some ⟨jb, 0, none⟩) 3 3
      | 2 => v = .pointer (some ⟨jb, 0, none⟩)
      | 3 => v = jobV exJob0
      | 4 => v = .tuple #[.int .i64 3, .int .i64 90, .int .i64 0]
      | 5 => v = .tuple #[.int .i64 3, .int .i64 90, .int .i64 0]
      | 6 => v = .int .i64 3
      | 7 => v = .int .i64 90
      | 8 => v = .int .i64 0
      | 9 => v = .int .i64 3
      | 10 => v = .int .i64 90
      | 11 => v = .int .i64 0
      | _ => False) (by kernel_rfl) (by kernel_rfl) (fun _ _ _ => Grow.trans) Grow.refl ?_ ?_ ?_
  · intro i v y y' h k
    match i, h with
    | 0, h | 1, h | 2, h | 3, h | 4, h | 5, h | 6, h | 7, h | 8, h | 9, h | 10, h | 11, h => exact h
  · simp only [StepsLit, List.take_succ_cons, List.take_zero]
    refine ⟨?_, ?_, ?_, ?_, ?_, ?_, ?_, ?_, ?_, ?_, ?_, ?_, trivial⟩
    · intro w5 hR
      have hGw : Grow w2 w5 := hR.of_drew
      have HGW := Lib.hid hGw
      have cC := (HGW.out.block HF2.out).cell
      have cJ := ((HG2.out.trans HGW.out).block HJ1.out).cell
      clear hR hGw
      simp only [depV]
      try go_simp
      all_goals first
        | (with_reducible exact Grow.refl _)
        | (with_reducible exact ⟨Grow.refl _, rfl⟩)
    · intro w5 hR
      have hGw : Grow w2 w5 := hR.of_drew
      have HGW := Lib.hid hGw
      have cC := (HGW.out.block HF2.out).cell
      have cJ := ((HG2.out.trans HGW.out).block HJ1.out).cell
      clear hR hGw
      simp only [depV]
      try go_simp
      all_goals first
        | (with_reducible exact Grow.refl _)
        | (with_reducible exact ⟨Grow.refl _, rfl⟩)
    · intro w5 hR
      have hGw : Grow w2 w5 := hR.of_drew
      have HGW := Lib.hid hGw
      have cC := (HGW.out.block HF2.out).cell
      have cJ := ((HG2.out.trans HGW.out).block HJ1.out).cell
      clear hR hGw
      simp only [depV]
      rintro _ rfl
      try go_simp
      all_goals first
        | (with_reducible exact Grow.refl _)
        | (with_reducible exact ⟨Grow.refl _, rfl⟩)
    · intro w5 hR
      have hGw : Grow w2 w5 := hR.of_drew
      have HGW := Lib.hid hGw
      have cC := (HGW.out.block HF2.out).cell
      have cJ := ((HG2.out.trans HGW.out).block HJ1.out).cell
      clear hR hGw
      simp only [depV]
      rintro _ rfl
      try go_simp
      exact ⟨Grow.refl _, rfl, rfl, rfl, rfl, rfl, rfl⟩
    · intro w5 hR
      have hGw : Grow w2 w5 := hR.of_drew
      have HGW := Lib.hid hGw
      have cC := (HGW.out.block HF2.out).cell
      have cJ := ((HG2.out.trans HGW.out).block HJ1.out).cell
      clear hR hGw
      simp only [depV]
      rintro _ rfl
      rintro _ rfl
      try go_simp
      refine (HTM.out _ (HG2.out.trans HGW.out)).mono ?_
      rintro e w6 ⟨rfl, hg6⟩
      exact ⟨hg6, rfl⟩
    · intro w5 hR
      have hGw : Grow w2 w5 := hR.of_drew
      have HGW := Lib.hid hGw
      have cC := (HGW.out.block HF2.out).cell
      have cJ := ((HG2.out.trans HGW.out).block HJ1.out).cell
      clear hR hGw
      simp only [depV]
      rintro _ rfl
      try go_simp
      all_goals first
        | (with_reducible exact Grow.refl _)
        | (with_reducible exact ⟨Grow.refl _, rfl⟩)
    · intro w5 hR
      have hGw : Grow w2 w5 := hR.of_drew
      have HGW := Lib.hid hGw
      have cC := (HGW.out.block HF2.out).cell
      have cJ := ((HG2.out.trans HGW.out).block HJ1.out).cell
      clear hR hGw
      simp only [depV]
      rintro _ rfl
      try go_simp
      all_goals first
        | (with_reducible exact Grow.refl _)
        | (with_reducible exact ⟨Grow.refl _, rfl⟩)
    · intro w5 hR
      have hGw : Grow w2 w5 := hR.of_drew
      have HGW := Lib.hid hGw
      have cC := (HGW.out.block HF2.out).cell
      have cJ := ((HG2.out.trans HGW.out).block HJ1.out).cell
      clear hR hGw
      simp only [depV]
      rintro _ rfl
      try go_simp
      all_goals first
        | (with_reducible exact Grow.refl _)
        | (with_reducible exact ⟨Grow.refl _, rfl⟩)
    · intro w5 hR
      have hGw : Grow w2 w5 := hR.of_drew
      have HGW := Lib.hid hGw
      have cC := (HGW.out.block HF2.out).cell
      have cJ := ((HG2.out.trans HGW.out).block HJ1.out).cell
      clear hR hGw
      simp only [depV]
      rintro _ rfl
      try go_simp
      all_goals first
        | (with_reducible exact Grow.refl _)
        | (with_reducible exact ⟨Grow.refl _, rfl⟩)
    · intro w5 hR
      have hGw : Grow w2 w5 := hR.of_drew
      have HGW := Lib.hid hGw
      have cC := (HGW.out.block HF2.out).cell
      have cJ := ((HG2.out.trans HGW.out).block HJ1.out).cell
      clear hR hGw
      simp only [depV]
      rintro _ rfl
      try go_simp
      all_goals first
        | (with_reducible exact Grow.refl _)
        | (with_reducible exact ⟨Grow.refl _, rfl⟩)
    · intro w5 hR
      have hGw : Grow w2 w5 := hR.of_drew
      have HGW := Lib.hid hGw
      have cC := (HGW.out.block HF2.out).cell
      have cJ := ((HG2.out.trans HGW.out).block HJ1.out).cell
      clear hR hGw
      simp only [depV]
      rintro _ rfl
      try go_simp
      all_goals first
        | (with_reducible exact Grow.refl _)
        | (with_reducible exact ⟨Grow.refl _, rfl⟩)
    · intro w5 hR
      have hGw : Grow w2 w5 := hR.of_drew
      have HGW := Lib.hid hGw
      have cC := (HGW.out.block HF2.out).cell
      have cJ := ((HG2.out.trans HGW.out).block HJ1.out).cell
      clear hR hGw
      simp only [depV]
      rintro _ rfl
      try go_simp
      all_goals first
        | (with_reducible exact Grow.refl _)
        | (with_reducible exact ⟨Grow.refl _, rfl⟩)
  · intro w5 hR
    have HG5 : Hid (Grow w2 w5) := Lib.hid hR.of_drew
    clear hR
    simp only [finVC, List.take_succ_cons, List.take_zero, List.drop_succ_cons, List.drop_zero]
    rintro _ rfl
    rintro _ rfl
    rintro _ rfl
    rintro _ rfl
    rintro _ rfl
    rintro _ rfl
    rintro _ rfl
    rintro _ rfl
    rintro _ rfl
    rintro _ rfl
    rintro _ rfl
    rintro _ rfl
    simp only [Act.put, List.setIfInBounds_toArray, List.set_cons_succ, List.set_cons_zero]
    have HF5 := Lib.hid (HG5.out.block HF2.out)
    have HG15 : Hid (Grow w1 w5) := Lib.hid (HG2.out.trans HG5.out)
    clear HG5 HG2 HF2 HTM
    simp only [wpList]
    go_upto_region 3 with fail
    refine wp_region_lit 10 [[], [], [(1, 25)], [(2, 26)], [(0, 24), (3, 27)], [(4, 28)], [(5, 23)], [(5, 23)], [(6, 29)], [(7, 30)]] Grow (fun qi v w' => match qi with
        | 0 => v = crewV c
        | 1 => v = .slice (some ⟨jb, 0, none⟩) 3 3
        | 2 => v = .pointer (some ⟨jb, 12, none⟩)
        | 3 => v = jobV exJob2
        | 4 => v = .tuple #[.int .i64 33, .int .i64 0]
        | 5 => v = .tuple #[.int .i64 33, .int .i64 0]
        | 6 => v = .int .i64 33
        | 7 => v = .int .i64 0
        | 8 => v = .int .i64 33
        | 9 => v = .int .i64 0
        | _ => False) (by kernel_rfl) (by kernel_rfl) (fun _ _ _ => Grow.trans) Grow.refl ?_ ?_ ?_
    · intro i v y y' h k
      match i, h with
      | 0, h | 1, h | 2, h | 3, h | 4, h | 5, h | 6, h | 7, h | 8, h | 9, h => exact h
    · simp only [StepsLit, List.take_succ_cons, List.take_zero]
      refine ⟨?_, ?_, ?_, ?_, ?_, ?_, ?_, ?_, ?_, ?_, trivial⟩
      · intro w6 hR
        have hGw : Grow w5 w6 := hR.of_drew
        have HGW := Lib.hid hGw
        have cC := (HGW.out.block HF5.out).cell
        have cJ := ((HG15.out.trans HGW.out).block HJ1.out).cell
        clear hR hGw
        simp only [depV]
        try go_simp
        all_goals first
          | (with_reducible exact Grow.refl _)
          | (with_reducible exact ⟨Grow.refl _, rfl⟩)
      · intro w6 hR
        have hGw : Grow w5 w6 := hR.of_drew
        have HGW := Lib.hid hGw
        have cC := (HGW.out.block HF5.out).cell
        have cJ := ((HG15.out.trans HGW.out).block HJ1.out).cell
        clear hR hGw
        simp only [depV]
        try go_simp
        all_goals first
          | (with_reducible exact Grow.refl _)
          | (with_reducible exact ⟨Grow.refl _, rfl⟩)
      · intro w6 hR
        have hGw : Grow w5 w6 := hR.of_drew
        have HGW := Lib.hid hGw
        have cC := (HGW.out.block HF5.out).cell
        have cJ := ((HG15.out.trans HGW.out).block HJ1.out).cell
        clear hR hGw
        simp only [depV]
        rintro _ rfl
        try go_simp
        all_goals first
          | (with_reducible exact Grow.refl _)
          | (with_reducible exact ⟨Grow.refl _, rfl⟩)
      · intro w6 hR
        have hGw : Grow w5 w6 := hR.of_drew
        have HGW := Lib.hid hGw
        have cC := (HGW.out.block HF5.out).cell
        have cJ := ((HG15.out.trans HGW.out).block HJ1.out).cell
        clear hR hGw
        simp only [depV]
        rintro _ rfl
        try go_simp
        exact ⟨Grow.refl _, rfl, rfl, rfl, rfl, rfl, rfl⟩
      · intro w6 hR
        have hGw : Grow w5 w6 := hR.of_drew
        have HGW := Lib.hid hGw
        have cC := (HGW.out.block HF5.out).cell
        have cJ := ((HG15.out.trans HGW.out).block HJ1.out).cell
        clear hR hGw
        simp only [depV]
        rintro _ rfl
        rintro _ rfl
        try go_simp
        refine (HWH.out _ (HG15.out.trans HGW.out)).mono ?_
        rintro e w8 ⟨rfl, hg8⟩
        exact ⟨hg8, rfl⟩
      · intro w6 hR
        have hGw : Grow w5 w6 := hR.of_drew
        have HGW := Lib.hid hGw
        have cC := (HGW.out.block HF5.out).cell
        have cJ := ((HG15.out.trans HGW.out).block HJ1.out).cell
        clear hR hGw
        simp only [depV]
        rintro _ rfl
        try go_simp
        all_goals first
          | (with_reducible exact Grow.refl _)
          | (with_reducible exact ⟨Grow.refl _, rfl⟩)
      · intro w6 hR
        have hGw : Grow w5 w6 := hR.of_drew
        have HGW := Lib.hid hGw
        have cC := (HGW.out.block HF5.out).cell
        have cJ := ((HG15.out.trans HGW.out).block HJ1.out).cell
        clear hR hGw
        simp only [depV]
        rintro _ rfl
        try go_simp
        all_goals first
          | (with_reducible exact Grow.refl _)
          | (with_reducible exact ⟨Grow.refl _, rfl⟩)
      · intro w6 hR
        have hGw : Grow w5 w6 := hR.of_drew
        have HGW := Lib.hid hGw
        have cC := (HGW.out.block HF5.out).cell
        have cJ := ((HG15.out.trans HGW.out).block HJ1.out).cell
        clear hR hGw
        simp only [depV]
        rintro _ rfl
        try go_simp
        all_goals first
          | (with_reducible exact Grow.refl _)
          | (with_reducible exact ⟨Grow.refl _, rfl⟩)
      · intro w6 hR
        have hGw : Grow w5 w6 := hR.of_drew
        have HGW := Lib.hid hGw
        have cC := (HGW.out.block HF5.out).cell
        have cJ := ((HG15.out.trans HGW.out).block HJ1.out).cell
        clear hR hGw
        simp only [depV]
        rintro _ rfl
        try go_simp
        all_goals first
          | (with_reducible exact Grow.refl _)
          | (with_reducible exact ⟨Grow.refl _, rfl⟩)
      · intro w6 hR
        have hGw : Grow w5 w6 := hR.of_drew
        have HGW := Lib.hid hGw
        have cC := (HGW.out.block HF5.out).cell
        have cJ := ((HG15.out.trans HGW.out).block HJ1.out).cell
        clear hR hGw
        simp only [depV]
        rintro _ rfl
        try go_simp
        all_goals first
          | (with_reducible exact Grow.refl _)
          | (with_reducible exact ⟨Grow.refl _, rfl⟩)
    · intro w7 hR
      have HG5 : Hid (Grow w5 w7) := Lib.hid hR.of_drew
      clear hR
      simp only [finVC, List.take_succ_cons, List.take_zero, List.drop_succ_cons, List.drop_zero]
      rintro _ rfl
      rintro _ rfl
      rintro _ rfl
      rintro _ rfl
      rintro _ rfl
      rintro _ rfl
      rintro _ rfl
      rintro _ rfl
      rintro _ rfl
      rintro _ rfl
      simp only [Act.put, List.setIfInBounds_toArray, List.set_cons_succ, List.set_cons_zero]
      have HF7 := Lib.hid (HG5.out.block HF5.out)
      have HG17 : Hid (Grow w1 w7) := Lib.hid (HG15.out.trans HG5.out)
      clear HG5 HG15 HF5 HWH
      simp only [wpList]
      go_upto_region 4 with fail
      refine wp_region_lit 10 [[], [], [(1, 33)], [(2, 34)], [(0, 32), (3, 35)], [(4, 36)], [(5, 31)], [(5, 31)], [(6, 37)], [(7, 38)]] Grow (fun qi v w' => match qi with
          | 0 => v = crewV c
          | 1 => v = .slice (some ⟨jb, 0, none⟩) 3 3
          | 2 => v = .pointer (some ⟨jb, 0, none⟩)
          | 3 => v = jobV exJob0
          | 4 => P012 v w'
          | 5 => P012 v w'
          | 6 => L012 v w'
          | 7 => v = .int .i64 0
          | 8 => L012 v w'
          | 9 => v = .int .i64 0
          | _ => False) (by kernel_rfl) (by kernel_rfl) (fun _ _ _ => Grow.trans) Grow.refl ?_ ?_ ?_
      · intro i v y y' h k
        match i, h with
        | 4, h => exact h.grow k
        | 5, h => exact h.grow k
        | 6, h => exact h.grow k
        | 8, h => exact h.grow k
        | 0, h | 1, h | 2, h | 3, h | 7, h | 9, h => exact h
      · simp only [StepsLit, List.take_succ_cons, List.take_zero]
        refine ⟨?_, ?_, ?_, ?_, ?_, ?_, ?_, ?_, ?_, ?_, trivial⟩
        · intro w6 hR
          have hGw : Grow w7 w6 := hR.of_drew
          have HGW := Lib.hid hGw
          have cC := (HGW.out.block HF7.out).cell
          have cJ := ((HG17.out.trans HGW.out).block HJ1.out).cell
          clear hR hGw
          simp only [depV]
          try go_simp
          all_goals first
            | (with_reducible exact Grow.refl _)
            | (with_reducible exact ⟨Grow.refl _, rfl⟩)
        · intro w6 hR
          have hGw : Grow w7 w6 := hR.of_drew
          have HGW := Lib.hid hGw
          have cC := (HGW.out.block HF7.out).cell
          have cJ := ((HG17.out.trans HGW.out).block HJ1.out).cell
          clear hR hGw
          simp only [depV]
          try go_simp
          all_goals first
            | (with_reducible exact Grow.refl _)
            | (with_reducible exact ⟨Grow.refl _, rfl⟩)
        · intro w6 hR
          have hGw : Grow w7 w6 := hR.of_drew
          have HGW := Lib.hid hGw
          have cC := (HGW.out.block HF7.out).cell
          have cJ := ((HG17.out.trans HGW.out).block HJ1.out).cell
          clear hR hGw
          simp only [depV]
          rintro _ rfl
          try go_simp
          all_goals first
            | (with_reducible exact Grow.refl _)
            | (with_reducible exact ⟨Grow.refl _, rfl⟩)
        · intro w6 hR
          have hGw : Grow w7 w6 := hR.of_drew
          have HGW := Lib.hid hGw
          have cC := (HGW.out.block HF7.out).cell
          have cJ := ((HG17.out.trans HGW.out).block HJ1.out).cell
          clear hR hGw
          simp only [depV]
          rintro _ rfl
          try go_simp
          exact ⟨Grow.refl _, rfl, rfl, rfl, rfl, rfl, rfl⟩
        · intro w6 hR
          have hGw : Grow w7 w6 := hR.of_drew
          have HGW := Lib.hid hGw
          have cC := (HGW.out.block HF7.out).cell
          have cJ := ((HG17.out.trans HGW.out).block HJ1.out).cell
          clear hR hGw
          simp only [depV]
          rintro _ rfl
          rintro _ rfl
          try go_simp
          refine (HCH.out _ (HG17.out.trans HGW.out)).mono ?_
          rintro e w8 ⟨A, cap, rfl, hi8, hg8⟩
          exact ⟨hg8, A, cap, rfl, hi8⟩
        · intro w6 hR
          have hGw : Grow w7 w6 := hR.of_drew
          have HGW := Lib.hid hGw
          have cC := (HGW.out.block HF7.out).cell
          have cJ := ((HG17.out.trans HGW.out).block HJ1.out).cell
          clear hR hGw
          simp only [depV]
          intro v4 hv4
          obtain ⟨A4, c4, rfl, hi4⟩ := hv4
          have HI4 := Lib.hid hi4
          clear hi4
          try go_simp
          exact ⟨Grow.refl _, A4, c4, rfl, HI4.out⟩
        · intro w6 hR
          have hGw : Grow w7 w6 := hR.of_drew
          have HGW := Lib.hid hGw
          have cC := (HGW.out.block HF7.out).cell
          have cJ := ((HG17.out.trans HGW.out).block HJ1.out).cell
          clear hR hGw
          simp only [depV]
          intro v5 hv5
          obtain ⟨A5, c5, rfl, hi5⟩ := hv5
          have HI5 := Lib.hid hi5
          clear hi5
          try go_simp
          exact ⟨Grow.refl _, A5, c5, rfl, HI5.out⟩
        · intro w6 hR
          have hGw : Grow w7 w6 := hR.of_drew
          have HGW := Lib.hid hGw
          have cC := (HGW.out.block HF7.out).cell
          have cJ := ((HG17.out.trans HGW.out).block HJ1.out).cell
          clear hR hGw
          simp only [depV]
          intro v5 hv5
          obtain ⟨A5, c5, rfl, hi5⟩ := hv5
          have HI5 := Lib.hid hi5
          clear hi5
          try go_simp
          first | exact Grow.refl _ | exact ⟨Grow.refl _, rfl⟩
        · intro w6 hR
          have hGw : Grow w7 w6 := hR.of_drew
          have HGW := Lib.hid hGw
          have cC := (HGW.out.block HF7.out).cell
          have cJ := ((HG17.out.trans HGW.out).block HJ1.out).cell
          clear hR hGw
          simp only [depV]
          intro v6 hv6
          obtain ⟨A6, c6, rfl, hi6⟩ := hv6
          have HI6 := Lib.hid hi6
          clear hi6
          try go_simp
          exact ⟨Grow.refl _, A6, c6, rfl, HI6.out⟩
        · intro w6 hR
          have hGw : Grow w7 w6 := hR.of_drew
          have HGW := Lib.hid hGw
          have cC := (HGW.out.block HF7.out).cell
          have cJ := ((HG17.out.trans HGW.out).block HJ1.out).cell
          clear hR hGw
          simp only [depV]
          rintro _ rfl
          try go_simp
          all_goals first
            | (with_reducible exact Grow.refl _)
            | (with_reducible exact ⟨Grow.refl _, rfl⟩)
      · intro w9 hR
        have HG5 : Hid (Grow w7 w9) := Lib.hid hR.of_drew
        clear hR
        simp only [finVC, List.take_succ_cons, List.take_zero, List.drop_succ_cons, List.drop_zero]
        rintro _ rfl
        rintro _ rfl
        rintro _ rfl
        rintro _ rfl
        intro v4 hv4
        intro v5 hv5
        intro v6 hv6
        rintro _ rfl
        intro v8 hv8
        rintro _ rfl
        simp only [Act.put, List.setIfInBounds_toArray, List.set_cons_succ, List.set_cons_zero]
        obtain ⟨A8, c8, rfl, hi8⟩ := hv8
        have HI8 := Lib.hid hi8
        have HG19 : Hid (Grow w1 w9) := Lib.hid (HG17.out.trans HG5.out)
        clear HG5 HG17 HF7 HCH hv4 hv5 hv6 hi8
        simp only [wpList]
        go_wp2_with fail
        refine (sameInts_any A8 (some ⟨w9.heap.size, 0, none⟩) c8 3 w9.heap.size (w9.heap.size + 1) [0, 1, 2] [0, 1, 2] _ (HI8.out.below (Grow.alloc _ _)) (.inr ⟨w9.heap.size, 0, rfl, Nat.lt_succ_self _, fun i u hi => by
          have hn := (BlockIs.new w9 3 (ints3 0 1 2)).cell
          rw [Nat.zero_add, hn]
          match i, hi with
          | 0, hi | 1, hi | 2, hi =>
            obtain rfl := Option.some.inj hi
            rfl⟩) (by decide) (by decide)).mono ?_
        rintro e w11 ⟨rfl, q, rfl⟩
        have hdt : decide (([0, 1, 2] : List Int) = [0, 1, 2]) = true := by decide
        go_wp2
        go_ret
        exact ⟨rfl, Below.drewN_ (HG1.out.trans (HG19.out.trans (Grow.alloc _ _))) _⟩

end Go.Proofs.Yticeekkfdkfcgaa

