/- A part that is narrowed to one value. -/
import Derived.Test.YtfpmkolaiomabaaGreatAgrees
namespace Go.Proofs.YtfpmkolaiomabaaGreat
open Go.RowKit

theorem pow_32 {i : Nat} (h : i ≤ 32) : (1 : Int) ≤ 2 ^ i ∧ (2 : Int) ^ i ≤ 4294967296 := by
  have h1 : 2 ^ i ≤ 2 ^ 32 := Nat.pow_le_pow_right (by omega) h
  have h2 : 1 ≤ 2 ^ i := Nat.one_le_two_pow
  have h3 : ((2 ^ i : Nat) : Int) = (2 : Int) ^ i := by simp
  omega

set_option maxRecDepth 100000 in
set_option maxHeartbeats 400000 in
theorem element_any (s e : Int) (w : World) (h0 : 0 ≤ s) (h1 : s < 8589934592) (h2 : 0 ≤ e) (h3 : e ≤ 32) :
    Calls Tryz.prog 153 #[.int .i64 s, .int .i64 e] w fun x w' => x = .returned (.tuple #[.int .i64 (2 ^ e.toNat), .bool (hasD s e)]) ∧ Below w.heap.size w w' := by
  have hp := pow_32 (i := e.toNat) (by omega)
  have hw : IntKind.i64.wrap (2 ^ e.toNat) = 2 ^ e.toNat := IntWalk.i64_in _ (by omega)
  have HH := Lib.hid (fun w0 => has_any s e w0 h0 h1 h2 h3)
  generalize hq : (2 : Int) ^ e.toNat = q at hp hw
  go_enter Tryz.func153, Tryz.ntmps153
  go_wp2_with fail
  have HP := hq
  refine wp_region_lit 7 [[], [(0, 6)], [], [], [(2, 8), (3, 9)], [(1, 7)], [(4, 10)]] Grow (fun i v _ => match i with
      | 0 => v = .int .i64 e | 1 => v = .int .i64 q | 2 => v = .int .i64 s | 3 => v = .int .i64 e | 4 => v = .bool (hasD s e) | 5 => v = .int .i64 q | 6 => v = .bool (hasD s e)
      | _ => False) (by kernel_rfl) (by kernel_rfl) (fun _ _ _ => Grow.trans) Grow.refl (fun _ _ _ _ h _ => h) ?_ ?_
  · simp only [StepsLit, List.take_succ_cons, List.take_zero]
    refine ⟨?_, ?_, ?_, ?_, ?_, ?_, ?_, trivial⟩
    all_goals
      intro w3 hR
      simp only [depV, Region.wanted, cond_true]
      repeat (rintro _ rfl)
      go_simp
    all_goals first
      | exact Grow.refl _
      | (refine (HH.out _).mono ?_; rintro e w4 ⟨rfl, rfl⟩; exact ⟨Grow.refl _, rfl⟩)
  · intro w3 hR
    simp only [finVC, List.take_succ_cons, List.take_zero, List.drop_succ_cons, List.drop_zero]
    iterate 7 rintro _ rfl
    simp only [Act.put, List.setIfInBounds_toArray, List.set_cons_succ, List.set_cons_zero]
    have HG := Lib.hid hR.of_drew
    go_wp2
    go_ret2
    exact ⟨rfl, HG.out⟩

theorem results_span {fn : Func} (h : fn.results = #[.cell 4 48, .tmp 5]) (t : Array Value) (W : World) (b : Nat) (v0 v1 u : Value)
    (hb : BlockIs W b 48 #[v0, v1]) (ht : t.getD 4 undef = .pointer (some ⟨b, 0, none⟩)) (hu : t.getD 5 undef = u) :
    (results fn t).run Tryz.prog W = .ok (.tuple #[.agg #[v0, v1], u]) W := by
  have hc := hb.cell
  simp only [results, h]
  simp at ht hu
  simp [go_sem, ht, hc, hu]

set_option maxHeartbeats 400000 in
theorem single_any (lo hi n : Int) (w : World) :
    Calls Tryz.prog 154 #[.agg #[.int .i64 lo, .int .i64 hi], .int .i64 n] w fun x w' => x = .returned (.tuple #[.agg #[.int .i64 n, .int .i64 n], .bool (inB n lo hi)]) ∧ Below w.heap.size w w' := by
  go_enter Tryz.func154, Tryz.ntmps154
  go_upto_region 1 with fail
  obtain ⟨W, hW, hg, hf, hf', hsz⟩ := two_blocks w 48 48 #[.int .i64 lo, .int .i64 hi] #[.int .i64 0, .int .i64 0]
  rw [hW]
  clear hW
  have HF := Lib.hid hf
  have HF' := Lib.hid hf'
  have HG := Lib.hid hg
  have hfc := hf.cell
  clear hf hf' hg
  go_wp2_with (first | (go_at_call 142; refine (contains_any _ _ _ _).mono ?_; rintro e w2 ⟨rfl, hb2⟩; have HB2 : Hid (Grow W w2) := hb2; clear hb2; have hfc2 := (Grow.block HB2.out HF'.out).cell; have hff2 := (Grow.block HB2.out HF'.out).frozen))
  all_goals refine bodyPost_ret (results_span Tryz.results154 _ _ _ _ _ _ (((Grow.block HB2.out HF'.out).near 0 (.int .i64 n)).near 1 (.int .i64 n)) rfl rfl) rfl ⟨rfl, ((HG.out.trans HB2.out).setC (p := ⟨w.heap.size + 1, 0, none⟩) (by simp) _).setC (p := ⟨w.heap.size + 1, 1, none⟩) (by simp) _⟩

theorem results_seen {fn : Func} (h : fn.results = #[.cell 6 100, .tmp 7]) (t : Array Value) (W : World) (b : Nat) (v0 v1 v2 v3 v4 v5 v6 v7 v8 v9 v10 v11 u : Value)
    (hb : BlockIs W b 100 #[v0, v1, v2, v3, v4, v5, v6, v7, v8, v9, v10, v11]) (ht : t.getD 6 undef = .pointer (some ⟨b, 0, none⟩)) (hu : t.getD 7 undef = u) :
    (results fn t).run Tryz.prog W = .ok (.tuple #[.agg #[v0, v1, v2, v3, v4, v5, v6, v7, v8, v9, v10, v11], u]) W := by
  have hc := hb.cell
  simp only [results, h]
  simp at ht hu
  simp [go_sem, ht, hc, hu]

theorem twelve_stores {w : World} {b : Nat} {t : TypeId} {c0 c1 c2 c3 c4 c5 c6 c7 c8 c9 c10 c11 : Value} (h : BlockIs w b t #[c0, c1, c2, c3, c4, c5, c6, c7, c8, c9, c10, c11]) (v0 v1 v2 v3 v4 v5 v6 v7 v8 v9 v10 v11 : Value) : BlockIs ((((((((((((w.setCell ⟨b, 0, none⟩ v0).setCell ⟨b, 1, none⟩ v1).setCell ⟨b, 2, none⟩ v2).setCell ⟨b, 3, none⟩ v3).setCell ⟨b, 4, none⟩ v4).setCell ⟨b, 5, none⟩ v5).setCell ⟨b, 6, none⟩ v6).setCell ⟨b, 7, none⟩ v7).setCell ⟨b, 8, none⟩ v8).setCell ⟨b, 9, none⟩ v9).setCell ⟨b, 10, none⟩ v10).setCell ⟨b, 11, none⟩ v11) b t #[v0, v1, v2, v3, v4, v5, v6, v7, v8, v9, v10, v11] := by
  have h12 := ((((((((((((h.near 0 v0).near 1 v1).near 2 v2).near 3 v3).near 4 v4).near 5 v5).near 6 v6).near 7 v7).near 8 v8).near 9 v9).near 10 v10).near 11 v11)
  simpa only [List.setIfInBounds_toArray, List.set_cons_succ, List.set_cons_zero] using h12

def narrowD (s : SeenD) (part i : Int) : SeenD × Bool :=
  if part = 0 then ({ s with rights := 2 ^ i.toNat }, hasD s.rights i)
  else if part = 1 then ({ s with lefts := 2 ^ i.toNat }, hasD s.lefts i)
  else if part = 2 then ({ s with rl := i, rh := i }, inB i s.rl s.rh)
  else if part = 3 then ({ s with cl := i - 3, ch := i - 3 }, inB (i - 3) s.cl s.ch)
  else if part = 4 then ({ s with faces := 2 ^ i.toNat }, hasD s.faces i)
  else (s, false)
theorem narrowD_moves (s : SeenD) (part i : Int) : (narrowD s part i).1.moves = s.moves := by
  unfold narrowD
  repeat' split
  all_goals rfl

set_option maxRecDepth 100000 in
set_option maxHeartbeats 4000000 in
theorem narrow_any (s : SeenD) (A : Option Addr) (cap : Nat) (part i : Int) (w : World) (hs : SeenIn s) (hp : 0 ≤ part ∧ part ≤ 4) (hi : 0 ≤ i ∧ i ≤ 32) :
    Calls Tryz.prog 125 #[seenV s A cap, .int .i64 part, .int .i64 i] w fun e w' => e = .returned (.tuple #[seenV (narrowD s part i).1 A cap, .bool (narrowD s part i).2]) ∧ Below w.heap.size w w' := by
  obtain ⟨sr0, sr1, sl0, sl1, sf0, sf1, -, -, -, -⟩ := hs
  obtain ⟨hi0, hi1⟩ := hi
  have hc : part = 0 ∨ part = 1 ∨ part = 2 ∨ part = 3 ∨ part = 4 := by omega
  rcases hc with rfl | rfl | rfl | rfl | rfl
  all_goals
    simp only [narrowD, if_true, if_false, Int.reduceEq]
    go_enter Tryz.func125, Tryz.ntmps125
    go_upto_region 1 with fail
    obtain ⟨W, hW, hg, hf, hf', hsz⟩ := two_blocks w 100 100 (cellsS s A cap) #[.int .i64 0, .int .i64 0, .int .i64 0, .int .i64 0, .int .i64 0, .int .i64 0, .int .i64 0, .int .i64 0, .int .i64 0, .int .i64 0, .int .i64 0, .slice none 0 0]
    rw [hW]
    clear hW
    have HF := Lib.hid hf
    have HF' := Lib.hid hf'
    have HG := Lib.hid hg
    have hfc := hf.cell
    clear hf hf' hg
    go_wp2_with (first
      | (go_at_call 153; refine (element_any _ _ _ (by omega) (by omega) (by omega) (by omega)).mono ?_; rintro e w2 ⟨rfl, hb2⟩; have HB2 : Hid (Grow W w2) := hb2; clear hb2; have hfc2 := (Grow.block HB2.out HF.out).cell; have hff2 := (Grow.block HB2.out HF.out).frozen; have hfc2' := (Grow.block HB2.out HF'.out).cell; have hff2' := (Grow.block HB2.out HF'.out).frozen)
      | (go_at_call 154; refine (single_any _ _ _ _).mono ?_; rintro e w2 ⟨rfl, hb2⟩; have HB2 : Hid (Grow W w2) := hb2; clear hb2; have hfc2 := (Grow.block HB2.out HF.out).cell; have hff2 := (Grow.block HB2.out HF.out).frozen; have hfc2' := (Grow.block HB2.out HF'.out).cell; have hff2' := (Grow.block HB2.out HF'.out).frozen))
    have hb := HG.out.trans HB2.out
    have HX := Lib.hid (Grow.block HB2.out HF'.out)
    refine bodyPost_ret (results_seen Tryz.results125 _ _ _ _ _ _ _ _ _ _ _ _ _ _ _ _ (twelve_stores (?_ : BlockIs _ _ _ #[.int .i64 0, .int .i64 0, .int .i64 0, .int .i64 0, .int .i64 0, .int .i64 0, .int .i64 0, .int .i64 0, .int .i64 0, .int .i64 0, .int .i64 0, .slice none 0 0]) _ _ _ _ _ _ _ _ _ _ _ _) rfl rfl) rfl ⟨rfl, ?_⟩
    · first
        | exact HX.out.far (by simp) _
        | exact (HX.out.far (by simp) _).far (by simp) _
    · show Grow w _
      repeat (refine Grow.setC ?_ (by simp) _)
      exact hb

theorem SeenIn.of_ok {s : SeenD} (h : okSeen s = true) : SeenIn s := by
  simp only [okSeen, inB, Bool.and_eq_true, decide_eq_true_eq, List.all_eq_true] at h
  obtain ⟨⟨h1, h2⟩, ⟨h3, h4⟩, _, _, _, ⟨h5, h6⟩, _, ⟨h7, h8⟩, h9, h10⟩ := h
  exact ⟨by omega, by omega, by omega, by omega, by omega, by omega, by omega, by omega, by omega, fun j x hx => h6 x (List.mem_of_getElem? hx)⟩
theorem SeenIn.narrow {s : SeenD} (h : SeenIn s) (part i : Int) (hi : 0 ≤ i ∧ i ≤ 32) : SeenIn (narrowD s part i).1 := by
  obtain ⟨h1, h2⟩ := pow_32 (i := i.toNat) (by omega)
  obtain ⟨r0, r1, l0, l1, f0, f1, g0, g1, len, mv⟩ := h
  unfold narrowD
  repeat' split
  all_goals
    constructor
    all_goals dsimp only
    all_goals first
      | omega
      | exact mv

end Go.Proofs.YtfpmkolaiomabaaGreat
