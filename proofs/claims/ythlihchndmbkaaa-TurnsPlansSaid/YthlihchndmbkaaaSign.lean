/- Sign: one more part of a course, and all parts of the beginning of a rota. -/
import Derived.Test.YthlihchndmbkaaaCourse
import Derived.Test.YthlihchndmbkaaaRegion
namespace Go.Proofs.Ythlihchndmbkaaa
open Go.RowKit

/-- what every state of a course keeps -/
def StOK (s : StD) : Prop := 0 ≤ s.parts ∧ s.parts ≤ 10 ∧ 0 ≤ s.mis ∧ s.mis ≤ 5000 * s.parts ∧ ∀ k, k < 3 → 0 ≤ s.get k ∧ s.get k ≤ 100 + 20 * s.parts
theorem wearTo_rest (hi : Bool) (hs : List HandD) (hand : Nat) (s : StD) : ∀ k, (wearTo hi hs hand s k).parts = s.parts ∧ (wearTo hi hs hand s k).mis = s.mis ∧ (wearTo hi hs hand s k).last = s.last
  | 0 => ⟨rfl, rfl, rfl⟩
  | k + 1 => by
    have h := wearTo_rest hi hs hand s k
    have g := StD.set_rest (wearTo hi hs hand s k) k (newW hi hs[k]? (decide (k = hand)) (s.get k))
    exact ⟨g.1.trans h.1, g.2.1.trans h.2.1, g.2.2.trans h.2.2⟩
theorem wearTo_get (hi : Bool) (hs : List HandD) (hand : Nat) (s : StD) : ∀ k, k ≤ 3 → ∀ j, j < 3 → (wearTo hi hs hand s k).get j = if j < k then newW hi hs[j]? (decide (j = hand)) (s.get j) else s.get j
  | 0, _, j, _ => by simp [wearTo]
  | k + 1, hk, j, hj => by
    show ((wearTo hi hs hand s k).set k _).get j = _
    rw [StD.get_set _ (by omega) _ j hj]
    by_cases e : j = k
    · subst e
      rw [if_pos rfl, if_pos (by omega)]
    · rw [if_neg e, wearTo_get hi hs hand s k (by omega) j hj]
      by_cases h : j < k
      · rw [if_pos h, if_pos (by omega)]
      · rw [if_neg h, if_neg (by omega)]
theorem wearTo_at (hi : Bool) (hs : List HandD) (hand : Nat) (s : StD) {k : Nat} (hk : k < 3) : (wearTo hi hs hand s k).get k = s.get k := by
  rw [wearTo_get hi hs hand s k (by omega) k hk, if_neg (by omega)]
theorem ends_ok {hi : Bool} {h : HandD} (k : okHand h = true) : (0 ≤ startOf hi h ∧ startOf hi h ≤ 100) ∧ (0 ≤ tireOf hi h ∧ tireOf hi h ≤ 20) ∧ (0 ≤ easeOf hi h ∧ easeOf hi h ≤ 20) := by
  have := okHand_parts k
  unfold startOf tireOf easeOf
  cases hi <;> simp <;> omega
theorem mul_le {p a : Int} (h0 : 0 ≤ p) (h1 : p ≤ 10) (h2 : 0 ≤ a) (h3 : a ≤ 400) : 0 ≤ p * a ∧ p * a ≤ 4000 := by
  refine ⟨Int.mul_nonneg h0 h2, ?_⟩
  have := Int.mul_le_mul h1 h3 h2 (by omega)
  omega
theorem misD_ok {t : TaskD} (ht : okTask t = true) {s : StD} (hs : StOK s) (hp : s.parts < t.parts.length) {hand : Nat} (hh : hand < t.hands.length) : 0 ≤ misD t s hand ∧ misD t s hand ≤ s.mis + 4100 := by
  obtain ⟨⟨_, h3⟩, hho, ⟨_, _⟩, hpo, _, _, hsw0, hsw1⟩ := okTask_parts ht
  obtain ⟨k1, k2, k3, k4, k5⟩ := hs
  have e1 : t.parts[s.parts.toNat]? = some (t.parts[s.parts.toNat]'(by omega)) := List.getElem?_eq_getElem (by omega)
  have e2 : t.hands[hand]? = some t.hands[hand] := List.getElem?_eq_getElem hh
  have q1 := hpo _ (List.mem_of_getElem? e1)
  have q2 := okHand_parts (hho _ (List.mem_of_getElem? e2))
  have q3 := k5 hand (by omega)
  unfold misD
  rw [e1, e2]
  dsimp only
  generalize t.parts[s.parts.toNat]'(by omega) = p at q1
  generalize t.hands[hand] = x at q2
  have q4 := mul_le (p := p) (a := x.slip + s.get hand) q1.1 q1.2 (by omega) (by omega)
  split <;> omega
theorem signD_ok {hi : Bool} {t : TaskD} (ht : okTask t = true) {s : StD} (hs : StOK s) (hp : s.parts < t.parts.length) {hand : Nat} (hh : hand < t.hands.length) : StOK (signD hi t s hand) ∧ (signD hi t s hand).parts = s.parts + 1 := by
  have hm := misD_ok ht hs hp hh
  obtain ⟨⟨_, h3⟩, hho, ⟨_, h10⟩, _⟩ := okTask_parts ht
  obtain ⟨k1, k2, k3, k4, k5⟩ := hs
  obtain ⟨r1, r2, r3⟩ := wearTo_rest hi t.hands hand { s with mis := misD t s hand } t.hands.length
  refine ⟨⟨by show 0 ≤ s.parts + 1; omega, by show s.parts + 1 ≤ 10; omega, ?_, ?_, fun j hj => ?_⟩, rfl⟩
  · show 0 ≤ (wearTo hi t.hands hand { s with mis := misD t s hand } t.hands.length).mis
    rw [r2]; exact hm.1
  · show (wearTo hi t.hands hand { s with mis := misD t s hand } t.hands.length).mis ≤ 5000 * (s.parts + 1)
    rw [r2]
    show misD t s hand ≤ _
    omega
  · have hg := wearTo_get hi t.hands hand { s with mis := misD t s hand } t.hands.length h3 j hj
    have hs' : (StD.get { s with mis := misD t s hand } j) = s.get j := rfl
    rw [hs'] at hg
    have hk := k5 j hj
    show 0 ≤ (wearTo hi t.hands hand { s with mis := misD t s hand } t.hands.length).get j ∧ (wearTo hi t.hands hand { s with mis := misD t s hand } t.hands.length).get j ≤ 100 + 20 * (s.parts + 1)
    rw [hg]
    by_cases hjl : j < t.hands.length
    · rw [if_pos hjl, List.getElem?_eq_getElem hjl]
      have q := ends_ok (hi := hi) (hho _ (List.getElem_mem hjl))
      unfold newW
      dsimp only
      generalize startOf hi t.hands[j] = a1 at q
      generalize tireOf hi t.hands[j] = a2 at q ⊢
      generalize easeOf hi t.hands[j] = a3 at q ⊢
      split <;> omega
    · rw [if_neg hjl]; omega
theorem beginTo_ok {hi : Bool} {hs : List HandD} (ho : ∀ x ∈ hs, okHand x = true) : ∀ k, k ≤ 3 → StOK (beginTo hi hs k) ∧ (beginTo hi hs k).parts = 0
  | 0, _ => ⟨⟨Int.le_refl 0, (by show (0 : Int) ≤ 10; decide), Int.le_refl 0, (by show (0 : Int) ≤ 5000 * 0; decide), fun k hk => by
    match k, hk with
    | 0, _ | 1, _ | 2, _ => exact ⟨Int.le_refl 0, (by show (0 : Int) ≤ 100 + 20 * 0; decide)⟩⟩, rfl⟩
  | k + 1, hk => by
    obtain ⟨⟨k1, k2, k3, k4, k5⟩, k6⟩ := beginTo_ok (hi := hi) ho k (by omega)
    obtain ⟨r1, r2, r3⟩ := StD.set_rest (beginTo hi hs k) k (startAt hi hs[k]?)
    have e : beginTo hi hs (k + 1) = (beginTo hi hs k).set k (startAt hi hs[k]?) := rfl
    rw [e]
    refine ⟨⟨by rw [r1]; exact k1, by rw [r1]; exact k2, by rw [r2]; exact k3, by rw [r1, r2]; exact k4, fun j hj => ?_⟩, by rw [r1]; exact k6⟩
    rw [r1, StD.get_set _ (by omega) _ j hj]
    have := k5 j hj
    split
    · cases hx : hs[k]? with
      | none => unfold startAt; dsimp only; omega
      | some x =>
        have := ends_ok (hi := hi) (ho x (List.mem_of_getElem? hx))
        unfold startAt
        dsimp only
        omega
    · omega

theorem results_state6 {fn : Func} (h : fn.results = #[.cell 6 77]) (t : Array Value) (W : World) (b : Nat) (v0 v1 v2 v3 v4 v5 : Value)
    (hb : BlockIs W b 77 #[v0, v1, v2, v3, v4, v5]) (ht : t.getD 6 undef = .pointer (some ⟨b, 0, none⟩)) :
    (results fn t).run Try.prog W = .ok (.agg #[v0, v1, v2, v3, v4, v5]) W := by
  have hc := hb.cell
  simp only [results, h]
  simp at ht
  simp [go_sem, ht, hc]

set_option maxRecDepth 100000 in
set_option maxHeartbeats 16000000 in
theorem sign_any (hi : Bool) (f g : Nat) (hf : EndFn hi f) (hg' : EndFn (!hi) g) (t : TaskR) (s : StD) (hand n : Nat) (w : World) (ht : TaskAt w n t) (hn : n ≤ w.heap.size) (hok : okTask t.d = true) (hs : StOK s) (hp : s.parts < t.d.parts.length) (hh : hand < t.d.hands.length) :
    Calls Try.prog 63 #[courseV f g t, stV s, .int .i64 hand] w fun e w' => e = .returned (stV (signD hi t.d s hand)) ∧ Below w.heap.size w w' := by
  obtain ⟨⟨hs', ps, limit, rest, swap⟩, A, ca, B, cb⟩ := t
  obtain ⟨w0, w1, w2, parts, mis, last⟩ := s
  dsimp only at hok hp hh
  obtain ⟨⟨_, hl3⟩, hho, ⟨_, hl10⟩, hpo, _, _, hsw0, hsw1⟩ := okTask_parts hok
  dsimp only at hl3 hho hl10 hpo hsw0 hsw1
  obtain ⟨s1, s2, s3, s4, s5⟩ := hs
  dsimp only at s1 s2 s3 s4
  obtain ⟨q, rfl⟩ : ∃ q : Nat, parts = q := ⟨parts.toNat, by omega⟩
  have HT := Lib.hid (ht.more hn)
  obtain ⟨bh, oh, x, hAe, hbh, hch, HX⟩ := HT.out.1.at_ hh
  obtain ⟨bp, op, p, hBe, hbp, hcp, HP⟩ := HT.out.2.at_ (show q < ps.length by omega)
  dsimp only at hAe hBe HX HP
  subst hAe hBe
  have hxs := okHand_parts (hho x (List.mem_of_getElem? HX.out))
  have hpp := hpo p (List.mem_of_getElem? HP.out)
  have hgh := s5 hand (by omega)
  obtain ⟨gh, hghe⟩ : ∃ gh, StD.get ⟨w0, w1, w2, q, mis, last⟩ hand = gh := ⟨_, rfl⟩
  rw [hghe] at hgh
  dsimp only at hgh
  have hmul := mul_le (p := p) (a := x.slip + gh) hpp.1 hpp.2 (by omega) (by omega)
  have HCH := Lib.hid (hch 6 (by omega))
  have HCP := Lib.hid hcp
  have HGC := Lib.hid ((StD.cell ⟨w0, w1, w2, q, mis, last⟩ (show hand < 3 by omega)).trans (by rw [hghe]))
  have HF1 := Lib.hid (fun (y : HandD) (w0 : World) => show Calls Try.prog f #[spanV y.t0 y.t1] w0 fun e w' => e = .returned (.int .i64 (tireOf hi y)) ∧ Below w0.heap.size w0 w' from hf.calls y.t0 y.t1 w0)
  have HF2 := Lib.hid (fun (y : HandD) (w0 : World) => show Calls Try.prog g #[spanV y.e0 y.e1] w0 fun e w' => e = .returned (.int .i64 (easeOf hi y)) ∧ Below w0.heap.size w0 w' by
    have k := hg'.calls y.e0 y.e1 w0
    cases hi <;> exact k)
  have ent1 := hf.enters
  have ent2 := hg'.enters
  have HMD : Hid (misD ⟨hs', ps, limit, rest, swap⟩ ⟨w0, w1, w2, q, mis, last⟩ hand = mis + p * (x.slip + gh) + (if 0 < (q : Int) ∧ last ≠ hand then swap else 0)) := Lib.hid (by
    unfold misD
    dsimp only
    rw [Int.toNat_natCast, HP.out, HX.out, hghe])
  have HSD : Hid (signD hi ⟨hs', ps, limit, rest, swap⟩ ⟨w0, w1, w2, q, mis, last⟩ hand = { wearTo hi hs' hand ⟨w0, w1, w2, q, misD ⟨hs', ps, limit, rest, swap⟩ ⟨w0, w1, w2, q, mis, last⟩ hand, last⟩ hs'.length with parts := (q : Int) + 1, last := hand }) := rfl
  have HOKH := Lib.hid hho
  have HS5 := Lib.hid s5
  generalize signD hi ⟨hs', ps, limit, rest, swap⟩ ⟨w0, w1, w2, q, mis, last⟩ hand = res at HSD ⊢
  generalize misD ⟨hs', ps, limit, rest, swap⟩ ⟨w0, w1, w2, q, mis, last⟩ hand = md at HSD HMD
  obtain ⟨m1, hm1⟩ : ∃ m1, mis + p * (x.slip + gh) = m1 := ⟨_, rfl⟩
  have hm1b : 0 ≤ m1 ∧ m1 ≤ 60000 := by omega
  have hw1 : IntKind.i64.wrap (x.slip + gh) = x.slip + gh := IntWalk.i64_in _ (by omega)
  have hw2 : IntKind.i64.wrap (p * (x.slip + gh)) = p * (x.slip + gh) := IntWalk.i64_in _ (by omega)
  have hw3 : IntKind.i64.wrap (mis + p * (x.slip + gh)) = m1 := by rw [hm1]; exact IntWalk.i64_in _ (by omega)
  rw [hm1] at HMD
  have hi1 : (hand : Int) < hs'.length := by omega
  have hi2 : (q : Int) < ps.length := by omega
  have hi3 : (hand : Int) < 3 := by omega
  have hi4 : hand < 3 := by omega
  clear hf hg' ht hn hok hho hpo hch hcp hghe s5 hm1 HX HP
  go_enter Try.func63, Try.ntmps63
  go_upto_region 1 with fail
  obtain ⟨W, hW, hg, hC, hS, hR, hsz⟩ := three_blocks w 80 77 77 (cellsC f g ⟨⟨hs', ps, limit, rest, swap⟩, some ⟨bh, oh, none⟩, ca, some ⟨bp, op, none⟩, cb⟩) (cellsS ⟨w0, w1, w2, q, mis, last⟩) #[.int .i64 0, .int .i64 0, .int .i64 0, .int .i64 0, .int .i64 0, .int .i64 0]
  rw [hW]
  clear hW
  obtain ⟨b2, e2⟩ : ∃ b, w.heap.size + 1 + 1 = b := ⟨_, rfl⟩
  rw [e2] at hR hsz ⊢
  obtain ⟨b1, e1⟩ : ∃ b, w.heap.size + 1 = b := ⟨_, rfl⟩
  rw [e1] at hS ⊢
  have h12 : b1 < b2 := by omega
  have h01 : w.heap.size < b1 := by omega
  clear e1 e2
  have HG := Lib.hid hg
  have HC := Lib.hid hC
  have HR := Lib.hid hR
  have HS := Lib.hid hS
  clear hg hC hR hS
  refine wp_region_lit 26 [[], [(0, 9)], [], [(2, 11)], [(3, 12)], [(4, 13)], [], [(6, 15)], [(5, 14), (7, 16)], [(8, 17)], [], [(10, 19)], [(11, 20)], [(12, 21)], [], [(13, 22), (14, 23)], [(15, 24)], [(16, 25)], [], [], [(18, 27), (19, 28)], [(20, 29)], [(17, 26), (21, 30)], [(9, 18), (22, 31)], [(1, 10), (23, 32)], []] Grow (fun i v w' => match i with
      | 0 => v = .pointer (some ⟨b1, 4, none⟩)
      | 1 => v = .int .i64 mis
      | 2 => v = .pointer (some ⟨w.heap.size, 0, none⟩)
      | 3 => v = .pointer (some ⟨w.heap.size, 0, none⟩)
      | 4 => v = .pointer (some ⟨w.heap.size, 1, none⟩)
      | 5 => v = .slice (some ⟨bp, op, none⟩) ps.length cb
      | 6 => v = .pointer (some ⟨b1, 3, none⟩)
      | 7 => v = .int .i64 q
      | 8 => v = .pointer (some ⟨bp, op + q, none⟩)
      | 9 => v = .int .i64 p
      | 10 => v = .pointer (some ⟨w.heap.size, 0, none⟩)
      | 11 => v = .pointer (some ⟨w.heap.size, 0, none⟩)
      | 12 => v = .pointer (some ⟨w.heap.size, 0, none⟩)
      | 13 => v = .slice (some ⟨bh, oh, none⟩) hs'.length ca
      | 14 => v = .int .i64 hand
      | 15 => v = .pointer (some ⟨bh, oh + hand * 7, none⟩)
      | 16 => v = .pointer (some ⟨bh, oh + hand * 7 + 6, none⟩)
      | 17 => v = .int .i64 x.slip
      | 18 => v = .int .i64 hand
      | 19 => v = .pointer (some ⟨b1, 0, none⟩)
      | 20 => v = .pointer (some ⟨b1, hand, none⟩)
      | 21 => v = .int .i64 gh
      | 22 => v = .int .i64 (x.slip + gh)
      | 23 => v = .int .i64 (p * (x.slip + gh))
      | 24 => v = .int .i64 m1
      | 25 => v = .pointer (some ⟨b1, 4, none⟩)
      | _ => False) (by kernel_rfl) (by kernel_rfl) (fun _ _ _ => Grow.trans) Grow.refl ?_ ?_ ?_
  · intro i v y y' h k
    match i, h with
    | 0, h | 1, h | 2, h | 3, h | 4, h | 5, h | 6, h | 7, h | 8, h | 9, h | 10, h | 11, h | 12, h | 13, h | 14, h | 15, h | 16, h | 17, h | 18, h | 19, h | 20, h | 21, h | 22, h | 23, h | 24, h | 25, h => exact h
  · all_goals
      simp only [StepsLit, List.take_succ_cons, List.take_zero]
      refine ⟨?_, ?_, ?_, ?_, ?_, ?_, ?_, ?_, ?_, ?_, ?_, ?_, ?_, ?_, ?_, ?_, ?_, ?_, ?_, ?_, ?_, ?_, ?_, ?_, ?_, ?_, trivial⟩
    all_goals
      intro w5 hR
      have HG5 := Lib.hid hR.of_drew
      have hcc := (HG5.out.block HC.out).cell
      have hsc := (HG5.out.block HS.out).cell
      have hsg : w5.cell? ⟨b1, hand, none⟩ = some (.int .i64 gh) := (hsc hand).trans HGC.out
      have hs3 : w5.cell? ⟨b1, 3, none⟩ = some (.int .i64 q) := hsc 3
      have hs4 : w5.cell? ⟨b1, 4, none⟩ = some (.int .i64 mis) := hsc 4
      clear hsc
      have hxc : w5.cell? ⟨bh, oh + hand * 7 + 6, none⟩ = some (.int .i64 x.slip) := (Below.cell (p := ⟨bh, oh + hand * 7 + 6, none⟩) (HG.out.trans HG5.out) hbh).trans HCH.out
      have hpc : w5.cell? ⟨bp, op + q, none⟩ = some (.int .i64 p) := (Below.cell (p := ⟨bp, op + q, none⟩) (HG.out.trans HG5.out) hbp).trans HCP.out
      clear hR
      simp only [depV, Region.wanted, cond_true]
      repeat (rintro _ rfl)
      try go_simp
    all_goals first
      | (with_reducible exact Grow.refl _)
      | skip
  · intro w5 hR
    have HG5 := Lib.hid hR.of_drew
    clear hR
    simp only [finVC, List.take_succ_cons, List.take_zero, List.drop_succ_cons, List.drop_zero]
    rintro _ rfl
    rintro _ rfl
    rintro _ rfl
    rintro _ rfl
    rintro _ rfl
    rintro _ rfl
    rintro _ rfl
    rintro _ rfl
    rintro _ rfl
    rintro _ rfl
    rintro _ rfl
    rintro _ rfl
    rintro _ rfl
    rintro _ rfl
    rintro _ rfl
    rintro _ rfl
    rintro _ rfl
    rintro _ rfl
    rintro _ rfl
    rintro _ rfl
    rintro _ rfl
    rintro _ rfl
    rintro _ rfl
    rintro _ rfl
    rintro _ rfl
    rintro _ rfl
    simp only [Act.put, List.setIfInBounds_toArray, List.set_cons_succ, List.set_cons_zero]
    have hS5 := HG5.out.block HS.out
    have hC5 := HG5.out.block HC.out
    have hR5 := HG5.out.block HR.out
    have hs4 : w5.cell? ⟨b1, 4, none⟩ = some (.int .i64 mis) := hS5.cell 4
    have hsf := hS5.frozen
    go_upto_region 2 with fail
    obtain ⟨W6, hW6, hS6, hC6, hR6, hG6⟩ : ∃ W', w5.setCell ⟨b1, 4, none⟩ (.int .i64 m1) = W' ∧ BlockIs W' b1 77 (cellsS ⟨w0, w1, w2, q, m1, last⟩) ∧ BlockIs W' w.heap.size 80 (cellsC f g ⟨⟨hs', ps, limit, rest, swap⟩, some ⟨bh, oh, none⟩, ca, some ⟨bp, op, none⟩, cb⟩) ∧ BlockIs W' b2 77 #[.int .i64 0, .int .i64 0, .int .i64 0, .int .i64 0, .int .i64 0, .int .i64 0] ∧ Grow w W' :=
      ⟨_, rfl, hS5.near 4 (.int .i64 m1), hC5.far (p := ⟨b1, 4, none⟩) (by show w.heap.size ≠ b1; omega) _, hR5.far (p := ⟨b1, 4, none⟩) (by show b2 ≠ b1; omega) _, (HG.out.trans HG5.out).setC (p := ⟨b1, 4, none⟩) (by show w.heap.size ≤ b1; omega) _⟩
    rw [hW6]
    clear hW6 hS5 hC5 hR5 hs4 hsf HG5
    have HS6 := Lib.hid hS6
    have HC6 := Lib.hid hC6
    have HR6 := Lib.hid hR6
    have HG6 := Lib.hid hG6
    have hcc := hC6.cell
    have hsf := hS6.frozen
    have hs3 : W6.cell? ⟨b1, 3, none⟩ = some (.int .i64 q) := hS6.cell 3
    have hs4 : W6.cell? ⟨b1, 4, none⟩ = some (.int .i64 m1) := hS6.cell 4
    have hs5 : W6.cell? ⟨b1, 5, none⟩ = some (.int .i64 last) := hS6.cell 5
    clear hS6 hC6 hR6 hG6
    by_cases hcs : 0 < (q : Int) ∧ last ≠ hand
    · have d1 : decide (0 < (q : Int)) = true := decide_eq_true hcs.1
      have d1n : decide (0 < q) = true := decide_eq_true (by omega)
      have d3 : (last == (hand : Int)) = false := by simpa using hcs.2
      have d4 : decide (last = (hand : Int)) = false := by simpa using hcs.2
      have d2 : (last != (hand : Int)) = true := by simpa using hcs.2
      have HM2 : Hid (md = m1 + swap) := Lib.hid (by rw [HMD.out, if_pos hcs])
      clear hcs
      go_upto_region 4 with fail
      obtain ⟨W7, hW7, hS7, hC7, hR7, hG7⟩ : ∃ W', W6.setCell ⟨b1, 4, none⟩ (.int .i64 (m1 + swap)) = W' ∧ BlockIs W' b1 77 (cellsS ⟨w0, w1, w2, q, m1 + swap, last⟩) ∧ BlockIs W' w.heap.size 80 (cellsC f g ⟨⟨hs', ps, limit, rest, swap⟩, some ⟨bh, oh, none⟩, ca, some ⟨bp, op, none⟩, cb⟩) ∧ BlockIs W' b2 77 #[.int .i64 0, .int .i64 0, .int .i64 0, .int .i64 0, .int .i64 0, .int .i64 0] ∧ Grow w W' :=
        ⟨_, rfl, HS6.out.near 4 (.int .i64 (m1 + swap)), HC6.out.far (p := ⟨b1, 4, none⟩) (by show w.heap.size ≠ b1; omega) _, HR6.out.far (p := ⟨b1, 4, none⟩) (by show b2 ≠ b1; omega) _, HG6.out.setC (p := ⟨b1, 4, none⟩) (by show w.heap.size ≤ b1; omega) _⟩
      rw [hW7]
      clear hW7 hcc hsf hs3 hs4 hs5 HS6 HC6 HR6 HG6
      rw [← HM2.out] at hS7
      have HS7 := Lib.hid hS7
      have HC7 := Lib.hid hC7
      have HR7 := Lib.hid hR7
      have HG7 := Lib.hid hG7
      clear hS7 hC7 hR7 hG7 HM2 HMD
      have hcc := HC7.out.cell
      obtain ⟨sm, hsm⟩ : ∃ sm : StD, (⟨w0, w1, w2, q, md, last⟩ : StD) = sm := ⟨_, rfl⟩
      have HSB : Hid (∀ k, k < 3 → 0 ≤ StD.get sm k ∧ StD.get sm k ≤ 300) := Lib.hid fun k hk => by
        have h := HS5.out k hk
        rw [← hsm]
        show 0 ≤ StD.get ⟨w0, w1, w2, q, mis, last⟩ k ∧ StD.get ⟨w0, w1, w2, q, mis, last⟩ k ≤ 300
        dsimp only at h
        omega
      rw [hsm] at HS7 HSD
      have HSQ : Hid (sm.parts = q) := Lib.hid (by rw [← hsm])
      clear hsm
      go_wp2_with fail
      clear hcc
      go_loopw [57] (fun iv wr => ∃ k : Nat, k ≤ hs'.length ∧ iv = .int .i64 k ∧ BlockIs wr b1 77 (cellsS (wearTo hi hs' hand sm k)) ∧ BlockIs wr w.heap.size 80 (cellsC f g ⟨⟨hs', ps, limit, rest, swap⟩, some ⟨bh, oh, none⟩, ca, some ⟨bp, op, none⟩, cb⟩) ∧ BlockIs wr b2 77 #[.int .i64 0, .int .i64 0, .int .i64 0, .int .i64 0, .int .i64 0, .int .i64 0] ∧ Grow w wr) (fun i _ => hs'.length - (intOf i).toNat)
      case atStart => exact ⟨0, Nat.zero_le _, rfl, HS7.out, HC7.out, HR7.out, HG7.out⟩
      case round =>
        obtain ⟨k, hk, rfl, hSr, hCr, hRr, hGr⟩ := hrel
        rename World => wr
        have HSr := Lib.hid hSr
        have HCr := Lib.hid hCr
        have HRr := Lib.hid hRr
        have HGr := Lib.hid hGr
        have hzr := hGr.size
        clear hSr hCr hRr hGr
        by_cases hlt : k < hs'.length
        · have hk3 : k < 3 := by omega
          have hki : (k : Int) < hs'.length := by omega
          have hki3 : (k : Int) < 3 := by omega
          obtain ⟨b, off, y, hAy, hby, hcy, HY⟩ := (HT.out.below HGr.out).1.at_ hlt
          dsimp only at hAy HY
          simp only [Option.some.injEq, Addr.mk.injEq, and_true] at hAy
          obtain ⟨rfl, rfl⟩ := hAy
          have e0 := hcy 0 (by omega); have e1 := hcy 1 (by omega); have e2 := hcy 2 (by omega); have e3 := hcy 3 (by omega); have e4 := hcy 4 (by omega); have e5 := hcy 5 (by omega); have e6 := hcy 6 (by omega)
          rw [Nat.add_zero] at e0
          have hyo := ends_ok (hi := hi) (HOKH.out y (List.mem_of_getElem? HY.out))
          obtain ⟨gk, hgk⟩ : ∃ gk, StD.get sm k = gk := ⟨_, rfl⟩
          have hgb := HSB.out k hk3
          rw [hgk] at hgb
          have HGK := Lib.hid ((StD.cell (wearTo hi hs' hand sm k) hk3).trans (by rw [wearTo_at hi hs' hand sm hk3, hgk]))
          have HW0 : Hid (wearTo hi hs' hand sm (k + 1) = (wearTo hi hs' hand sm k).set k (newW hi (some y) (decide (k = hand)) gk)) := Lib.hid (by
            show (wearTo hi hs' hand sm k).set k _ = _
            rw [HY.out, hgk])
          clear hcy hgk
          go_upto_region 7 with fail
          obtain ⟨W3, hW3, hg3, hY3, hsz3⟩ := one_block wr 52 (cellsH y)
          rw [hW3]
          clear hW3 e0 e1 e2 e3 e4 e5 e6
          have HG3 := Lib.hid hg3
          have HY3 := Lib.hid hY3
          have HS3 := Lib.hid (hg3.block HSr.out)
          have HC3 := Lib.hid (hg3.block HCr.out)
          have HR3 := Lib.hid (hg3.block HRr.out)
          clear hg3 hY3
          by_cases hkh : k = hand
          · have d8 : ((k : Int) == (hand : Int)) = true := by rw [beq_iff_eq]; omega
            have d9 : decide ((k : Int) = (hand : Int)) = true := decide_eq_true (by omega)
            obtain ⟨tv, htv⟩ : ∃ tv, tireOf hi y = tv := ⟨_, rfl⟩
            have HWS : Hid (wearTo hi hs' hand sm (k + 1) = (wearTo hi hs' hand sm k).set k (gk + tv)) := Lib.hid (by
              rw [HW0.out, decide_eq_true hkh, ← htv]
              rfl)
            have HFY := Lib.hid (by have k1 := HF1.out y; rw [htv] at k1; exact k1)
            rw [htv] at hyo
            have hsum : IntKind.i64.wrap (gk + tv) = gk + tv := IntWalk.i64_in _ (by omega)
            clear htv hkh HW0
            go_upto_region 8 with fail
            refine wp_region_lit 12 [[], [], [(0, 65), (1, 66)], [(2, 67)], [], [(4, 69)], [], [(6, 71)], [(5, 70), (7, 72)], [(3, 68), (8, 73)], [], [(0, 65), (10, 75)]] Grow (fun i v w' => match i with
                | 0 => v = .int .i64 k
                | 1 => v = .pointer (some ⟨b1, 0, none⟩)
                | 2 => v = .pointer (some ⟨b1, k, none⟩)
                | 3 => v = .int .i64 gk
                | 4 => v = .pointer (some ⟨w.heap.size, 5, none⟩)
                | 5 => v = endV f
                | 6 => v = .pointer (some ⟨wr.heap.size, 2, none⟩)
                | 7 => v = spanV y.t0 y.t1
                | 8 => v = .int .i64 tv
                | 9 => v = .int .i64 (gk + tv)
                | 10 => v = .pointer (some ⟨b1, 0, none⟩)
                | 11 => v = .pointer (some ⟨b1, k, none⟩)
                | _ => False) (by kernel_rfl) (by kernel_rfl) (fun _ _ _ => Grow.trans) Grow.refl ?_ ?_ ?_
            · intro i v y y' h k
              match i, h with
              | 0, h | 1, h | 2, h | 3, h | 4, h | 5, h | 6, h | 7, h | 8, h | 9, h | 10, h | 11, h => exact h
            · all_goals
                simp only [StepsLit, List.take_succ_cons, List.take_zero]
                refine ⟨?_, ?_, ?_, ?_, ?_, ?_, ?_, ?_, ?_, ?_, ?_, ?_, trivial⟩
              all_goals
                intro w5 hR
                have HG5 := Lib.hid hR.of_drew
                have hcc := (HG5.out.block HC3.out).cell
                have hsg : w5.cell? ⟨b1, k, none⟩ = some (.int .i64 gk) := ((HG5.out.block HS3.out).cell k).trans HGK.out
                have hyc := (HG5.out.block HY3.out).cell
                clear hR
                simp only [depV, Region.wanted, cond_true]
                repeat (rintro _ rfl)
                try go_simp
              all_goals first
                | (with_reducible exact Grow.refl _)
                | (with_reducible refine ⟨Grow.refl _, ?_⟩; split <;> omega)
                | skip
              · refine (HFY.out _).mono ?_
                rintro e w6 ⟨rfl, hb6⟩
                exact ⟨hb6, rfl⟩
            · intro w5 hR
              have HG5 := Lib.hid hR.of_drew
              have hsg : w5.cell? ⟨b1, k, none⟩ = some (.int .i64 gk) := ((HG5.out.block HS3.out).cell k).trans HGK.out
              have hsf := (HG5.out.block HS3.out).frozen
              have HS9 : Hid (BlockIs (w5.setCell ⟨b1, k, none⟩ (.int .i64 (gk + tv))) b1 77 (cellsS (wearTo hi hs' hand sm (k + 1)))) := Lib.hid (by
                have h := (HG5.out.block HS3.out).near k (.int .i64 (gk + tv))
                rw [StD.put _ hk3] at h
                rw [HWS.out]
                exact h)
              have HC9 := Lib.hid ((HG5.out.block HC3.out).far (p := ⟨b1, k, none⟩) (by show w.heap.size ≠ b1; omega) (.int .i64 (gk + tv)))
              have HR9 := Lib.hid ((HG5.out.block HR3.out).far (p := ⟨b1, k, none⟩) (by show b2 ≠ b1; omega) (.int .i64 (gk + tv)))
              have HG9 : Hid (Grow w (w5.setCell ⟨b1, k, none⟩ (.int .i64 (gk + tv)))) := Lib.hid ((HGr.out.trans (HG3.out.trans HG5.out)).setC (p := ⟨b1, k, none⟩) (by show w.heap.size ≤ b1; omega) _)
              clear hR
              simp only [finVC, List.take_succ_cons, List.take_zero, List.drop_succ_cons, List.drop_zero]
              rintro _ rfl
              rintro _ rfl
              rintro _ rfl
              rintro _ rfl
              rintro _ rfl
              rintro _ rfl
              rintro _ rfl
              rintro _ rfl
              rintro _ rfl
              rintro _ rfl
              rintro _ rfl
              rintro _ rfl
              simp only [Act.put, List.setIfInBounds_toArray, List.set_cons_succ, List.set_cons_zero]
              go_wp2
              go_roundw
              case rel => exact ⟨k + 1, by omega, by go_num, HS9.out, HC9.out, HR9.out, HG9.out⟩
              case measure => simp [intOf]; omega
          · have d8 : ((k : Int) == (hand : Int)) = false := by rw [beq_eq_false_iff_ne]; omega
            have d9 : decide ((k : Int) = (hand : Int)) = false := decide_eq_false (by omega)
            obtain ⟨ev, hev⟩ : ∃ ev, easeOf hi y = ev := ⟨_, rfl⟩
            have HWS : Hid (wearTo hi hs' hand sm (k + 1) = (wearTo hi hs' hand sm k).set k (max 0 (gk - ev))) := Lib.hid (by
              rw [HW0.out, decide_eq_false hkh, ← hev]
              rfl)
            have HFY := Lib.hid (by have k1 := HF2.out y; rw [hev] at k1; exact k1)
            rw [hev] at hyo
            have hsum : IntKind.i64.wrap (gk - ev) = gk - ev := IntWalk.i64_in _ (by omega)
            clear hev hkh HW0
            go_upto_region 9 with fail
            refine wp_region_lit 14 [[], [], [], [(1, 78), (2, 79)], [(3, 80)], [], [(5, 82)], [], [(7, 84)], [(6, 83), (8, 85)], [(4, 81), (9, 86)], [(10, 87)], [], [(0, 77), (12, 89)]] Grow (fun i v w' => match i with
                | 0 => v = .int .i64 k
                | 1 => v = .int .i64 k
                | 2 => v = .pointer (some ⟨b1, 0, none⟩)
                | 3 => v = .pointer (some ⟨b1, k, none⟩)
                | 4 => v = .int .i64 gk
                | 5 => v = .pointer (some ⟨w.heap.size, 6, none⟩)
                | 6 => v = endV g
                | 7 => v = .pointer (some ⟨wr.heap.size, 4, none⟩)
                | 8 => v = spanV y.e0 y.e1
                | 9 => v = .int .i64 ev
                | 10 => v = .int .i64 (gk - ev)
                | 11 => v = .int .i64 (max 0 (gk - ev))
                | 12 => v = .pointer (some ⟨b1, 0, none⟩)
                | 13 => v = .pointer (some ⟨b1, k, none⟩)
                | _ => False) (by kernel_rfl) (by kernel_rfl) (fun _ _ _ => Grow.trans) Grow.refl ?_ ?_ ?_
            · intro i v y y' h k
              match i, h with
              | 0, h | 1, h | 2, h | 3, h | 4, h | 5, h | 6, h | 7, h | 8, h | 9, h | 10, h | 11, h | 12, h | 13, h => exact h
            · all_goals
                simp only [StepsLit, List.take_succ_cons, List.take_zero]
                refine ⟨?_, ?_, ?_, ?_, ?_, ?_, ?_, ?_, ?_, ?_, ?_, ?_, ?_, ?_, trivial⟩
              all_goals
                intro w5 hR
                have HG5 := Lib.hid hR.of_drew
                have hcc := (HG5.out.block HC3.out).cell
                have hsg : w5.cell? ⟨b1, k, none⟩ = some (.int .i64 gk) := ((HG5.out.block HS3.out).cell k).trans HGK.out
                have hyc := (HG5.out.block HY3.out).cell
                clear hR
                simp only [depV, Region.wanted, cond_true]
                repeat (rintro _ rfl)
                try go_simp
              all_goals first
                | (with_reducible exact Grow.refl _)
                | (with_reducible refine ⟨Grow.refl _, ?_⟩; split <;> omega)
                | skip
              · refine (HFY.out _).mono ?_
                rintro e w6 ⟨rfl, hb6⟩
                exact ⟨hb6, rfl⟩
            · intro w5 hR
              have HG5 := Lib.hid hR.of_drew
              have hsg : w5.cell? ⟨b1, k, none⟩ = some (.int .i64 gk) := ((HG5.out.block HS3.out).cell k).trans HGK.out
              have hsf := (HG5.out.block HS3.out).frozen
              have HS9 : Hid (BlockIs (w5.setCell ⟨b1, k, none⟩ (.int .i64 (max 0 (gk - ev)))) b1 77 (cellsS (wearTo hi hs' hand sm (k + 1)))) := Lib.hid (by
                have h := (HG5.out.block HS3.out).near k (.int .i64 (max 0 (gk - ev)))
                rw [StD.put _ hk3] at h
                rw [HWS.out]
                exact h)
              have HC9 := Lib.hid ((HG5.out.block HC3.out).far (p := ⟨b1, k, none⟩) (by show w.heap.size ≠ b1; omega) (.int .i64 (max 0 (gk - ev))))
              have HR9 := Lib.hid ((HG5.out.block HR3.out).far (p := ⟨b1, k, none⟩) (by show b2 ≠ b1; omega) (.int .i64 (max 0 (gk - ev))))
              have HG9 : Hid (Grow w (w5.setCell ⟨b1, k, none⟩ (.int .i64 (max 0 (gk - ev))))) := Lib.hid ((HGr.out.trans (HG3.out.trans HG5.out)).setC (p := ⟨b1, k, none⟩) (by show w.heap.size ≤ b1; omega) _)
              clear hR
              simp only [finVC, List.take_succ_cons, List.take_zero, List.drop_succ_cons, List.drop_zero]
              rintro _ rfl
              rintro _ rfl
              rintro _ rfl
              rintro _ rfl
              rintro _ rfl
              rintro _ rfl
              rintro _ rfl
              rintro _ rfl
              rintro _ rfl
              rintro _ rfl
              rintro _ rfl
              rintro _ rfl
              rintro _ rfl
              rintro _ rfl
              simp only [Act.put, List.setIfInBounds_toArray, List.set_cons_succ, List.set_cons_zero]
              go_wp2
              go_roundw
              case rel => exact ⟨k + 1, by omega, by go_num, HS9.out, HC9.out, HR9.out, HG9.out⟩
              case measure => simp [intOf]; omega
        · obtain rfl : k = hs'.length := by omega
          have hr := wearTo_rest hi hs' hand sm hs'.length
          obtain ⟨r, hre⟩ : ∃ r, wearTo hi hs' hand sm hs'.length = r := ⟨_, rfl⟩
          have HRES : Hid (res = { r with parts := (q : Int) + 1, last := hand }) := Lib.hid (by rw [HSD.out, hre])
          rw [hre] at hr HSr
          have hrq : r.parts = q := hr.1.trans HSQ.out
          have hr3 : wr.cell? ⟨b1, 3, none⟩ = some (.int .i64 q) := (HSr.out.cell 3).trans (by rw [← hrq]; rfl)
          have hr5 : wr.cell? ⟨b1, 5, none⟩ = some (.int .i64 r.last) := HSr.out.cell 5
          have hsf := HSr.out.frozen
          clear hr hre hrq
          go_upto_region 13 with fail
          obtain ⟨W9, hW9, hS9, hR9, hG9⟩ : ∃ W', (wr.setCell ⟨b1, 3, none⟩ (.int .i64 ((q : Int) + 1))).setCell ⟨b1, 5, none⟩ (.int .i64 hand) = W' ∧ BlockIs W' b1 77 (cellsS { r with parts := (q : Int) + 1, last := hand }) ∧ BlockIs W' b2 77 #[.int .i64 0, .int .i64 0, .int .i64 0, .int .i64 0, .int .i64 0, .int .i64 0] ∧ Grow w W' :=
            ⟨_, rfl, (HSr.out.near 3 (.int .i64 ((q : Int) + 1))).near 5 (.int .i64 hand), (HRr.out.far (p := ⟨b1, 3, none⟩) (by show b2 ≠ b1; omega) _).far (p := ⟨b1, 5, none⟩) (by show b2 ≠ b1; omega) _, (HGr.out.setC (p := ⟨b1, 3, none⟩) (by show w.heap.size ≤ b1; omega) _).setC (p := ⟨b1, 5, none⟩) (by show w.heap.size ≤ b1; omega) _⟩
          rw [hW9]
          clear hW9 hr3 hr5 hsf
          rw [← HRES.out] at hS9
          have hsc := hS9.cell
          have hrc := hR9.cell
          have hrf := hR9.frozen
          have H6 := Lib.hid (six_stores hR9 (.int .i64 res.w0) (.int .i64 res.w1) (.int .i64 res.w2) (.int .i64 res.parts) (.int .i64 res.mis) (.int .i64 res.last))
          have HF : Hid (Below w.heap.size w _) := Lib.hid (hG9.trans' (six_below (w := W9) (B := w.heap.size) (b := b2) (by omega) (.int .i64 res.w0) (.int .i64 res.w1) (.int .i64 res.w2) (.int .i64 res.parts) (.int .i64 res.mis) (.int .i64 res.last)))
          clear hS9 hR9 hG9
          go_wp2
          exact bodyPost_ret (results_state6 Try.results63 _ _ b2 _ _ _ _ _ _ H6.out rfl) rfl ⟨rfl, HF.out⟩
    · have HM2 : Hid (md = m1) := Lib.hid (by rw [HMD.out, if_neg hcs]; omega)
      by_cases hq0 : 0 < (q : Int)
      · have d1 : decide (0 < (q : Int)) = true := decide_eq_true hq0
        have d1n : decide (0 < q) = true := decide_eq_true (by omega)
        have hlh : last = hand := by
          by_cases h : last = hand
          · exact h
          · exact absurd ⟨hq0, h⟩ hcs
        have d2 : (last != (hand : Int)) = false := by simpa using hlh
        have d3 : (last == (hand : Int)) = true := by simpa using hlh
        have d4 : decide (last = (hand : Int)) = true := by simpa using hlh
        clear hlh hcs
        go_upto_region 4 with fail
        clear hcc hsf hs3 hs4 hs5
        have HS7 := HS6
        rw [← HM2.out] at HS7
        have HC7 := HC6
        have HR7 := HR6
        have HG7 := HG6
        clear HS6 HC6 HR6 HG6 HM2 HMD
        have hcc := HC7.out.cell
        obtain ⟨sm, hsm⟩ : ∃ sm : StD, (⟨w0, w1, w2, q, md, last⟩ : StD) = sm := ⟨_, rfl⟩
        have HSB : Hid (∀ k, k < 3 → 0 ≤ StD.get sm k ∧ StD.get sm k ≤ 300) := Lib.hid fun k hk => by
          have h := HS5.out k hk
          rw [← hsm]
          show 0 ≤ StD.get ⟨w0, w1, w2, q, mis, last⟩ k ∧ StD.get ⟨w0, w1, w2, q, mis, last⟩ k ≤ 300
          dsimp only at h
          omega
        rw [hsm] at HS7 HSD
        have HSQ : Hid (sm.parts = q) := Lib.hid (by rw [← hsm])
        clear hsm
        go_wp2_with fail
        clear hcc
        go_loopw [57] (fun iv wr => ∃ k : Nat, k ≤ hs'.length ∧ iv = .int .i64 k ∧ BlockIs wr b1 77 (cellsS (wearTo hi hs' hand sm k)) ∧ BlockIs wr w.heap.size 80 (cellsC f g ⟨⟨hs', ps, limit, rest, swap⟩, some ⟨bh, oh, none⟩, ca, some ⟨bp, op, none⟩, cb⟩) ∧ BlockIs wr b2 77 #[.int .i64 0, .int .i64 0, .int .i64 0, .int .i64 0, .int .i64 0, .int .i64 0] ∧ Grow w wr) (fun i _ => hs'.length - (intOf i).toNat)
        case atStart => exact ⟨0, Nat.zero_le _, rfl, HS7.out, HC7.out, HR7.out, HG7.out⟩
        case round =>
          obtain ⟨k, hk, rfl, hSr, hCr, hRr, hGr⟩ := hrel
          rename World => wr
          have HSr := Lib.hid hSr
          have HCr := Lib.hid hCr
          have HRr := Lib.hid hRr
          have HGr := Lib.hid hGr
          have hzr := hGr.size
          clear hSr hCr hRr hGr
          by_cases hlt : k < hs'.length
          · have hk3 : k < 3 := by omega
            have hki : (k : Int) < hs'.length := by omega
            have hki3 : (k : Int) < 3 := by omega
            obtain ⟨b, off, y, hAy, hby, hcy, HY⟩ := (HT.out.below HGr.out).1.at_ hlt
            dsimp only at hAy HY
            simp only [Option.some.injEq, Addr.mk.injEq, and_true] at hAy
            obtain ⟨rfl, rfl⟩ := hAy
            have e0 := hcy 0 (by omega); have e1 := hcy 1 (by omega); have e2 := hcy 2 (by omega); have e3 := hcy 3 (by omega); have e4 := hcy 4 (by omega); have e5 := hcy 5 (by omega); have e6 := hcy 6 (by omega)
            rw [Nat.add_zero] at e0
            have hyo := ends_ok (hi := hi) (HOKH.out y (List.mem_of_getElem? HY.out))
            obtain ⟨gk, hgk⟩ : ∃ gk, StD.get sm k = gk := ⟨_, rfl⟩
            have hgb := HSB.out k hk3
            rw [hgk] at hgb
            have HGK := Lib.hid ((StD.cell (wearTo hi hs' hand sm k) hk3).trans (by rw [wearTo_at hi hs' hand sm hk3, hgk]))
            have HW0 : Hid (wearTo hi hs' hand sm (k + 1) = (wearTo hi hs' hand sm k).set k (newW hi (some y) (decide (k = hand)) gk)) := Lib.hid (by
              show (wearTo hi hs' hand sm k).set k _ = _
              rw [HY.out, hgk])
            clear hcy hgk
            go_upto_region 7 with fail
            obtain ⟨W3, hW3, hg3, hY3, hsz3⟩ := one_block wr 52 (cellsH y)
            rw [hW3]
            clear hW3 e0 e1 e2 e3 e4 e5 e6
            have HG3 := Lib.hid hg3
            have HY3 := Lib.hid hY3
            have HS3 := Lib.hid (hg3.block HSr.out)
            have HC3 := Lib.hid (hg3.block HCr.out)
            have HR3 := Lib.hid (hg3.block HRr.out)
            clear hg3 hY3
            by_cases hkh : k = hand
            · have d8 : ((k : Int) == (hand : Int)) = true := by rw [beq_iff_eq]; omega
              have d9 : decide ((k : Int) = (hand : Int)) = true := decide_eq_true (by omega)
              obtain ⟨tv, htv⟩ : ∃ tv, tireOf hi y = tv := ⟨_, rfl⟩
              have HWS : Hid (wearTo hi hs' hand sm (k + 1) = (wearTo hi hs' hand sm k).set k (gk + tv)) := Lib.hid (by
                rw [HW0.out, decide_eq_true hkh, ← htv]
                rfl)
              have HFY := Lib.hid (by have k1 := HF1.out y; rw [htv] at k1; exact k1)
              rw [htv] at hyo
              have hsum : IntKind.i64.wrap (gk + tv) = gk + tv := IntWalk.i64_in _ (by omega)
              clear htv hkh HW0
              go_upto_region 8 with fail
              refine wp_region_lit 12 [[], [], [(0, 65), (1, 66)], [(2, 67)], [], [(4, 69)], [], [(6, 71)], [(5, 70), (7, 72)], [(3, 68), (8, 73)], [], [(0, 65), (10, 75)]] Grow (fun i v w' => match i with
                  | 0 => v = .int .i64 k
                  | 1 => v = .pointer (some ⟨b1, 0, none⟩)
                  | 2 => v = .pointer (some ⟨b1, k, none⟩)
                  | 3 => v = .int .i64 gk
                  | 4 => v = .pointer (some ⟨w.heap.size, 5, none⟩)
                  | 5 => v = endV f
                  | 6 => v = .pointer (some ⟨wr.heap.size, 2, none⟩)
                  | 7 => v = spanV y.t0 y.t1
                  | 8 => v = .int .i64 tv
                  | 9 => v = .int .i64 (gk + tv)
                  | 10 => v = .pointer (some ⟨b1, 0, none⟩)
                  | 11 => v = .pointer (some ⟨b1, k, none⟩)
                  | _ => False) (by kernel_rfl) (by kernel_rfl) (fun _ _ _ => Grow.trans) Grow.refl ?_ ?_ ?_
              · intro i v y y' h k
                match i, h with
                | 0, h | 1, h | 2, h | 3, h | 4, h | 5, h | 6, h | 7, h | 8, h | 9, h | 10, h | 11, h => exact h
              · all_goals
                  simp only [StepsLit, List.take_succ_cons, List.take_zero]
                  refine ⟨?_, ?_, ?_, ?_, ?_, ?_, ?_, ?_, ?_, ?_, ?_, ?_, trivial⟩
                all_goals
                  intro w5 hR
                  have HG5 := Lib.hid hR.of_drew
                  have hcc := (HG5.out.block HC3.out).cell
                  have hsg : w5.cell? ⟨b1, k, none⟩ = some (.int .i64 gk) := ((HG5.out.block HS3.out).cell k).trans HGK.out
                  have hyc := (HG5.out.block HY3.out).cell
                  clear hR
                  simp only [depV, Region.wanted, cond_true]
                  repeat (rintro _ rfl)
                  try go_simp
                all_goals first
                  | (with_reducible exact Grow.refl _)
                  | (with_reducible refine ⟨Grow.refl _, ?_⟩; split <;> omega)
                  | skip
                · refine (HFY.out _).mono ?_
                  rintro e w6 ⟨rfl, hb6⟩
                  exact ⟨hb6, rfl⟩
              · intro w5 hR
                have HG5 := Lib.hid hR.of_drew
                have hsg : w5.cell? ⟨b1, k, none⟩ = some (.int .i64 gk) := ((HG5.out.block HS3.out).cell k).trans HGK.out
                have hsf := (HG5.out.block HS3.out).frozen
                have HS9 : Hid (BlockIs (w5.setCell ⟨b1, k, none⟩ (.int .i64 (gk + tv))) b1 77 (cellsS (wearTo hi hs' hand sm (k + 1)))) := Lib.hid (by
                  have h := (HG5.out.block HS3.out).near k (.int .i64 (gk + tv))
                  rw [StD.put _ hk3] at h
                  rw [HWS.out]
                  exact h)
                have HC9 := Lib.hid ((HG5.out.block HC3.out).far (p := ⟨b1, k, none⟩) (by show w.heap.size ≠ b1; omega) (.int .i64 (gk + tv)))
                have HR9 := Lib.hid ((HG5.out.block HR3.out).far (p := ⟨b1, k, none⟩) (by show b2 ≠ b1; omega) (.int .i64 (gk + tv)))
                have HG9 : Hid (Grow w (w5.setCell ⟨b1, k, none⟩ (.int .i64 (gk + tv)))) := Lib.hid ((HGr.out.trans (HG3.out.trans HG5.out)).setC (p := ⟨b1, k, none⟩) (by show w.heap.size ≤ b1; omega) _)
                clear hR
                simp only [finVC, List.take_succ_cons, List.take_zero, List.drop_succ_cons, List.drop_zero]
                rintro _ rfl
                rintro _ rfl
                rintro _ rfl
                rintro _ rfl
                rintro _ rfl
                rintro _ rfl
                rintro _ rfl
                rintro _ rfl
                rintro _ rfl
                rintro _ rfl
                rintro _ rfl
                rintro _ rfl
                simp only [Act.put, List.setIfInBounds_toArray, List.set_cons_succ, List.set_cons_zero]
                go_wp2
                go_roundw
                case rel => exact ⟨k + 1, by omega, by go_num, HS9.out, HC9.out, HR9.out, HG9.out⟩
                case measure => simp [intOf]; omega
            · have d8 : ((k : Int) == (hand : Int)) = false := by rw [beq_eq_false_iff_ne]; omega
              have d9 : decide ((k : Int) = (hand : Int)) = false := decide_eq_false (by omega)
              obtain ⟨ev, hev⟩ : ∃ ev, easeOf hi y = ev := ⟨_, rfl⟩
              have HWS : Hid (wearTo hi hs' hand sm (k + 1) = (wearTo hi hs' hand sm k).set k (max 0 (gk - ev))) := Lib.hid (by
                rw [HW0.out, decide_eq_false hkh, ← hev]
                rfl)
              have HFY := Lib.hid (by have k1 := HF2.out y; rw [hev] at k1; exact k1)
              rw [hev] at hyo
              have hsum : IntKind.i64.wrap (gk - ev) = gk - ev := IntWalk.i64_in _ (by omega)
              clear hev hkh HW0
              go_upto_region 9 with fail
              refine wp_region_lit 14 [[], [], [], [(1, 78), (2, 79)], [(3, 80)], [], [(5, 82)], [], [(7, 84)], [(6, 83), (8, 85)], [(4, 81), (9, 86)], [(10, 87)], [], [(0, 77), (12, 89)]] Grow (fun i v w' => match i with
                  | 0 => v = .int .i64 k
                  | 1 => v = .int .i64 k
                  | 2 => v = .pointer (some ⟨b1, 0, none⟩)
                  | 3 => v = .pointer (some ⟨b1, k, none⟩)
                  | 4 => v = .int .i64 gk
                  | 5 => v = .pointer (some ⟨w.heap.size, 6, none⟩)
                  | 6 => v = endV g
                  | 7 => v = .pointer (some ⟨wr.heap.size, 4, none⟩)
                  | 8 => v = spanV y.e0 y.e1
                  | 9 => v = .int .i64 ev
                  | 10 => v = .int .i64 (gk - ev)
                  | 11 => v = .int .i64 (max 0 (gk - ev))
                  | 12 => v = .pointer (some ⟨b1, 0, none⟩)
                  | 13 => v = .pointer (some ⟨b1, k, none⟩)
                  | _ => False) (by kernel_rfl) (by kernel_rfl) (fun _ _ _ => Grow.trans) Grow.refl ?_ ?_ ?_
              · intro i v y y' h k
                match i, h with
                | 0, h | 1, h | 2, h | 3, h | 4, h | 5, h | 6, h | 7, h | 8, h | 9, h | 10, h | 11, h | 12, h | 13, h => exact h
              · all_goals
                  simp only [StepsLit, List.take_succ_cons, List.take_zero]
                  refine ⟨?_, ?_, ?_, ?_, ?_, ?_, ?_, ?_, ?_, ?_, ?_, ?_, ?_, ?_, trivial⟩
                all_goals
                  intro w5 hR
                  have HG5 := Lib.hid hR.of_drew
                  have hcc := (HG5.out.block HC3.out).cell
                  have hsg : w5.cell? ⟨b1, k, none⟩ = some (.int .i64 gk) := ((HG5.out.block HS3.out).cell k).trans HGK.out
                  have hyc := (HG5.out.block HY3.out).cell
                  clear hR
                  simp only [depV, Region.wanted, cond_true]
                  repeat (rintro _ rfl)
                  try go_simp
                all_goals first
                  | (with_reducible exact Grow.refl _)
                  | (with_reducible refine ⟨Grow.refl _, ?_⟩; split <;> omega)
                  | skip
                · refine (HFY.out _).mono ?_
                  rintro e w6 ⟨rfl, hb6⟩
                  exact ⟨hb6, rfl⟩
              · intro w5 hR
                have HG5 := Lib.hid hR.of_drew
                have hsg : w5.cell? ⟨b1, k, none⟩ = some (.int .i64 gk) := ((HG5.out.block HS3.out).cell k).trans HGK.out
                have hsf := (HG5.out.block HS3.out).frozen
                have HS9 : Hid (BlockIs (w5.setCell ⟨b1, k, none⟩ (.int .i64 (max 0 (gk - ev)))) b1 77 (cellsS (wearTo hi hs' hand sm (k + 1)))) := Lib.hid (by
                  have h := (HG5.out.block HS3.out).near k (.int .i64 (max 0 (gk - ev)))
                  rw [StD.put _ hk3] at h
                  rw [HWS.out]
                  exact h)
                have HC9 := Lib.hid ((HG5.out.block HC3.out).far (p := ⟨b1, k, none⟩) (by show w.heap.size ≠ b1; omega) (.int .i64 (max 0 (gk - ev))))
                have HR9 := Lib.hid ((HG5.out.block HR3.out).far (p := ⟨b1, k, none⟩) (by show b2 ≠ b1; omega) (.int .i64 (max 0 (gk - ev))))
                have HG9 : Hid (Grow w (w5.setCell ⟨b1, k, none⟩ (.int .i64 (max 0 (gk - ev))))) := Lib.hid ((HGr.out.trans (HG3.out.trans HG5.out)).setC (p := ⟨b1, k, none⟩) (by show w.heap.size ≤ b1; omega) _)
                clear hR
                simp only [finVC, List.take_succ_cons, List.take_zero, List.drop_succ_cons, List.drop_zero]
                rintro _ rfl
                rintro _ rfl
                rintro _ rfl
                rintro _ rfl
                rintro _ rfl
                rintro _ rfl
                rintro _ rfl
                rintro _ rfl
                rintro _ rfl
                rintro _ rfl
                rintro _ rfl
                rintro _ rfl
                rintro _ rfl
                rintro _ rfl
                simp only [Act.put, List.setIfInBounds_toArray, List.set_cons_succ, List.set_cons_zero]
                go_wp2
                go_roundw
                case rel => exact ⟨k + 1, by omega, by go_num, HS9.out, HC9.out, HR9.out, HG9.out⟩
                case measure => simp [intOf]; omega
          · obtain rfl : k = hs'.length := by omega
            have hr := wearTo_rest hi hs' hand sm hs'.length
            obtain ⟨r, hre⟩ : ∃ r, wearTo hi hs' hand sm hs'.length = r := ⟨_, rfl⟩
            have HRES : Hid (res = { r with parts := (q : Int) + 1, last := hand }) := Lib.hid (by rw [HSD.out, hre])
            rw [hre] at hr HSr
            have hrq : r.parts = q := hr.1.trans HSQ.out
            have hr3 : wr.cell? ⟨b1, 3, none⟩ = some (.int .i64 q) := (HSr.out.cell 3).trans (by rw [← hrq]; rfl)
            have hr5 : wr.cell? ⟨b1, 5, none⟩ = some (.int .i64 r.last) := HSr.out.cell 5
            have hsf := HSr.out.frozen
            clear hr hre hrq
            go_upto_region 13 with fail
            obtain ⟨W9, hW9, hS9, hR9, hG9⟩ : ∃ W', (wr.setCell ⟨b1, 3, none⟩ (.int .i64 ((q : Int) + 1))).setCell ⟨b1, 5, none⟩ (.int .i64 hand) = W' ∧ BlockIs W' b1 77 (cellsS { r with parts := (q : Int) + 1, last := hand }) ∧ BlockIs W' b2 77 #[.int .i64 0, .int .i64 0, .int .i64 0, .int .i64 0, .int .i64 0, .int .i64 0] ∧ Grow w W' :=
              ⟨_, rfl, (HSr.out.near 3 (.int .i64 ((q : Int) + 1))).near 5 (.int .i64 hand), (HRr.out.far (p := ⟨b1, 3, none⟩) (by show b2 ≠ b1; omega) _).far (p := ⟨b1, 5, none⟩) (by show b2 ≠ b1; omega) _, (HGr.out.setC (p := ⟨b1, 3, none⟩) (by show w.heap.size ≤ b1; omega) _).setC (p := ⟨b1, 5, none⟩) (by show w.heap.size ≤ b1; omega) _⟩
            rw [hW9]
            clear hW9 hr3 hr5 hsf
            rw [← HRES.out] at hS9
            have hsc := hS9.cell
            have hrc := hR9.cell
            have hrf := hR9.frozen
            have H6 := Lib.hid (six_stores hR9 (.int .i64 res.w0) (.int .i64 res.w1) (.int .i64 res.w2) (.int .i64 res.parts) (.int .i64 res.mis) (.int .i64 res.last))
            have HF : Hid (Below w.heap.size w _) := Lib.hid (hG9.trans' (six_below (w := W9) (B := w.heap.size) (b := b2) (by omega) (.int .i64 res.w0) (.int .i64 res.w1) (.int .i64 res.w2) (.int .i64 res.parts) (.int .i64 res.mis) (.int .i64 res.last)))
            clear hS9 hR9 hG9
            go_wp2
            exact bodyPost_ret (results_state6 Try.results63 _ _ b2 _ _ _ _ _ _ H6.out rfl) rfl ⟨rfl, HF.out⟩
      · have d1 : decide (0 < (q : Int)) = false := decide_eq_false hq0
        have d1n : decide (0 < q) = false := decide_eq_false (by omega)
        clear hcs
        go_upto_region 4 with fail
        clear hcc hsf hs3 hs4 hs5
        have HS7 := HS6
        rw [← HM2.out] at HS7
        have HC7 := HC6
        have HR7 := HR6
        have HG7 := HG6
        clear HS6 HC6 HR6 HG6 HM2 HMD
        have hcc := HC7.out.cell
        obtain ⟨sm, hsm⟩ : ∃ sm : StD, (⟨w0, w1, w2, q, md, last⟩ : StD) = sm := ⟨_, rfl⟩
        have HSB : Hid (∀ k, k < 3 → 0 ≤ StD.get sm k ∧ StD.get sm k ≤ 300) := Lib.hid fun k hk => by
          have h := HS5.out k hk
          rw [← hsm]
          show 0 ≤ StD.get ⟨w0, w1, w2, q, mis, last⟩ k ∧ StD.get ⟨w0, w1, w2, q, mis, last⟩ k ≤ 300
          dsimp only at h
          omega
        rw [hsm] at HS7 HSD
        have HSQ : Hid (sm.parts = q) := Lib.hid (by rw [← hsm])
        clear hsm
        go_wp2_with fail
        clear hcc
        go_loopw [57] (fun iv wr => ∃ k : Nat, k ≤ hs'.length ∧ iv = .int .i64 k ∧ BlockIs wr b1 77 (cellsS (wearTo hi hs' hand sm k)) ∧ BlockIs wr w.heap.size 80 (cellsC f g ⟨⟨hs', ps, limit, rest, swap⟩, some ⟨bh, oh, none⟩, ca, some ⟨bp, op, none⟩, cb⟩) ∧ BlockIs wr b2 77 #[.int .i64 0, .int .i64 0, .int .i64 0, .int .i64 0, .int .i64 0, .int .i64 0] ∧ Grow w wr) (fun i _ => hs'.length - (intOf i).toNat)
        case atStart => exact ⟨0, Nat.zero_le _, rfl, HS7.out, HC7.out, HR7.out, HG7.out⟩
        case round =>
          obtain ⟨k, hk, rfl, hSr, hCr, hRr, hGr⟩ := hrel
          rename World => wr
          have HSr := Lib.hid hSr
          have HCr := Lib.hid hCr
          have HRr := Lib.hid hRr
          have HGr := Lib.hid hGr
          have hzr := hGr.size
          clear hSr hCr hRr hGr
          by_cases hlt : k < hs'.length
          · have hk3 : k < 3 := by omega
            have hki : (k : Int) < hs'.length := by omega
            have hki3 : (k : Int) < 3 := by omega
            obtain ⟨b, off, y, hAy, hby, hcy, HY⟩ := (HT.out.below HGr.out).1.at_ hlt
            dsimp only at hAy HY
            simp only [Option.some.injEq, Addr.mk.injEq, and_true] at hAy
            obtain ⟨rfl, rfl⟩ := hAy
            have e0 := hcy 0 (by omega); have e1 := hcy 1 (by omega); have e2 := hcy 2 (by omega); have e3 := hcy 3 (by omega); have e4 := hcy 4 (by omega); have e5 := hcy 5 (by omega); have e6 := hcy 6 (by omega)
            rw [Nat.add_zero] at e0
            have hyo := ends_ok (hi := hi) (HOKH.out y (List.mem_of_getElem? HY.out))
            obtain ⟨gk, hgk⟩ : ∃ gk, StD.get sm k = gk := ⟨_, rfl⟩
            have hgb := HSB.out k hk3
            rw [hgk] at hgb
            have HGK := Lib.hid ((StD.cell (wearTo hi hs' hand sm k) hk3).trans (by rw [wearTo_at hi hs' hand sm hk3, hgk]))
            have HW0 : Hid (wearTo hi hs' hand sm (k + 1) = (wearTo hi hs' hand sm k).set k (newW hi (some y) (decide (k = hand)) gk)) := Lib.hid (by
              show (wearTo hi hs' hand sm k).set k _ = _
              rw [HY.out, hgk])
            clear hcy hgk
            go_upto_region 7 with fail
            obtain ⟨W3, hW3, hg3, hY3, hsz3⟩ := one_block wr 52 (cellsH y)
            rw [hW3]
            clear hW3 e0 e1 e2 e3 e4 e5 e6
            have HG3 := Lib.hid hg3
            have HY3 := Lib.hid hY3
            have HS3 := Lib.hid (hg3.block HSr.out)
            have HC3 := Lib.hid (hg3.block HCr.out)
            have HR3 := Lib.hid (hg3.block HRr.out)
            clear hg3 hY3
            by_cases hkh : k = hand
            · have d8 : ((k : Int) == (hand : Int)) = true := by rw [beq_iff_eq]; omega
              have d9 : decide ((k : Int) = (hand : Int)) = true := decide_eq_true (by omega)
              obtain ⟨tv, htv⟩ : ∃ tv, tireOf hi y = tv := ⟨_, rfl⟩
              have HWS : Hid (wearTo hi hs' hand sm (k + 1) = (wearTo hi hs' hand sm k).set k (gk + tv)) := Lib.hid (by
                rw [HW0.out, decide_eq_true hkh, ← htv]
                rfl)
              have HFY := Lib.hid (by have k1 := HF1.out y; rw [htv] at k1; exact k1)
              rw [htv] at hyo
              have hsum : IntKind.i64.wrap (gk + tv) = gk + tv := IntWalk.i64_in _ (by omega)
              clear htv hkh HW0
              go_upto_region 8 with fail
              refine wp_region_lit 12 [[], [], [(0, 65), (1, 66)], [(2, 67)], [], [(4, 69)], [], [(6, 71)], [(5, 70), (7, 72)], [(3, 68), (8, 73)], [], [(0, 65), (10, 75)]] Grow (fun i v w' => match i with
                  | 0 => v = .int .i64 k
                  | 1 => v = .pointer (some ⟨b1, 0, none⟩)
                  | 2 => v = .pointer (some ⟨b1, k, none⟩)
                  | 3 => v = .int .i64 gk
                  | 4 => v = .pointer (some ⟨w.heap.size, 5, none⟩)
                  | 5 => v = endV f
                  | 6 => v = .pointer (some ⟨wr.heap.size, 2, none⟩)
                  | 7 => v = spanV y.t0 y.t1
                  | 8 => v = .int .i64 tv
                  | 9 => v = .int .i64 (gk + tv)
                  | 10 => v = .pointer (some ⟨b1, 0, none⟩)
                  | 11 => v = .pointer (some ⟨b1, k, none⟩)
                  | _ => False) (by kernel_rfl) (by kernel_rfl) (fun _ _ _ => Grow.trans) Grow.refl ?_ ?_ ?_
              · intro i v y y' h k
                match i, h with
                | 0, h | 1, h | 2, h | 3, h | 4, h | 5, h | 6, h | 7, h | 8, h | 9, h | 10, h | 11, h => exact h
              · all_goals
                  simp only [StepsLit, List.take_succ_cons, List.take_zero]
                  refine ⟨?_, ?_, ?_, ?_, ?_, ?_, ?_, ?_, ?_, ?_, ?_, ?_, trivial⟩
                all_goals
                  intro w5 hR
                  have HG5 := Lib.hid hR.of_drew
                  have hcc := (HG5.out.block HC3.out).cell
                  have hsg : w5.cell? ⟨b1, k, none⟩ = some (.int .i64 gk) := ((HG5.out.block HS3.out).cell k).trans HGK.out
                  have hyc := (HG5.out.block HY3.out).cell
                  clear hR
                  simp only [depV, Region.wanted, cond_true]
                  repeat (rintro _ rfl)
                  try go_simp
                all_goals first
                  | (with_reducible exact Grow.refl _)
                  | (with_reducible refine ⟨Grow.refl _, ?_⟩; split <;> omega)
                  | skip
                · refine (HFY.out _).mono ?_
                  rintro e w6 ⟨rfl, hb6⟩
                  exact ⟨hb6, rfl⟩
              · intro w5 hR
                have HG5 := Lib.hid hR.of_drew
                have hsg : w5.cell? ⟨b1, k, none⟩ = some (.int .i64 gk) := ((HG5.out.block HS3.out).cell k).trans HGK.out
                have hsf := (HG5.out.block HS3.out).frozen
                have HS9 : Hid (BlockIs (w5.setCell ⟨b1, k, none⟩ (.int .i64 (gk + tv))) b1 77 (cellsS (wearTo hi hs' hand sm (k + 1)))) := Lib.hid (by
                  have h := (HG5.out.block HS3.out).near k (.int .i64 (gk + tv))
                  rw [StD.put _ hk3] at h
                  rw [HWS.out]
                  exact h)
                have HC9 := Lib.hid ((HG5.out.block HC3.out).far (p := ⟨b1, k, none⟩) (by show w.heap.size ≠ b1; omega) (.int .i64 (gk + tv)))
                have HR9 := Lib.hid ((HG5.out.block HR3.out).far (p := ⟨b1, k, none⟩) (by show b2 ≠ b1; omega) (.int .i64 (gk + tv)))
                have HG9 : Hid (Grow w (w5.setCell ⟨b1, k, none⟩ (.int .i64 (gk + tv)))) := Lib.hid ((HGr.out.trans (HG3.out.trans HG5.out)).setC (p := ⟨b1, k, none⟩) (by show w.heap.size ≤ b1; omega) _)
                clear hR
                simp only [finVC, List.take_succ_cons, List.take_zero, List.drop_succ_cons, List.drop_zero]
                rintro _ rfl
                rintro _ rfl
                rintro _ rfl
                rintro _ rfl
                rintro _ rfl
                rintro _ rfl
                rintro _ rfl
                rintro _ rfl
                rintro _ rfl
                rintro _ rfl
                rintro _ rfl
                rintro _ rfl
                simp only [Act.put, List.setIfInBounds_toArray, List.set_cons_succ, List.set_cons_zero]
                go_wp2
                go_roundw
                case rel => exact ⟨k + 1, by omega, by go_num, HS9.out, HC9.out, HR9.out, HG9.out⟩
                case measure => simp [intOf]; omega
            · have d8 : ((k : Int) == (hand : Int)) = false := by rw [beq_eq_false_iff_ne]; omega
              have d9 : decide ((k : Int) = (hand : Int)) = false := decide_eq_false (by omega)
              obtain ⟨ev, hev⟩ : ∃ ev, easeOf hi y = ev := ⟨_, rfl⟩
              have HWS : Hid (wearTo hi hs' hand sm (k + 1) = (wearTo hi hs' hand sm k).set k (max 0 (gk - ev))) := Lib.hid (by
                rw [HW0.out, decide_eq_false hkh, ← hev]
                rfl)
              have HFY := Lib.hid (by have k1 := HF2.out y; rw [hev] at k1; exact k1)
              rw [hev] at hyo
              have hsum : IntKind.i64.wrap (gk - ev) = gk - ev := IntWalk.i64_in _ (by omega)
              clear hev hkh HW0
              go_upto_region 9 with fail
              refine wp_region_lit 14 [[], [], [], [(1, 78), (2, 79)], [(3, 80)], [], [(5, 82)], [], [(7, 84)], [(6, 83), (8, 85)], [(4, 81), (9, 86)], [(10, 87)], [], [(0, 77), (12, 89)]] Grow (fun i v w' => match i with
                  | 0 => v = .int .i64 k
                  | 1 => v = .int .i64 k
                  | 2 => v = .pointer (some ⟨b1, 0, none⟩)
                  | 3 => v = .pointer (some ⟨b1, k, none⟩)
                  | 4 => v = .int .i64 gk
                  | 5 => v = .pointer (some ⟨w.heap.size, 6, none⟩)
                  | 6 => v = endV g
                  | 7 => v = .pointer (some ⟨wr.heap.size, 4, none⟩)
                  | 8 => v = spanV y.e0 y.e1
                  | 9 => v = .int .i64 ev
                  | 10 => v = .int .i64 (gk - ev)
                  | 11 => v = .int .i64 (max 0 (gk - ev))
                  | 12 => v = .pointer (some ⟨b1, 0, none⟩)
                  | 13 => v = .pointer (some ⟨b1, k, none⟩)
                  | _ => False) (by kernel_rfl) (by kernel_rfl) (fun _ _ _ => Grow.trans) Grow.refl ?_ ?_ ?_
              · intro i v y y' h k
                match i, h with
                | 0, h | 1, h | 2, h | 3, h | 4, h | 5, h | 6, h | 7, h | 8, h | 9, h | 10, h | 11, h | 12, h | 13, h => exact h
              · all_goals
                  simp only [StepsLit, List.take_succ_cons, List.take_zero]
                  refine ⟨?_, ?_, ?_, ?_, ?_, ?_, ?_, ?_, ?_, ?_, ?_, ?_, ?_, ?_, trivial⟩
                all_goals
                  intro w5 hR
                  have HG5 := Lib.hid hR.of_drew
                  have hcc := (HG5.out.block HC3.out).cell
                  have hsg : w5.cell? ⟨b1, k, none⟩ = some (.int .i64 gk) := ((HG5.out.block HS3.out).cell k).trans HGK.out
                  have hyc := (HG5.out.block HY3.out).cell
                  clear hR
                  simp only [depV, Region.wanted, cond_true]
                  repeat (rintro _ rfl)
                  try go_simp
                all_goals first
                  | (with_reducible exact Grow.refl _)
                  | (with_reducible refine ⟨Grow.refl _, ?_⟩; split <;> omega)
                  | skip
                · refine (HFY.out _).mono ?_
                  rintro e w6 ⟨rfl, hb6⟩
                  exact ⟨hb6, rfl⟩
              · intro w5 hR
                have HG5 := Lib.hid hR.of_drew
                have hsg : w5.cell? ⟨b1, k, none⟩ = some (.int .i64 gk) := ((HG5.out.block HS3.out).cell k).trans HGK.out
                have hsf := (HG5.out.block HS3.out).frozen
                have HS9 : Hid (BlockIs (w5.setCell ⟨b1, k, none⟩ (.int .i64 (max 0 (gk - ev)))) b1 77 (cellsS (wearTo hi hs' hand sm (k + 1)))) := Lib.hid (by
                  have h := (HG5.out.block HS3.out).near k (.int .i64 (max 0 (gk - ev)))
                  rw [StD.put _ hk3] at h
                  rw [HWS.out]
                  exact h)
                have HC9 := Lib.hid ((HG5.out.block HC3.out).far (p := ⟨b1, k, none⟩) (by show w.heap.size ≠ b1; omega) (.int .i64 (max 0 (gk - ev))))
                have HR9 := Lib.hid ((HG5.out.block HR3.out).far (p := ⟨b1, k, none⟩) (by show b2 ≠ b1; omega) (.int .i64 (max 0 (gk - ev))))
                have HG9 : Hid (Grow w (w5.setCell ⟨b1, k, none⟩ (.int .i64 (max 0 (gk - ev))))) := Lib.hid ((HGr.out.trans (HG3.out.trans HG5.out)).setC (p := ⟨b1, k, none⟩) (by show w.heap.size ≤ b1; omega) _)
                clear hR
                simp only [finVC, List.take_succ_cons, List.take_zero, List.drop_succ_cons, List.drop_zero]
                rintro _ rfl
                rintro _ rfl
                rintro _ rfl
                rintro _ rfl
                rintro _ rfl
                rintro _ rfl
                rintro _ rfl
                rintro _ rfl
                rintro _ rfl
                rintro _ rfl
                rintro _ rfl
                rintro _ rfl
                rintro _ rfl
                rintro _ rfl
                simp only [Act.put, List.setIfInBounds_toArray, List.set_cons_succ, List.set_cons_zero]
                go_wp2
                go_roundw
                case rel => exact ⟨k + 1, by omega, by go_num, HS9.out, HC9.out, HR9.out, HG9.out⟩
                case measure => simp [intOf]; omega
          · obtain rfl : k = hs'.length := by omega
            have hr := wearTo_rest hi hs' hand sm hs'.length
            obtain ⟨r, hre⟩ : ∃ r, wearTo hi hs' hand sm hs'.length = r := ⟨_, rfl⟩
            have HRES : Hid (res = { r with parts := (q : Int) + 1, last := hand }) := Lib.hid (by rw [HSD.out, hre])
            rw [hre] at hr HSr
            have hrq : r.parts = q := hr.1.trans HSQ.out
            have hr3 : wr.cell? ⟨b1, 3, none⟩ = some (.int .i64 q) := (HSr.out.cell 3).trans (by rw [← hrq]; rfl)
            have hr5 : wr.cell? ⟨b1, 5, none⟩ = some (.int .i64 r.last) := HSr.out.cell 5
            have hsf := HSr.out.frozen
            clear hr hre hrq
            go_upto_region 13 with fail
            obtain ⟨W9, hW9, hS9, hR9, hG9⟩ : ∃ W', (wr.setCell ⟨b1, 3, none⟩ (.int .i64 ((q : Int) + 1))).setCell ⟨b1, 5, none⟩ (.int .i64 hand) = W' ∧ BlockIs W' b1 77 (cellsS { r with parts := (q : Int) + 1, last := hand }) ∧ BlockIs W' b2 77 #[.int .i64 0, .int .i64 0, .int .i64 0, .int .i64 0, .int .i64 0, .int .i64 0] ∧ Grow w W' :=
              ⟨_, rfl, (HSr.out.near 3 (.int .i64 ((q : Int) + 1))).near 5 (.int .i64 hand), (HRr.out.far (p := ⟨b1, 3, none⟩) (by show b2 ≠ b1; omega) _).far (p := ⟨b1, 5, none⟩) (by show b2 ≠ b1; omega) _, (HGr.out.setC (p := ⟨b1, 3, none⟩) (by show w.heap.size ≤ b1; omega) _).setC (p := ⟨b1, 5, none⟩) (by show w.heap.size ≤ b1; omega) _⟩
            rw [hW9]
            clear hW9 hr3 hr5 hsf
            rw [← HRES.out] at hS9
            have hsc := hS9.cell
            have hrc := hR9.cell
            have hrf := hR9.frozen
            have H6 := Lib.hid (six_stores hR9 (.int .i64 res.w0) (.int .i64 res.w1) (.int .i64 res.w2) (.int .i64 res.parts) (.int .i64 res.mis) (.int .i64 res.last))
            have HF : Hid (Below w.heap.size w _) := Lib.hid (hG9.trans' (six_below (w := W9) (B := w.heap.size) (b := b2) (by omega) (.int .i64 res.w0) (.int .i64 res.w1) (.int .i64 res.w2) (.int .i64 res.parts) (.int .i64 res.mis) (.int .i64 res.last)))
            clear hS9 hR9 hG9
            go_wp2
            exact bodyPost_ret (results_state6 Try.results63 _ _ b2 _ _ _ _ _ _ H6.out rfl) rfl ⟨rfl, HF.out⟩

end Go.Proofs.Ythlihchndmbkaaa
