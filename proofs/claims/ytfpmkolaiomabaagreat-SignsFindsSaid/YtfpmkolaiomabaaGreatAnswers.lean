/- Answers: the specification's answers for a part of a sight: a row of sights whose moves are those of the sight itself. -/
import Derived.Test.YtfpmkolaiomabaaGreatQuest
import Derived.Test.YtfpmkolaiomabaaGreatSortK
import Derived.Test.YtfpmkolaiomabaaGreatRSeen
namespace Go.Proofs.YtfpmkolaiomabaaGreat
open Go.RowKit Go.Shelf

theorem rHasN_any (s e : Int) (w : World) (h0 : 0 ≤ s) (h1 : s < 8589934592) (h3 : e ≤ 32) :
    Calls Tryz.prog 80 #[.int .i64 s, .int .i64 e] w fun x w' => x = .returned (.bool (decide (0 ≤ e) && hasD s e)) ∧ w = w' := by
  by_cases h2 : 0 ≤ e
  · rw [decide_eq_true h2, Bool.true_and]
    exact rHas_any s e w h0 h1 h2 h3
  · have d : decide (0 ≤ e) = false := decide_eq_false h2
    rw [d, Bool.false_and]
    go_enter Tryz.func80, Tryz.ntmps80
    go_wp2
    all_goals go_ret
    all_goals exact ⟨rfl, rfl⟩
theorem Tryz.infoSeen : (Tryz.prog.info? 50).map (fun i => (i.zero, i.size, i.bytes)) = some (some (.agg #[.int .i64 0, .int .i64 0, .int .i64 0, .int .i64 0, .int .i64 0, .int .i64 0, .int .i64 0, .int .i64 0, .int .i64 0, .int .i64 0, .int .i64 0, .slice none 0 0]), 12, 112) := by kernel_rfl
def cellsSL (A : Option Addr) (cap : Nat) (s : SeenD) : List Value := (cellsS s A cap).toList
theorem news_seen {w : World} {s : SeenD} {A : Option Addr} {cap : Nat} (t : TypeId) : ∀ j u, (cellsSL A cap s)[j]? = some u → (w.alloc (.cells (cellsS s A cap) t)).cell? ((⟨w.heap.size, 0, none⟩ : Addr).add j) = some u := fun j u hu => by
  have h1 := (BlockIs.new w t (cellsS s A cap)).cell j
  have h2 : (cellsSL A cap s)[j]? = (cellsS s A cap)[j]? := Array.getElem?_toList
  rw [show (⟨w.heap.size, 0, none⟩ : Addr).add j = ⟨w.heap.size, j, none⟩ by (simp [Addr.add]; omega), h1]
  exact h2.symm.trans hu
theorem one_seen (A : Option Addr) (cap : Nat) (s : SeenD) : ∀ u ∈ cellsSL A cap s, u.oneCell' = true := fun v hv => by
  simp only [cellsSL] at hv
  simp at hv
  rcases hv with rfl | rfl | rfl | rfl | rfl | rfl | rfl | rfl | rfl | rfl | rfl | rfl <;> rfl
theorem flatS_snoc (A : Option Addr) (cap : Nat) (pre : List SeenD) (x : SeenD) : (pre ++ [x]).flatMap (cellsSL A cap) = pre.flatMap (cellsSL A cap) ++ cellsSL A cap x := by simp
/-- v is an own row from lo on: the sights vs, whose moves all lie at A -/
def SeenRow (lo : Nat) (vs : List SeenD) (A : Option Addr) (cap : Nat) (v : Value) (w : World) : Prop := ∃ A' cap', v = .slice A' vs.length cap' ∧ w.ownsRow lo 50 12 (.slice A' vs.length cap') vs.length (vs.flatMap (cellsSL A cap))
theorem SeenRow.nil (lo : Nat) (A : Option Addr) (cap : Nat) (w : World) : SeenRow lo [] A cap (.slice none 0 0) w := ⟨none, 0, rfl, by simp [World.ownsRow]⟩
theorem SeenRow.grow {lo : Nat} {vs : List SeenD} {A : Option Addr} {cap : Nat} {v : Value} {w w' : World} (h : SeenRow lo vs A cap v w) (g : Grow w w') : SeenRow lo vs A cap v w' := by
  obtain ⟨A', cap', h1, h2⟩ := h
  exact ⟨A', cap', h1, own_grow h2 g⟩
theorem own_seen {w : World} {lo n cap' : Nat} {A' A : Option Addr} {cap : Nat} {vs : List SeenD} (h : w.ownsRow lo 50 12 (.slice A' n cap') n (vs.flatMap (cellsSL A cap))) {k : Nat} (hk : k < vs.length) :
    ∃ b t, A' = some ⟨b, 0, none⟩ ∧ b < w.heap.size ∧ Hid (vs[k]? = some t) ∧ ∀ j, j < 12 → w.cell? ⟨b, k * 12 + j, none⟩ = (cellsS t A cap)[j]? := by
  have hl : n = vs.length := by
    have := h.1
    rw [flat_length (k := 12) (fun _ => rfl)] at this
    omega
  rcases h.2 with ⟨h0, h2⟩ | ⟨g, c, cur, hv, hg, hh, h2, h3, h4, h5⟩
  · omega
  · injection hv with e1 e2 e3
    subst e1 e3
    refine ⟨g, vs[k], rfl, (Array.getElem?_eq_some_iff.1 hh).1, List.getElem?_eq_getElem hk, fun j hj => ?_⟩
    have hi : vs[k]? = some vs[k] := List.getElem?_eq_getElem hk
    generalize vs[k] = x at hi
    have hf := flat_get (enc := cellsSL A cap) (k := 12) (fun _ => rfl) vs k j hj
    rw [hi, Option.bind_some] at hf
    have hjl : j < (cellsSL A cap x).length := hj
    have hc := h.cells (g := g) rfl (k * 12 + j) ((cellsSL A cap x)[j]) (by rw [hf]; exact List.getElem?_eq_getElem hjl)
    rw [show (⟨g, 0, none⟩ : Addr).add (k * 12 + j) = ⟨g, k * 12 + j, none⟩ by (simp [Addr.add]; omega)] at hc
    rw [hc, ← List.getElem?_eq_getElem hjl]
    exact Array.getElem?_toList


set_option maxRecDepth 100000 in
set_option maxHeartbeats 4000000 in
theorem rAnswers0_any (s : SeenD) (A : Option Addr) (cap : Nat) (w : World) (hs : SeenIn s) :
    Calls Tryz.prog 47 #[seenV s A cap, .int .i64 0] w fun e w' => ∃ v, e = .returned v ∧ SeenRow w.heap.size (rAnswersTo s 0 36) A cap v w' ∧ Below w.heap.size w w' := by
  obtain ⟨sr0, sr1, sl0, sl1, sf0, sf1, -, -, -, -⟩ := hs
  obtain ⟨i0, hi, hz0, hz1, hz2⟩ := info_parts Tryz.infoSeen
  go_enter Tryz.func47, Tryz.ntmps47
  go_upto_region 1 with fail
  obtain ⟨W, hW, hg, hf, hsz⟩ := one_block w 50 (cellsS s A cap)
  rw [hW]
  clear hW
  have HF := Lib.hid hf
  have HG := Lib.hid hg
  clear hf hg
  go_wp2_with fail
  go_loopw [5, 6] (fun v i wr => ∃ (k : Nat) (n : Int), k ≤ 36 ∧ n = (k : Int) - 3 ∧ i = .int .i64 n ∧ SeenRow W.heap.size (rAnswersTo s 0 k) A cap v wr ∧ Below W.heap.size W wr) (fun _ i _ => (33 - intOf i).toNat)
  case atStart => exact ⟨0, -3, by omega, rfl, rfl, SeenRow.nil _ _ _ _, Below.refl _ _⟩
  case round =>
    obtain ⟨k, n, hk, hn, rfl, hrow, hbw⟩ := hrel
    rename World => wr
    have HGR : Hid (Grow W wr) := hbw
    have hzr := hbw.size
    clear hbw
    by_cases hlt : n ≤ 32
    · obtain ⟨A', cap', rfl, hown⟩ := hrow
      have HSU := rAnswersTo_succ s 0 k
      rw [← hn] at HSU
      have hlen := rAnswersTo_length s 0 k
      generalize rAnswersTo s 0 k = vs at hown HSU hlen
      have HOWN := Lib.hid hown
      clear hown
      have HN0 : Hid (n = (k : Int) - 3) := hn
      have d1 : decide (n ≤ 32) = true := decide_eq_true hlt
      have hk3 : -3 ≤ n := by omega
      have hk36 : k < 36 := by omega
      have hw1 : IntKind.i64.wrap (n + 1) = n + 1 := IntWalk.i64_in _ (by omega)
      clear hn
      have hfc := (Grow.block HGR.out HF.out).cell
      go_upto_region 6 with fail
      obtain ⟨W2, hW2, hg2, hx2, hsz2⟩ := one_block wr 50 (cellsS s A cap)
      rw [hW2]
      clear hW2 hfc
      have hfc := (Grow.block hg2 (Grow.block HGR.out HF.out)).cell
      have hxc := hx2.cell
      have hxf := hx2.frozen
      have HX2 := Lib.hid hx2
      have HG2 := Lib.hid hg2
      clear hx2 hg2
      have hm0 : 0 ≤ max 0 n := by omega
      have hm32 : max 0 n ≤ 32 := by omega
      have hpw := pow_32 (i := (max 0 n).toNat) (by omega)
      have hwp : IntKind.i64.wrap (2 ^ (max 0 n).toNat) = 2 ^ (max 0 n).toNat := IntWalk.i64_in _ (by omega)
      have HCALL := Lib.hid (rHasN_any s.rights n W2 sr0 sr1 hlt)
      obtain ⟨t, ht⟩ : ∃ t : SeenD, { s with rights := 2 ^ (max 0 n).toNat } = t := ⟨_, rfl⟩
      have htc : cellsS t A cap = #[.int .i64 (2 ^ (max 0 n).toNat), .int .i64 s.lefts, .int .i64 s.faces, .int .i64 s.regions, .int .i64 s.lost, .int .i64 s.cl, .int .i64 s.ch, .int .i64 s.rl, .int .i64 s.rh, .int .i64 s.al, .int .i64 s.ah, .slice A s.moves.length cap] := by rw [← ht]
      have HNV : rNarrowD s 0 n = (t, decide (0 ≤ n) && hasD s.rights n) := by
        rw [← ht]
        rfl
      rw [HNV] at HSU
      generalize (decide (0 ≤ n) && hasD s.rights n) = bb at HCALL HSU HNV
      dsimp only at HSU
      clear HNV ht
      go_upto_region 23 with (go_at_call 80; refine HCALL.out.mono ?_; rintro e w3 ⟨rfl, rfl⟩)
      obtain ⟨W3, hW3, hX3, hG3⟩ : ∃ W', (W2.setCell ⟨wr.heap.size, 0, none⟩ (.int .i64 (2 ^ (max 0 n).toNat))) = W' ∧ BlockIs W' wr.heap.size 50 (cellsS t A cap) ∧ Grow wr W' :=
        ⟨_, rfl, by rw [htc]; exact (HX2.out.near 0 _), (HG2.out.setC (p := ⟨wr.heap.size, 0, none⟩) (Nat.le_refl _) _)⟩
      rw [hW3]
      clear hW3 hxc hxf hfc
      have hxc := hX3.cell
      have HOWN3 := Lib.hid (own_grow HOWN.out hG3)
      have hz3 := hG3.size
      have HG3 := Lib.hid hG3
      clear hX3 hG3 htc
      cases bb with
      | false =>
        rw [if_neg (by decide), List.append_nil] at HSU
        go_wp2_with fail
        go_roundw
        case rel => exact ⟨k + 1, n + 1, by omega, by have := HN0.out; omega, by go_num, ⟨A', cap', by rw [HSU], by rw [HSU]; exact HOWN3.out⟩, HGR.out.trans (HG3.out)⟩
        case measure => simp [intOf]; omega
      | true =>
        rw [if_pos rfl] at HSU
        go_wp2_with (at_builtin; refine wpList_append_own _ rfl _ _ 74 rfl W.heap.size 50 i0 (.agg #[.int .i64 0, .int .i64 0, .int .i64 0, .int .i64 0, .int .i64 0, .int .i64 0, .int .i64 0, .int .i64 0, .int .i64 0, .int .i64 0, .int .i64 0, .slice none 0 0]) 12 112 Tryz.underlying74 hi hz0 hz1 hz2 rfl (by decide) _ _ _ rfl (HOWN3.out.alloc _) ⟨W3.heap.size, 0, none⟩ 1 1 (cellsSL A cap t) rfl rfl ?c1 ?c2 ?c3 ?c4 ?c5 ?_)
        case c1 => exact news_seen 50
        case c2 => exact one_seen _ _ _
        case c3 => unfold maxLen; omega
        case c4 => omega
        case c5 => simp; omega
        intro v' w1 hown' hgrow _
        obtain ⟨A3, cap3, rfl⟩ := own_form hown'
        have hb1 := below_grown ((HGR.out.trans HG3.out).trans (Grow.alloc _ _)) (HOWN3.out.alloc _) hgrow (by simp; omega)
        have HO := Lib.hid hown'
        have HB1 := Lib.hid hb1
        clear hown' hgrow hb1 hxc
        go_wp2
        go_roundw
        case rel => exact ⟨k + 1, n + 1, by omega, by have := HN0.out; omega, by go_num, ⟨A3, cap3, by rw [HSU, List.length_append]; rfl, by rw [HSU, List.length_append, flatS_snoc]; exact HO.out⟩, HB1.out⟩
        case measure => simp [intOf]; omega
    · obtain rfl : k = 36 := by omega
      have d1 : decide (n ≤ 32) = false := decide_eq_false hlt
      obtain ⟨A', cap', rfl, hown⟩ := hrow
      have HR : Hid (SeenRow w.heap.size (rAnswersTo s 0 36) A cap (.slice A' (rAnswersTo s 0 36).length cap') wr) :=
        ⟨A', cap', rfl, hown.1, hown.2.imp id fun ⟨g, c, cur, e1, e2, e3⟩ => ⟨g, c, cur, e1, by omega, e3⟩⟩
      obtain ⟨n0, hn0⟩ : ∃ n0, (rAnswersTo s 0 36).length = n0 := ⟨_, rfl⟩
      rw [hn0] at HR ⊢
      clear hown hn0
      go_wp2
      go_ret
      exact ⟨_, rfl, HR.out, HG.out.trans (HGR.out)⟩

set_option maxRecDepth 100000 in
set_option maxHeartbeats 4000000 in
theorem rAnswers1_any (s : SeenD) (A : Option Addr) (cap : Nat) (w : World) (hs : SeenIn s) :
    Calls Tryz.prog 47 #[seenV s A cap, .int .i64 1] w fun e w' => ∃ v, e = .returned v ∧ SeenRow w.heap.size (rAnswersTo s 1 36) A cap v w' ∧ Below w.heap.size w w' := by
  obtain ⟨sr0, sr1, sl0, sl1, sf0, sf1, -, -, -, -⟩ := hs
  obtain ⟨i0, hi, hz0, hz1, hz2⟩ := info_parts Tryz.infoSeen
  go_enter Tryz.func47, Tryz.ntmps47
  go_upto_region 1 with fail
  obtain ⟨W, hW, hg, hf, hsz⟩ := one_block w 50 (cellsS s A cap)
  rw [hW]
  clear hW
  have HF := Lib.hid hf
  have HG := Lib.hid hg
  clear hf hg
  go_wp2_with fail
  go_loopw [5, 6] (fun v i wr => ∃ (k : Nat) (n : Int), k ≤ 36 ∧ n = (k : Int) - 3 ∧ i = .int .i64 n ∧ SeenRow W.heap.size (rAnswersTo s 1 k) A cap v wr ∧ Below W.heap.size W wr) (fun _ i _ => (33 - intOf i).toNat)
  case atStart => exact ⟨0, -3, by omega, rfl, rfl, SeenRow.nil _ _ _ _, Below.refl _ _⟩
  case round =>
    obtain ⟨k, n, hk, hn, rfl, hrow, hbw⟩ := hrel
    rename World => wr
    have HGR : Hid (Grow W wr) := hbw
    have hzr := hbw.size
    clear hbw
    by_cases hlt : n ≤ 32
    · obtain ⟨A', cap', rfl, hown⟩ := hrow
      have HSU := rAnswersTo_succ s 1 k
      rw [← hn] at HSU
      have hlen := rAnswersTo_length s 1 k
      generalize rAnswersTo s 1 k = vs at hown HSU hlen
      have HOWN := Lib.hid hown
      clear hown
      have HN0 : Hid (n = (k : Int) - 3) := hn
      have d1 : decide (n ≤ 32) = true := decide_eq_true hlt
      have hk3 : -3 ≤ n := by omega
      have hk36 : k < 36 := by omega
      have hw1 : IntKind.i64.wrap (n + 1) = n + 1 := IntWalk.i64_in _ (by omega)
      clear hn
      have hfc := (Grow.block HGR.out HF.out).cell
      go_upto_region 6 with fail
      obtain ⟨W2, hW2, hg2, hx2, hsz2⟩ := one_block wr 50 (cellsS s A cap)
      rw [hW2]
      clear hW2 hfc
      have hfc := (Grow.block hg2 (Grow.block HGR.out HF.out)).cell
      have hxc := hx2.cell
      have hxf := hx2.frozen
      have HX2 := Lib.hid hx2
      have HG2 := Lib.hid hg2
      clear hx2 hg2
      have hm0 : 0 ≤ max 0 n := by omega
      have hm32 : max 0 n ≤ 32 := by omega
      have hpw := pow_32 (i := (max 0 n).toNat) (by omega)
      have hwp : IntKind.i64.wrap (2 ^ (max 0 n).toNat) = 2 ^ (max 0 n).toNat := IntWalk.i64_in _ (by omega)
      have HCALL := Lib.hid (rHasN_any s.lefts n W2 sl0 sl1 hlt)
      obtain ⟨t, ht⟩ : ∃ t : SeenD, { s with lefts := 2 ^ (max 0 n).toNat } = t := ⟨_, rfl⟩
      have htc : cellsS t A cap = #[.int .i64 s.rights, .int .i64 (2 ^ (max 0 n).toNat), .int .i64 s.faces, .int .i64 s.regions, .int .i64 s.lost, .int .i64 s.cl, .int .i64 s.ch, .int .i64 s.rl, .int .i64 s.rh, .int .i64 s.al, .int .i64 s.ah, .slice A s.moves.length cap] := by rw [← ht]
      have HNV : rNarrowD s 1 n = (t, decide (0 ≤ n) && hasD s.lefts n) := by
        rw [← ht]
        rfl
      rw [HNV] at HSU
      generalize (decide (0 ≤ n) && hasD s.lefts n) = bb at HCALL HSU HNV
      dsimp only at HSU
      clear HNV ht
      go_upto_region 23 with (go_at_call 80; refine HCALL.out.mono ?_; rintro e w3 ⟨rfl, rfl⟩)
      obtain ⟨W3, hW3, hX3, hG3⟩ : ∃ W', (W2.setCell ⟨wr.heap.size, 1, none⟩ (.int .i64 (2 ^ (max 0 n).toNat))) = W' ∧ BlockIs W' wr.heap.size 50 (cellsS t A cap) ∧ Grow wr W' :=
        ⟨_, rfl, by rw [htc]; exact (HX2.out.near 1 _), (HG2.out.setC (p := ⟨wr.heap.size, 1, none⟩) (Nat.le_refl _) _)⟩
      rw [hW3]
      clear hW3 hxc hxf hfc
      have hxc := hX3.cell
      have HOWN3 := Lib.hid (own_grow HOWN.out hG3)
      have hz3 := hG3.size
      have HG3 := Lib.hid hG3
      clear hX3 hG3 htc
      cases bb with
      | false =>
        rw [if_neg (by decide), List.append_nil] at HSU
        go_wp2_with fail
        go_roundw
        case rel => exact ⟨k + 1, n + 1, by omega, by have := HN0.out; omega, by go_num, ⟨A', cap', by rw [HSU], by rw [HSU]; exact HOWN3.out⟩, HGR.out.trans (HG3.out)⟩
        case measure => simp [intOf]; omega
      | true =>
        rw [if_pos rfl] at HSU
        go_wp2_with (at_builtin; refine wpList_append_own _ rfl _ _ 74 rfl W.heap.size 50 i0 (.agg #[.int .i64 0, .int .i64 0, .int .i64 0, .int .i64 0, .int .i64 0, .int .i64 0, .int .i64 0, .int .i64 0, .int .i64 0, .int .i64 0, .int .i64 0, .slice none 0 0]) 12 112 Tryz.underlying74 hi hz0 hz1 hz2 rfl (by decide) _ _ _ rfl (HOWN3.out.alloc _) ⟨W3.heap.size, 0, none⟩ 1 1 (cellsSL A cap t) rfl rfl ?c1 ?c2 ?c3 ?c4 ?c5 ?_)
        case c1 => exact news_seen 50
        case c2 => exact one_seen _ _ _
        case c3 => unfold maxLen; omega
        case c4 => omega
        case c5 => simp; omega
        intro v' w1 hown' hgrow _
        obtain ⟨A3, cap3, rfl⟩ := own_form hown'
        have hb1 := below_grown ((HGR.out.trans HG3.out).trans (Grow.alloc _ _)) (HOWN3.out.alloc _) hgrow (by simp; omega)
        have HO := Lib.hid hown'
        have HB1 := Lib.hid hb1
        clear hown' hgrow hb1 hxc
        go_wp2
        go_roundw
        case rel => exact ⟨k + 1, n + 1, by omega, by have := HN0.out; omega, by go_num, ⟨A3, cap3, by rw [HSU, List.length_append]; rfl, by rw [HSU, List.length_append, flatS_snoc]; exact HO.out⟩, HB1.out⟩
        case measure => simp [intOf]; omega
    · obtain rfl : k = 36 := by omega
      have d1 : decide (n ≤ 32) = false := decide_eq_false hlt
      obtain ⟨A', cap', rfl, hown⟩ := hrow
      have HR : Hid (SeenRow w.heap.size (rAnswersTo s 1 36) A cap (.slice A' (rAnswersTo s 1 36).length cap') wr) :=
        ⟨A', cap', rfl, hown.1, hown.2.imp id fun ⟨g, c, cur, e1, e2, e3⟩ => ⟨g, c, cur, e1, by omega, e3⟩⟩
      obtain ⟨n0, hn0⟩ : ∃ n0, (rAnswersTo s 1 36).length = n0 := ⟨_, rfl⟩
      rw [hn0] at HR ⊢
      clear hown hn0
      go_wp2
      go_ret
      exact ⟨_, rfl, HR.out, HG.out.trans (HGR.out)⟩

set_option maxRecDepth 100000 in
set_option maxHeartbeats 4000000 in
theorem rAnswers2_any (s : SeenD) (A : Option Addr) (cap : Nat) (w : World) (hs : SeenIn s) :
    Calls Tryz.prog 47 #[seenV s A cap, .int .i64 2] w fun e w' => ∃ v, e = .returned v ∧ SeenRow w.heap.size (rAnswersTo s 2 36) A cap v w' ∧ Below w.heap.size w w' := by
  obtain ⟨sr0, sr1, sl0, sl1, sf0, sf1, -, -, -, -⟩ := hs
  obtain ⟨i0, hi, hz0, hz1, hz2⟩ := info_parts Tryz.infoSeen
  go_enter Tryz.func47, Tryz.ntmps47
  go_upto_region 1 with fail
  obtain ⟨W, hW, hg, hf, hsz⟩ := one_block w 50 (cellsS s A cap)
  rw [hW]
  clear hW
  have HF := Lib.hid hf
  have HG := Lib.hid hg
  clear hf hg
  go_wp2_with fail
  go_loopw [5, 6] (fun v i wr => ∃ (k : Nat) (n : Int), k ≤ 36 ∧ n = (k : Int) - 3 ∧ i = .int .i64 n ∧ SeenRow W.heap.size (rAnswersTo s 2 k) A cap v wr ∧ Below W.heap.size W wr) (fun _ i _ => (33 - intOf i).toNat)
  case atStart => exact ⟨0, -3, by omega, rfl, rfl, SeenRow.nil _ _ _ _, Below.refl _ _⟩
  case round =>
    obtain ⟨k, n, hk, hn, rfl, hrow, hbw⟩ := hrel
    rename World => wr
    have HGR : Hid (Grow W wr) := hbw
    have hzr := hbw.size
    clear hbw
    by_cases hlt : n ≤ 32
    · obtain ⟨A', cap', rfl, hown⟩ := hrow
      have HSU := rAnswersTo_succ s 2 k
      rw [← hn] at HSU
      have hlen := rAnswersTo_length s 2 k
      generalize rAnswersTo s 2 k = vs at hown HSU hlen
      have HOWN := Lib.hid hown
      clear hown
      have HN0 : Hid (n = (k : Int) - 3) := hn
      have d1 : decide (n ≤ 32) = true := decide_eq_true hlt
      have hk3 : -3 ≤ n := by omega
      have hk36 : k < 36 := by omega
      have hw1 : IntKind.i64.wrap (n + 1) = n + 1 := IntWalk.i64_in _ (by omega)
      clear hn
      have hfc := (Grow.block HGR.out HF.out).cell
      go_upto_region 6 with fail
      obtain ⟨W2, hW2, hg2, hx2, hsz2⟩ := one_block wr 50 (cellsS s A cap)
      rw [hW2]
      clear hW2 hfc
      have hfc := (Grow.block hg2 (Grow.block HGR.out HF.out)).cell
      have hxc := hx2.cell
      have hxf := hx2.frozen
      have HX2 := Lib.hid hx2
      have HG2 := Lib.hid hg2
      clear hx2 hg2
      have HCALL := Lib.hid (rwithin_any n (max 0 s.rl) (min 5 s.rh) W2)
      obtain ⟨t, ht⟩ : ∃ t : SeenD, { s with rl := n, rh := n } = t := ⟨_, rfl⟩
      have htc : cellsS t A cap = #[.int .i64 s.rights, .int .i64 s.lefts, .int .i64 s.faces, .int .i64 s.regions, .int .i64 s.lost, .int .i64 s.cl, .int .i64 s.ch, .int .i64 (n), .int .i64 (n), .int .i64 s.al, .int .i64 s.ah, .slice A s.moves.length cap] := by rw [← ht]
      have HNV : rNarrowD s 2 n = (t, inB n (max 0 s.rl) (min 5 s.rh)) := by
        rw [← ht]
        rfl
      rw [HNV] at HSU
      generalize (inB n (max 0 s.rl) (min 5 s.rh)) = bb at HCALL HSU HNV
      dsimp only at HSU
      clear HNV ht
      go_upto_region 23 with (go_at_call 78; refine HCALL.out.mono ?_; rintro e w3 ⟨rfl, rfl⟩)
      obtain ⟨W3, hW3, hX3, hG3⟩ : ∃ W', ((W2.setCell ⟨wr.heap.size, 7, none⟩ (.int .i64 (n))).setCell ⟨wr.heap.size, 8, none⟩ (.int .i64 (n))) = W' ∧ BlockIs W' wr.heap.size 50 (cellsS t A cap) ∧ Grow wr W' :=
        ⟨_, rfl, by rw [htc]; exact ((HX2.out.near 7 _).near 8 _), ((HG2.out.setC (p := ⟨wr.heap.size, 7, none⟩) (Nat.le_refl _) _).setC (p := ⟨wr.heap.size, 8, none⟩) (Nat.le_refl _) _)⟩
      rw [hW3]
      clear hW3 hxc hxf hfc
      have hxc := hX3.cell
      have HOWN3 := Lib.hid (own_grow HOWN.out hG3)
      have hz3 := hG3.size
      have HG3 := Lib.hid hG3
      clear hX3 hG3 htc
      cases bb with
      | false =>
        rw [if_neg (by decide), List.append_nil] at HSU
        go_wp2_with fail
        go_roundw
        case rel => exact ⟨k + 1, n + 1, by omega, by have := HN0.out; omega, by go_num, ⟨A', cap', by rw [HSU], by rw [HSU]; exact HOWN3.out⟩, HGR.out.trans (HG3.out)⟩
        case measure => simp [intOf]; omega
      | true =>
        rw [if_pos rfl] at HSU
        go_wp2_with (at_builtin; refine wpList_append_own _ rfl _ _ 74 rfl W.heap.size 50 i0 (.agg #[.int .i64 0, .int .i64 0, .int .i64 0, .int .i64 0, .int .i64 0, .int .i64 0, .int .i64 0, .int .i64 0, .int .i64 0, .int .i64 0, .int .i64 0, .slice none 0 0]) 12 112 Tryz.underlying74 hi hz0 hz1 hz2 rfl (by decide) _ _ _ rfl (HOWN3.out.alloc _) ⟨W3.heap.size, 0, none⟩ 1 1 (cellsSL A cap t) rfl rfl ?c1 ?c2 ?c3 ?c4 ?c5 ?_)
        case c1 => exact news_seen 50
        case c2 => exact one_seen _ _ _
        case c3 => unfold maxLen; omega
        case c4 => omega
        case c5 => simp; omega
        intro v' w1 hown' hgrow _
        obtain ⟨A3, cap3, rfl⟩ := own_form hown'
        have hb1 := below_grown ((HGR.out.trans HG3.out).trans (Grow.alloc _ _)) (HOWN3.out.alloc _) hgrow (by simp; omega)
        have HO := Lib.hid hown'
        have HB1 := Lib.hid hb1
        clear hown' hgrow hb1 hxc
        go_wp2
        go_roundw
        case rel => exact ⟨k + 1, n + 1, by omega, by have := HN0.out; omega, by go_num, ⟨A3, cap3, by rw [HSU, List.length_append]; rfl, by rw [HSU, List.length_append, flatS_snoc]; exact HO.out⟩, HB1.out⟩
        case measure => simp [intOf]; omega
    · obtain rfl : k = 36 := by omega
      have d1 : decide (n ≤ 32) = false := decide_eq_false hlt
      obtain ⟨A', cap', rfl, hown⟩ := hrow
      have HR : Hid (SeenRow w.heap.size (rAnswersTo s 2 36) A cap (.slice A' (rAnswersTo s 2 36).length cap') wr) :=
        ⟨A', cap', rfl, hown.1, hown.2.imp id fun ⟨g, c, cur, e1, e2, e3⟩ => ⟨g, c, cur, e1, by omega, e3⟩⟩
      obtain ⟨n0, hn0⟩ : ∃ n0, (rAnswersTo s 2 36).length = n0 := ⟨_, rfl⟩
      rw [hn0] at HR ⊢
      clear hown hn0
      go_wp2
      go_ret
      exact ⟨_, rfl, HR.out, HG.out.trans (HGR.out)⟩

set_option maxRecDepth 100000 in
set_option maxHeartbeats 4000000 in
theorem rAnswers3_any (s : SeenD) (A : Option Addr) (cap : Nat) (w : World) (hs : SeenIn s) :
    Calls Tryz.prog 47 #[seenV s A cap, .int .i64 3] w fun e w' => ∃ v, e = .returned v ∧ SeenRow w.heap.size (rAnswersTo s 3 36) A cap v w' ∧ Below w.heap.size w w' := by
  obtain ⟨sr0, sr1, sl0, sl1, sf0, sf1, -, -, -, -⟩ := hs
  obtain ⟨i0, hi, hz0, hz1, hz2⟩ := info_parts Tryz.infoSeen
  go_enter Tryz.func47, Tryz.ntmps47
  go_upto_region 1 with fail
  obtain ⟨W, hW, hg, hf, hsz⟩ := one_block w 50 (cellsS s A cap)
  rw [hW]
  clear hW
  have HF := Lib.hid hf
  have HG := Lib.hid hg
  clear hf hg
  go_wp2_with fail
  go_loopw [5, 6] (fun v i wr => ∃ (k : Nat) (n : Int), k ≤ 36 ∧ n = (k : Int) - 3 ∧ i = .int .i64 n ∧ SeenRow W.heap.size (rAnswersTo s 3 k) A cap v wr ∧ Below W.heap.size W wr) (fun _ i _ => (33 - intOf i).toNat)
  case atStart => exact ⟨0, -3, by omega, rfl, rfl, SeenRow.nil _ _ _ _, Below.refl _ _⟩
  case round =>
    obtain ⟨k, n, hk, hn, rfl, hrow, hbw⟩ := hrel
    rename World => wr
    have HGR : Hid (Grow W wr) := hbw
    have hzr := hbw.size
    clear hbw
    by_cases hlt : n ≤ 32
    · obtain ⟨A', cap', rfl, hown⟩ := hrow
      have HSU := rAnswersTo_succ s 3 k
      rw [← hn] at HSU
      have hlen := rAnswersTo_length s 3 k
      generalize rAnswersTo s 3 k = vs at hown HSU hlen
      have HOWN := Lib.hid hown
      clear hown
      have HN0 : Hid (n = (k : Int) - 3) := hn
      have d1 : decide (n ≤ 32) = true := decide_eq_true hlt
      have hk3 : -3 ≤ n := by omega
      have hk36 : k < 36 := by omega
      have hw1 : IntKind.i64.wrap (n + 1) = n + 1 := IntWalk.i64_in _ (by omega)
      clear hn
      have hfc := (Grow.block HGR.out HF.out).cell
      go_upto_region 6 with fail
      obtain ⟨W2, hW2, hg2, hx2, hsz2⟩ := one_block wr 50 (cellsS s A cap)
      rw [hW2]
      clear hW2 hfc
      have hfc := (Grow.block hg2 (Grow.block HGR.out HF.out)).cell
      have hxc := hx2.cell
      have hxf := hx2.frozen
      have HX2 := Lib.hid hx2
      have HG2 := Lib.hid hg2
      clear hx2 hg2
      have HCALL := Lib.hid (rwithin_any n s.cl (min 3 s.ch) W2)
      obtain ⟨t, ht⟩ : ∃ t : SeenD, { s with cl := n, ch := n } = t := ⟨_, rfl⟩
      have htc : cellsS t A cap = #[.int .i64 s.rights, .int .i64 s.lefts, .int .i64 s.faces, .int .i64 s.regions, .int .i64 s.lost, .int .i64 (n), .int .i64 (n), .int .i64 s.rl, .int .i64 s.rh, .int .i64 s.al, .int .i64 s.ah, .slice A s.moves.length cap] := by rw [← ht]
      have HNV : rNarrowD s 3 n = (t, inB n s.cl (min 3 s.ch)) := by
        rw [← ht]
        rfl
      rw [HNV] at HSU
      generalize (inB n s.cl (min 3 s.ch)) = bb at HCALL HSU HNV
      dsimp only at HSU
      clear HNV ht
      go_upto_region 23 with (go_at_call 78; refine HCALL.out.mono ?_; rintro e w3 ⟨rfl, rfl⟩)
      obtain ⟨W3, hW3, hX3, hG3⟩ : ∃ W', ((W2.setCell ⟨wr.heap.size, 5, none⟩ (.int .i64 (n))).setCell ⟨wr.heap.size, 6, none⟩ (.int .i64 (n))) = W' ∧ BlockIs W' wr.heap.size 50 (cellsS t A cap) ∧ Grow wr W' :=
        ⟨_, rfl, by rw [htc]; exact ((HX2.out.near 5 _).near 6 _), ((HG2.out.setC (p := ⟨wr.heap.size, 5, none⟩) (Nat.le_refl _) _).setC (p := ⟨wr.heap.size, 6, none⟩) (Nat.le_refl _) _)⟩
      rw [hW3]
      clear hW3 hxc hxf hfc
      have hxc := hX3.cell
      have HOWN3 := Lib.hid (own_grow HOWN.out hG3)
      have hz3 := hG3.size
      have HG3 := Lib.hid hG3
      clear hX3 hG3 htc
      cases bb with
      | false =>
        rw [if_neg (by decide), List.append_nil] at HSU
        go_wp2_with fail
        go_roundw
        case rel => exact ⟨k + 1, n + 1, by omega, by have := HN0.out; omega, by go_num, ⟨A', cap', by rw [HSU], by rw [HSU]; exact HOWN3.out⟩, HGR.out.trans (HG3.out)⟩
        case measure => simp [intOf]; omega
      | true =>
        rw [if_pos rfl] at HSU
        go_wp2_with (at_builtin; refine wpList_append_own _ rfl _ _ 74 rfl W.heap.size 50 i0 (.agg #[.int .i64 0, .int .i64 0, .int .i64 0, .int .i64 0, .int .i64 0, .int .i64 0, .int .i64 0, .int .i64 0, .int .i64 0, .int .i64 0, .int .i64 0, .slice none 0 0]) 12 112 Tryz.underlying74 hi hz0 hz1 hz2 rfl (by decide) _ _ _ rfl (HOWN3.out.alloc _) ⟨W3.heap.size, 0, none⟩ 1 1 (cellsSL A cap t) rfl rfl ?c1 ?c2 ?c3 ?c4 ?c5 ?_)
        case c1 => exact news_seen 50
        case c2 => exact one_seen _ _ _
        case c3 => unfold maxLen; omega
        case c4 => omega
        case c5 => simp; omega
        intro v' w1 hown' hgrow _
        obtain ⟨A3, cap3, rfl⟩ := own_form hown'
        have hb1 := below_grown ((HGR.out.trans HG3.out).trans (Grow.alloc _ _)) (HOWN3.out.alloc _) hgrow (by simp; omega)
        have HO := Lib.hid hown'
        have HB1 := Lib.hid hb1
        clear hown' hgrow hb1 hxc
        go_wp2
        go_roundw
        case rel => exact ⟨k + 1, n + 1, by omega, by have := HN0.out; omega, by go_num, ⟨A3, cap3, by rw [HSU, List.length_append]; rfl, by rw [HSU, List.length_append, flatS_snoc]; exact HO.out⟩, HB1.out⟩
        case measure => simp [intOf]; omega
    · obtain rfl : k = 36 := by omega
      have d1 : decide (n ≤ 32) = false := decide_eq_false hlt
      obtain ⟨A', cap', rfl, hown⟩ := hrow
      have HR : Hid (SeenRow w.heap.size (rAnswersTo s 3 36) A cap (.slice A' (rAnswersTo s 3 36).length cap') wr) :=
        ⟨A', cap', rfl, hown.1, hown.2.imp id fun ⟨g, c, cur, e1, e2, e3⟩ => ⟨g, c, cur, e1, by omega, e3⟩⟩
      obtain ⟨n0, hn0⟩ : ∃ n0, (rAnswersTo s 3 36).length = n0 := ⟨_, rfl⟩
      rw [hn0] at HR ⊢
      clear hown hn0
      go_wp2
      go_ret
      exact ⟨_, rfl, HR.out, HG.out.trans (HGR.out)⟩

set_option maxRecDepth 100000 in
set_option maxHeartbeats 4000000 in
theorem rAnswers4_any (s : SeenD) (A : Option Addr) (cap : Nat) (w : World) (hs : SeenIn s) :
    Calls Tryz.prog 47 #[seenV s A cap, .int .i64 4] w fun e w' => ∃ v, e = .returned v ∧ SeenRow w.heap.size (rAnswersTo s 4 36) A cap v w' ∧ Below w.heap.size w w' := by
  obtain ⟨sr0, sr1, sl0, sl1, sf0, sf1, -, -, -, -⟩ := hs
  obtain ⟨i0, hi, hz0, hz1, hz2⟩ := info_parts Tryz.infoSeen
  go_enter Tryz.func47, Tryz.ntmps47
  go_upto_region 1 with fail
  obtain ⟨W, hW, hg, hf, hsz⟩ := one_block w 50 (cellsS s A cap)
  rw [hW]
  clear hW
  have HF := Lib.hid hf
  have HG := Lib.hid hg
  clear hf hg
  go_wp2_with fail
  go_loopw [5, 6] (fun v i wr => ∃ (k : Nat) (n : Int), k ≤ 36 ∧ n = (k : Int) - 3 ∧ i = .int .i64 n ∧ SeenRow W.heap.size (rAnswersTo s 4 k) A cap v wr ∧ Below W.heap.size W wr) (fun _ i _ => (33 - intOf i).toNat)
  case atStart => exact ⟨0, -3, by omega, rfl, rfl, SeenRow.nil _ _ _ _, Below.refl _ _⟩
  case round =>
    obtain ⟨k, n, hk, hn, rfl, hrow, hbw⟩ := hrel
    rename World => wr
    have HGR : Hid (Grow W wr) := hbw
    have hzr := hbw.size
    clear hbw
    by_cases hlt : n ≤ 32
    · obtain ⟨A', cap', rfl, hown⟩ := hrow
      have HSU := rAnswersTo_succ s 4 k
      rw [← hn] at HSU
      have hlen := rAnswersTo_length s 4 k
      generalize rAnswersTo s 4 k = vs at hown HSU hlen
      have HOWN := Lib.hid hown
      clear hown
      have HN0 : Hid (n = (k : Int) - 3) := hn
      have d1 : decide (n ≤ 32) = true := decide_eq_true hlt
      have hk3 : -3 ≤ n := by omega
      have hk36 : k < 36 := by omega
      have hw1 : IntKind.i64.wrap (n + 1) = n + 1 := IntWalk.i64_in _ (by omega)
      clear hn
      have hfc := (Grow.block HGR.out HF.out).cell
      go_upto_region 6 with fail
      obtain ⟨W2, hW2, hg2, hx2, hsz2⟩ := one_block wr 50 (cellsS s A cap)
      rw [hW2]
      clear hW2 hfc
      have hfc := (Grow.block hg2 (Grow.block HGR.out HF.out)).cell
      have hxc := hx2.cell
      have hxf := hx2.frozen
      have HX2 := Lib.hid hx2
      have HG2 := Lib.hid hg2
      clear hx2 hg2
      have hm0 : 0 ≤ max 0 n := by omega
      have hm32 : max 0 n ≤ 32 := by omega
      have hpw := pow_32 (i := (max 0 n).toNat) (by omega)
      have hwp : IntKind.i64.wrap (2 ^ (max 0 n).toNat) = 2 ^ (max 0 n).toNat := IntWalk.i64_in _ (by omega)
      have HCALL := Lib.hid (rHasN_any s.faces n W2 sf0 sf1 hlt)
      obtain ⟨t, ht⟩ : ∃ t : SeenD, { s with faces := 2 ^ (max 0 n).toNat } = t := ⟨_, rfl⟩
      have htc : cellsS t A cap = #[.int .i64 s.rights, .int .i64 s.lefts, .int .i64 (2 ^ (max 0 n).toNat), .int .i64 s.regions, .int .i64 s.lost, .int .i64 s.cl, .int .i64 s.ch, .int .i64 s.rl, .int .i64 s.rh, .int .i64 s.al, .int .i64 s.ah, .slice A s.moves.length cap] := by rw [← ht]
      have HNV : rNarrowD s 4 n = (t, decide (0 ≤ n) && hasD s.faces n) := by
        rw [← ht]
        rfl
      rw [HNV] at HSU
      generalize (decide (0 ≤ n) && hasD s.faces n) = bb at HCALL HSU HNV
      dsimp only at HSU
      clear HNV ht
      go_upto_region 23 with (go_at_call 80; refine HCALL.out.mono ?_; rintro e w3 ⟨rfl, rfl⟩)
      obtain ⟨W3, hW3, hX3, hG3⟩ : ∃ W', (W2.setCell ⟨wr.heap.size, 2, none⟩ (.int .i64 (2 ^ (max 0 n).toNat))) = W' ∧ BlockIs W' wr.heap.size 50 (cellsS t A cap) ∧ Grow wr W' :=
        ⟨_, rfl, by rw [htc]; exact (HX2.out.near 2 _), (HG2.out.setC (p := ⟨wr.heap.size, 2, none⟩) (Nat.le_refl _) _)⟩
      rw [hW3]
      clear hW3 hxc hxf hfc
      have hxc := hX3.cell
      have HOWN3 := Lib.hid (own_grow HOWN.out hG3)
      have hz3 := hG3.size
      have HG3 := Lib.hid hG3
      clear hX3 hG3 htc
      cases bb with
      | false =>
        rw [if_neg (by decide), List.append_nil] at HSU
        go_wp2_with fail
        go_roundw
        case rel => exact ⟨k + 1, n + 1, by omega, by have := HN0.out; omega, by go_num, ⟨A', cap', by rw [HSU], by rw [HSU]; exact HOWN3.out⟩, HGR.out.trans (HG3.out)⟩
        case measure => simp [intOf]; omega
      | true =>
        rw [if_pos rfl] at HSU
        go_wp2_with (at_builtin; refine wpList_append_own _ rfl _ _ 74 rfl W.heap.size 50 i0 (.agg #[.int .i64 0, .int .i64 0, .int .i64 0, .int .i64 0, .int .i64 0, .int .i64 0, .int .i64 0, .int .i64 0, .int .i64 0, .int .i64 0, .int .i64 0, .slice none 0 0]) 12 112 Tryz.underlying74 hi hz0 hz1 hz2 rfl (by decide) _ _ _ rfl (HOWN3.out.alloc _) ⟨W3.heap.size, 0, none⟩ 1 1 (cellsSL A cap t) rfl rfl ?c1 ?c2 ?c3 ?c4 ?c5 ?_)
        case c1 => exact news_seen 50
        case c2 => exact one_seen _ _ _
        case c3 => unfold maxLen; omega
        case c4 => omega
        case c5 => simp; omega
        intro v' w1 hown' hgrow _
        obtain ⟨A3, cap3, rfl⟩ := own_form hown'
        have hb1 := below_grown ((HGR.out.trans HG3.out).trans (Grow.alloc _ _)) (HOWN3.out.alloc _) hgrow (by simp; omega)
        have HO := Lib.hid hown'
        have HB1 := Lib.hid hb1
        clear hown' hgrow hb1 hxc
        go_wp2
        go_roundw
        case rel => exact ⟨k + 1, n + 1, by omega, by have := HN0.out; omega, by go_num, ⟨A3, cap3, by rw [HSU, List.length_append]; rfl, by rw [HSU, List.length_append, flatS_snoc]; exact HO.out⟩, HB1.out⟩
        case measure => simp [intOf]; omega
    · obtain rfl : k = 36 := by omega
      have d1 : decide (n ≤ 32) = false := decide_eq_false hlt
      obtain ⟨A', cap', rfl, hown⟩ := hrow
      have HR : Hid (SeenRow w.heap.size (rAnswersTo s 4 36) A cap (.slice A' (rAnswersTo s 4 36).length cap') wr) :=
        ⟨A', cap', rfl, hown.1, hown.2.imp id fun ⟨g, c, cur, e1, e2, e3⟩ => ⟨g, c, cur, e1, by omega, e3⟩⟩
      obtain ⟨n0, hn0⟩ : ∃ n0, (rAnswersTo s 4 36).length = n0 := ⟨_, rfl⟩
      rw [hn0] at HR ⊢
      clear hown hn0
      go_wp2
      go_ret
      exact ⟨_, rfl, HR.out, HG.out.trans (HGR.out)⟩

theorem rAnswers_any (s : SeenD) (A : Option Addr) (cap : Nat) (p : Int) (w : World) (hs : SeenIn s) (hp : 0 ≤ p ∧ p ≤ 4) :
    Calls Tryz.prog 47 #[seenV s A cap, .int .i64 p] w fun e w' => ∃ v, e = .returned v ∧ SeenRow w.heap.size (rAnswersTo s p 36) A cap v w' ∧ Below w.heap.size w w' := by
  rcases (show p = 0 ∨ p = 1 ∨ p = 2 ∨ p = 3 ∨ p = 4 by omega) with rfl | rfl | rfl | rfl | rfl
  · exact rAnswers0_any s A cap w hs
  · exact rAnswers1_any s A cap w hs
  · exact rAnswers2_any s A cap w hs
  · exact rAnswers3_any s A cap w hs
  · exact rAnswers4_any s A cap w hs

end Go.Proofs.YtfpmkolaiomabaaGreat
