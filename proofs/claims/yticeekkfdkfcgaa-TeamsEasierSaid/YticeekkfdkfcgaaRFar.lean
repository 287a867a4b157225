/- RFar: how many steps it is from a language to each other one, as the specification finds them. -/
import Derived.Test.YticeekkfdkfcgaaRefs2
import Derived.Test.YticeekkfdkfcgaaChainS
import Derived.Test.YticeekkfdkfcgaaMayApi
namespace Go.Proofs.Yticeekkfdkfcgaa
open Go.RowKit

theorem dig_eq (f a : Nat) : dig f a = f / 16 ^ a % 16 := rfl
theorem dig_hit {f b v : Nat} (hb : b < 5) (h0 : dig f b = 0) (hv : v < 16) : dig (f + v * 16 ^ b) b = v := by
  rw [dig_eq] at *
  rcases (by omega : b = 0 ∨ b = 1 ∨ b = 2 ∨ b = 3 ∨ b = 4) with rfl | rfl | rfl | rfl | rfl <;> simp only [Nat.reducePow] at * <;> omega
theorem dig_else {f a b v : Nat} (ha : a < 5) (hb : b < 5) (hne : a ≠ b) (h0 : dig f b = 0) (hv : v < 16) : dig (f + v * 16 ^ b) a = dig f a := by
  rw [dig_eq] at *
  rw [dig_eq]
  rcases (by omega : a = 0 ∨ a = 1 ∨ a = 2 ∨ a = 3 ∨ a = 4) with rfl | rfl | rfl | rfl | rfl <;> rcases (by omega : b = 0 ∨ b = 1 ∨ b = 2 ∨ b = 3 ∨ b = 4) with rfl | rfl | rfl | rfl | rfl <;> simp only [Nat.reducePow] at * <;> omega
theorem dig_add {f a b v : Nat} (ha : a < 5) (hb : b < 5) (h0 : dig f b = 0) (hv : v < 16) : dig (f + v * 16 ^ b) a = if a = b then v else dig f a := by
  by_cases e : a = b
  · subst e
    rw [if_pos rfl, dig_hit ha h0 hv]
  · rw [if_neg e, dig_else ha hb e h0 hv]
theorem dig_lt (f a : Nat) : dig f a < 16 := Nat.mod_lt _ (by decide)
section
variable {adj : Nat → Nat → Bool} {r a out b : Nat}
theorem farStep_no1 (h : dig out a ≠ r + 1) : farStep adj r a out b = out := by
  unfold farStep
  have : Nat.beq (dig out a) (Nat.succ r) = false := by
    cases hq : Nat.beq (dig out a) (Nat.succ r) with
    | false => rfl
    | true => exact absurd (Nat.eq_of_beq_eq_true hq) h
  rw [this]; rfl
theorem farStep_no2 (h : dig out b ≠ 0) : farStep adj r a out b = out := by
  unfold farStep
  have : Nat.beq (dig out b) 0 = false := by
    cases hq : Nat.beq (dig out b) 0 with
    | false => rfl
    | true => exact absurd (Nat.eq_of_beq_eq_true hq) h
  rw [this]; cases Nat.beq (dig out a) (Nat.succ r) <;> rfl
theorem farStep_no3 (h : adj a b = false) : farStep adj r a out b = out := by
  unfold farStep
  rw [h]; cases Nat.beq (dig out a) (Nat.succ r) <;> cases Nat.beq (dig out b) 0 <;> rfl
theorem farStep_yes (h1 : dig out a = r + 1) (h2 : dig out b = 0) (h3 : adj a b = true) : farStep adj r a out b = out + (r + 2) * 16 ^ b := by
  unfold farStep
  rw [h1, h2, h3, show Nat.beq (r + 1) (Nat.succ r) = true from Nat.beq_refl _]; rfl
end
def rowTo (adj : Nat → Nat → Bool) (r a f k : Nat) : Nat := (List.range k).foldl (farStep adj r a) f
def roundF (n : Nat) (adj : Nat → Nat → Bool) (r f k : Nat) : Nat := (List.range k).foldl (farRow n adj r) f
def farTo (n : Nat) (adj : Nat → Nat → Bool) (f k : Nat) : Nat := (List.range k).foldl (farRound n adj) f
theorem rowTo_succ (adj : Nat → Nat → Bool) (r a f k : Nat) : rowTo adj r a f (k + 1) = farStep adj r a (rowTo adj r a f k) k := by unfold rowTo; rw [List.range_succ, List.foldl_append]; rfl
theorem roundF_succ (n : Nat) (adj : Nat → Nat → Bool) (r f k : Nat) : roundF n adj r f (k + 1) = rowTo adj r k (roundF n adj r f k) n := by unfold roundF; rw [List.range_succ, List.foldl_append]; rfl
theorem farTo_succ (n : Nat) (adj : Nat → Nat → Bool) (f k : Nat) : farTo n adj f (k + 1) = roundF n adj k (farTo n adj f k) n := by unfold farTo; rw [List.range_succ, List.foldl_append]; rfl
theorem farD_to (n : Nat) (adj : Nat → Nat → Bool) (fr : Nat) : farD n adj fr = farTo n adj (16 ^ fr) n := rfl

/-- block g holds the steps to n languages -/
def FarAt (w : World) (g n f : Nat) : Prop := ∃ cur, BlockIs w g 3 cur ∧ ∀ a, a < n → cur[a]? = some (.int .i64 ((dig f a : Int) - 1))
theorem FarAt.cell {w : World} {g n f a : Nat} (h : FarAt w g n f) (ha : a < n) : w.cell? ⟨g, a, none⟩ = some (.int .i64 ((dig f a : Int) - 1)) := by
  obtain ⟨cur, h1, h2⟩ := h
  rw [h1.cell, h2 a ha]
theorem FarAt.frozen {w : World} {g n f : Nat} (h : FarAt w g n f) (a : Nat) : w.frozen? ⟨g, a, none⟩ = false := by
  obtain ⟨cur, h1, h2⟩ := h
  exact h1.frozen a
theorem FarAt.grow {w w' : World} {g n f : Nat} (h : FarAt w g n f) (hg : Grow w w') : FarAt w' g n f := by
  obtain ⟨cur, h1, h2⟩ := h
  exact ⟨cur, hg.block h1, h2⟩
theorem FarAt.lt {w : World} {g n f : Nat} (h : FarAt w g n f) : g < w.heap.size := by
  obtain ⟨cur, h1, h2⟩ := h
  exact h1.lt
theorem FarAt.set {w : World} {g n f b v : Nat} (h : FarAt w g n f) (hn : n ≤ 5) (hb : b < n) (h0 : dig f b = 0) (hv : v < 16) : FarAt (w.setCell ⟨g, b, none⟩ (.int .i64 ((v : Int) - 1))) g n (f + v * 16 ^ b) := by
  obtain ⟨cur, h1, h2⟩ := h
  refine ⟨_, h1.near b _, fun a ha => ?_⟩
  rw [dig_add (by omega) (by omega) h0 hv]
  have hs : b < cur.size := by
    have := h2 b hb
    rcases Nat.lt_or_ge b cur.size with q | q
    · exact q
    · rw [Array.getElem?_eq_none q] at this; cases this
  by_cases e : a = b
  · subst e
    rw [Array.getElem?_setIfInBounds_self_of_lt hs, if_pos rfl]
  · rw [Array.getElem?_setIfInBounds_ne (fun q => e q.symm), if_neg e, h2 a ha]
/-- what stands while the steps are found -/
structure FarS (c : CrewR) (w wr : World) (g n f : Nat) : Prop where
  grow : Grow w wr
  box : BlockIs wr w.heap.size 25 (cellsC c)
  far : FarAt wr g n f
  gt : w.heap.size < g
theorem FarS.more {c : CrewR} {w wr w2 : World} {g n f : Nat} (h : FarS c w wr g n f) (hg : Grow wr w2) : FarS c w w2 g n f :=
  ⟨h.grow.trans hg, hg.block h.box, h.far.grow hg, h.gt⟩
theorem FarS.set {c : CrewR} {w wr : World} {g n f b v : Nat} (h : FarS c w wr g n f) (hn : n ≤ 5) (hb : b < n) (h0 : dig f b = 0) (hv : v < 16) : FarS c w (wr.setCell ⟨g, b, none⟩ (.int .i64 ((v : Int) - 1))) g n (f + v * 16 ^ b) :=
  ⟨h.grow.setC (p := ⟨g, b, none⟩) (by have := h.gt; simp; omega) _, h.box.far (p := ⟨g, b, none⟩) (by have := h.gt; simp; omega) _, h.far.set hn hb h0 hv, h.gt⟩
theorem rep_snoc {α : Type} (k : Nat) (v : α) : List.replicate k v ++ [v] = List.replicate (k + 1) v := by
  rw [List.replicate_succ']

set_option maxRecDepth 100000 in
set_option maxHeartbeats 16000000 in
theorem rFar_any (c : CrewR) (team n fr : Nat) (lv : Int) (w : World) (hP : People w w.heap.size c.pa c.people) (hl : c.people.length ≤ 8) (ht : team < 1024) (hn : c.languages = (n : Int)) (hn5 : n ≤ 5) (hfn : fr < n) (hv : ∀ x ∈ c.people, x.d.levels.length = n) :
    Calls Try.prog 46 #[crewV c, .int .i64 (team : Nat), .int .i64 lv, .int .i64 (fr : Nat)] w fun e w' => ∃ g cap, e = .returned (.slice (some ⟨g, 0, none⟩) n cap) ∧ w.heap.size ≤ g ∧ FarAt w' g n (farD n (fun a b => joinsL lv a b (membersL c.people team)) fr) ∧ Below w.heap.size w w' := by
  obtain ⟨i0, hi, hz0, hz1, hz2⟩ := info_parts Try.infoInt
  have HJ := Lib.hid (fun (a b : Nat) (ha : a < n) (hb : b < n) (w0 : World) (hw : Grow w w0) => rJoins_any c team a b lv w0 ((hP.below hw).more hw.size) hl ht (fun x hx => by rw [hv x hx]; exact ⟨ha, hb⟩))
  obtain ⟨adj, hadj⟩ : ∃ z : Nat → Nat → Bool, (fun a b => joinsL lv a b (membersL c.people team)) = z := ⟨_, rfl⟩
  have HJA : Hid (∀ (a b : Nat), a < n → b < n → ∀ w0, Grow w w0 → Calls Try.prog 36 #[crewV c, .int .i64 (team : Nat), .int .i64 lv, .int .i64 (a : Nat), .int .i64 (b : Nat)] w0 fun e w' => e = .returned (.bool (adj a b)) ∧ Below w0.heap.size w0 w') := Lib.hid (by rw [← hadj]; exact HJ.out)
  rw [hadj]
  have HL := Lib.hid hn
  clear hP hv hadj HJ hn
  go_enter Try.func46, Try.ntmps46
  go_upto_region 1 with fail
  obtain ⟨W, hW, hg, hfr, hsz⟩ := one_block w 25 (cellsC c)
  rw [hW]
  clear hW
  have HG := Lib.hid hg
  have HF := Lib.hid hfr
  have HSZ := Lib.hid hsz
  clear hg hfr hsz
  go_upto_region 3 with fail
  go_loopw [9, 10] (fun v iv wr => ∃ (k : Nat) (A : Option Addr) (cap : Nat), k ≤ n ∧ iv = .int .i64 k ∧ v = .slice A k cap ∧ wr.ownsRow W.heap.size 3 1 (.slice A k cap) k (List.replicate k (.int .i64 (-1))) ∧ Grow W wr) (fun _ v _ => n - (intOf v).toNat)
  case atStart => exact ⟨0, none, 0, by omega, rfl, rfl, nil_own _ _ _, Grow.refl _⟩
  case round =>
    obtain ⟨k, A, cap, hk, rfl, rfl, hown, hgr⟩ := hrel
    rename World => wr
    have HOW := Lib.hid hown
    have HGV := Lib.hid hgr
    have hcc := (Grow.block hgr HF.out).cell
    clear hown hgr
    by_cases hlt : k < n
    · have hd : decide ((k : Int) < c.languages) = true := decide_eq_true (by rw [HL.out]; omega)
      have HOW2 := Lib.hid (own_grow HOW.out (Grow.alloc wr (.cells #[.int .i64 (-1)] 3)))
      go_wp2_with (at_builtin; go_loud (refine wpList_append_own _ rfl _ _ 33 rfl W.heap.size 3 i0 (.int .i64 0) 1 8 Try.underlying33 hi hz0 hz1 hz2 rfl (by omega) _ k (List.replicate k (.int .i64 (-1))) rfl ?d0 ⟨wr.heap.size, 0, none⟩ 1 1 [.int .i64 (-1)] rfl rfl ?d1 ?d2 ?d3 ?d4 ?d5 ?_))
      case d0 => exact HOW2.out
      case d1 => exact news_one (BlockIs.new _ _ _)
      case d2 => simp [Value.oneCell']
      case d3 => unfold maxLen; omega
      case d4 => omega
      case d5 => have := HGV.out.size; simp; omega
      intro v' w4 hown hgr _
      obtain ⟨Aw, cw, rfl⟩ := own_form hown
      have HOW3 : Hid (w4.ownsRow W.heap.size 3 1 (.slice Aw (k + 1) cw) (k + 1) (List.replicate (k + 1) (.int .i64 (-1)))) := Lib.hid (by
        rw [← rep_snoc]
        exact hown)
      have HG4 : Hid (Grow W w4) := Lib.hid (below_grown (HGV.out.trans (Grow.alloc _ _)) HOW2.out hgr (by have := HGV.out.size; simp; omega))
      clear hown hgr HOW2 hcc hd
      go_wp2
      go_roundw
      case rel => exact ⟨k + 1, Aw, cw, by omega, by go_num, rfl, HOW3.out, HG4.out⟩
      case measure => simp [intOf]; omega
    · have hd : decide ((k : Int) < c.languages) = false := decide_eq_false (by rw [HL.out]; omega)
      obtain rfl : k = n := by omega
      have h := HOW.out.2
      rcases h with ⟨_, h0⟩ | ⟨g, cp, cur, hva, hge, hh, hkc, _, hcs, htk⟩
      · omega
      injection hva with hA _ hC
      subst hA hC
      have HFS0 : Hid (FarS c w wr g k 0) := Lib.hid ⟨HG.out.trans HGV.out, HGV.out.block HF.out, ⟨cur, hh, fun a ha => by
        have h2 : (cur.toList.take (k * 1))[a]? = some (.int .i64 (-1)) := by rw [htk, List.getElem?_replicate]; simp [ha]
        rw [List.getElem?_take_of_lt (by omega)] at h2
        rw [show dig 0 a = 0 by rw [dig_eq]; simp]
        simpa using h2⟩, by have := HSZ.out; omega⟩
      have fz := HFS0.out.far.frozen fr
      have cfr := HFS0.out.far.cell hfn
      have HFS : Hid (FarS c w (wr.setCell ⟨g, fr, none⟩ (.int .i64 0)) g k (16 ^ fr)) := Lib.hid (by
        have h := HFS0.out.set (b := fr) (v := 1) hn5 hfn (by rw [dig_eq]; simp) (by decide)
        simpa using h)
      have hf0 : (0 : Int) ≤ (fr : Int) := by omega
      have hf1 : (fr : Int) < (k : Int) := by omega
      clear HOW hge hh hcs htk HFS0 hkc
      go_upto_region 7 with fail
      obtain ⟨W1, hW1⟩ : ∃ z, wr.setCell ⟨g, fr, none⟩ (.int .i64 0) = z := ⟨_, rfl⟩
      rw [hW1] at HFS ⊢
      clear hW1 fz cfr hcc hd hf0 hf1
      go_upto_region 8 with fail
      go_loopw [11] (fun rv wx => ∃ r : Nat, r ≤ k ∧ rv = .int .i64 r ∧ FarS c w wx g k (farTo k adj (16 ^ fr) r)) (fun v _ => k - (intOf v).toNat)
      case atStart => exact ⟨0, by omega, rfl, HFS.out⟩
      case round =>
        obtain ⟨r, hr, rfl, hfs⟩ := hrel
        rename World => wx
        have HX := Lib.hid hfs
        have hcx := hfs.box.cell
        clear hfs HFS
        by_cases hrl : r < k
        · have hd1 : decide ((r : Int) < c.languages) = true := decide_eq_true (by rw [HL.out]; omega)
          have HN1 := Lib.hid (farTo_succ k adj (16 ^ fr) r)
          obtain ⟨f0, hf0⟩ : ∃ z, farTo k adj (16 ^ fr) r = z := ⟨_, rfl⟩
          rw [hf0] at HX HN1
          clear hf0
          go_upto_region 11 with fail
          clear hd1 hcx
          go_loopw [12] (fun av wy => ∃ a : Nat, a ≤ k ∧ av = .int .i64 a ∧ FarS c w wy g k (roundF k adj r f0 a)) (fun v _ => k - (intOf v).toNat)
          case atStart => exact ⟨0, by omega, rfl, HX.out⟩
          case round =>
            obtain ⟨a, ha, rfl, hfs⟩ := hrel
            rename World => wy
            have HY := Lib.hid hfs
            have hcy := hfs.box.cell
            clear hfs
            by_cases hal : a < k
            · have hd2 : decide ((a : Int) < c.languages) = true := decide_eq_true (by rw [HL.out]; omega)
              have HN2 := Lib.hid (roundF_succ k adj r f0 a)
              obtain ⟨f1, hf1⟩ : ∃ z, roundF k adj r f0 a = z := ⟨_, rfl⟩
              rw [hf1] at HY HN2
              clear hf1
              go_upto_region 14 with fail
              clear hd2 hcy
              go_loopw [13] (fun bv wz => ∃ b : Nat, b ≤ k ∧ bv = .int .i64 b ∧ FarS c w wz g k (rowTo adj r a f1 b)) (fun v _ => k - (intOf v).toNat)
              case atStart => exact ⟨0, by omega, rfl, HY.out⟩
              case round =>
                obtain ⟨b, hb, rfl, hfs⟩ := hrel
                rename World => wz
                have HZ := Lib.hid hfs
                have hcz := hfs.box.cell
                clear hfs
                by_cases hbl : b < k
                · have hd3 : decide ((b : Int) < c.languages) = true := decide_eq_true (by rw [HL.out]; omega)
                  have HN3 := Lib.hid (rowTo_succ adj r a f1 b)
                  obtain ⟨f2, hf2⟩ : ∃ z, rowTo adj r a f1 b = z := ⟨_, rfl⟩
                  rw [hf2] at HZ HN3
                  clear hf2
                  have ca := HZ.out.far.cell hal
                  have cb := HZ.out.far.cell hbl
                  have ha0 : (0 : Int) ≤ (a : Int) := by omega
                  have ha1 : (a : Int) < (k : Int) := by omega
                  have hb0 : (0 : Int) ≤ (b : Int) := by omega
                  have hb1 : (b : Int) < (k : Int) := by omega
                  by_cases h1 : dig f2 a = r + 1
                  · by_cases h2 : dig f2 b = 0
                    · have HS3 := Lib.hid (farStep_yes (adj := adj) h1 h2)
                      have HM3 := Lib.hid (farStep_no3 (adj := adj) (r := r) (a := a) (out := f2) (b := b))
                      have HSET := Lib.hid (fun (wq : World) (h : FarS c w wq g k f2) => h.set (b := b) (v := r + 2) hn5 hbl h2 (by omega))
                      rw [h1, show (((r + 1 : Nat) : Int) - 1) = (r : Int) by omega] at ca
                      rw [h2, show (((0 : Nat) : Int) - 1) = -1 by omega] at cb
                      have HJC := Lib.hid (fun w0 hw => HJA.out a b hal hbl w0 hw)
                      obtain ⟨ad, had⟩ : ∃ z, adj a b = z := ⟨_, rfl⟩
                      rw [had] at HJC HS3 HM3
                      clear had h1 h2
                      go_wp2_with fail
                      refine (HJC.out _ HZ.out.grow).mono ?_
                      rintro e w3 ⟨rfl, hb3⟩
                      have H3 := Lib.hid (HZ.out.more hb3)
                      clear hb3 ca cb hcz hd3
                      cases ad with
                      | true =>
                        have fz := H3.out.far.frozen b
                        have cb := H3.out.far.cell hbl
                        have HE := Lib.hid (HSET.out _ H3.out)
                        have HQ : Hid (rowTo adj r a f1 (b + 1) = f2 + (r + 2) * 16 ^ b) := Lib.hid (by rw [HN3.out]; exact HS3.out rfl)
                        have hrv : IntKind.i64.wrap ((r : Int) + 1) = (r : Int) + 1 := IntWalk.i64_in _ (by omega)
                        clear HS3 HM3 HN3 HSET HJC
                        go_wp2
                        go_roundw
                        case rel => exact ⟨b + 1, by omega, by go_num, by rw [HQ.out]; have h := HE.out; rwa [show (((r + 2 : Nat) : Int) - 1) = (r : Int) + 1 by omega] at h⟩
                        case measure => simp [intOf]; omega
                      | false =>
                        have HQ : Hid (rowTo adj r a f1 (b + 1) = f2) := Lib.hid (by rw [HN3.out]; exact HM3.out rfl)
                        clear HS3 HM3 HN3 HSET HJC
                        go_wp2
                        go_roundw
                        case rel => exact ⟨b + 1, by omega, by go_num, by rw [HQ.out]; exact H3.out⟩
                        case measure => simp [intOf]; omega
                    · have HQ : Hid (rowTo adj r a f1 (b + 1) = f2) := Lib.hid (by rw [HN3.out]; exact farStep_no2 h2)
                      rw [h1, show (((r + 1 : Nat) : Int) - 1) = (r : Int) by omega] at ca
                      have hx : ¬ ((dig f2 b : Int) - 1 < 0) := by omega
                      obtain ⟨xb, hxb⟩ : ∃ z, (dig f2 b : Int) - 1 = z := ⟨_, rfl⟩
                      rw [hxb] at cb hx
                      have hxd : decide (xb < 0) = false := decide_eq_false hx
                      clear hxb h1 h2 HN3
                      go_wp2
                      go_roundw
                      case rel => exact ⟨b + 1, by omega, by go_num, by rw [HQ.out]; exact HZ.out⟩
                      case measure => simp [intOf]; omega
                  · have HQ : Hid (rowTo adj r a f1 (b + 1) = f2) := Lib.hid (by rw [HN3.out]; exact farStep_no1 h1)
                    have hx : ((dig f2 a : Int) - 1) ≠ (r : Int) := by omega
                    obtain ⟨xa, hxa⟩ : ∃ z, (dig f2 a : Int) - 1 = z := ⟨_, rfl⟩
                    rw [hxa] at ca hx
                    have hxd : (xa == (r : Int)) = false := by simpa using hx
                    clear hxa h1 HN3 cb hx
                    go_wp2
                    go_roundw
                    case rel => exact ⟨b + 1, by omega, by go_num, by rw [HQ.out]; exact HZ.out⟩
                    case measure => simp [intOf]; omega
                · have hd3 : decide ((b : Int) < c.languages) = false := decide_eq_false (by rw [HL.out]; omega)
                  have hbk : b = k := by omega
                  have HE : Hid (FarS c w wz g k (roundF k adj r f0 (a + 1))) := Lib.hid (by rw [HN2.out, ← hbk]; rw [← hbk] at HZ; exact HZ.out)
                  clear hbk
                  go_wp2
                  go_roundw
                  case rel => exact ⟨a + 1, by omega, by go_num, HE.out⟩
                  case measure => simp [intOf]; omega
            · have hd2 : decide ((a : Int) < c.languages) = false := decide_eq_false (by rw [HL.out]; omega)
              have hak : a = k := by omega
              have HE : Hid (FarS c w wy g k (farTo k adj (16 ^ fr) (r + 1))) := Lib.hid (by rw [HN1.out]; rw [hak] at HY; exact HY.out)
              clear hak
              go_wp2
              go_roundw
              case rel => exact ⟨r + 1, by omega, by go_num, HE.out⟩
              case measure => simp [intOf]; omega
        · have hd1 : decide ((r : Int) < c.languages) = false := decide_eq_false (by rw [HL.out]; omega)
          have hrk : r = k := by omega
          have HE : Hid (FarAt wx g k (farD k adj fr)) := Lib.hid (by rw [farD_to]; rw [hrk] at HX; exact HX.out.far)
          clear hrk
          go_wp2
          go_ret
          exact ⟨g, cap, rfl, by have := HX.out.gt; omega, HE.out, HX.out.grow⟩

end Go.Proofs.Yticeekkfdkfcgaa
