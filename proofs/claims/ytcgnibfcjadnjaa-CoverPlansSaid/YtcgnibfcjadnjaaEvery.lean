/- Every: all safe watches, as the specification lists them; written by wip/tools/every10.py. -/
import Derived.Test.YtcgnibfcjadnjaaEveryR
namespace Go.Proofs.Ytcgnibfcjadnjaa
open Go.RowKit

def bitI (g i : Nat) : Nat := if hasN g i then 1 else 0
def leftL (p : Pool) (f : Nat → Nat) : List Int := (List.range p.folk.length).map fun i => (f i : Int)
def remV (f : Nat → Nat) (g k i : Nat) : Int := if i < k then (f i : Int) - (bitI g i : Int) else (f i : Int)
def fitB (f : Nat → Nat) (g k : Nat) : Bool := (List.range k).all fun i => decide (bitI g i ≤ f i)
theorem fitB_succ (f : Nat → Nat) (g k : Nat) : fitB f g (k + 1) = (fitB f g k && decide (bitI g k ≤ f k)) := by
  unfold fitB
  rw [List.range_succ, List.all_append]
  simp
theorem fit_room (f : Nat → Nat) (g n : Nat) : fitB f g n = roomB n g f := rfl
theorem bit_mod (g i : Nat) : bitI g i = g / 2 ^ i % 2 := by
  have h2 : g / 2 ^ i % 2 < 2 := Nat.mod_lt _ (by omega)
  unfold bitI hasN
  by_cases h : g / 2 ^ i % 2 = 1
  · simp [h]
  · simp [h]
    omega
theorem rem_set {n : Nat} {f : Nat → Nat} {g k fk bt : Nat} {cs : Array Value} (h : ∀ i, i < n → cs[i]? = some (.int .i64 (remV f g k i))) (hb : f k = fk ∧ bitI g k = bt) : ∀ i, i < n → (cs.setIfInBounds k (.int .i64 ((fk : Int) - (bt : Int))))[i]? = some (.int .i64 (remV f g (k + 1) i)) := by
  intro i hi
  have hsz : i < cs.size := (Array.getElem?_eq_some_iff.1 (h i hi)).1
  by_cases hik : k = i
  · subst hik
    rw [Array.getElem?_setIfInBounds_self_of_lt hsz]
    unfold remV
    rw [if_pos (by omega), hb.1, hb.2]
  · rw [Array.getElem?_setIfInBounds_ne hik, h i hi]
    unfold remV
    by_cases h1 : i < k
    · rw [if_pos h1, if_pos (by omega)]
    · rw [if_neg h1, if_neg (by omega)]
theorem rem_get {n : Nat} {f : Nat → Nat} {g k : Nat} {cs : Array Value} {v : Value} (h : ∀ i, i < n → cs[i]? = some (.int .i64 (remV f g k i))) (hk : k < n) : (cs.setIfInBounds k v)[k]? = some v := Array.getElem?_setIfInBounds_self_of_lt (Array.getElem?_eq_some_iff.1 (h k hk)).1
/-- what every lists -/
def eL (p : Pool) (m s : Nat) (f : Nat → Nat) (l0 : List Nat) : List (List Nat) := (everyD p m s f).map (l0 ++ ·)
def subF (f : Nat → Nat) (g : Nat) : Nat → Nat := fun i => f i - bitI g i
def partL (p : Pool) (m s : Nat) (f : Nat → Nat) (l0 : List Nat) (g : Nat) : List (List Nat) := if roomB p.folk.length g f then eL p m (s + 1) (subF f g) (l0 ++ [g]) else []
def accL (p : Pool) (m s : Nat) (f : Nat → Nat) (l0 : List Nat) (j : Nat) : List (List Nat) := ((coversD p s).take j).flatMap (partL p m s f l0)
theorem accL_succ {p : Pool} {m s : Nat} {f : Nat → Nat} {l0 : List Nat} {j g : Nat} (h : (coversD p s)[j]? = some g) : accL p m s f l0 (j + 1) = accL p m s f l0 j ++ partL p m s f l0 g := by
  unfold accL
  rw [take_snoc h, List.flatMap_append, List.flatMap_singleton]
theorem accL_all (p : Pool) (m s : Nat) (f : Nat → Nat) (l0 : List Nat) : accL p m s f l0 (coversD p s).length = eL p (m + 1) s f l0 := by
  unfold accL eL
  rw [List.take_length]
  show _ = List.map _ ((coversD p s).flatMap _)
  rw [List.map_flatMap]
  congr 1
  funext g
  unfold partL
  split
  · unfold eL
    rw [List.map_map]
    refine List.map_congr_left fun t _ => ?_
    simp
  · rfl
theorem eL_prefix {p : Pool} {m s : Nat} {f : Nat → Nat} {l0 : List Nat} {g : Nat} (hl : l0.length = s) : ∀ xs, xs ∈ eL p m (s + 1) f (l0 ++ [g]) → ∀ y, (natsL xs)[s]? = some y → y = (g : Int) := by
  intro xs hxs y hy
  unfold eL at hxs
  obtain ⟨t, _, rfl⟩ := List.mem_map.1 hxs
  have h : ((l0 ++ [g]) ++ t)[s]? = some g := by
    rw [List.append_assoc, List.getElem?_append_right (by omega), hl]
    simp
  rw [natsL_at h] at hy
  exact (Option.some.inj hy).symm
theorem snoc_at {l0 : List Nat} {g s : Nat} (hl : l0.length = s) : ∀ y, (natsL (l0 ++ [g]))[s]? = some y → y = (g : Int) := by
  intro y hy
  have h : (l0 ++ [g])[s]? = some g := by rw [← hl, List.getElem?_concat_length]
  rw [natsL_at h] at hy
  exact (Option.some.inj hy).symm
theorem covers_len {p : Pool} (G : Good p) (s : Nat) : (coversD p s).length ≤ 32 := by
  have h1 := coversTo_len p s (2 ^ p.folk.length)
  have h2 : 2 ^ p.folk.length ≤ 2 ^ 5 := Nat.pow_le_pow_right (by omega) G.f5
  have h3 : coversTo p s (2 ^ p.folk.length) = coversD p s := rfl
  rw [h3] at h1
  omega
theorem flat_le {α β : Type} {F : α → List β} {b : Nat} : ∀ {l : List α}, (∀ x, x ∈ l → (F x).length ≤ b) → (l.flatMap F).length ≤ l.length * b
  | [], _ => by simp
  | x :: l, h => by
    rw [List.flatMap_cons, List.length_append, List.length_cons, Nat.add_mul, Nat.one_mul]
    have h1 := h x (by simp)
    have h2 := flat_le (F := F) (b := b) (l := l) (fun y hy => h y (by simp [hy]))
    omega
theorem every_len {p : Pool} (G : Good p) : ∀ (m s : Nat) (f : Nat → Nat), (everyD p m s f).length ≤ 32 ^ m
  | 0, _, _ => by simp [everyD]
  | m + 1, s, f => by
    rw [everyD]
    have h := flat_le (F := fun g => if roomB p.folk.length g f then (everyD p m (s + 1) (fun i => f i - if hasN g i then 1 else 0)).map (g :: ·) else []) (b := 32 ^ m) (l := coversD p s) (fun g _ => by
      split
      · rw [List.length_map]; exact every_len G m (s + 1) _
      · simp)
    have h2 : (coversD p s).length * 32 ^ m ≤ 32 * 32 ^ m := Nat.mul_le_mul_right _ (covers_len G s)
    rw [Nat.pow_succ]
    omega
theorem eL_len {p : Pool} (G : Good p) (m s : Nat) (f : Nat → Nat) (l0 : List Nat) : (eL p m s f l0).length ≤ 32 ^ m := by
  unfold eL
  rw [List.length_map]
  exact every_len G m s f
theorem accL_len {p : Pool} (G : Good p) (m s : Nat) (f : Nat → Nat) (l0 : List Nat) (j : Nat) : (accL p m s f l0 j).length ≤ 32 * 32 ^ m := by
  unfold accL
  have h := flat_le (F := partL p m s f l0) (b := 32 ^ m) (l := (coversD p s).take j) (fun g _ => by
    unfold partL
    split
    · exact eL_len G _ _ _ _
    · simp)
  have h1 := covers_len G s
  have h2 : ((coversD p s).take j).length ≤ 32 := by rw [List.length_take]; omega
  exact Nat.le_trans h (Nat.mul_le_mul_right _ h2)
theorem elem_of_own {w : World} {lo n c : Nat} {a : Option Addr} {l0 : List Nat} {g : Nat} (h : w.ownsRow lo 3 1 (.slice a (n + 1) c) (n + 1) ((natsL l0).map (Value.int .i64) ++ [.int .i64 (g : Int)])) (hl : l0.length = n) : ElemI w lo (natsL (l0 ++ [g])) (.slice a (n + 1) c) := by
  have e : (natsL l0).map (Value.int .i64) ++ [.int .i64 (g : Int)] = (natsL (l0 ++ [g])).map (Value.int .i64) := by simp [natsL]
  rw [e] at h
  have hlen : (natsL (l0 ++ [g])).length = n + 1 := by rw [natsL_length, List.length_append, hl]; rfl
  exact ⟨a, c, by rw [hlen], own_intT h hlen.symm⟩
theorem ints_src2 {w : World} {B : Nat} {A : Option Addr} {l0 : List Nat} {s : Nat} (h : IntT w B A (natsL l0)) (hl : l0.length = s) : s = 0 ∨ ∃ a, A = some a ∧ ∀ j u, ((natsL l0).map (Value.int .i64))[j]? = some u → w.cell? (a.add j) = some u := by
  have h2 := ints_src h.ints
  rwa [natsL_length, hl] at h2
theorem left_src {p : Pool} {f : Nat → Nat} {w : World} {B : Nat} {A : Option Addr} (h : Ints w B A (leftL p f)) : p.folk.length = 0 ∨ ∃ a, A = some a ∧ ∀ j u, ((leftL p f).map (Value.int .i64))[j]? = some u → w.cell? (a.add j) = some u := by
  have h2 := ints_src h
  rwa [show (leftL p f).length = p.folk.length by simp [leftL]] at h2
theorem rem_ints {p : Pool} {f : Nat → Nat} {g rb : Nat} {w : World} {cs : Array Value} (hb : BlockIs w rb 3 cs) (h : ∀ i, i < p.folk.length → cs[i]? = some (.int .i64 (remV f g p.folk.length i))) (hr : roomB p.folk.length g f = true) : Ints w w.heap.size (some ⟨rb, 0, none⟩) (leftL p (subF f g)) := by
  refine .inr ⟨rb, 0, rfl, hb.lt, fun i x hi => ?_⟩
  rw [Nat.zero_add, hb.cell]
  unfold leftL at hi
  rw [List.getElem?_map] at hi
  by_cases hlt : i < p.folk.length
  · rw [List.getElem?_range hlt] at hi
    obtain rfl : ((subF f g i : Nat) : Int) = x := by simpa using hi
    rw [h i hlt]
    unfold remV subF
    rw [if_pos hlt]
    have h1 : bitI g i ≤ f i := by
      unfold roomB at hr
      exact of_decide_eq_true (List.all_eq_true.1 hr i (List.mem_range.2 hlt))
    congr 2
    omega
  · rw [List.getElem?_eq_none (by simp; omega)] at hi
    cases hi
def coversA (p : Pool) : List (List Int) := (List.range p.needs.length).map fun s => natsL (coversD p s)

set_option maxRecDepth 100000 in
set_option maxHeartbeats 4000000 in
theorem every_base (h : PoolH) (p : Pool) (f : Nat → Nat) (l0 : List Nat) (hl0 : l0.length = p.needs.length) (B A1 A2 : Option Addr) (cb c1 c2 : Nat) (w : World) (h1 : IntT w 0 A1 (natsL l0)) :
    Calls Try.prog 65 #[poolN h p, .slice B p.needs.length cb, .slice A1 p.needs.length c1, .slice A2 p.folk.length c2] w fun e w' => ∃ v, e = .returned v ∧ RowsV (eL p 0 p.needs.length f l0) v w' ∧ Below w.heap.size w w' := by
  have HE : Hid (eL p 0 p.needs.length f l0 = [l0]) := Lib.hid (by unfold eL; simp [everyD])
  rw [HE.out]
  have HI := Lib.hid h1
  have HL := Lib.hid hl0
  obtain ⟨PO, hPO⟩ : ∃ z : Ending → World → Prop, (fun e w' => ∃ v, e = Ending.returned v ∧ RowsV [l0] v w' ∧ Below w.heap.size w w') = z := ⟨_, rfl⟩
  have HPO : Hid (∀ w' v, RowsV [l0] v w' → Below w.heap.size w w' → PO (Ending.returned v) w') := Lib.hid (fun w' v h1 h2 => by rw [← hPO]; exact ⟨v, rfl, h1, h2⟩)
  rw [hPO]
  clear h1 hl0 hPO HE
  obtain ⟨fa, fc, na, nc⟩ := h
  go_enter Try.func65, Try.ntmps65
  go_upto_region 1 with fail
  obtain ⟨W, hW, hg, hf, hsz⟩ := one_block w 25 (cellsN ⟨fa, fc, na, nc⟩ p)
  rw [hW]
  clear hW
  have hcc := hf.cell
  have HG := Lib.hid hg
  clear hf hg
  have HRV : Hid (RowsV [l0] (.slice (some ⟨W.heap.size, 0, none⟩) 1 1) (W.alloc (.cells #[.slice A1 p.needs.length c1] 26))) := Lib.hid ⟨_, _, rfl, .inr ⟨W.heap.size, _, rfl, BlockIs.new _ _ _, fun i xs hi => by
    cases i with
    | zero =>
      obtain rfl : l0 = xs := by simpa using hi
      refine ⟨.slice A1 p.needs.length c1, rfl, A1, c1, by rw [natsL_length, HL.out], (HI.out.grow (HG.out.trans (Grow.alloc _ _)))⟩
    | succ i => simp at hi⟩⟩
  have hq : ((p.needs.length : Int) == (p.needs.length : Int)) = true := by simp
  have HGA : Hid (Below w.heap.size w (W.alloc (.cells #[.slice A1 p.needs.length c1] 26))) := Lib.hid (HG.out.trans (Grow.alloc _ _))
  go_wp2_with fail
  all_goals first
    | exact HPO.out _ _ HRV.out HGA.out
    | (go_ret; exact HPO.out _ _ HRV.out HGA.out)
    | rfl

set_option maxRecDepth 100000 in
set_option maxHeartbeats 16000000 in
theorem every_step (h : PoolH) (p : Pool) (G : Good p) (m s : Nat) (hsm : s + (m + 1) = p.needs.length) (ff : Nat → Nat) (hff : ∀ i, ff i ≤ 1000) (l0 : List Nat) (hl0 : l0.length = s) (B A1 A2 : Option Addr) (cb c1 c2 : Nat) (w : World) (_hA : PoolAt w w.heap.size h p.i) (hB : Rows w w.heap.size B (coversA p)) (h1 : IntT w 0 A1 (natsL l0)) (h2 : Ints w w.heap.size A2 (leftL p ff))
    (ih : ∀ (g : Nat) (A' A3 : Option Addr) (c' c3 : Nat) (w0 : World), Below w.heap.size w w0 → IntT w0 0 A' (natsL (l0 ++ [g])) → Ints w0 w0.heap.size A3 (leftL p (subF ff g)) → Calls Try.prog 65 #[poolN h p, .slice B p.needs.length cb, .slice A' (s + 1) c', .slice A3 p.folk.length c3] w0 fun e w' => ∃ v, e = .returned v ∧ RowsV (eL p m (s + 1) (subF ff g) (l0 ++ [g])) v w' ∧ Below w0.heap.size w0 w') :
    Calls Try.prog 65 #[poolN h p, .slice B p.needs.length cb, .slice A1 s c1, .slice A2 p.folk.length c2] w fun e w' => ∃ v, e = .returned v ∧ RowsV (eL p (m + 1) s ff l0) v w' ∧ Below w.heap.size w w' := by
  obtain ⟨i0, hi, hz0, hz1, hz2⟩ := info_parts Try.infoInt
  have hn3 := G.n3
  have hf5 := G.f5
  have hf1 := G.f1
  have hsn : s < p.needs.length := by omega
  have HL0 := Lib.hid hl0
  have hs20 : s ≤ 20 := by omega
  have HIH := Lib.hid ih
  have HI1 := Lib.hid h1
  have HI2 := Lib.hid (fun (w0 : World) (hw : Grow w w0) => (h2.below hw).more hw.size)
  have hm2 : 32 * 32 ^ m ≤ 32768 := by
    have h3 : 32 ^ m ≤ 32 ^ 2 := Nat.pow_le_pow_right (by omega) (by omega)
    omega
  have HAL := Lib.hid (fun j => accL_len G m s ff l0 j)
  have HEM := Lib.hid (fun g => eL_len G m (s + 1) (subF ff g) (l0 ++ [g]))
  have HC32 := Lib.hid (fun x (hx : x ∈ coversD p s) => sub_32 (able_32 G s) ((covers_mem G hsn).1 hx).1)
  have hcl := covers_len G s
  have HEND := Lib.hid (accL_all p m s ff l0)
  have HSU := Lib.hid (fun (j g : Nat) (hg : (coversD p s)[j]? = some g) => accL_succ (m := m) (f := ff) (l0 := l0) hg)
  have HFB0 := Lib.hid hff
  have hrow : (coversA p)[s]? = some (natsL (coversD p s)) := by unfold coversA; rw [List.getElem?_map, List.getElem?_range hsn]; rfl
  obtain ⟨bb, boff, xs0, la, lc, rfl, hbb, hbc, hbi, hbx⟩ := hB.at_ (k := s) (by unfold coversA; simp; exact hsn)
  obtain rfl : xs0 = natsL (coversD p s) := by have h3 := hbx; rw [Hid, hrow] at h3; exact (Option.some.inj h3).symm
  rw [natsL_length] at hbc
  have HBC := Lib.hid hbc
  have HLC := Lib.hid (fun (w0 : World) (hw : Grow w w0) => (hbi.below hw).more hw.size)
  obtain ⟨PO, hPO⟩ : ∃ z : Ending → World → Prop, (fun e w' => ∃ v, e = Ending.returned v ∧ RowsV (eL p (m + 1) s ff l0) v w' ∧ Below w.heap.size w w') = z := ⟨_, rfl⟩
  have HPO : Hid (∀ w' v, RowsV (eL p (m + 1) s ff l0) v w' → Below w.heap.size w w' → PO (Ending.returned v) w') := Lib.hid (fun w' v h1 h2 => by rw [← hPO]; exact ⟨v, rfl, h1, h2⟩)
  rw [hPO]
  obtain ⟨L, hL⟩ : ∃ z, coversD p s = z := ⟨_, rfl⟩
  rw [hL] at HC32 hcl HEND HSU HBC HLC
  have hq : ((s : Int) == (p.needs.length : Int)) = false := by simp; omega
  have hs0 : (0 : Int) ≤ (s : Int) := by omega
  have hs1 : (s : Int) < (p.needs.length : Int) := by omega
  clear _hA hB h1 h2 ih hl0 hsm hff hrow hbb hbc hbi hbx hPO hL G
  obtain ⟨fa, fc, nda, ndc⟩ := h
  go_enter Try.func65, Try.ntmps65
  go_upto_region 1 with fail
  obtain ⟨W, hW, hg, hf, hsz⟩ := one_block w 25 (cellsN ⟨fa, fc, nda, ndc⟩ p)
  rw [hW]
  clear hW
  have hcc := hf.cell
  have hbc := hg.cell HBC.out
  have HG := Lib.hid hg
  have HF := Lib.hid hf
  clear hf hg
  go_upto_region 6 with fail
  clear hcc hbc hq
  go_loopw [9, 11] (fun ov iv wr => ∃ (j : Nat) (Ao : Option Addr) (co : Nat) (us : List Value), j ≤ L.length ∧ iv = .int .i64 (j : Nat) ∧ ov = .slice Ao (accL p m s ff l0 j).length co ∧ Hid (wr.ownsRow W.heap.size 26 1 (.slice Ao (accL p m s ff l0 j).length co) (accL p m s ff l0 j).length us) ∧ Hid (∀ (i : Nat) (xs : List Nat), (accL p m s ff l0 j)[i]? = some xs → ∃ u, us[i]? = some u ∧ ElemI wr 0 (natsL xs) u) ∧ Hid (Grow W wr)) (fun _ iv _ => L.length - (intOf iv).toNat)
  case atStart => exact ⟨0, none, 0, [], Nat.zero_le _, rfl, rfl, Lib.hid ⟨rfl, .inl ⟨rfl, rfl⟩⟩, Lib.hid (fun i xs hi => by simp [accL] at hi), Lib.hid (Grow.refl _)⟩
  case round => as_aux_lemma =>
    obtain ⟨j, Ao, co, us, hj, rfl, rfl, HOW, HEO, HGR⟩ := hrel
    rename World => wr
    by_cases hlt : j < L.length
    · have hd : decide ((j : Int) < (L.length : Int)) = true := decide_eq_true (by omega)
      have hj0 : (0 : Int) ≤ (j : Int) := by omega
      have hj1 : (j : Int) < (L.length : Int) := by omega
      obtain ⟨lb, lo, g, rfl, hlb, hgc, HX⟩ := ints_nat (HLC.out wr (HG.out.trans HGR.out)) hlt
      have hg32 := HC32.out g (List.mem_of_getElem? HX.out)
      have HGC0 := Lib.hid hgc
      have HNX0 := Lib.hid (HSU.out j g HX.out)
      have hal := HAL.out j
      clear hgc
      go_wp2_with (at_builtin; go_loud (refine wpList_append_arg rfl _ _ 26 rfl rfl wr.heap.size 3 i0 (.int .i64 0) 1 8 Try.underlying26 hi hz0 hz1 hz2 rfl (by omega) wr.heap.size rfl ?c0 (Nat.le_refl _) ?c1 A2 p.folk.length c2 ((leftL p ff).map (Value.int .i64)) rfl (by simp [leftL]) (left_src (HI2.out _ ((HG.out.trans HGR.out).trans (Grow.alloc _ _)))) ?c4 ?c5 ?_))
      case c0 => exact BlockIs.new _ _ _
      case c1 => simp
      case c4 => unfold maxLen; omega
      case c5 => omega
      intro v' W2 hrow hgr2
      obtain ⟨A3, c3, rfl⟩ := own_form hrow
      obtain ⟨rb, cs0, rfl, hrb, hrB, hrc0⟩ := own_block1 hrow (by omega)
      have HG2 : Hid (Grow wr W2) := Lib.hid ((Grow.alloc _ _).trans hgr2)
      have HRB0 := Lib.hid hrB
      have HCS0 : Hid (∀ i, i < p.folk.length → cs0[i]? = some (.int .i64 (remV ff g 0 i))) := Lib.hid (fun i hi => by
        refine hrc0 i _ ?_
        rw [List.getElem?_map]
        unfold leftL
        rw [List.getElem?_map, List.getElem?_range hi]
        rfl)
      clear hrow hgr2 hrB hrc0
      go_upto_region 11 with fail
      go_loopw [13, 14] (fun sv kv wk => ∃ (k : Nat) (cs : Array Value), k ≤ p.folk.length ∧ kv = .int .i64 (k : Nat) ∧ sv = .bool (fitB ff g k) ∧ Hid (BlockIs wk rb 3 cs) ∧ Hid (∀ i, i < p.folk.length → cs[i]? = some (.int .i64 (remV ff g k i))) ∧ Hid (Below rb W2 wk)) (fun _ kv _ => p.folk.length - (intOf kv).toNat)
      case atStart => exact ⟨0, cs0, Nat.zero_le _, rfl, rfl, HRB0, HCS0, Lib.hid (Below.refl _ _)⟩
      case round => as_aux_lemma =>
        obtain ⟨k, cs, hk, rfl, rfl, HRB, HCS, HBK⟩ := hrel
        rename World => wk
        have HGRK0 : Hid (Grow wr wk) := Lib.hid (HG2.out.trans' (HBK.out.mono hrb))
        by_cases hlk : k < p.folk.length
        · have hdk : decide ((k : Int) < (p.folk.length : Int)) = true := decide_eq_true (by omega)
          have hk0 : (0 : Int) ≤ (k : Int) := by omega
          have hk1 : (k : Int) < (p.folk.length : Int) := by omega
          have hk64 : k ≤ 64 := by omega
          have hcv : IntKind.u64.wrap (k : Int) = (k : Int) := IntWalk.u64_in _ (by omega)
          have HFS := Lib.hid (fitB_succ ff g k)
          have hfk := HFB0.out k
          have HGC := Lib.hid (HGRK0.out.cell HGC0.out)
          have HFK : Hid (cs[k]? = some (.int .i64 (ff k : Nat))) := Lib.hid (by have h := HCS.out k hlk; unfold remV at h; rwa [if_neg (by omega)] at h)
          have hsh := shr_and (s := g) (e := k) (by omega)
          have hb2 : bitI g k < 2 := by rw [bit_mod]; exact Nat.mod_lt _ (by omega)
          rw [← bit_mod] at hsh
          obtain ⟨ft, hft⟩ : ∃ z, fitB ff g k = z := ⟨_, rfl⟩
          obtain ⟨fk, hfk2⟩ : ∃ z, ff k = z := ⟨_, rfl⟩
          obtain ⟨bt, hbt⟩ : ∃ z, bitI g k = z := ⟨_, rfl⟩
          have HFB : Hid (ff k = fk ∧ bitI g k = bt) := Lib.hid ⟨hfk2, hbt⟩
          rw [hft, hfk2, hbt] at HFS
          rw [hfk2] at hfk HFK
          rw [hbt] at hsh hb2
          rw [hft]
          clear hft hfk2 hbt
          go_upto_region 13 with fail
          clear hdk
          refine wp_region_lit 14 [[], [], [(0, 43), (1, 44)], [(2, 45)], [], [], [(4, 47), (5, 48)], [(6, 49)], [], [(8, 51)], [(7, 50), (9, 52)], [(10, 53)], [(3, 46), (11, 54)], [(0, 43), (1, 44)]] Grow (fun qi v w' => match qi with
              | 0 => v = .slice (some ⟨rb, 0, none⟩) p.folk.length c3
              | 1 => v = .int .i64 (k : Nat)
              | 2 => v = .pointer (some ⟨rb, k, none⟩)
              | 3 => v = .int .i64 (fk : Nat)
              | 4 => v = .slice (some ⟨lb, lo, none⟩) L.length lc
              | 5 => v = .int .i64 (j : Nat)
              | 6 => v = .pointer (some ⟨lb, lo + j, none⟩)
              | 7 => v = .int .i64 (g : Nat)
              | 8 => v = .int .i64 (k : Nat)
              | 9 => v = .int .u64 (k : Nat)
              | 10 => v = .int .i64 ((g : Int) / 2 ^ k)
              | 11 => v = .int .i64 (bt : Nat)
              | 12 => v = .int .i64 ((fk : Int) - (bt : Int))
              | 13 => v = .pointer (some ⟨rb, k, none⟩)
              | _ => False) (by kernel_rfl) (by kernel_rfl) (fun _ _ _ => Grow.trans) Grow.refl ?_ ?_ ?_
          · intro i v y y' h k
            match i, h with
            | 0, h | 1, h | 2, h | 3, h | 4, h | 5, h | 6, h | 7, h | 8, h | 9, h | 10, h | 11, h | 12, h | 13, h => exact h
          · simp only [StepsLit, List.take_succ_cons, List.take_zero]
            refine ⟨?_, ?_, ?_, ?_, ?_, ?_, ?_, ?_, ?_, ?_, ?_, ?_, ?_, ?_, trivial⟩
            · intro w5 hR
              have hGw : Grow wk w5 := hR.of_drew
              have HGW := Lib.hid hGw
              have hrc : w5.cell? ⟨rb, k, none⟩ = some (.int .i64 (fk : Nat)) := by rw [(HGW.out.block HRB.out).cell]; exact HFK.out
              have hgc := HGW.out.cell HGC.out
              clear hR hGw
              simp only [depV]
              try go_simp
              all_goals first
                | (with_reducible exact Grow.refl _)
                | (with_reducible exact ⟨Grow.refl _, rfl⟩)
            · intro w5 hR
              have hGw : Grow wk w5 := hR.of_drew
              have HGW := Lib.hid hGw
              have hrc : w5.cell? ⟨rb, k, none⟩ = some (.int .i64 (fk : Nat)) := by rw [(HGW.out.block HRB.out).cell]; exact HFK.out
              have hgc := HGW.out.cell HGC.out
              clear hR hGw
              simp only [depV]
              try go_simp
              all_goals first
                | (with_reducible exact Grow.refl _)
                | (with_reducible exact ⟨Grow.refl _, rfl⟩)
            · intro w5 hR
              have hGw : Grow wk w5 := hR.of_drew
              have HGW := Lib.hid hGw
              have hrc : w5.cell? ⟨rb, k, none⟩ = some (.int .i64 (fk : Nat)) := by rw [(HGW.out.block HRB.out).cell]; exact HFK.out
              have hgc := HGW.out.cell HGC.out
              clear hR hGw
              simp only [depV]
              rintro _ rfl
              rintro _ rfl
              try go_simp
              all_goals first
                | (with_reducible exact Grow.refl _)
                | (with_reducible exact ⟨Grow.refl _, rfl⟩)
            · intro w5 hR
              have hGw : Grow wk w5 := hR.of_drew
              have HGW := Lib.hid hGw
              have hrc : w5.cell? ⟨rb, k, none⟩ = some (.int .i64 (fk : Nat)) := by rw [(HGW.out.block HRB.out).cell]; exact HFK.out
              have hgc := HGW.out.cell HGC.out
              clear hR hGw
              simp only [depV]
              rintro _ rfl
              try go_simp
              all_goals first
                | (with_reducible exact Grow.refl _)
                | (with_reducible exact ⟨Grow.refl _, rfl⟩)
            · intro w5 hR
              have hGw : Grow wk w5 := hR.of_drew
              have HGW := Lib.hid hGw
              have hrc : w5.cell? ⟨rb, k, none⟩ = some (.int .i64 (fk : Nat)) := by rw [(HGW.out.block HRB.out).cell]; exact HFK.out
              have hgc := HGW.out.cell HGC.out
              clear hR hGw
              simp only [depV]
              try go_simp
              all_goals first
                | (with_reducible exact Grow.refl _)
                | (with_reducible exact ⟨Grow.refl _, rfl⟩)
            · intro w5 hR
              have hGw : Grow wk w5 := hR.of_drew
              have HGW := Lib.hid hGw
              have hrc : w5.cell? ⟨rb, k, none⟩ = some (.int .i64 (fk : Nat)) := by rw [(HGW.out.block HRB.out).cell]; exact HFK.out
              have hgc := HGW.out.cell HGC.out
              clear hR hGw
              simp only [depV]
              try go_simp
              all_goals first
                | (with_reducible exact Grow.refl _)
                | (with_reducible exact ⟨Grow.refl _, rfl⟩)
            · intro w5 hR
              have hGw : Grow wk w5 := hR.of_drew
              have HGW := Lib.hid hGw
              have hrc : w5.cell? ⟨rb, k, none⟩ = some (.int .i64 (fk : Nat)) := by rw [(HGW.out.block HRB.out).cell]; exact HFK.out
              have hgc := HGW.out.cell HGC.out
              clear hR hGw
              simp only [depV]
              rintro _ rfl
              rintro _ rfl
              try go_simp
              all_goals first
                | (with_reducible exact Grow.refl _)
                | (with_reducible exact ⟨Grow.refl _, rfl⟩)
            · intro w5 hR
              have hGw : Grow wk w5 := hR.of_drew
              have HGW := Lib.hid hGw
              have hrc : w5.cell? ⟨rb, k, none⟩ = some (.int .i64 (fk : Nat)) := by rw [(HGW.out.block HRB.out).cell]; exact HFK.out
              have hgc := HGW.out.cell HGC.out
              clear hR hGw
              simp only [depV]
              rintro _ rfl
              try go_simp
              all_goals first
                | (with_reducible exact Grow.refl _)
                | (with_reducible exact ⟨Grow.refl _, rfl⟩)
            · intro w5 hR
              have hGw : Grow wk w5 := hR.of_drew
              have HGW := Lib.hid hGw
              have hrc : w5.cell? ⟨rb, k, none⟩ = some (.int .i64 (fk : Nat)) := by rw [(HGW.out.block HRB.out).cell]; exact HFK.out
              have hgc := HGW.out.cell HGC.out
              clear hR hGw
              simp only [depV]
              try go_simp
              all_goals first
                | (with_reducible exact Grow.refl _)
                | (with_reducible exact ⟨Grow.refl _, rfl⟩)
            · intro w5 hR
              have hGw : Grow wk w5 := hR.of_drew
              have HGW := Lib.hid hGw
              have hrc : w5.cell? ⟨rb, k, none⟩ = some (.int .i64 (fk : Nat)) := by rw [(HGW.out.block HRB.out).cell]; exact HFK.out
              have hgc := HGW.out.cell HGC.out
              clear hR hGw
              simp only [depV]
              rintro _ rfl
              try go_simp
              all_goals first
                | (with_reducible exact Grow.refl _)
                | (with_reducible exact ⟨Grow.refl _, rfl⟩)
            · intro w5 hR
              have hGw : Grow wk w5 := hR.of_drew
              have HGW := Lib.hid hGw
              have hrc : w5.cell? ⟨rb, k, none⟩ = some (.int .i64 (fk : Nat)) := by rw [(HGW.out.block HRB.out).cell]; exact HFK.out
              have hgc := HGW.out.cell HGC.out
              clear hR hGw
              simp only [depV]
              rintro _ rfl
              rintro _ rfl
              try go_simp
              all_goals first
                | (with_reducible exact Grow.refl _)
                | (with_reducible exact ⟨Grow.refl _, rfl⟩)
            · intro w5 hR
              have hGw : Grow wk w5 := hR.of_drew
              have HGW := Lib.hid hGw
              have hrc : w5.cell? ⟨rb, k, none⟩ = some (.int .i64 (fk : Nat)) := by rw [(HGW.out.block HRB.out).cell]; exact HFK.out
              have hgc := HGW.out.cell HGC.out
              clear hR hGw
              simp only [depV]
              rintro _ rfl
              try go_simp
              first
                | (with_reducible exact Grow.refl _)
                | exact ⟨Grow.refl _, hsh⟩
            · intro w5 hR
              have hGw : Grow wk w5 := hR.of_drew
              have HGW := Lib.hid hGw
              have hrc : w5.cell? ⟨rb, k, none⟩ = some (.int .i64 (fk : Nat)) := by rw [(HGW.out.block HRB.out).cell]; exact HFK.out
              have hgc := HGW.out.cell HGC.out
              clear hR hGw
              simp only [depV]
              rintro _ rfl
              rintro _ rfl
              try go_simp
              first
                | (with_reducible exact Grow.refl _)
                | exact ⟨Grow.refl _, IntWalk.i64_in _ (by omega)⟩
            · intro w5 hR
              have hGw : Grow wk w5 := hR.of_drew
              have HGW := Lib.hid hGw
              have hrc : w5.cell? ⟨rb, k, none⟩ = some (.int .i64 (fk : Nat)) := by rw [(HGW.out.block HRB.out).cell]; exact HFK.out
              have hgc := HGW.out.cell HGC.out
              clear hR hGw
              simp only [depV]
              rintro _ rfl
              rintro _ rfl
              try go_simp
              all_goals first
                | (with_reducible exact Grow.refl _)
                | (with_reducible exact ⟨Grow.refl _, rfl⟩)
          · intro w5 hR
            have HG5 : Hid (Grow wk w5) := Lib.hid hR.of_drew
            clear hR
            simp only [finVC, List.take_succ_cons, List.take_zero, List.drop_succ_cons, List.drop_zero]
            rintro _ rfl
            rintro _ rfl
            rintro _ rfl
            rintro _ rfl
            rintro _ rfl
            rintro _ rfl
            rintro _ rfl
            rintro _ rfl
            rintro _ rfl
            rintro _ rfl
            rintro _ rfl
            rintro _ rfl
            rintro _ rfl
            rintro _ rfl
            simp only [Act.put, List.setIfInBounds_toArray, List.set_cons_succ, List.set_cons_zero]
            have HR5 := Lib.hid (HG5.out.block HRB.out)
            have hrf := HR5.out.frozen k
            have hrc : w5.cell? ⟨rb, k, none⟩ = some (.int .i64 (fk : Nat)) := by rw [HR5.out.cell]; exact HFK.out
            have HRN := Lib.hid (HR5.out.near k (.int .i64 ((fk : Int) - (bt : Int))))
            have HBN : Hid (Below rb W2 (w5.setCell ⟨rb, k, none⟩ (.int .i64 ((fk : Int) - (bt : Int))))) := Lib.hid ((HBK.out.trans (Below.mono HG5.out (by have := HRB.out.lt; omega))).setCell (p := ⟨rb, k, none⟩) (by simp) _)
            have HCN : Hid (∀ i, i < p.folk.length → (cs.setIfInBounds k (.int .i64 ((fk : Int) - (bt : Int))))[i]? = some (.int .i64 (remV ff g (k + 1) i))) := Lib.hid (fun i hi => rem_set HCS.out HFB.out i hi)
            clear HG5 HR5
            go_upto_region 14 with fail
            obtain ⟨w6, hw6⟩ : ∃ w6, w5.setCell ⟨rb, k, none⟩ (.int .i64 ((fk : Int) - (bt : Int))) = w6 := ⟨_, rfl⟩
            rw [hw6] at HRN HBN ⊢
            clear hrc
            have hrc : w6.cell? ⟨rb, k, none⟩ = some (.int .i64 ((fk : Int) - (bt : Int))) := by rw [HRN.out.cell]; exact rem_get HCS.out hlk
            clear hw6 hrf
            cases ft with
            | false =>
              have HFN : Hid (fitB ff g (k + 1) = false) := Lib.hid (by rw [HFS.out]; rfl)
              go_wp2_with fail
              go_roundw
              case rel => exact ⟨k + 1, _, by omega, by go_num, by rw [HFN.out], HRN, HCN, HBN⟩
              case measure => simp [intOf]; omega
            | true =>
              by_cases hbf : bt ≤ fk
              · have hd2 : decide (0 ≤ (fk : Int) - (bt : Int)) = true := decide_eq_true (by omega)
                have hd3 : decide ((bt : Int) ≤ (fk : Int)) = true := decide_eq_true (by omega)
                have hd4 : decide (bt ≤ fk) = true := decide_eq_true hbf
                have HFN : Hid (fitB ff g (k + 1) = true) := Lib.hid (by rw [HFS.out, hd4]; rfl)
                go_wp2_with fail
                go_roundw
                case rel => exact ⟨k + 1, _, by omega, by go_num, by rw [HFN.out], HRN, HCN, HBN⟩
                case measure => simp [intOf]; omega
              · have hd2 : decide (0 ≤ (fk : Int) - (bt : Int)) = false := decide_eq_false (by omega)
                have hd3 : decide ((bt : Int) ≤ (fk : Int)) = false := decide_eq_false (by omega)
                have hd4 : decide (bt ≤ fk) = false := decide_eq_false hbf
                have HFN : Hid (fitB ff g (k + 1) = false) := Lib.hid (by rw [HFS.out, hd4]; rfl)
                go_wp2_with fail
                go_roundw
                case rel => exact ⟨k + 1, _, by omega, by go_num, by rw [HFN.out], HRN, HCN, HBN⟩
                case measure => simp [intOf]; omega
        · obtain rfl : k = p.folk.length := by omega
          have hdk : decide ((p.folk.length : Int) < (p.folk.length : Int)) = false := decide_eq_false (by omega)
          have HFR : Hid (partL p m s ff l0 g = if fitB ff g p.folk.length then eL p m (s + 1) (subF ff g) (l0 ++ [g]) else []) := Lib.hid (by rw [fit_room]; rfl)
          have HGRK : Hid (Grow W wk) := Lib.hid (HGR.out.trans HGRK0.out)
          have HOWK := Lib.hid (own_grow HOW.out HGRK0.out)
          have HELK : Hid (∀ (i : Nat) (xs : List Nat), (accL p m s ff l0 j)[i]? = some xs → ∃ u, us[i]? = some u ∧ ElemI wk 0 (natsL xs) u) := Lib.hid (fun i xs hi => by
            obtain ⟨u, e1, e2⟩ := HEO.out i xs hi
            exact ⟨u, e1, e2.grow HGRK0.out⟩)
          cases hft : fitB ff g p.folk.length with
          | false =>
            have HNX : Hid (accL p m s ff l0 (j + 1) = accL p m s ff l0 j) := Lib.hid (by rw [HNX0.out, HFR.out, hft, if_neg Bool.false_ne_true, List.append_nil])
            clear hft
            go_wp2_with fail
            go_roundw
            case rel => exact ⟨j + 1, Ao, co, us, by omega, by go_num, by rw [HNX.out], by rw [HNX.out]; exact HOWK, by rw [HNX.out]; exact HELK, HGRK⟩
            case measure => simp [intOf]; omega
          | true =>
            have HNX : Hid (accL p m s ff l0 (j + 1) = accL p m s ff l0 j ++ eL p m (s + 1) (subF ff g) (l0 ++ [g])) := Lib.hid (by rw [HNX0.out, HFR.out, hft, if_pos rfl])
            have HRI : Hid (Ints wk wk.heap.size (some ⟨rb, 0, none⟩) (leftL p (subF ff g))) := Lib.hid (rem_ints HRB.out HCS.out (by rw [fit_room] at hft; exact hft))
            have HPK := Lib.hid (HGRK.out.block HF.out)
            have HGK := Lib.hid (HGRK0.out.cell HGC0.out)
            have HWK : Hid (Below w.heap.size w wk) := Lib.hid (HG.out.trans HGRK.out)
            have HI1K := Lib.hid (HI1.out.grow HWK.out)
            have HLO5' : ∃ q, wk.heap.size = q := ⟨_, rfl⟩
            obtain ⟨lo5, hlo5⟩ := HLO5'
            have HLO5 := Lib.hid hlo5
            have HEL := Lib.hid (HEM.out g)
            have HXE := Lib.hid (snoc_at (g := g) HL0.out)
            have HXR := Lib.hid (eL_prefix (p := p) (m := m) (f := subF ff g) (g := g) HL0.out)
            have HLS : Hid ((natsL (l0 ++ [g])).length = s + 1) := Lib.hid (by rw [natsL_length, List.length_append, HL0.out]; rfl)
            have HIHG := Lib.hid (fun a11 c11 w0 hb ht hr => HIH.out g a11 (some ⟨rb, 0, none⟩) c11 c3 w0 hb ht hr)
            obtain ⟨na, hna⟩ : ∃ z, (accL p m s ff l0 j).length = z := ⟨_, rfl⟩
            have HNA := Lib.hid hna
            rw [hna] at HOWK hal ⊢
            obtain ⟨f2, hf2⟩ : ∃ z, subF ff g = z := ⟨_, rfl⟩
            rw [hf2] at HNX HRI HEL HXR HIHG
            clear hft hlo5 hna hf2 HI1 HIH
            have HI1 := HI1K
            have HIH := HIHG
            go_upto_region 16 with fail
            clear hdk
            refine wp_region_lit 14 [[], [], [], [], [], [(3, 69), (4, 70)], [], [], [(6, 72), (7, 73)], [(8, 74)], [(9, 75)], [(5, 71), (10, 76)], [], [(1, 67), (2, 68), (11, 77), (12, 78)]] (StepE s (g : Int) lo5) (fun qi v w' => match qi with
                | 0 => v = .slice Ao na co
                | 1 => v = poolN ⟨fa, fc, nda, ndc⟩ p
                | 2 => v = .slice (some ⟨bb, boff, none⟩) p.needs.length cb
                | 3 => NilI lo5 v w'
                | 4 => v = .slice A1 s c1
                | 5 => OwnQ lo5 s ((natsL l0).map (Value.int .i64)) v w'
                | 6 => v = .slice (some ⟨lb, lo, none⟩) L.length lc
                | 7 => v = .int .i64 (j : Nat)
                | 8 => v = .pointer (some ⟨lb, lo + j, none⟩)
                | 9 => v = .int .i64 (g : Nat)
                | 10 => OneE lo5 (g : Int) v w'
                | 11 => ElemI w' lo5 (natsL (l0 ++ [g])) v
                | 12 => v = .slice (some ⟨rb, 0, none⟩) p.folk.length c3
                | 13 => RowsV (eL p m (s + 1) f2 (l0 ++ [g])) v w'
                | _ => False) (by kernel_rfl) (by kernel_rfl) (fun _ _ _ => StepE.trans) (StepE.refl _ _ _) ?_ ?_ ?_
            · intro i v y y' h k
              match i, h with
              | 3, h => first | exact h.step k | exact h.step k HXE.out | exact h.step k (fun _ => rfl) | (obtain ⟨A8, c8, e8, h8⟩ := h; exact ⟨A8, c8, e8, h8.step k HXR.out⟩)
              | 5, h => first | exact h.step k | exact h.step k HXE.out | exact h.step k (fun _ => rfl) | (obtain ⟨A8, c8, e8, h8⟩ := h; exact ⟨A8, c8, e8, h8.step k HXR.out⟩)
              | 10, h => first | exact h.step k | exact h.step k HXE.out | exact h.step k (fun _ => rfl) | (obtain ⟨A8, c8, e8, h8⟩ := h; exact ⟨A8, c8, e8, h8.step k HXR.out⟩)
              | 11, h => first | exact h.step k | exact h.step k HXE.out | exact h.step k (fun _ => rfl) | (obtain ⟨A8, c8, e8, h8⟩ := h; exact ⟨A8, c8, e8, h8.step k HXR.out⟩)
              | 13, h => first | exact h.step k | exact h.step k HXE.out | exact h.step k (fun _ => rfl) | (obtain ⟨A8, c8, e8, h8⟩ := h; exact ⟨A8, c8, e8, h8.step k HXR.out⟩)
              | 0, h | 1, h | 2, h | 4, h | 6, h | 7, h | 8, h | 9, h | 12, h => exact h
            · simp only [StepsLit, List.take_succ_cons, List.take_zero]
              refine ⟨?_, ?_, ?_, ?_, ?_, ?_, ?_, ?_, ?_, ?_, ?_, ?_, ?_, ?_, trivial⟩
              · intro w5 hR
                have hGw : (StepE s (g : Int) lo5) wk w5 := hR.of_drew
                have HGW := Lib.hid hGw
                have hgrw : Grow wk w5 := by have h := hGw.below (by rw [HLO5.out]; exact Nat.le_refl _); rwa [← HLO5.out] at h
                have HGWK := Lib.hid hgrw
                have hz5 : lo5 ≤ w5.heap.size := by rw [← HLO5.out]; exact hgrw.size
                have hbw5 : Below w.heap.size w w5 := HWK.out.trans (Below.mono hgrw HWK.out.size)
                have hcc := (hgrw.block HPK.out).cell
                have hgc := hgrw.cell HGK.out
                clear hgrw
                clear hR hGw
                simp only [depV]
                try go_simp
                all_goals first
                  | (with_reducible exact (StepE.refl _ _ _) _)
                  | (with_reducible exact ⟨(StepE.refl _ _ _) _, rfl⟩)
              · intro w5 hR
                have hGw : (StepE s (g : Int) lo5) wk w5 := hR.of_drew
                have HGW := Lib.hid hGw
                have hgrw : Grow wk w5 := by have h := hGw.below (by rw [HLO5.out]; exact Nat.le_refl _); rwa [← HLO5.out] at h
                have HGWK := Lib.hid hgrw
                have hz5 : lo5 ≤ w5.heap.size := by rw [← HLO5.out]; exact hgrw.size
                have hbw5 : Below w.heap.size w w5 := HWK.out.trans (Below.mono hgrw HWK.out.size)
                have hcc := (hgrw.block HPK.out).cell
                have hgc := hgrw.cell HGK.out
                clear hgrw
                clear hR hGw
                simp only [depV]
                try go_simp
                all_goals first
                  | (with_reducible exact (StepE.refl _ _ _) _)
                  | (with_reducible exact ⟨(StepE.refl _ _ _) _, rfl⟩)
              · intro w5 hR
                have hGw : (StepE s (g : Int) lo5) wk w5 := hR.of_drew
                have HGW := Lib.hid hGw
                have hgrw : Grow wk w5 := by have h := hGw.below (by rw [HLO5.out]; exact Nat.le_refl _); rwa [← HLO5.out] at h
                have HGWK := Lib.hid hgrw
                have hz5 : lo5 ≤ w5.heap.size := by rw [← HLO5.out]; exact hgrw.size
                have hbw5 : Below w.heap.size w w5 := HWK.out.trans (Below.mono hgrw HWK.out.size)
                have hcc := (hgrw.block HPK.out).cell
                have hgc := hgrw.cell HGK.out
                clear hgrw
                clear hR hGw
                simp only [depV]
                try go_simp
                all_goals first
                  | (with_reducible exact (StepE.refl _ _ _) _)
                  | (with_reducible exact ⟨(StepE.refl _ _ _) _, rfl⟩)
              · intro w5 hR
                have hGw : (StepE s (g : Int) lo5) wk w5 := hR.of_drew
                have HGW := Lib.hid hGw
                have hgrw : Grow wk w5 := by have h := hGw.below (by rw [HLO5.out]; exact Nat.le_refl _); rwa [← HLO5.out] at h
                have HGWK := Lib.hid hgrw
                have hz5 : lo5 ≤ w5.heap.size := by rw [← HLO5.out]; exact hgrw.size
                have hbw5 : Below w.heap.size w w5 := HWK.out.trans (Below.mono hgrw HWK.out.size)
                have hcc := (hgrw.block HPK.out).cell
                have hgc := hgrw.cell HGK.out
                clear hgrw
                clear hR hGw
                simp only [depV]
                try go_simp
                exact ⟨StepE.of_grow (Grow.alloc _ _), _, rfl, hz5, BlockIs.new _ _ _⟩
              · intro w5 hR
                have hGw : (StepE s (g : Int) lo5) wk w5 := hR.of_drew
                have HGW := Lib.hid hGw
                have hgrw : Grow wk w5 := by have h := hGw.below (by rw [HLO5.out]; exact Nat.le_refl _); rwa [← HLO5.out] at h
                have HGWK := Lib.hid hgrw
                have hz5 : lo5 ≤ w5.heap.size := by rw [← HLO5.out]; exact hgrw.size
                have hbw5 : Below w.heap.size w w5 := HWK.out.trans (Below.mono hgrw HWK.out.size)
                have hcc := (hgrw.block HPK.out).cell
                have hgc := hgrw.cell HGK.out
                clear hgrw
                clear hR hGw
                simp only [depV]
                try go_simp
                all_goals first
                  | (with_reducible exact (StepE.refl _ _ _) _)
                  | (with_reducible exact ⟨(StepE.refl _ _ _) _, rfl⟩)
              · intro w5 hR
                have hGw : (StepE s (g : Int) lo5) wk w5 := hR.of_drew
                have HGW := Lib.hid hGw
                have hgrw : Grow wk w5 := by have h := hGw.below (by rw [HLO5.out]; exact Nat.le_refl _); rwa [← HLO5.out] at h
                have HGWK := Lib.hid hgrw
                have hz5 : lo5 ≤ w5.heap.size := by rw [← HLO5.out]; exact hgrw.size
                have hbw5 : Below w.heap.size w w5 := HWK.out.trans (Below.mono hgrw HWK.out.size)
                have hcc := (hgrw.block HPK.out).cell
                have hgc := hgrw.cell HGK.out
                clear hgrw
                clear hR hGw
                simp only [depV]
                intro v3 hv3
                rintro _ rfl
                obtain ⟨gq, rfl, hgq, hBq⟩ := hv3
                obtain ⟨v', w', hrun, hrow, hgx⟩ := append_onto_empty (P := Try.prog) Try.underlying26 hi hz0 hz1 hz2 rfl (by omega) hBq hgq hz5 A1 s c1 ((natsL l0).map (Value.int .i64)) (by rw [List.length_map, natsL_length, HL0.out, Nat.mul_one]) (ints_src2 (HI1.out.grow HGWK.out) HL0.out) (by unfold maxLen; omega) (by omega)
                obtain ⟨A', c', rfl⟩ := own_form hrow
                refine wp_append_headT (s := .tmp 69) (x := .tmp 70) rfl rfl rfl rfl hrun ?_
                exact ⟨rfl, StepE.of_grow hgx, A', c', rfl, hrow⟩
              · intro w5 hR
                have hGw : (StepE s (g : Int) lo5) wk w5 := hR.of_drew
                have HGW := Lib.hid hGw
                have hgrw : Grow wk w5 := by have h := hGw.below (by rw [HLO5.out]; exact Nat.le_refl _); rwa [← HLO5.out] at h
                have HGWK := Lib.hid hgrw
                have hz5 : lo5 ≤ w5.heap.size := by rw [← HLO5.out]; exact hgrw.size
                have hbw5 : Below w.heap.size w w5 := HWK.out.trans (Below.mono hgrw HWK.out.size)
                have hcc := (hgrw.block HPK.out).cell
                have hgc := hgrw.cell HGK.out
                clear hgrw
                clear hR hGw
                simp only [depV]
                try go_simp
                all_goals first
                  | (with_reducible exact (StepE.refl _ _ _) _)
                  | (with_reducible exact ⟨(StepE.refl _ _ _) _, rfl⟩)
              · intro w5 hR
                have hGw : (StepE s (g : Int) lo5) wk w5 := hR.of_drew
                have HGW := Lib.hid hGw
                have hgrw : Grow wk w5 := by have h := hGw.below (by rw [HLO5.out]; exact Nat.le_refl _); rwa [← HLO5.out] at h
                have HGWK := Lib.hid hgrw
                have hz5 : lo5 ≤ w5.heap.size := by rw [← HLO5.out]; exact hgrw.size
                have hbw5 : Below w.heap.size w w5 := HWK.out.trans (Below.mono hgrw HWK.out.size)
                have hcc := (hgrw.block HPK.out).cell
                have hgc := hgrw.cell HGK.out
                clear hgrw
                clear hR hGw
                simp only [depV]
                try go_simp
                all_goals first
                  | (with_reducible exact (StepE.refl _ _ _) _)
                  | (with_reducible exact ⟨(StepE.refl _ _ _) _, rfl⟩)
              · intro w5 hR
                have hGw : (StepE s (g : Int) lo5) wk w5 := hR.of_drew
                have HGW := Lib.hid hGw
                have hgrw : Grow wk w5 := by have h := hGw.below (by rw [HLO5.out]; exact Nat.le_refl _); rwa [← HLO5.out] at h
                have HGWK := Lib.hid hgrw
                have hz5 : lo5 ≤ w5.heap.size := by rw [← HLO5.out]; exact hgrw.size
                have hbw5 : Below w.heap.size w w5 := HWK.out.trans (Below.mono hgrw HWK.out.size)
                have hcc := (hgrw.block HPK.out).cell
                have hgc := hgrw.cell HGK.out
                clear hgrw
                clear hR hGw
                simp only [depV]
                rintro _ rfl
                rintro _ rfl
                try go_simp
                all_goals first
                  | (with_reducible exact (StepE.refl _ _ _) _)
                  | (with_reducible exact ⟨(StepE.refl _ _ _) _, rfl⟩)
              · intro w5 hR
                have hGw : (StepE s (g : Int) lo5) wk w5 := hR.of_drew
                have HGW := Lib.hid hGw
                have hgrw : Grow wk w5 := by have h := hGw.below (by rw [HLO5.out]; exact Nat.le_refl _); rwa [← HLO5.out] at h
                have HGWK := Lib.hid hgrw
                have hz5 : lo5 ≤ w5.heap.size := by rw [← HLO5.out]; exact hgrw.size
                have hbw5 : Below w.heap.size w w5 := HWK.out.trans (Below.mono hgrw HWK.out.size)
                have hcc := (hgrw.block HPK.out).cell
                have hgc := hgrw.cell HGK.out
                clear hgrw
                clear hR hGw
                simp only [depV]
                rintro _ rfl
                try go_simp
                all_goals first
                  | (with_reducible exact (StepE.refl _ _ _) _)
                  | (with_reducible exact ⟨(StepE.refl _ _ _) _, rfl⟩)
              · intro w5 hR
                have hGw : (StepE s (g : Int) lo5) wk w5 := hR.of_drew
                have HGW := Lib.hid hGw
                have hgrw : Grow wk w5 := by have h := hGw.below (by rw [HLO5.out]; exact Nat.le_refl _); rwa [← HLO5.out] at h
                have HGWK := Lib.hid hgrw
                have hz5 : lo5 ≤ w5.heap.size := by rw [← HLO5.out]; exact hgrw.size
                have hbw5 : Below w.heap.size w w5 := HWK.out.trans (Below.mono hgrw HWK.out.size)
                have hcc := (hgrw.block HPK.out).cell
                have hgc := hgrw.cell HGK.out
                clear hgrw
                clear hR hGw
                simp only [depV]
                rintro _ rfl
                try go_simp
                exact ⟨StepE.of_grow (Grow.alloc _ _), _, rfl, hz5, BlockIs.new _ _ _⟩
              · intro w5 hR
                have hGw : (StepE s (g : Int) lo5) wk w5 := hR.of_drew
                have HGW := Lib.hid hGw
                have hgrw : Grow wk w5 := by have h := hGw.below (by rw [HLO5.out]; exact Nat.le_refl _); rwa [← HLO5.out] at h
                have HGWK := Lib.hid hgrw
                have hz5 : lo5 ≤ w5.heap.size := by rw [← HLO5.out]; exact hgrw.size
                have hbw5 : Below w.heap.size w w5 := HWK.out.trans (Below.mono hgrw HWK.out.size)
                have hcc := (hgrw.block HPK.out).cell
                have hgc := hgrw.cell HGK.out
                clear hgrw
                clear hR hGw
                simp only [depV]
                intro v5 hv5
                intro v10 hv10
                obtain ⟨a5, c5, rfl, hown5⟩ := hv5
                obtain ⟨q10, rfl, hq10, hB10⟩ := hv10
                obtain ⟨a', c', w', hrun, hown', hst⟩ := append_step hown5 hB10 hz5 (by omega)
                refine wp_append_headT (s := .tmp 71) (x := .tmp 76) rfl rfl rfl rfl hrun ?_
                exact ⟨rfl, hst, elem_of_own hown' HL0.out⟩
              · intro w5 hR
                have hGw : (StepE s (g : Int) lo5) wk w5 := hR.of_drew
                have HGW := Lib.hid hGw
                have hgrw : Grow wk w5 := by have h := hGw.below (by rw [HLO5.out]; exact Nat.le_refl _); rwa [← HLO5.out] at h
                have HGWK := Lib.hid hgrw
                have hz5 : lo5 ≤ w5.heap.size := by rw [← HLO5.out]; exact hgrw.size
                have hbw5 : Below w.heap.size w w5 := HWK.out.trans (Below.mono hgrw HWK.out.size)
                have hcc := (hgrw.block HPK.out).cell
                have hgc := hgrw.cell HGK.out
                clear hgrw
                clear hR hGw
                simp only [depV]
                try go_simp
                all_goals first
                  | (with_reducible exact (StepE.refl _ _ _) _)
                  | (with_reducible exact ⟨(StepE.refl _ _ _) _, rfl⟩)
              · intro w5 hR
                have hGw : (StepE s (g : Int) lo5) wk w5 := hR.of_drew
                have HGW := Lib.hid hGw
                have hgrw : Grow wk w5 := by have h := hGw.below (by rw [HLO5.out]; exact Nat.le_refl _); rwa [← HLO5.out] at h
                have HGWK := Lib.hid hgrw
                have hz5 : lo5 ≤ w5.heap.size := by rw [← HLO5.out]; exact hgrw.size
                have hbw5 : Below w.heap.size w w5 := HWK.out.trans (Below.mono hgrw HWK.out.size)
                have hcc := (hgrw.block HPK.out).cell
                have hgc := hgrw.cell HGK.out
                clear hgrw
                clear hR hGw
                simp only [depV]
                rintro _ rfl
                rintro _ rfl
                intro v11 hv11
                rintro _ rfl
                obtain ⟨a11, c11, rfl, ht11⟩ := hv11
                rw [HLS.out]
                try go_simp
                refine (HIH.out a11 c11 w5 hbw5 (ht11.mono (Nat.zero_le _)) ((HRI.out.below HGWK.out).more HGWK.out.size)).mono ?_
                rintro e w6 ⟨v, rfl, hrv, hb6⟩
                obtain ⟨A7, c7, rfl, hr7⟩ := hrv
                exact ⟨StepE.of_grow hb6, A7, c7, rfl, hr7⟩
            · intro w5 hR
              have HG5 : Hid ((StepE s (g : Int) lo5) wk w5) := Lib.hid hR.of_drew
              clear hR
              simp only [finVC, List.take_succ_cons, List.take_zero, List.drop_succ_cons, List.drop_zero]
              rintro _ rfl
              rintro _ rfl
              rintro _ rfl
              intro v3 hv3
              rintro _ rfl
              intro v5 hv5
              rintro _ rfl
              rintro _ rfl
              rintro _ rfl
              rintro _ rfl
              intro v10 hv10
              intro v11 hv11
              rintro _ rfl
              intro v13 hv13
              simp only [Act.put, List.setIfInBounds_toArray, List.set_cons_succ, List.set_cons_zero]
              obtain ⟨A7, c7, rfl, hr7⟩ := hv13
              have hgrw : Grow wk w5 := by have h := HG5.out.below (by rw [HLO5.out]; exact Nat.le_refl _); rwa [← HLO5.out] at h
              have HGK5 : Hid (Grow wk w5) := hgrw
              have HR7 := Lib.hid hr7
              have HOW5 := Lib.hid (own_grow HOWK.out HGK5.out)
              have hbz : W.heap.size ≤ w5.heap.size := by have h1 := HGRK.out.size; have h2 := HGK5.out.size; omega
              have hE32 := HEL.out
              clear hgrw hr7 hv3 hv5 hv10 hv11 HG5
              obtain ⟨E7, hE7⟩ : ∃ z, eL p m (s + 1) f2 (l0 ++ [g]) = z := ⟨_, rfl⟩
              rw [hE7] at HR7 HNX hE32 ⊢
              clear hE7
              go_wp2_with (at_builtin; go_loud (refine wpList_append_rowsE rfl _ _ rfl W.heap.size na co Ao us rfl ?d0 A7 c7 E7 rfl ?d1 ?d2 hbz ?_))
              case d0 => exact HOW5.out
              case d1 => exact HR7.out
              case d2 => omega
              intro A9 c9 w9 news hown9 hel9 hkp9 hbl9
              have HO9 : Hid (w9.ownsRow W.heap.size 26 1 (.slice A9 (accL p m s ff l0 (j + 1)).length c9) (accL p m s ff l0 (j + 1)).length (us ++ news)) := Lib.hid (by rw [HNX.out, List.length_append, HNA.out]; exact hown9)
              have HE9 : Hid (∀ (i : Nat) (xs : List Nat), (accL p m s ff l0 (j + 1))[i]? = some xs → ∃ u, (us ++ news)[i]? = some u ∧ ElemI w9 0 (natsL xs) u) := Lib.hid (fun i xs hi => by
                rw [HNX.out] at hi
                have hul : us.length = na := by have := HOW5.out.1; omega
                by_cases hlt : i < na
                · rw [List.getElem?_append_left (by rw [HNA.out]; exact hlt)] at hi
                  obtain ⟨u, h1, h2⟩ := HELK.out i xs hi
                  exact ⟨u, by rw [List.getElem?_append_left (by omega)]; exact h1, (h2.grow HGK5.out).keepT hkp9⟩
                · rw [List.getElem?_append_right (by rw [HNA.out]; omega), HNA.out] at hi
                  obtain ⟨u, h1, h2⟩ := hel9 _ xs hi
                  exact ⟨u, by rw [List.getElem?_append_right (by omega), hul]; exact h1, h2⟩)
              have HG9 : Hid (Grow W w9) := Lib.hid ((HGRK.out.trans HGK5.out).trans' hbl9)
              have HL9 : Hid (na + E7.length = (accL p m s ff l0 (j + 1)).length) := Lib.hid (by rw [HNX.out, List.length_append, HNA.out])
              clear hown9 hel9 hkp9 hbl9
              rw [HL9.out]
              go_wp2_with fail
              go_roundw
              case rel => exact ⟨j + 1, A9, c9, _, by omega, by go_num, rfl, HO9, HE9, HG9⟩
              case measure => simp [intOf]; omega
    · obtain rfl : j = L.length := by omega
      have hd : decide ((L.length : Int) < (L.length : Int)) = false := decide_eq_false (by omega)
      have HRV : Hid (RowsV (eL p (m + 1) s ff l0) (.slice Ao (accL p m s ff l0 L.length).length co) wr) := Lib.hid (by
        rw [← HEND.out]
        exact ⟨Ao, co, rfl, own_rowsE HOW.out rfl HEO.out⟩)
      go_wp2_with fail
      first
        | exact HPO.out _ _ HRV.out (HG.out.trans HGR.out)
        | (go_ret; exact HPO.out _ _ HRV.out (HG.out.trans HGR.out))

theorem rEvery_any (h : PoolH) (p : Pool) (G : Good p) (B : Option Addr) (cb : Nat) : ∀ (m s : Nat), s + m = p.needs.length → ∀ (ff : Nat → Nat), (∀ i, ff i ≤ 1000) → ∀ (l0 : List Nat), l0.length = s → ∀ (A1 A2 : Option Addr) (c1 c2 : Nat) (w : World), PoolAt w w.heap.size h p.i → Rows w w.heap.size B (coversA p) → IntT w 0 A1 (natsL l0) → Ints w w.heap.size A2 (leftL p ff) →
    Calls Try.prog 65 #[poolN h p, .slice B p.needs.length cb, .slice A1 s c1, .slice A2 p.folk.length c2] w fun e w' => ∃ v, e = .returned v ∧ RowsV (eL p m s ff l0) v w' ∧ Below w.heap.size w w'
  | 0, s, hsm, ff, _, l0, hl0, A1, A2, c1, c2, w, _, _, h1, _ => by
    obtain rfl : s = p.needs.length := by omega
    exact every_base h p ff l0 hl0 B A1 A2 cb c1 c2 w h1
  | m + 1, s, hsm, ff, hff, l0, hl0, A1, A2, c1, c2, w, hA, hB, h1, h2 =>
    every_step h p G m s hsm ff hff l0 hl0 B A1 A2 cb c1 c2 w hA hB h1 h2 fun g A' A3 c' c3 w0 hb h1' h2' =>
      rEvery_any h p G B cb m (s + 1) (by omega) (subF ff g) (fun i => by have := hff i; unfold subF; omega) (l0 ++ [g]) (by rw [List.length_append, hl0]; rfl) A' A3 c' c3 w0 ((hA.below hb).more hb.size) ((hB.below hb).more hb.size) h1' h2'

end Go.Proofs.Ytcgnibfcjadnjaa
