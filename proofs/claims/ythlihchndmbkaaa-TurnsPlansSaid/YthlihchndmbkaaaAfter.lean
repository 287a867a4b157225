/- After: all parts of the beginning of a rota. -/
import Derived.Test.YthlihchndmbkaaaSign
namespace Go.Proofs.Ythlihchndmbkaaa
open Go.RowKit

theorem afterD_take {hi : Bool} {t : TaskD} {first : List Nat} {k h : Nat} (hk : first[k]? = some h) : afterD hi t (first.take (k + 1)) = signD hi t (afterD hi t (first.take k)) h := by
  unfold afterD
  rw [take_snoc hk, List.foldl_append]
  rfl
theorem afterD_ok {hi : Bool} {t : TaskD} (ht : okTask t = true) {first : List Nat} (hf : ∀ h ∈ first, h < t.hands.length) (hl : first.length ≤ t.parts.length) : ∀ k, k ≤ first.length → StOK (afterD hi t (first.take k)) ∧ (afterD hi t (first.take k)).parts = k
  | 0, _ => by
    have h := beginTo_ok (hi := hi) (okTask_parts ht).2.1 t.hands.length (okTask_parts ht).1.2
    exact ⟨h.1, h.2⟩
  | k + 1, hk => by
    have hx : first[k]? = some (first[k]'(by omega)) := List.getElem?_eq_getElem (by omega)
    have ih := afterD_ok (hi := hi) ht hf hl k (by omega)
    rw [afterD_take hx]
    have h := signD_ok (hi := hi) ht ih.1 (by rw [ih.2]; omega) (hf _ (List.mem_of_getElem? hx))
    refine ⟨h.1, ?_⟩
    rw [h.2, ih.2]
    omega

theorem results_state4 {fn : Func} (h : fn.results = #[.cell 4 77]) (t : Array Value) (W : World) (b : Nat) (v0 v1 v2 v3 v4 v5 : Value)
    (hb : BlockIs W b 77 #[v0, v1, v2, v3, v4, v5]) (ht : t.getD 4 undef = .pointer (some ⟨b, 0, none⟩)) :
    (results fn t).run Try.prog W = .ok (.agg #[v0, v1, v2, v3, v4, v5]) W := by
  have hc := hb.cell
  simp only [results, h]
  simp at ht
  simp [go_sem, ht, hc]
theorem six_far {w : World} {b c : Nat} {t : TypeId} {cs : Array Value} (h : BlockIs w c t cs) (hb : c ≠ b) (v0 v1 v2 v3 v4 v5 : Value) :
    BlockIs ((((((w.setCell ⟨b, 0, none⟩ v0).setCell ⟨b, 1, none⟩ v1).setCell ⟨b, 2, none⟩ v2).setCell ⟨b, 3, none⟩ v3).setCell ⟨b, 4, none⟩ v4).setCell ⟨b, 5, none⟩ v5) c t cs :=
  (((((h.far (p := ⟨b, 0, none⟩) hb v0).far (p := ⟨b, 1, none⟩) hb v1).far (p := ⟨b, 2, none⟩) hb v2).far (p := ⟨b, 3, none⟩) hb v3).far (p := ⟨b, 4, none⟩) hb v4).far (p := ⟨b, 5, none⟩) hb v5
abbrev natsL (l : List Nat) : List Int := l.map fun h : Nat => (h : Int)

set_option maxRecDepth 100000 in
set_option maxHeartbeats 8000000 in
theorem after_any (hi : Bool) (f g : Nat) (hf : EndFn hi f) (hg' : EndFn (!hi) g) (t : TaskR) (first : List Nat) (A1 : Option Addr) (c1 n : Nat) (w : World) (ht : TaskAt w n t) (hn : n ≤ w.heap.size) (hok : okTask t.d = true)
    (h1 : Ints w n A1 (natsL first)) (hh : ∀ h ∈ first, h < t.d.hands.length) (hl : first.length ≤ t.d.parts.length) :
    Calls Try.prog 46 #[courseV f g t, .slice A1 first.length c1] w fun e w' => e = .returned (stV (afterD hi t.d first)) ∧ Below w.heap.size w w' := by
  have hp := okTask_parts hok
  have HBG := Lib.hid (fun (w0 : World) (h : Grow w w0) => begin_any hi f g hf t w.heap.size w0 ((ht.more hn).below h) h.size hp.1.2)
  have HSG := Lib.hid (fun (w0 : World) (h : Grow w w0) (s : StD) (hand : Nat) (hs : StOK s) (hq : s.parts < t.d.parts.length) (hh : hand < t.d.hands.length) => sign_any hi f g hf hg' t s hand w.heap.size w0 ((ht.more hn).below h) h.size hok hs hq hh)
  have HOK := Lib.hid (afterD_ok (hi := hi) hok hh hl)
  have HI := Lib.hid (h1.more hn)
  have HH := Lib.hid hh
  have hlen : first.length ≤ 10 := by omega
  have hlp : first.length ≤ t.d.parts.length := hl
  have H0 : Hid (afterD hi t.d (first.take 0) = beginD hi t.d) := rfl
  clear ht hn hok h1 hh hl hf hg'
  go_enter Try.func46, Try.ntmps46
  go_upto_region 1 with fail
  obtain ⟨W, hW, hg, hC, hR, hsz⟩ := two_blocks w 80 77 (cellsC f g t) #[.int .i64 0, .int .i64 0, .int .i64 0, .int .i64 0, .int .i64 0, .int .i64 0]
  rw [hW]
  clear hW
  obtain ⟨b1, e1⟩ : ∃ b, w.heap.size + 1 = b := ⟨_, rfl⟩
  rw [e1] at hR hsz ⊢
  have h01 : w.heap.size < b1 := by omega
  clear e1
  have HG := Lib.hid hg
  have HC := Lib.hid hC
  have HR := Lib.hid hR
  have hcc := hC.cell
  clear hg hC hR
  go_wp2_with fail
  refine (HBG.out _ HG.out).mono ?_
  rintro e w2 ⟨rfl, hb2⟩
  have HG2 : Hid (Grow w w2) := HG.out.trans hb2
  have HC2 := Lib.hid (Grow.block hb2 HC.out)
  have HR2 := Lib.hid (Grow.block hb2 HR.out)
  have hz2 := Below.size hb2
  clear hb2 hcc
  obtain ⟨s0, hs0⟩ : ∃ s0, beginD hi t.d = s0 := ⟨_, rfl⟩
  rw [hs0] at H0 ⊢
  clear hs0
  go_upto_region 2 with fail
  obtain ⟨W3, hW3, hg3, hS3, hsz3⟩ := one_block w2 77 (cellsS s0)
  rw [hW3]
  clear hW3
  obtain ⟨b5, e5⟩ : ∃ b, w2.heap.size = b := ⟨_, rfl⟩
  rw [e5] at hS3 hsz3 ⊢
  have hb15 : b1 < b5 := by have := HR2.out.lt; omega
  have HG3 : Hid (Grow w W3) := HG2.out.trans hg3
  have HC3 := Lib.hid (hg3.block HC2.out)
  have HR3 := Lib.hid (hg3.block HR2.out)
  have HS3 := Lib.hid hS3
  clear hg3 hS3 e5 HG2 HC2 HR2 HG HC HR
  go_wp2_with fail
  go_loopw [12] (fun iv wr => ∃ k : Nat, k ≤ first.length ∧ iv = .int .i64 k ∧ BlockIs wr b5 77 (cellsS (afterD hi t.d (first.take k))) ∧ BlockIs wr w.heap.size 80 (cellsC f g t) ∧ BlockIs wr b1 77 #[.int .i64 0, .int .i64 0, .int .i64 0, .int .i64 0, .int .i64 0, .int .i64 0] ∧ Grow w wr) (fun i _ => first.length - (intOf i).toNat)
  case atStart => exact ⟨0, Nat.zero_le _, rfl, by rw [H0.out]; exact HS3.out, HC3.out, HR3.out, HG3.out⟩
  case round =>
    obtain ⟨k, hk, rfl, hSr, hCr, hRr, hGr⟩ := hrel
    rename World => wr
    have HSr := Lib.hid hSr
    have HCr := Lib.hid hCr
    have HRr := Lib.hid hRr
    have HGr := Lib.hid hGr
    clear hSr hCr hRr hGr
    by_cases hlt : k < first.length
    · have hki : (k : Int) < first.length := by omega
      obtain ⟨hand, HHA⟩ : ∃ hand, Hid (first[k]? = some hand) := ⟨_, List.getElem?_eq_getElem hlt⟩
      obtain ⟨b, off, y, rfl, hb, hc, HY⟩ := (HI.out.below HGr.out).at_ (k := k) (by rw [List.length_map]; exact hlt)
      have hy : y = (hand : Int) := by
        have h := HY.out
        rw [List.getElem?_map, HHA.out] at h
        exact (Option.some.inj h).symm
      subst hy
      have HST := Lib.hid (afterD_take (hi := hi) (t := t.d) HHA.out)
      obtain ⟨hok, hpk⟩ := HOK.out k (by omega)
      obtain ⟨st, hst⟩ : ∃ st, afterD hi t.d (first.take k) = st := ⟨_, rfl⟩
      rw [hst] at HSr HST hok hpk
      have HSC := Lib.hid (fun (w0 : World) (h : Grow w w0) => HSG.out w0 h st hand hok (by rw [hpk]; omega) (HH.out hand (List.mem_of_getElem? HHA.out)))
      have hcc := HCr.out.cell
      have hsc := HSr.out.cell
      clear hst hok hpk hb
      go_wp2_with fail
      refine (HSC.out _ HGr.out).mono ?_
      rintro e w6 ⟨rfl, hb6⟩
      have hS6 := Grow.block hb6 HSr.out
      have HC6 := Lib.hid (Grow.block hb6 HCr.out)
      have HR6 := Lib.hid (Grow.block hb6 HRr.out)
      have HG6 : Hid (Grow w w6) := HGr.out.trans hb6
      clear hcc hsc hc hb6
      have hsc := hS6.cell
      have hsf := hS6.frozen
      rw [← HST.out]
      obtain ⟨sn, hsn⟩ : ∃ sn, afterD hi t.d (first.take (k + 1)) = sn := ⟨_, rfl⟩
      have HSN := Lib.hid hsn
      rw [hsn]
      have HS9 := Lib.hid (six_stores hS6 (.int .i64 sn.w0) (.int .i64 sn.w1) (.int .i64 sn.w2) (.int .i64 sn.parts) (.int .i64 sn.mis) (.int .i64 sn.last))
      have HG9 := Lib.hid (HG6.out.trans' (six_below (w := w6) (B := w.heap.size) (b := b5) (by omega) (.int .i64 sn.w0) (.int .i64 sn.w1) (.int .i64 sn.w2) (.int .i64 sn.parts) (.int .i64 sn.mis) (.int .i64 sn.last)))
      have HC9 := Lib.hid (six_far HC6.out (b := b5) (by omega) (.int .i64 sn.w0) (.int .i64 sn.w1) (.int .i64 sn.w2) (.int .i64 sn.parts) (.int .i64 sn.mis) (.int .i64 sn.last))
      have HR9 := Lib.hid (six_far HR6.out (b := b5) (by omega) (.int .i64 sn.w0) (.int .i64 sn.w1) (.int .i64 sn.w2) (.int .i64 sn.parts) (.int .i64 sn.mis) (.int .i64 sn.last))
      clear hsn hS6
      go_wp2
      go_roundw
      case rel => exact ⟨k + 1, by omega, by go_num, by rw [HSN.out]; exact HS9.out, HC9.out, HR9.out, HG9.out⟩
      case measure => simp [intOf]; omega
    · obtain rfl : k = first.length := by omega
      rw [List.take_length] at HSr
      obtain ⟨r, hr⟩ : ∃ r, afterD hi t.d first = r := ⟨_, rfl⟩
      rw [hr] at HSr
      have hsc := HSr.out.cell
      have hrc := HRr.out.cell
      have hrf := HRr.out.frozen
      have H6 := Lib.hid (six_stores HRr.out (.int .i64 r.w0) (.int .i64 r.w1) (.int .i64 r.w2) (.int .i64 r.parts) (.int .i64 r.mis) (.int .i64 r.last))
      have HF : Hid (Below w.heap.size w _) := Lib.hid (HGr.out.trans' (six_below (w := wr) (B := w.heap.size) (b := b1) (by omega) (.int .i64 r.w0) (.int .i64 r.w1) (.int .i64 r.w2) (.int .i64 r.parts) (.int .i64 r.mis) (.int .i64 r.last)))
      have HRR := Lib.hid hr
      clear hr
      go_wp2
      exact bodyPost_ret (results_state4 Try.results46 _ _ b1 _ _ _ _ _ _ H6.out rfl) rfl ⟨by rw [HRR.out], HF.out⟩

end Go.Proofs.Ythlihchndmbkaaa
