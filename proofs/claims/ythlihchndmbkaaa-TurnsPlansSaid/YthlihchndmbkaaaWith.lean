/- With: the specification's With and the program's only: a task with some of its hands alone. -/
import Derived.Test.YthlihchndmbkaaaEveryM
import Derived.Test.YthlihchndmbkaaaExtM
import Derived.Test.YthlihchndmbkaaaHands
namespace Go.Proofs.Ythlihchndmbkaaa
open Go.RowKit

/-- a new slice of one hand -/
def NewHand (lo : Nat) (x : HandD) (v : Value) (w : World) : Prop := ∃ b, v = .slice (some ⟨b, 0, none⟩) 1 1 ∧ lo ≤ b ∧ BlockIs w b 52 (cellsH x)
theorem NewHand.grow {lo : Nat} {x : HandD} {v : Value} {a b : World} (h : NewHand lo x v a) (k : Grow a b) : NewHand lo x v b := by
  obtain ⟨g, h1, h2, h3⟩ := h
  exact ⟨g, h1, h2, k.block h3⟩
theorem news_hand {w : World} {g : Nat} {x : HandD} (h : BlockIs w g 52 (cellsH x)) : HandsAt w w.heap.size (some ⟨g, 0, none⟩) [x] := .inr ⟨g, 0, rfl, h.lt, fun i y hi j _ => by
  have hlt := lt_of_at hi
  obtain rfl : i = 0 := by simpa using hlt
  obtain rfl : x = y := by simpa using hi
  rw [show 0 + 0 * 7 + j = j by omega]
  exact h.cell j⟩
theorem results_taskA4 {fn : Func} (h : fn.results = #[.cell 4 25]) (t : Array Value) (W : World) (b : Nat) (v0 v1 v2 v3 v4 : Value)
    (hb : BlockIs W b 25 #[v0, v1, v2, v3, v4]) (ht : t.getD 4 undef = .pointer (some ⟨b, 0, none⟩)) :
    (results fn t).run Try.prog W = .ok (.agg #[v0, v1, v2, v3, v4]) W := by
  have hc := hb.cell
  simp only [results, h]
  simp at ht
  simp [go_sem, ht, hc]
theorem results_taskT4 {fn : Func} (h : fn.results = #[.cell 4 67]) (t : Array Value) (W : World) (b : Nat) (v0 v1 v2 v3 v4 : Value)
    (hb : BlockIs W b 67 #[v0, v1, v2, v3, v4]) (ht : t.getD 4 undef = .pointer (some ⟨b, 0, none⟩)) :
    (results fn t).run Try.prog W = .ok (.agg #[v0, v1, v2, v3, v4]) W := by
  have hc := hb.cell
  simp only [results, h]
  simp at ht
  simp [go_sem, ht, hc]
theorem own_nilH (w : World) (lo : Nat) : w.ownsRow lo 52 7 (.slice none 0 0) 0 [] := ⟨rfl, .inl ⟨rfl, rfl⟩⟩

set_option maxRecDepth 100000 in
set_option maxHeartbeats 16000000 in
theorem rWith_any (t : TaskR) (l : List Nat) (A1 : Option Addr) (c1 : Nat) (n : Nat) (w : World) (ht : TaskAt w n t) (h1 : Ints w n A1 (natsL l)) (hn : n ≤ w.heap.size) (hk : okTask t.d = true) (hl : ∀ k ∈ l, k < t.d.hands.length) (hl3 : l.length ≤ 3) :
    Calls Try.prog 27 #[taskV t, .slice A1 l.length c1] w fun e w' => ∃ A ca, e = .returned (taskV ⟨withT t.d l, A, ca, t.B, t.cb⟩) ∧ HandsT w' w.heap.size A ca (withT t.d l).hands ∧ Below w.heap.size w w' := by
  obtain ⟨j0, hj, hy0, hy1, hy2⟩ := info_parts Try.infoHand
  have HT := Lib.hid (ht.more hn)
  have HI := Lib.hid (h1.more hn)
  have hn3 := (okTask_parts hk).1.2
  have HLL := Lib.hid hl
  have HWL := Lib.hid (with_len hl)
  clear ht h1 hn hk hl
  obtain ⟨nn, hnn⟩ : ∃ q, t.d.hands.length = q := ⟨_, rfl⟩
  have HNN := Lib.hid hnn
  rw [hnn] at hn3
  obtain ⟨ln, hln⟩ : ∃ q, l.length = q := ⟨_, rfl⟩
  have HLN := Lib.hid hln
  rw [hln] at hl3 ⊢
  clear hnn hln
  go_enter Try.func27, Try.ntmps27
  go_upto_region 2 with fail
  obtain ⟨W, hW, hg, hf, hr0, ho0, hsz⟩ := three_blocks w 25 25 25 (cellsT t) #[.slice none 0 0, .slice none 0 0, .int .i64 0, .int .i64 0, .int .i64 0] (cellsT t)
  rw [hW]
  clear hW
  obtain ⟨br, ebr⟩ : ∃ q, w.heap.size + 1 = q := ⟨_, rfl⟩
  obtain ⟨bo, ebo⟩ : ∃ q, br + 1 = q := ⟨_, rfl⟩
  rw [ebr] at hr0 ⊢
  rw [show w.heap.size + 2 = br + 1 by omega] at ho0 hsz
  rw [ebo] at ho0 hsz ⊢
  have hro : br < bo := by omega
  have hwr : w.heap.size < br := by omega
  have hbc := ho0.cell
  have hbf := ho0.frozen
  go_upto_region 3 with fail
  obtain ⟨W2, hW2⟩ : ∃ q, W.setCell ⟨bo, 0, none⟩ (.slice none 0 0) = q := ⟨_, rfl⟩
  have HG : Hid (Grow w W2) := Lib.hid (by rw [← hW2]; exact hg.setC (p := ⟨bo, 0, none⟩) (by show w.heap.size ≤ bo; omega) _)
  have HF : Hid (BlockIs W2 w.heap.size 25 (cellsT t)) := Lib.hid (by rw [← hW2]; exact hf.far (p := ⟨bo, 0, none⟩) (by show w.heap.size ≠ bo; omega) _)
  have HR0 : Hid (BlockIs W2 br 25 #[.slice none 0 0, .slice none 0 0, .int .i64 0, .int .i64 0, .int .i64 0]) := Lib.hid (by rw [← hW2]; exact hr0.far (p := ⟨bo, 0, none⟩) (by show br ≠ bo; omega) _)
  have HB2 : Hid (BlockIs W2 bo 25 #[.slice none 0 0, .slice t.B t.d.parts.length t.cb, .int .i64 t.d.limit, .int .i64 t.d.rest, .int .i64 t.d.swap]) := Lib.hid (by rw [← hW2]; exact ho0.near 0 _)
  have hboW : bo < W2.heap.size := by rw [← hW2]; simpa using hsz
  rw [hW2]
  have HTC : Hid (∀ w0, Below bo W2 w0 → w0.cell? ⟨w.heap.size, 0, none⟩ = some (.slice t.A nn t.ca)) := Lib.hid (fun w0 hw => by
    have h := (hw.cell (p := ⟨w.heap.size, 0, none⟩) (by show w.heap.size < bo; omega)).trans (HF.out.cell 0)
    rw [← HNN.out]; exact h)
  have HHA : Hid (∀ w0, Below bo W2 w0 → HandsAt w0 w.heap.size t.A t.d.hands) := Lib.hid (fun w0 hw => HT.out.1.below (HG.out.trans' (Below.mono hw (by omega))))
  have HIA : Hid (∀ w0, Below bo W2 w0 → Ints w0 w.heap.size A1 (natsL l)) := Lib.hid (fun w0 hw => HI.out.below (HG.out.trans' (Below.mono hw (by omega))))
  clear hg hf hr0 ho0 ebr ebo hsz HT HI hW2 hbc hbf
  go_wp2_with fail
  go_loopw [6] (fun iv wr => ∃ (i : Nat) (A : Option Addr) (ca : Nat), iv = .int .i64 i ∧ i ≤ ln ∧ BlockIs wr bo 25 #[.slice A i ca, .slice t.B t.d.parts.length t.cb, .int .i64 t.d.limit, .int .i64 t.d.rest, .int .i64 t.d.swap] ∧ wr.ownsRow W2.heap.size 52 7 (.slice A i ca) i ((withT t.d (l.take i)).hands.flatMap cellsHL) ∧ Below bo W2 wr) (fun v _ => ln - (intOf v).toNat)
  case atStart => exact ⟨0, none, 0, rfl, Nat.zero_le _, HB2.out, own_nilH _ _, Below.refl _ _⟩
  case round =>
    obtain ⟨i, A, ca, rfl, hle, hblk, hown, hbel⟩ := hrel
    rename World => wr
    have HBL := Lib.hid hblk
    have HOW := Lib.hid hown
    have HBE := Lib.hid hbel
    clear hblk hown hbel
    by_cases hlt : i < ln
    · have hii : (i : Int) < (ln : Int) := by omega
      have hi0 : (0 : Int) ≤ (i : Int) := by omega
      have hd1 : decide ((i : Int) < (ln : Int)) = true := decide_eq_true hii
      have hd2 : decide (i < ln) = true := decide_eq_true hlt
      have HLT := Lib.hid hlt
      obtain ⟨k, hk⟩ : ∃ k, l[i]? = some k := ⟨_, List.getElem?_eq_getElem (by have := HLN.out; omega)⟩
      have HKI := Lib.hid hk
      have hkn : k < nn := by rw [← HNN.out]; exact HLL.out k (List.mem_of_getElem? hk)
      have hkk : (k : Int) < (nn : Int) := by omega
      have hk0 : (0 : Int) ≤ (k : Int) := by omega
      obtain ⟨bl, ol, k', hle', _, hlc, HK'⟩ := (HIA.out wr HBE.out).at_ (k := i) (by rw [List.length_map, HLN.out]; exact hlt)
      have hk' : k' = (k : Int) := by
        have h := HK'.out
        rw [List.getElem?_map, hk] at h
        exact (Option.some.inj h).symm
      subst hk'
      subst hle'
      obtain ⟨bh, oh, x, hae, _, hxc, HXI⟩ := (HHA.out wr HBE.out).at_ (k := k) (by rw [HNN.out]; exact hkn)
      have htc := HTC.out wr HBE.out
      rw [hae] at htc
      have hoc := HBL.out.cell
      have hzz : W2.heap.size ≤ wr.heap.size := HBE.out.size
      have HCL := Lib.hid (fun (w0 : World) (hw : Grow wr w0) => And.intro (hw.cell htc) (And.intro (hw.block HBL.out).cell (And.intro (hw.cell hlc) (fun j (hj : j < 7) => (by
        have h := hxc j hj
        have hlen : j < (cellsH x).size := hj
        rw [Array.getElem?_eq_getElem hlen] at h ⊢
        exact hw.cell h : w0.cell? ⟨bh, oh + k * 7 + j, none⟩ = (cellsH x)[j]?)))))
      clear hk hxc hae HK' hlt
      go_upto_region 6 with fail
      clear htc hoc hlc
      refine wp_region_lit 11 [[], [(0, 15)], [], [(2, 17)], [], [], [(4, 19), (5, 20)], [(6, 21)], [(3, 18), (7, 22)], [(8, 23)], [(9, 24)]] Grow (fun qi v w' => match qi with
          | 0 => v = .pointer (some ⟨bo, 0, none⟩)
          | 1 => v = .slice A i ca
          | 2 => v = .pointer (some ⟨w.heap.size, 0, none⟩)
          | 3 => v = .slice (some ⟨bh, oh, none⟩) nn t.ca
          | 4 => v = .slice (some ⟨bl, ol, none⟩) ln c1
          | 5 => v = .int .i64 (i : Nat)
          | 6 => v = .pointer (some ⟨bl, ol + i, none⟩)
          | 7 => v = .int .i64 (k : Nat)
          | 8 => v = .pointer (some ⟨bh, oh + k * 7, none⟩)
          | 9 => v = handV x
          | 10 => NewHand W2.heap.size x v w'
          | _ => False) (by kernel_rfl) (by kernel_rfl) (fun _ _ _ => Grow.trans) Grow.refl ?_ ?_ ?_
      · intro i v y y' h k
        match i, h with
        | 10, h => exact h.grow k
        | 0, h | 1, h | 2, h | 3, h | 4, h | 5, h | 6, h | 7, h | 8, h | 9, h => exact h
      · simp only [StepsLit, List.take_succ_cons, List.take_zero]
        refine ⟨?_, ?_, ?_, ?_, ?_, ?_, ?_, ?_, ?_, ?_, ?_, trivial⟩
        · intro w5 hR
          have hGw : Grow wr w5 := hR.of_drew
          have HGW := Lib.hid hGw
          obtain ⟨htc, hoc, hkc, HXC⟩ := HCL.out w5 hGw
          have x0 := HXC 0 (by omega); have x1 := HXC 1 (by omega); have x2 := HXC 2 (by omega); have x3 := HXC 3 (by omega); have x4 := HXC 4 (by omega); have x5 := HXC 5 (by omega); have x6 := HXC 6 (by omega)
          rw [Nat.add_zero] at x0
          have hz5 : W2.heap.size ≤ w5.heap.size := Nat.le_trans hzz hGw.size
          clear HXC
          clear hR hGw
          simp only [depV]
          try go_simp
          first
            | (with_reducible exact Grow.refl _)
            | (with_reducible exact ⟨Grow.refl _, rfl⟩)
        · intro w5 hR
          have hGw : Grow wr w5 := hR.of_drew
          have HGW := Lib.hid hGw
          obtain ⟨htc, hoc, hkc, HXC⟩ := HCL.out w5 hGw
          have x0 := HXC 0 (by omega); have x1 := HXC 1 (by omega); have x2 := HXC 2 (by omega); have x3 := HXC 3 (by omega); have x4 := HXC 4 (by omega); have x5 := HXC 5 (by omega); have x6 := HXC 6 (by omega)
          rw [Nat.add_zero] at x0
          have hz5 : W2.heap.size ≤ w5.heap.size := Nat.le_trans hzz hGw.size
          clear HXC
          clear hR hGw
          simp only [depV]
          rintro _ rfl
          try go_simp
          first
            | (with_reducible exact Grow.refl _)
            | (with_reducible exact ⟨Grow.refl _, rfl⟩)
        · intro w5 hR
          have hGw : Grow wr w5 := hR.of_drew
          have HGW := Lib.hid hGw
          obtain ⟨htc, hoc, hkc, HXC⟩ := HCL.out w5 hGw
          have x0 := HXC 0 (by omega); have x1 := HXC 1 (by omega); have x2 := HXC 2 (by omega); have x3 := HXC 3 (by omega); have x4 := HXC 4 (by omega); have x5 := HXC 5 (by omega); have x6 := HXC 6 (by omega)
          rw [Nat.add_zero] at x0
          have hz5 : W2.heap.size ≤ w5.heap.size := Nat.le_trans hzz hGw.size
          clear HXC
          clear hR hGw
          simp only [depV]
          try go_simp
          first
            | (with_reducible exact Grow.refl _)
            | (with_reducible exact ⟨Grow.refl _, rfl⟩)
        · intro w5 hR
          have hGw : Grow wr w5 := hR.of_drew
          have HGW := Lib.hid hGw
          obtain ⟨htc, hoc, hkc, HXC⟩ := HCL.out w5 hGw
          have x0 := HXC 0 (by omega); have x1 := HXC 1 (by omega); have x2 := HXC 2 (by omega); have x3 := HXC 3 (by omega); have x4 := HXC 4 (by omega); have x5 := HXC 5 (by omega); have x6 := HXC 6 (by omega)
          rw [Nat.add_zero] at x0
          have hz5 : W2.heap.size ≤ w5.heap.size := Nat.le_trans hzz hGw.size
          clear HXC
          clear hR hGw
          simp only [depV]
          rintro _ rfl
          try go_simp
          first
            | (with_reducible exact Grow.refl _)
            | (with_reducible exact ⟨Grow.refl _, rfl⟩)
        · intro w5 hR
          have hGw : Grow wr w5 := hR.of_drew
          have HGW := Lib.hid hGw
          obtain ⟨htc, hoc, hkc, HXC⟩ := HCL.out w5 hGw
          have x0 := HXC 0 (by omega); have x1 := HXC 1 (by omega); have x2 := HXC 2 (by omega); have x3 := HXC 3 (by omega); have x4 := HXC 4 (by omega); have x5 := HXC 5 (by omega); have x6 := HXC 6 (by omega)
          rw [Nat.add_zero] at x0
          have hz5 : W2.heap.size ≤ w5.heap.size := Nat.le_trans hzz hGw.size
          clear HXC
          clear hR hGw
          simp only [depV]
          try go_simp
          first
            | (with_reducible exact Grow.refl _)
            | (with_reducible exact ⟨Grow.refl _, rfl⟩)
        · intro w5 hR
          have hGw : Grow wr w5 := hR.of_drew
          have HGW := Lib.hid hGw
          obtain ⟨htc, hoc, hkc, HXC⟩ := HCL.out w5 hGw
          have x0 := HXC 0 (by omega); have x1 := HXC 1 (by omega); have x2 := HXC 2 (by omega); have x3 := HXC 3 (by omega); have x4 := HXC 4 (by omega); have x5 := HXC 5 (by omega); have x6 := HXC 6 (by omega)
          rw [Nat.add_zero] at x0
          have hz5 : W2.heap.size ≤ w5.heap.size := Nat.le_trans hzz hGw.size
          clear HXC
          clear hR hGw
          simp only [depV]
          try go_simp
          first
            | (with_reducible exact Grow.refl _)
            | (with_reducible exact ⟨Grow.refl _, rfl⟩)
        · intro w5 hR
          have hGw : Grow wr w5 := hR.of_drew
          have HGW := Lib.hid hGw
          obtain ⟨htc, hoc, hkc, HXC⟩ := HCL.out w5 hGw
          have x0 := HXC 0 (by omega); have x1 := HXC 1 (by omega); have x2 := HXC 2 (by omega); have x3 := HXC 3 (by omega); have x4 := HXC 4 (by omega); have x5 := HXC 5 (by omega); have x6 := HXC 6 (by omega)
          rw [Nat.add_zero] at x0
          have hz5 : W2.heap.size ≤ w5.heap.size := Nat.le_trans hzz hGw.size
          clear HXC
          clear hR hGw
          simp only [depV]
          rintro _ rfl
          rintro _ rfl
          try go_simp
          first
            | (with_reducible exact Grow.refl _)
            | (with_reducible exact ⟨Grow.refl _, rfl⟩)
        · intro w5 hR
          have hGw : Grow wr w5 := hR.of_drew
          have HGW := Lib.hid hGw
          obtain ⟨htc, hoc, hkc, HXC⟩ := HCL.out w5 hGw
          have x0 := HXC 0 (by omega); have x1 := HXC 1 (by omega); have x2 := HXC 2 (by omega); have x3 := HXC 3 (by omega); have x4 := HXC 4 (by omega); have x5 := HXC 5 (by omega); have x6 := HXC 6 (by omega)
          rw [Nat.add_zero] at x0
          have hz5 : W2.heap.size ≤ w5.heap.size := Nat.le_trans hzz hGw.size
          clear HXC
          clear hR hGw
          simp only [depV]
          rintro _ rfl
          try go_simp
          first
            | (with_reducible exact Grow.refl _)
            | (with_reducible exact ⟨Grow.refl _, rfl⟩)
        · intro w5 hR
          have hGw : Grow wr w5 := hR.of_drew
          have HGW := Lib.hid hGw
          obtain ⟨htc, hoc, hkc, HXC⟩ := HCL.out w5 hGw
          have x0 := HXC 0 (by omega); have x1 := HXC 1 (by omega); have x2 := HXC 2 (by omega); have x3 := HXC 3 (by omega); have x4 := HXC 4 (by omega); have x5 := HXC 5 (by omega); have x6 := HXC 6 (by omega)
          rw [Nat.add_zero] at x0
          have hz5 : W2.heap.size ≤ w5.heap.size := Nat.le_trans hzz hGw.size
          clear HXC
          clear hR hGw
          simp only [depV]
          rintro _ rfl
          rintro _ rfl
          try go_simp
          first
            | (with_reducible exact Grow.refl _)
            | (with_reducible exact ⟨Grow.refl _, rfl⟩)
        · intro w5 hR
          have hGw : Grow wr w5 := hR.of_drew
          have HGW := Lib.hid hGw
          obtain ⟨htc, hoc, hkc, HXC⟩ := HCL.out w5 hGw
          have x0 := HXC 0 (by omega); have x1 := HXC 1 (by omega); have x2 := HXC 2 (by omega); have x3 := HXC 3 (by omega); have x4 := HXC 4 (by omega); have x5 := HXC 5 (by omega); have x6 := HXC 6 (by omega)
          rw [Nat.add_zero] at x0
          have hz5 : W2.heap.size ≤ w5.heap.size := Nat.le_trans hzz hGw.size
          clear HXC
          clear hR hGw
          simp only [depV]
          rintro _ rfl
          try go_simp
          first
            | (with_reducible exact Grow.refl _)
            | (with_reducible exact ⟨Grow.refl _, rfl⟩)
        · intro w5 hR
          have hGw : Grow wr w5 := hR.of_drew
          have HGW := Lib.hid hGw
          obtain ⟨htc, hoc, hkc, HXC⟩ := HCL.out w5 hGw
          have x0 := HXC 0 (by omega); have x1 := HXC 1 (by omega); have x2 := HXC 2 (by omega); have x3 := HXC 3 (by omega); have x4 := HXC 4 (by omega); have x5 := HXC 5 (by omega); have x6 := HXC 6 (by omega)
          rw [Nat.add_zero] at x0
          have hz5 : W2.heap.size ≤ w5.heap.size := Nat.le_trans hzz hGw.size
          clear HXC
          clear hR hGw
          simp only [depV]
          rintro _ rfl
          try go_simp
          exact ⟨Grow.alloc _ _, _, rfl, hz5, BlockIs.new _ _ _⟩
      · intro w5 hR
        have HG5 : Hid (Grow wr w5) := Lib.hid hR.of_drew
        clear hR
        simp only [finVC, List.take_succ_cons, List.take_zero, List.drop_succ_cons, List.drop_zero]
        rintro _ rfl
        rintro _ rfl
        rintro _ rfl
        rintro _ rfl
        rintro _ rfl
        rintro _ rfl
        rintro _ rfl
        rintro _ rfl
        rintro _ rfl
        rintro _ rfl
        intro v10 hv10
        simp only [Act.put, List.setIfInBounds_toArray, List.set_cons_succ, List.set_cons_zero]
        obtain ⟨bz, rfl, hbz, hBz⟩ := hv10
        have HBZ := Lib.hid hBz
        have HO5 := Lib.hid (own_grow HOW.out HG5.out)
        clear hBz hbz
        go_wp2_with (at_builtin; go_loud (refine wpList_append_hands rfl _ _ 22 rfl W2.heap.size 52 j0 (.agg #[.int .i64 0, .int .i64 0, .int .i64 0, .int .i64 0, .int .i64 0, .int .i64 0, .int .i64 0]) 56 Try.underlying22 hj hy0 hy1 hy2 rfl _ i ((withT t.d (l.take i)).hands.flatMap cellsHL) rfl HO5.out (some ⟨bz, 0, none⟩) 1 1 _ [x] rfl rfl (news_hand HBZ.out) ?c2 ?c3 ?c4 ?_))
        case c2 => unfold maxLen; omega
        case c3 => omega
        case c4 => exact Nat.le_trans hzz HG5.out.size
        intro v' w3 hown hgr
        obtain ⟨An, cn, rfl⟩ := own_form hown
        have hb3 := (HG5.out.block HBL.out).grown hgr (fun q => own_type HO5.out (HG5.out.block HBL.out) (by decide) q.symm)
        have HB3 := Lib.hid hb3
        have hbc := hb3.cell
        have hbf := hb3.frozen
        have HOW3 : Hid (w3.ownsRow W2.heap.size 52 7 (.slice An (i + 1) cn) (i + 1) ((withT t.d (l.take (i + 1))).hands.flatMap cellsHL)) := Lib.hid (by
          rw [take_snoc HKI.out, with_snoc HXI.out, List.flatMap_append]
          exact hown)
        have HBE3 : Hid (Below bo W2 w3) := Lib.hid (below_grown (HBE.out.trans (Below.mono HG5.out (by omega))) (own_mono HO5.out (Nat.le_of_lt hboW)) hgr (by have := HG5.out.size; omega))
        clear hown hgr hb3 HBZ HO5
        go_wp2
        go_roundw
        case rel => exact ⟨i + 1, An, cn, by go_num, HLT.out, HB3.out.near 0 _, own_other HOW3.out HB3.out (by decide) 0 _, HBE3.out.setCell (p := ⟨bo, 0, none⟩) (Nat.le_refl _) _⟩
        case measure => have := HLT.out; simp [intOf]; omega
    · obtain rfl : i = ln := by omega
      have hd1 : decide ((i : Int) < (i : Int)) = false := by simp
      have hd2 : decide (i < i) = false := by simp
      have hoc := HBL.out.cell
      have hrb : BlockIs wr br 25 #[.slice none 0 0, .slice none 0 0, .int .i64 0, .int .i64 0, .int .i64 0] := HR0.out.below HBE.out (by omega)
      have HRB := Lib.hid hrb
      have hrc' := hrb.cell
      have hrf := hrb.frozen
      clear hrb
      have HFIN : Hid (BlockIs (((((wr.setCell ⟨br, 0, none⟩ (.slice A i ca)).setCell ⟨br, 1, none⟩ (.slice t.B t.d.parts.length t.cb)).setCell ⟨br, 2, none⟩ (.int .i64 t.d.limit)).setCell ⟨br, 3, none⟩ (.int .i64 t.d.rest)).setCell ⟨br, 4, none⟩ (.int .i64 t.d.swap)) br 25 #[.slice A i ca, .slice t.B t.d.parts.length t.cb, .int .i64 t.d.limit, .int .i64 t.d.rest, .int .i64 t.d.swap]) := Lib.hid (five_storesT HRB.out _ _ _ _ _)
      have HOE : Hid (wr.ownsRow w.heap.size 52 7 (.slice A (withT t.d l).hands.length ca) (withT t.d l).hands.length ((withT t.d l).hands.flatMap cellsHL)) := Lib.hid (by
        have h := HOW.out
        rw [List.take_of_length_le (Nat.le_of_eq HLN.out)] at h
        rw [HWL.out, HLN.out]
        exact own_mono h HG.out.size)
      have HIE : Hid (i = (withT t.d l).hands.length) := Lib.hid (by rw [HWL.out, HLN.out])
      go_wp2
      refine bodyPost_ret (results_taskA4 Try.results27 _ _ br _ _ _ _ _ HFIN.out rfl) rfl ⟨A, ca, by show _ = Ending.returned (Value.agg #[.slice A (withT t.d l).hands.length ca, .slice t.B t.d.parts.length t.cb, .int .i64 t.d.limit, .int .i64 t.d.rest, .int .i64 t.d.swap]); rw [← HIE.out], ?_, ?_⟩
      · have hb0 : br < W2.heap.size := by omega
        have h := HOW.out
        rw [List.take_of_length_le (Nat.le_of_eq HLN.out)] at h
        have h2 := own_far (own_far (own_far (own_far (own_far h (p := ⟨br, 0, none⟩) hb0 (.slice A i ca)) (p := ⟨br, 1, none⟩) hb0 (.slice t.B t.d.parts.length t.cb)) (p := ⟨br, 2, none⟩) hb0 (.int .i64 t.d.limit)) (p := ⟨br, 3, none⟩) hb0 (.int .i64 t.d.rest)) (p := ⟨br, 4, none⟩) hb0 (.int .i64 t.d.swap)
        unfold HandsT
        rw [← HIE.out]
        exact own_mono h2 HG.out.size
      · exact (HG.out.trans' (Below.mono HBE.out (by omega))).trans (five_belowT (by omega) _ _ _ _ _)

set_option maxRecDepth 100000 in
set_option maxHeartbeats 16000000 in
theorem only_any (t : TaskR) (l : List Nat) (A1 : Option Addr) (c1 : Nat) (n : Nat) (w : World) (ht : TaskAt w n t) (h1 : Ints w n A1 (natsL l)) (hn : n ≤ w.heap.size) (hk : okTask t.d = true) (hl : ∀ k ∈ l, k < t.d.hands.length) (hl3 : l.length ≤ 3) :
    Calls Try.prog 70 #[taskV t, .slice A1 l.length c1] w fun e w' => ∃ A ca, e = .returned (taskV ⟨withT t.d l, A, ca, t.B, t.cb⟩) ∧ HandsT w' w.heap.size A ca (withT t.d l).hands ∧ Below w.heap.size w w' := by
  obtain ⟨j0, hj, hy0, hy1, hy2⟩ := info_parts Try.infoHand
  have HT := Lib.hid (ht.more hn)
  have HI := Lib.hid (h1.more hn)
  have hn3 := (okTask_parts hk).1.2
  have HLL := Lib.hid hl
  have HWL := Lib.hid (with_len hl)
  clear ht h1 hn hk hl
  obtain ⟨nn, hnn⟩ : ∃ q, t.d.hands.length = q := ⟨_, rfl⟩
  have HNN := Lib.hid hnn
  rw [hnn] at hn3
  obtain ⟨ln, hln⟩ : ∃ q, l.length = q := ⟨_, rfl⟩
  have HLN := Lib.hid hln
  rw [hln] at hl3 ⊢
  clear hnn hln
  go_enter Try.func70, Try.ntmps70
  go_upto_region 2 with fail
  obtain ⟨W, hW, hg, hf, hr0, ho0, hsz⟩ := three_blocks w 67 67 25 (cellsT t) #[.slice none 0 0, .slice none 0 0, .int .i64 0, .int .i64 0, .int .i64 0] (cellsT t)
  rw [hW]
  clear hW
  obtain ⟨br, ebr⟩ : ∃ q, w.heap.size + 1 = q := ⟨_, rfl⟩
  obtain ⟨bo, ebo⟩ : ∃ q, br + 1 = q := ⟨_, rfl⟩
  rw [ebr] at hr0 ⊢
  rw [show w.heap.size + 2 = br + 1 by omega] at ho0 hsz
  rw [ebo] at ho0 hsz ⊢
  have hro : br < bo := by omega
  have hwr : w.heap.size < br := by omega
  have hbc := ho0.cell
  have hbf := ho0.frozen
  go_upto_region 3 with fail
  obtain ⟨W2, hW2⟩ : ∃ q, W.setCell ⟨bo, 0, none⟩ (.slice none 0 0) = q := ⟨_, rfl⟩
  have HG : Hid (Grow w W2) := Lib.hid (by rw [← hW2]; exact hg.setC (p := ⟨bo, 0, none⟩) (by show w.heap.size ≤ bo; omega) _)
  have HF : Hid (BlockIs W2 w.heap.size 67 (cellsT t)) := Lib.hid (by rw [← hW2]; exact hf.far (p := ⟨bo, 0, none⟩) (by show w.heap.size ≠ bo; omega) _)
  have HR0 : Hid (BlockIs W2 br 67 #[.slice none 0 0, .slice none 0 0, .int .i64 0, .int .i64 0, .int .i64 0]) := Lib.hid (by rw [← hW2]; exact hr0.far (p := ⟨bo, 0, none⟩) (by show br ≠ bo; omega) _)
  have HB2 : Hid (BlockIs W2 bo 25 #[.slice none 0 0, .slice t.B t.d.parts.length t.cb, .int .i64 t.d.limit, .int .i64 t.d.rest, .int .i64 t.d.swap]) := Lib.hid (by rw [← hW2]; exact ho0.near 0 _)
  have hboW : bo < W2.heap.size := by rw [← hW2]; simpa using hsz
  rw [hW2]
  have HTC : Hid (∀ w0, Below bo W2 w0 → w0.cell? ⟨w.heap.size, 0, none⟩ = some (.slice t.A nn t.ca)) := Lib.hid (fun w0 hw => by
    have h := (hw.cell (p := ⟨w.heap.size, 0, none⟩) (by show w.heap.size < bo; omega)).trans (HF.out.cell 0)
    rw [← HNN.out]; exact h)
  have HHA : Hid (∀ w0, Below bo W2 w0 → HandsAt w0 w.heap.size t.A t.d.hands) := Lib.hid (fun w0 hw => HT.out.1.below (HG.out.trans' (Below.mono hw (by omega))))
  have HIA : Hid (∀ w0, Below bo W2 w0 → Ints w0 w.heap.size A1 (natsL l)) := Lib.hid (fun w0 hw => HI.out.below (HG.out.trans' (Below.mono hw (by omega))))
  clear hg hf hr0 ho0 ebr ebo hsz HT HI hW2 hbc hbf
  go_wp2_with fail
  go_loopw [13] (fun iv wr => ∃ (i : Nat) (A : Option Addr) (ca : Nat), iv = .int .i64 i ∧ i ≤ ln ∧ BlockIs wr bo 25 #[.slice A i ca, .slice t.B t.d.parts.length t.cb, .int .i64 t.d.limit, .int .i64 t.d.rest, .int .i64 t.d.swap] ∧ wr.ownsRow W2.heap.size 52 7 (.slice A i ca) i ((withT t.d (l.take i)).hands.flatMap cellsHL) ∧ Below bo W2 wr) (fun v _ => ln - (intOf v).toNat)
  case atStart => exact ⟨0, none, 0, rfl, Nat.zero_le _, HB2.out, own_nilH _ _, Below.refl _ _⟩
  case round =>
    obtain ⟨i, A, ca, rfl, hle, hblk, hown, hbel⟩ := hrel
    rename World => wr
    have HBL := Lib.hid hblk
    have HOW := Lib.hid hown
    have HBE := Lib.hid hbel
    clear hblk hown hbel
    by_cases hlt : i < ln
    · have hii : (i : Int) < (ln : Int) := by omega
      have hi0 : (0 : Int) ≤ (i : Int) := by omega
      have hd1 : decide ((i : Int) < (ln : Int)) = true := decide_eq_true hii
      have hd2 : decide (i < ln) = true := decide_eq_true hlt
      have HLT := Lib.hid hlt
      obtain ⟨k, hk⟩ : ∃ k, l[i]? = some k := ⟨_, List.getElem?_eq_getElem (by have := HLN.out; omega)⟩
      have HKI := Lib.hid hk
      have hkn : k < nn := by rw [← HNN.out]; exact HLL.out k (List.mem_of_getElem? hk)
      have hkk : (k : Int) < (nn : Int) := by omega
      have hk0 : (0 : Int) ≤ (k : Int) := by omega
      obtain ⟨bl, ol, k', hle', _, hlc, HK'⟩ := (HIA.out wr HBE.out).at_ (k := i) (by rw [List.length_map, HLN.out]; exact hlt)
      have hk' : k' = (k : Int) := by
        have h := HK'.out
        rw [List.getElem?_map, hk] at h
        exact (Option.some.inj h).symm
      subst hk'
      subst hle'
      obtain ⟨bh, oh, x, hae, _, hxc, HXI⟩ := (HHA.out wr HBE.out).at_ (k := k) (by rw [HNN.out]; exact hkn)
      have htc := HTC.out wr HBE.out
      rw [hae] at htc
      have hoc := HBL.out.cell
      have hzz : W2.heap.size ≤ wr.heap.size := HBE.out.size
      have HCL := Lib.hid (fun (w0 : World) (hw : Grow wr w0) => And.intro (hw.cell htc) (And.intro (hw.block HBL.out).cell (And.intro (hw.cell hlc) (fun j (hj : j < 7) => (by
        have h := hxc j hj
        have hlen : j < (cellsH x).size := hj
        rw [Array.getElem?_eq_getElem hlen] at h ⊢
        exact hw.cell h : w0.cell? ⟨bh, oh + k * 7 + j, none⟩ = (cellsH x)[j]?)))))
      clear hk hxc hae HK' hlt
      go_upto_region 6 with fail
      clear htc hoc hlc
      refine wp_region_lit 9 [[], [(0, 17)], [], [(2, 19)], [(3, 20)], [], [(4, 21), (5, 22)], [(6, 23)], [(7, 24)]] Grow (fun qi v w' => match qi with
          | 0 => v = .pointer (some ⟨bo, 0, none⟩)
          | 1 => v = .slice A i ca
          | 2 => v = .pointer (some ⟨w.heap.size, 0, none⟩)
          | 3 => v = .pointer (some ⟨w.heap.size, 0, none⟩)
          | 4 => v = .slice (some ⟨bh, oh, none⟩) nn t.ca
          | 5 => v = .int .i64 (k : Nat)
          | 6 => v = .pointer (some ⟨bh, oh + k * 7, none⟩)
          | 7 => v = handV x
          | 8 => NewHand W2.heap.size x v w'
          | _ => False) (by kernel_rfl) (by kernel_rfl) (fun _ _ _ => Grow.trans) Grow.refl ?_ ?_ ?_
      · intro i v y y' h k
        match i, h with
        | 8, h => exact h.grow k
        | 0, h | 1, h | 2, h | 3, h | 4, h | 5, h | 6, h | 7, h => exact h
      · simp only [StepsLit, List.take_succ_cons, List.take_zero]
        refine ⟨?_, ?_, ?_, ?_, ?_, ?_, ?_, ?_, ?_, trivial⟩
        · intro w5 hR
          have hGw : Grow wr w5 := hR.of_drew
          have HGW := Lib.hid hGw
          obtain ⟨htc, hoc, hkc, HXC⟩ := HCL.out w5 hGw
          have x0 := HXC 0 (by omega); have x1 := HXC 1 (by omega); have x2 := HXC 2 (by omega); have x3 := HXC 3 (by omega); have x4 := HXC 4 (by omega); have x5 := HXC 5 (by omega); have x6 := HXC 6 (by omega)
          rw [Nat.add_zero] at x0
          have hz5 : W2.heap.size ≤ w5.heap.size := Nat.le_trans hzz hGw.size
          clear HXC
          clear hR hGw
          simp only [depV]
          try go_simp
          first
            | (with_reducible exact Grow.refl _)
            | (with_reducible exact ⟨Grow.refl _, rfl⟩)
        · intro w5 hR
          have hGw : Grow wr w5 := hR.of_drew
          have HGW := Lib.hid hGw
          obtain ⟨htc, hoc, hkc, HXC⟩ := HCL.out w5 hGw
          have x0 := HXC 0 (by omega); have x1 := HXC 1 (by omega); have x2 := HXC 2 (by omega); have x3 := HXC 3 (by omega); have x4 := HXC 4 (by omega); have x5 := HXC 5 (by omega); have x6 := HXC 6 (by omega)
          rw [Nat.add_zero] at x0
          have hz5 : W2.heap.size ≤ w5.heap.size := Nat.le_trans hzz hGw.size
          clear HXC
          clear hR hGw
          simp only [depV]
          rintro _ rfl
          try go_simp
          first
            | (with_reducible exact Grow.refl _)
            | (with_reducible exact ⟨Grow.refl _, rfl⟩)
        · intro w5 hR
          have hGw : Grow wr w5 := hR.of_drew
          have HGW := Lib.hid hGw
          obtain ⟨htc, hoc, hkc, HXC⟩ := HCL.out w5 hGw
          have x0 := HXC 0 (by omega); have x1 := HXC 1 (by omega); have x2 := HXC 2 (by omega); have x3 := HXC 3 (by omega); have x4 := HXC 4 (by omega); have x5 := HXC 5 (by omega); have x6 := HXC 6 (by omega)
          rw [Nat.add_zero] at x0
          have hz5 : W2.heap.size ≤ w5.heap.size := Nat.le_trans hzz hGw.size
          clear HXC
          clear hR hGw
          simp only [depV]
          try go_simp
          first
            | (with_reducible exact Grow.refl _)
            | (with_reducible exact ⟨Grow.refl _, rfl⟩)
        · intro w5 hR
          have hGw : Grow wr w5 := hR.of_drew
          have HGW := Lib.hid hGw
          obtain ⟨htc, hoc, hkc, HXC⟩ := HCL.out w5 hGw
          have x0 := HXC 0 (by omega); have x1 := HXC 1 (by omega); have x2 := HXC 2 (by omega); have x3 := HXC 3 (by omega); have x4 := HXC 4 (by omega); have x5 := HXC 5 (by omega); have x6 := HXC 6 (by omega)
          rw [Nat.add_zero] at x0
          have hz5 : W2.heap.size ≤ w5.heap.size := Nat.le_trans hzz hGw.size
          clear HXC
          clear hR hGw
          simp only [depV]
          rintro _ rfl
          try go_simp
          first
            | (with_reducible exact Grow.refl _)
            | (with_reducible exact ⟨Grow.refl _, rfl⟩)
        · intro w5 hR
          have hGw : Grow wr w5 := hR.of_drew
          have HGW := Lib.hid hGw
          obtain ⟨htc, hoc, hkc, HXC⟩ := HCL.out w5 hGw
          have x0 := HXC 0 (by omega); have x1 := HXC 1 (by omega); have x2 := HXC 2 (by omega); have x3 := HXC 3 (by omega); have x4 := HXC 4 (by omega); have x5 := HXC 5 (by omega); have x6 := HXC 6 (by omega)
          rw [Nat.add_zero] at x0
          have hz5 : W2.heap.size ≤ w5.heap.size := Nat.le_trans hzz hGw.size
          clear HXC
          clear hR hGw
          simp only [depV]
          rintro _ rfl
          try go_simp
          first
            | (with_reducible exact Grow.refl _)
            | (with_reducible exact ⟨Grow.refl _, rfl⟩)
        · intro w5 hR
          have hGw : Grow wr w5 := hR.of_drew
          have HGW := Lib.hid hGw
          obtain ⟨htc, hoc, hkc, HXC⟩ := HCL.out w5 hGw
          have x0 := HXC 0 (by omega); have x1 := HXC 1 (by omega); have x2 := HXC 2 (by omega); have x3 := HXC 3 (by omega); have x4 := HXC 4 (by omega); have x5 := HXC 5 (by omega); have x6 := HXC 6 (by omega)
          rw [Nat.add_zero] at x0
          have hz5 : W2.heap.size ≤ w5.heap.size := Nat.le_trans hzz hGw.size
          clear HXC
          clear hR hGw
          simp only [depV]
          try go_simp
          first
            | (with_reducible exact Grow.refl _)
            | (with_reducible exact ⟨Grow.refl _, rfl⟩)
        · intro w5 hR
          have hGw : Grow wr w5 := hR.of_drew
          have HGW := Lib.hid hGw
          obtain ⟨htc, hoc, hkc, HXC⟩ := HCL.out w5 hGw
          have x0 := HXC 0 (by omega); have x1 := HXC 1 (by omega); have x2 := HXC 2 (by omega); have x3 := HXC 3 (by omega); have x4 := HXC 4 (by omega); have x5 := HXC 5 (by omega); have x6 := HXC 6 (by omega)
          rw [Nat.add_zero] at x0
          have hz5 : W2.heap.size ≤ w5.heap.size := Nat.le_trans hzz hGw.size
          clear HXC
          clear hR hGw
          simp only [depV]
          rintro _ rfl
          rintro _ rfl
          try go_simp
          first
            | (with_reducible exact Grow.refl _)
            | (with_reducible exact ⟨Grow.refl _, rfl⟩)
        · intro w5 hR
          have hGw : Grow wr w5 := hR.of_drew
          have HGW := Lib.hid hGw
          obtain ⟨htc, hoc, hkc, HXC⟩ := HCL.out w5 hGw
          have x0 := HXC 0 (by omega); have x1 := HXC 1 (by omega); have x2 := HXC 2 (by omega); have x3 := HXC 3 (by omega); have x4 := HXC 4 (by omega); have x5 := HXC 5 (by omega); have x6 := HXC 6 (by omega)
          rw [Nat.add_zero] at x0
          have hz5 : W2.heap.size ≤ w5.heap.size := Nat.le_trans hzz hGw.size
          clear HXC
          clear hR hGw
          simp only [depV]
          rintro _ rfl
          try go_simp
          first
            | (with_reducible exact Grow.refl _)
            | (with_reducible exact ⟨Grow.refl _, rfl⟩)
        · intro w5 hR
          have hGw : Grow wr w5 := hR.of_drew
          have HGW := Lib.hid hGw
          obtain ⟨htc, hoc, hkc, HXC⟩ := HCL.out w5 hGw
          have x0 := HXC 0 (by omega); have x1 := HXC 1 (by omega); have x2 := HXC 2 (by omega); have x3 := HXC 3 (by omega); have x4 := HXC 4 (by omega); have x5 := HXC 5 (by omega); have x6 := HXC 6 (by omega)
          rw [Nat.add_zero] at x0
          have hz5 : W2.heap.size ≤ w5.heap.size := Nat.le_trans hzz hGw.size
          clear HXC
          clear hR hGw
          simp only [depV]
          rintro _ rfl
          try go_simp
          exact ⟨Grow.alloc _ _, _, rfl, hz5, BlockIs.new _ _ _⟩
      · intro w5 hR
        have HG5 : Hid (Grow wr w5) := Lib.hid hR.of_drew
        clear hR
        simp only [finVC, List.take_succ_cons, List.take_zero, List.drop_succ_cons, List.drop_zero]
        rintro _ rfl
        rintro _ rfl
        rintro _ rfl
        rintro _ rfl
        rintro _ rfl
        rintro _ rfl
        rintro _ rfl
        rintro _ rfl
        intro v8 hv8
        simp only [Act.put, List.setIfInBounds_toArray, List.set_cons_succ, List.set_cons_zero]
        obtain ⟨bz, rfl, hbz, hBz⟩ := hv8
        have HBZ := Lib.hid hBz
        have HO5 := Lib.hid (own_grow HOW.out HG5.out)
        clear hBz hbz
        go_wp2_with (at_builtin; go_loud (refine wpList_append_hands rfl _ _ 22 rfl W2.heap.size 52 j0 (.agg #[.int .i64 0, .int .i64 0, .int .i64 0, .int .i64 0, .int .i64 0, .int .i64 0, .int .i64 0]) 56 Try.underlying22 hj hy0 hy1 hy2 rfl _ i ((withT t.d (l.take i)).hands.flatMap cellsHL) rfl HO5.out (some ⟨bz, 0, none⟩) 1 1 _ [x] rfl rfl (news_hand HBZ.out) ?c2 ?c3 ?c4 ?_))
        case c2 => unfold maxLen; omega
        case c3 => omega
        case c4 => exact Nat.le_trans hzz HG5.out.size
        intro v' w3 hown hgr
        obtain ⟨An, cn, rfl⟩ := own_form hown
        have hb3 := (HG5.out.block HBL.out).grown hgr (fun q => own_type HO5.out (HG5.out.block HBL.out) (by decide) q.symm)
        have HB3 := Lib.hid hb3
        have hbc := hb3.cell
        have hbf := hb3.frozen
        have HOW3 : Hid (w3.ownsRow W2.heap.size 52 7 (.slice An (i + 1) cn) (i + 1) ((withT t.d (l.take (i + 1))).hands.flatMap cellsHL)) := Lib.hid (by
          rw [take_snoc HKI.out, with_snoc HXI.out, List.flatMap_append]
          exact hown)
        have HBE3 : Hid (Below bo W2 w3) := Lib.hid (below_grown (HBE.out.trans (Below.mono HG5.out (by omega))) (own_mono HO5.out (Nat.le_of_lt hboW)) hgr (by have := HG5.out.size; omega))
        clear hown hgr hb3 HBZ HO5
        go_wp2
        go_roundw
        case rel => exact ⟨i + 1, An, cn, by go_num, HLT.out, HB3.out.near 0 _, own_other HOW3.out HB3.out (by decide) 0 _, HBE3.out.setCell (p := ⟨bo, 0, none⟩) (Nat.le_refl _) _⟩
        case measure => have := HLT.out; simp [intOf]; omega
    · obtain rfl : i = ln := by omega
      have hd1 : decide ((i : Int) < (i : Int)) = false := by simp
      have hd2 : decide (i < i) = false := by simp
      have hoc := HBL.out.cell
      have hrb : BlockIs wr br 67 #[.slice none 0 0, .slice none 0 0, .int .i64 0, .int .i64 0, .int .i64 0] := HR0.out.below HBE.out (by omega)
      have HRB := Lib.hid hrb
      have hrc' := hrb.cell
      have hrf := hrb.frozen
      clear hrb
      have HFIN : Hid (BlockIs (((((wr.setCell ⟨br, 0, none⟩ (.slice A i ca)).setCell ⟨br, 1, none⟩ (.slice t.B t.d.parts.length t.cb)).setCell ⟨br, 2, none⟩ (.int .i64 t.d.limit)).setCell ⟨br, 3, none⟩ (.int .i64 t.d.rest)).setCell ⟨br, 4, none⟩ (.int .i64 t.d.swap)) br 67 #[.slice A i ca, .slice t.B t.d.parts.length t.cb, .int .i64 t.d.limit, .int .i64 t.d.rest, .int .i64 t.d.swap]) := Lib.hid (five_storesT HRB.out _ _ _ _ _)
      have HOE : Hid (wr.ownsRow w.heap.size 52 7 (.slice A (withT t.d l).hands.length ca) (withT t.d l).hands.length ((withT t.d l).hands.flatMap cellsHL)) := Lib.hid (by
        have h := HOW.out
        rw [List.take_of_length_le (Nat.le_of_eq HLN.out)] at h
        rw [HWL.out, HLN.out]
        exact own_mono h HG.out.size)
      have HIE : Hid (i = (withT t.d l).hands.length) := Lib.hid (by rw [HWL.out, HLN.out])
      go_wp2
      refine bodyPost_ret (results_taskT4 Try.results70 _ _ br _ _ _ _ _ HFIN.out rfl) rfl ⟨A, ca, by show _ = Ending.returned (Value.agg #[.slice A (withT t.d l).hands.length ca, .slice t.B t.d.parts.length t.cb, .int .i64 t.d.limit, .int .i64 t.d.rest, .int .i64 t.d.swap]); rw [← HIE.out], ?_, ?_⟩
      · have hb0 : br < W2.heap.size := by omega
        have h := HOW.out
        rw [List.take_of_length_le (Nat.le_of_eq HLN.out)] at h
        have h2 := own_far (own_far (own_far (own_far (own_far h (p := ⟨br, 0, none⟩) hb0 (.slice A i ca)) (p := ⟨br, 1, none⟩) hb0 (.slice t.B t.d.parts.length t.cb)) (p := ⟨br, 2, none⟩) hb0 (.int .i64 t.d.limit)) (p := ⟨br, 3, none⟩) hb0 (.int .i64 t.d.rest)) (p := ⟨br, 4, none⟩) hb0 (.int .i64 t.d.swap)
        unfold HandsT
        rw [← HIE.out]
        exact own_mono h2 HG.out.size
      · exact (HG.out.trans' (Below.mono HBE.out (by omega))).trans (five_belowT (by omega) _ _ _ _ _)

end Go.Proofs.Ythlihchndmbkaaa
