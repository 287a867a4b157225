/- A book and what was seen, read. -/
import Derived.Test.YtjpnblflenlnaaaGreatSignsWalk
namespace Go.Proofs.YtjpnblflenlnaaaGreat
open Go.RowKit

theorem BlockIs.drew {w : World} {b : Nat} {t : TypeId} {cs : Array Value} (h : BlockIs w b t cs) : BlockIs w.drew b t cs := h
theorem BookAt.drew {w : World} {m : Nat} {l : List EntryR} (h : BookAt w m l) : BookAt w.drew m l := h
theorem MovesAll.drew {w : World} {bk : List EntryR} (h : MovesAll w bk) : MovesAll w.drew bk := h
theorem Grow.drew {x y : World} (h : Grow x y) : Grow x y.drew := Below.drew h
theorem results_seen3 {fn : Func} (h : fn.results = #[.tmp 4, .cell 5 100, .tmp 6]) (t : Array Value) (W : World) (b : Nat) (v0 v1 v2 v3 v4 v5 v6 v7 v8 v9 v10 v11 u1 u2 : Value)
    (hb : BlockIs W b 100 #[v0, v1, v2, v3, v4, v5, v6, v7, v8, v9, v10, v11]) (ht : t.getD 5 undef = .pointer (some ⟨b, 0, none⟩)) (hu1 : t.getD 4 undef = u1) (hu2 : t.getD 6 undef = u2) :
    (results fn t).run Tryz.prog W = .ok (.tuple #[u1, .agg #[v0, v1, v2, v3, v4, v5, v6, v7, v8, v9, v10, v11], u2]) W := by
  have hc := hb.cell
  simp only [results, h]
  simp at ht hu1 hu2
  simp [go_sem, ht, hc, hu1, hu2]

abbrev zeroS : Array Value := #[.int .i64 0, .int .i64 0, .int .i64 0, .int .i64 0, .int .i64 0, .int .i64 0, .int .i64 0, .int .i64 0, .int .i64 0, .int .i64 0, .int .i64 0, .slice none 0 0]
/-- what readSeen leaves -/
def SeenPost (l : List EntryD) (s : SeenD) (A : Option Addr) (cap : Nat) (w : World) (e : Ending) (w' : World) : Prop :=
  Below w.heap.size w w' ∧ ((bookErr l ≠ 0 ∧ e = .returned (.tuple #[.map none, .agg zeroS, .int .i64 (bookErr l)])) ∨ (bookErr l = 0 ∧ okSeen s = false ∧ e = .returned (.tuple #[.map none, .agg zeroS, .int .i64 13])) ∨
    (bookErr l = 0 ∧ okSeen s = true ∧ ∃ m bk, e = .returned (.tuple #[.map (some m), seenV s A cap, .int .i64 0]) ∧ w.heap.size ≤ m ∧ BookAt w' m bk ∧ MovesAll w' bk ∧ FarAll w.heap.size bk ∧ readD [] l = some (bk.map (·.d))))

set_option maxRecDepth 100000 in
set_option maxHeartbeats 4000000 in
theorem readSeen_any (A A' : Option Addr) (cap cap' B : Nat) (l : List EntryR) (s : SeenD) (w : World) (hA : Ents w B A l) (hl : l.length ≤ 1000000) (hA' : Ints w B A' s.moves) (hl' : s.moves.length ≤ 1000000) (hB : B ≤ w.heap.size) :
    Calls Tryz.prog 73 #[.slice A l.length cap, seenV s A' cap'] w (SeenPost (l.map (·.d)) s A' cap' w) := by
  have HR := Lib.hid (fun w0 (h : Grow w w0) => read_any A cap w.heap.size l w0 ((hA.more hB).below h) hl h.size)
  have HS := Lib.hid (fun w0 (h : Grow w w0) => seenValid_any s A' cap' w.heap.size w0 ((hA'.more hB).below h) hl' h.size)
  clear hA hA'
  go_enter Tryz.func73, Tryz.ntmps73
  go_upto_region 1 with fail
  obtain ⟨W, hW, hg, hf, hf', hsz⟩ := two_blocks w 50 100 (cellsS s A' cap') zeroS
  rw [hW]
  clear hW
  have HF := Lib.hid hf
  have HF' := Lib.hid hf'
  have HG := Lib.hid hg
  clear hf hf' hg
  go_wp2_with fail
  refine (HR.out _ HG.out).mono ?_
  rintro e w2 ⟨hb2, hcase⟩
  have hg2 : Grow W w2 := hb2
  have hfc := (hg2.block HF.out).cell
  have hfc' := (hg2.block HF'.out).cell
  have hff' := (hg2.block HF'.out).frozen
  have HG2 := Lib.hid hg2
  clear hb2 hg2
  rcases hcase with ⟨hne, rfl⟩ | ⟨heq, m, bk, rfl, hm, hbk, hmv, hfar, hrd⟩
  · have HNE : Hid (bookErr (l.map (·.d)) ≠ 0) := hne
    generalize hbe : bookErr (l.map (·.d)) = be at hne
    go_wp2
    refine bodyPost_ret (results_seen3 Tryz.results73 _ _ _ _ _ _ _ _ _ _ _ _ _ _ _ _ _ (twelve_stores (HG2.out.block HF'.out) _ _ _ _ _ _ _ _ _ _ _ _) rfl rfl rfl) rfl ⟨?_, .inl ⟨HNE.out, by rw [hbe]; rfl⟩⟩
    have hb := HG.out.trans HG2.out
    show Grow w _
    repeat (refine Grow.setC ?_ (by simp) _)
    exact hb
  · have HB := Lib.hid (And.intro heq (And.intro hm (And.intro hbk (And.intro hmv (And.intro hfar hrd)))))
    clear heq hm hbk hmv hfar hrd
    go_upto_region 5 with fail
    obtain ⟨W3, hW3, hg3, hf3, hsz3⟩ := one_block w2 100 (cellsS s A' cap')
    rw [hW3]
    clear hW3
    have hgw3 : Grow w W3 := (HG.out.trans HG2.out).trans hg3
    have HGW3 := Lib.hid hgw3
    have HG3 := Lib.hid hg3
    have HF3 := Lib.hid hf3
    have hce := hf3.cell
    clear hg3 hf3 hgw3 hfc hfc' hff'
    go_wp2_with fail
    refine (HS.out _ HGW3.out).mono ?_
    rintro e W4 ⟨rfl, hb4⟩
    have hg4 : Grow W3 W4 := hb4
    have hF4 := hg4.block (HG3.out.block (HG2.out.block HF'.out))
    have HF4 := Lib.hid hF4
    have hfc4 := hF4.cell
    have hff4 := hF4.frozen
    have hce4 := (hg4.block HF3.out).cell
    have HG4 := Lib.hid hg4
    clear hce hF4 hg4 hb4
    cases hok : okSeen s with
    | false =>
      have HOK := Lib.hid hok
      clear hok
      go_wp2
      refine bodyPost_ret (results_seen3 Tryz.results73 _ _ _ _ _ _ _ _ _ _ _ _ _ _ _ _ _ (twelve_stores HF4.out _ _ _ _ _ _ _ _ _ _ _ _) rfl rfl rfl) rfl ⟨?_, .inr (.inl ⟨HB.out.1, HOK.out, rfl⟩)⟩
      have hb := HGW3.out.trans HG4.out
      show Grow w _
      repeat (refine Grow.setC ?_ (by simp) _)
      exact hb
    | true =>
      have HOK := Lib.hid hok
      clear hok
      go_upto_region 7 with fail
      go_region
      obtain ⟨w5, hw5, hb5, hg5⟩ : ∃ w5, ((((((((((((W4.setCell ⟨w.heap.size + 1, 0, none⟩ (.int .i64 s.rights)).setCell ⟨w.heap.size + 1, 1, none⟩ (.int .i64 s.lefts)).setCell ⟨w.heap.size + 1, 2, none⟩ (.int .i64 s.faces)).setCell ⟨w.heap.size + 1, 3, none⟩ (.int .i64 s.regions)).setCell ⟨w.heap.size + 1, 4, none⟩ (.int .i64 s.lost)).setCell ⟨w.heap.size + 1, 5, none⟩ (.int .i64 s.cl)).setCell ⟨w.heap.size + 1, 6, none⟩ (.int .i64 s.ch)).setCell ⟨w.heap.size + 1, 7, none⟩ (.int .i64 s.rl)).setCell ⟨w.heap.size + 1, 8, none⟩ (.int .i64 s.rh)).setCell ⟨w.heap.size + 1, 9, none⟩ (.int .i64 s.al)).setCell ⟨w.heap.size + 1, 10, none⟩ (.int .i64 s.ah)).setCell ⟨w.heap.size + 1, 11, none⟩ (.slice A' s.moves.length cap')).drew = w5 ∧ BlockIs w5 (w.heap.size + 1) 100 (cellsS s A' cap') ∧ Grow w w5 := by
        refine ⟨_, rfl, BlockIs.drew (twelve_stores HF4.out _ _ _ _ _ _ _ _ _ _ _ _), Grow.drew ?_⟩
        have hb := HGW3.out.trans HG4.out
        repeat (refine Grow.setC ?_ (by simp) _)
        exact hb
      have HR5 : Hid (w.heap.size ≤ m ∧ BookAt w5 m bk ∧ MovesAll w5 bk ∧ FarAll w.heap.size bk) := by
        obtain ⟨-, hm, hbk, hmv, hfar, -⟩ := HB.out
        have hg24 : Grow w2 W4 := HG3.out.trans HG4.out
        have hbk4 := hbk.grow hg24
        have hmv4 := hmv.grow hg24
        have hne : m ≠ w.heap.size + 1 := by omega
        have hz : w.heap.size + 1 < W.heap.size := hsz
        refine ⟨by omega, ?_, ?_, hfar.mono (by omega)⟩
        · rw [← hw5]
          refine BookAt.drew ?_
          repeat (refine BookAt.setCell ?_ hne _)
          exact hbk4
        · rw [← hw5]
          refine MovesAll.drew ?_
          repeat (refine MovesAll.farCell ?_ hfar hz _)
          exact hmv4
      rw [hw5]
      clear hw5
      have HB5 := Lib.hid hb5
      have HG5 := Lib.hid hg5
      clear hb5 hg5 hfc4 hff4 hce4
      go_wp2
      refine bodyPost_ret (results_seen3 Tryz.results73 _ w5 (w.heap.size + 1) _ _ _ _ _ _ _ _ _ _ _ _ (.map (some m)) (.int .i64 0) HB5.out rfl rfl rfl) rfl ⟨HG5.out, .inr (.inr ⟨HB.out.1, HOK.out, m, bk, rfl, HR5.out.1, HR5.out.2.1, HR5.out.2.2.1, HR5.out.2.2.2, HB.out.2.2.2.2.2⟩)⟩

end Go.Proofs.YtjpnblflenlnaaaGreat
