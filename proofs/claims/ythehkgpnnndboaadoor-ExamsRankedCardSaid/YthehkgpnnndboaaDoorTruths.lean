/- Truths: the iterator over all possible truths; written by wip/tools/truths9.py. -/
import Derived.Test.YthehkgpnnndboaaDoorExt
namespace Go.Proofs.YthehkgpnnndboaaDoor
open Go.RowKit Go.Shelf

attribute [local go_sem] Oper.semAt_some

set_option maxRecDepth 100000 in
set_option maxHeartbeats 8000000 in
theorem truths_stops (p : PaperR) (G : GoodP (withW p.d 0)) (n₀ q : Nat) (w : World) (hA : PaperAt w n₀ p) (hn0 : n₀ ≤ w.heap.size) :
    SeqL Tryd.prog 50 (fun y => #[paperV p] ++ #[y] ++ #[]) (encT p) n₀ q (fun xs => xs = truthsL p.d) (fun pre => pre <+: truthsL p.d) (fun ys => ys <+: truthsL p.d) w := by
  intro l J Jx W hW hJ _ hY h0
  show CallsIn Fence.wide 8 Tryd.prog 50 #[paperV p, .func (.yield l) #[] #[]] W _
  have hro : Fence.wide.round = none := rfl
  have hn1 : n₀ ≤ W.heap.size := Nat.le_trans hn0 hW.size
  have HPA : Hid (PaperAt W n₀ p) := Lib.hid (hA.below (Below.mono hW hn0))
  have h4 : p.judges.length ≤ 4 := by have : p.d.judges.length ≤ 4 := G.j4; rw [d_len] at this; exact this
  clear hA
  refine callsIn_of_wp Tryd.func50 rfl trivial ?_ hro
  simp only [Tryd.ntmps50, List.size_toArray, List.length_cons, List.length_nil, Nat.reduceAdd, Nat.reduceSub, Array.replicate_succ, Array.replicate_zero, List.push_toArray, List.append_toArray, List.nil_append, List.cons_append]
  refine wpIn_wide.2 ?_
  go_upto_region 3 with fail
  obtain ⟨W3, hW3, hg3, hf1, hf2, hf3, hsz3⟩ := three_blocks W 73 104 81 (cellsP p) #[.func (.yield l) #[] #[]] #[.int .i64 0, .int .i64 0, .int .i64 0, .int .i64 0]
  rw [hW3]
  have hz3 : W3.heap.size = W.heap.size + 1 + 1 + 1 := by rw [← hW3]; simp
  clear hW3 hsz3
  obtain ⟨W4, hW4, hg4, hf4, hsz4⟩ := one_block W3 105 #[.nilFunc]
  rw [hW4]
  clear hW4 hsz4
  rw [hz3] at hf4
  obtain ⟨base, hbase⟩ : ∃ z, W.heap.size = z := ⟨_, rfl⟩
  have hB4 : Below base W W4 := by rw [← hbase]; exact Grow.trans hg3 hg4
  rw [hbase] at hf1 hf2 hf3 hf4 hJ hY hn1 hz3 ⊢
  have HW4 : Hid (base ≤ W4.heap.size) := Lib.hid (by have := hg4.size; omega)
  have hxc := hf4.cell 0
  have hxz := hf4.frozen 0
  go_upto_region 4 with fail
  obtain ⟨W5, hW5⟩ : ∃ z, W4.setCell ⟨base + 1 + 1 + 1, 0, none⟩ (.func (.func 67) #[] (capT base (base + 1) (base + 1 + 1) (base + 1 + 1 + 1))) = z := ⟨_, rfl⟩
  have HX5 : Hid (BlockIs W5 (base + 1 + 1 + 1) 105 #[.func (.func 67) #[] (capT base (base + 1) (base + 1 + 1) (base + 1 + 1 + 1))]) := Lib.hid (by rw [← hW5]; exact hf4.near 0 _)
  have HS5 : Hid (BlockIs W5 base 73 (cellsP p)) := Lib.hid (by rw [← hW5]; exact (hg4.block hf1).far (p := ⟨base + 1 + 1 + 1, 0, none⟩) (by show base ≠ base + 1 + 1 + 1; omega) _)
  have HY5 : Hid (BlockIs W5 (base + 1) 104 #[.func (.yield l) #[] #[]]) := Lib.hid (by rw [← hW5]; exact (hg4.block hf2).far (p := ⟨base + 1 + 1 + 1, 0, none⟩) (by show base + 1 ≠ base + 1 + 1 + 1; omega) _)
  have HT5 : Hid (BlockIs W5 (base + 1 + 1) 81 #[.int .i64 0, .int .i64 0, .int .i64 0, .int .i64 0]) := Lib.hid (by rw [← hW5]; exact (hg4.block hf3).far (p := ⟨base + 1 + 1 + 1, 0, none⟩) (by show base + 1 + 1 ≠ base + 1 + 1 + 1; omega) _)
  have HL5 : Hid (Below base W W5) := Lib.hid (by rw [← hW5]; exact hB4.setCell (p := ⟨base + 1 + 1 + 1, 0, none⟩) (by show base ≤ base + 1 + 1 + 1; omega) _)
  have HB5 : Hid (base ≤ W5.heap.size) := Lib.hid (by rw [← hW5]; simpa using HW4.out)
  have HJ5 : Hid (J [] W5) := Lib.hid (hJ _ _ _ h0 HL5.out)
  rw [hW5]
  clear hW5 hxc hxz hf1 hf2 hf3 hf4 hg3 hg4 hB4 h0
  have hn5 : n₀ ≤ W5.heap.size := Nat.le_trans hn1 HB5.out
  have HBI := Lib.hid (fun (w0 : World) (hg : Grow W5 w0) => biases_any p w0 ((HPA.out.below (Below.mono (Below.trans HL5.out (Below.mono hg HB5.out)) hn1)).more (Nat.le_trans hn5 hg.size)) h4)
  refine wp_region_lit 3 [[], [], [(1, 8)]] Grow (fun qi v w' => match qi with
      | 0 => v = .func (.func 67) #[] (capT base (base + 1) (base + 1 + 1) (base + 1 + 1 + 1))
      | 1 => v = paperV p
      | 2 => v = .agg (cellsB (biasP p.d.judges []))
      | _ => False) (by kernel_rfl) (by kernel_rfl) (fun _ _ _ => Grow.trans) Grow.refl ?_ ?_ ?_
  · intro i v y y' h k
    match i, h with
    | 0, h | 1, h | 2, h => exact h
  · simp only [StepsLit, List.take_succ_cons, List.take_zero]
    refine ⟨?_, ?_, ?_, trivial⟩
    · intro w5b hR
      have hGw : Grow W5 w5b := hR.of_drew
      have HGW := Lib.hid hGw
      have hsc := (HGW.out.block HS5.out).cell
      have hxc := (HGW.out.block HX5.out).cell 0
      clear hR hGw
      simp only [depV]
      try go_simp
      all_goals first
        | (with_reducible exact Grow.refl _)
        | (with_reducible exact ⟨Grow.refl _, rfl⟩)
    · intro w5b hR
      have hGw : Grow W5 w5b := hR.of_drew
      have HGW := Lib.hid hGw
      have hsc := (HGW.out.block HS5.out).cell
      have hxc := (HGW.out.block HX5.out).cell 0
      clear hR hGw
      simp only [depV]
      try go_simp
      all_goals first
        | (with_reducible exact Grow.refl _)
        | (with_reducible exact ⟨Grow.refl _, rfl⟩)
    · intro w5b hR
      have hGw : Grow W5 w5b := hR.of_drew
      have HGW := Lib.hid hGw
      have hsc := (HGW.out.block HS5.out).cell
      have hxc := (HGW.out.block HX5.out).cell 0
      clear hR hGw
      simp only [depV]
      rintro _ rfl
      try go_simp
      refine (HBI.out w5b HGW.out).mono ?_
      rintro e w6 ⟨rfl, hb6⟩
      exact ⟨hb6, rfl⟩
  · intro w5b hR
    have HG5b : Hid (Grow W5 w5b) := Lib.hid hR.of_drew
    clear hR
    simp only [finVC, List.take_succ_cons, List.take_zero, List.drop_succ_cons, List.drop_zero]
    rintro _ rfl
    rintro _ rfl
    rintro _ rfl
    simp only [Act.put, List.setIfInBounds_toArray, List.set_cons_succ, List.set_cons_zero]
    rename World => W8
    have hg8 : Grow W5 W8 := HG5b.out
    have HE8 : Hid (EnvT W8 p l n₀ base (base + 1) (base + 1 + 1) (base + 1 + 1 + 1)) := Lib.hid ⟨hg8.block HS5.out, hg8.block HY5.out, hg8.block HX5.out, HPA.out.below (Below.mono (Below.trans HL5.out (Below.mono hg8 HB5.out)) hn1)⟩
    have HT8 : Hid (TAt W8 (base + 1 + 1) 81 p.items.length []) := Lib.hid ⟨[0, 0, 0, 0], rfl, hg8.block HT5.out, rfl, fun i _ => by match i with | 0 => rfl | 1 => rfl | 2 => rfl | 3 => rfl | i + 4 => rfl⟩
    have HJ8 : Hid (J [] W8) := Lib.hid (hJ _ _ _ HJ5.out (Below.mono hg8 HB5.out))
    have HIX := Lib.hid (extend_any p G l n₀ q base base (base + 1) (base + 1 + 1) (base + 1 + 1 + 1) J Jx hJ hn1 (Nat.le_refl _) (by omega) (by omega) (by omega) (by omega) (by omega) (by omega) hY p.items.length [] [] [] W8 (by simp) (by simp [truthsL]; rfl) HE8.out HT8.out HJ8.out (Nat.le_trans HB5.out hg8.size))
    clear hg8 HG5b
    go_wp2_with fail
    refine HIX.out.mono ?_
    rintro e W9 ⟨_, _, hj9⟩
    rcases hj9 with ⟨rfl, hj9⟩ | ⟨rfl, pr, hpr, hjx⟩
    · have hj9 : J (truthsL p.d) W9 := hj9
      go_wp2
      go_end0
      exact ⟨⟨_, rfl⟩, .inl ⟨_, rfl, hj9⟩⟩
    · go_wp2
      go_end0
      exact ⟨⟨_, rfl⟩, .inr ⟨pr, hpr, hjx⟩⟩

end Go.Proofs.YthehkgpnnndboaaDoor
