/- Merge: the program's Merge. -/
import Derived.Test.YtfpmkolaiomabaaGreatMergeL
import Derived.Test.YtfpmkolaiomabaaGreatFind
namespace Go.Proofs.YtfpmkolaiomabaaGreat
open Go.RowKit
open Go.ChangeMaps (setBlock)

theorem Ints.pastIter {w w' : World} {B r m n : Nat} {seen : Array Nat} {A : Option Addr} {xs : List Int} (h : Ints w B A xs) (hr : IterAt w r m n seen) (hg : ∀ b, b ≠ r → w'.heap[b]? = w.heap[b]?) : Ints w' B A xs := by
  rcases h with rfl | ⟨b, off, rfl, hl, hc⟩
  · exact .inl rfl
  · refine .inr ⟨b, off, rfl, hl, fun j x hj => ?_⟩
    have h0 := hc j x hj
    have hne : b ≠ r := fun e => by
      subst e
      unfold IterAt at hr
      simp [World.cell?, hr] at h0
    exact (World.cell?_of_block (w := w) (a := ⟨b, off + j, none⟩) (hg b hne)).trans h0
theorem MovesAll.pastIter {w w' : World} {r m n : Nat} {seen : Array Nat} {bk' : List EntryR} (h : MovesAll w bk') (hr : IterAt w r m n seen) (hg : ∀ b, b ≠ r → w'.heap[b]? = w.heap[b]?) (hz : w.heap.size ≤ w'.heap.size) : MovesAll w' bk' :=
  fun x hx => ⟨⟨((h x hx).1.1.pastIter hr hg).more hz, (h x hx).1.2⟩, (h x hx).2⟩
theorem not_taken {bk : List EntryR} {seen : Array Nat} {ss : List EntryR} (h : Taken bk seen ss) (ho : Once (bk.map fun y : EntryR => y.d)) {k : Nat} {x : EntryR} (hx : bk[k]? = some x) (hk : k ∉ seen) : ∀ z ∈ ss.map (fun y : EntryR => y.d), z.id ≠ x.d.id := fun z hz e => by
  obtain ⟨y, hy, rfl⟩ := List.mem_map.1 hz
  obtain ⟨i, hi⟩ := List.mem_iff_getElem?.1 hy
  obtain ⟨h1, h2, h3⟩ := h
  have hil : i < seen.size := by rw [← h2]; exact lt_of_at hi
  obtain ⟨h4, h5⟩ := h3 i seen[i] (Array.getElem?_eq_getElem hil)
  rw [hi] at h4
  unfold Once at ho
  rw [List.Nodup, List.pairwise_map, List.pairwise_map] at ho
  have hne : seen[i] ≠ k := fun e => hk (e ▸ Array.getElem_mem hil)
  obtain ⟨q1, rfl⟩ := List.getElem?_eq_some_iff.1 h4
  obtain ⟨q2, rfl⟩ := List.getElem?_eq_some_iff.1 hx
  rcases Nat.lt_or_gt_of_ne hne with h | h
  · exact List.pairwise_iff_getElem.1 ho _ _ q1 q2 h e
  · exact List.pairwise_iff_getElem.1 ho _ _ q2 q1 h e.symm

set_option maxRecDepth 100000 in
set_option maxHeartbeats 8000000 in
theorem Merge_any (A A' : Option Addr) (cap cap' B B' : Nat) (l more : List EntryR) (w : World) (hA : Ents w B A l) (hl : l.length ≤ 1000000) (hB : B ≤ w.heap.size) (hA' : Ents w B' A' more) (hl' : more.length ≤ 1000000) (hB' : B' ≤ w.heap.size) :
    Calls Tryz.prog 32 #[.slice A l.length cap, .slice A' more.length cap'] w (MergePost (l.map (·.d)) (more.map (·.d)) w) := by
  have HR := Lib.hid (read_any A cap B l w hA hl hB)
  have HR2 := Lib.hid (fun (w0 : World) (h : Grow w w0) => read_any A' cap' w.heap.size more w0 ((hA'.more hB').below h) hl' h.size)
  clear hA hA' hB hB'
  have HML : Hid (∀ e, mergeErr (l.map (·.d)) (more.map (·.d)) = e → e ≠ 0 → mergeL (l.map (·.d)) (more.map (·.d)) = []) := Lib.hid fun e h he => by unfold mergeL; rw [if_neg (by rw [h]; exact he)]
  generalize hld : l.map (fun y : EntryR => y.d) = ld at HR HML
  generalize hmd : more.map (fun y : EntryR => y.d) = md at HR2 HML
  have HLD := Lib.hid hld
  have HMD := Lib.hid hmd
  clear hld hmd
  have HME : Hid (mergeErr ld md = if bookErr ld ≠ 0 then bookErr ld else if bookErr md ≠ 0 then bookErr md else if 40 < (distTo (ld ++ md) 100).length then 2 else if clashD (ld ++ md) = true then 12 else 0) := rfl
  go_enter Tryz.func32, Tryz.ntmps32
  go_wp2_with fail
  refine HR.out.mono ?_
  rintro e w1 ⟨hb1, hcase⟩
  have HG1 : Hid (Grow w w1) := hb1
  clear hb1
  rcases hcase with ⟨hne, rfl⟩ | ⟨heq, m1, bk1, rfl, hm1, hbk1, hmv1, hfar1, hrd1⟩
  · have HE : Hid (mergeErr ld md = bookErr ld) := Lib.hid (by rw [HME.out, if_pos hne])
    have HL : Hid (mergeL ld md = []) := Lib.hid (HML.out _ HE.out hne)
    generalize bookErr ld = be at hne HE
    clear HME
    go_wp2
    go_ret2
    exact ⟨HG1.out, none, 0, [], (by rw [HE.out] <;> rfl), by rw [HL.out]; rfl, .inl rfl, fun y hy => (by cases hy)⟩
  · have HBO1 := Lib.hid (readD_book hrd1)
    have HE1 := Lib.hid heq
    have HBK1 := Lib.hid hbk1
    have HMV1 := Lib.hid hmv1
    have hm1lt := hbk1.lt
    clear heq hbk1 hmv1 hfar1 hrd1
    go_wp2_with fail
    refine (HR2.out _ HG1.out).mono ?_
    rintro e w2 ⟨hb2, hcase⟩
    have HG2 : Hid (Grow w w2) := HG1.out.trans hb2
    have HG12 : Hid (Grow w1 w2) := hb2
    clear hb2
    rcases hcase with ⟨hne, rfl⟩ | ⟨heq, m2, bk2, rfl, hm2, hbk2, hmv2, hfar2, hrd2⟩
    · have HE : Hid (mergeErr ld md = bookErr md) := Lib.hid (by rw [HME.out, HE1.out, if_neg (by simp), if_pos hne])
      have HL : Hid (mergeL ld md = []) := Lib.hid (HML.out _ HE.out hne)
      generalize bookErr md = be at hne HE
      clear HME
      go_wp2
      go_ret2
      exact ⟨HG2.out, none, 0, [], (by rw [HE.out] <;> rfl), by rw [HL.out]; rfl, .inl rfl, fun y hy => (by cases hy)⟩
    · have HBO2 := Lib.hid (readD_book hrd2)
      have hne : m1 ≠ m2 := by omega
      have hlen1 : (bk1.map fun y : EntryR => y.d).length ≤ ld.length := HBO1.out.length
      have hlen2 : (bk2.map fun y : EntryR => y.d).length ≤ md.length := HBO2.out.length
      have hok1 := (bookErr_ok HE1.out)
      have hok2 := (bookErr_ok heq)
      rw [List.length_map] at hlen1 hlen2
      have HE2 := Lib.hid heq
      have HBK1b := Lib.hid (HBK1.out.grow HG12.out)
      have HMV1b := Lib.hid (HMV1.out.grow HG12.out)
      have HMV2 := Lib.hid hmv2
      have HBK2 := Lib.hid hbk2
      have HOK1 := Lib.hid hok1
      have HOK2 := Lib.hid hok2
      have hm2lt := hbk2.lt
      have hbl : bk1.length + bk2.length ≤ 80 := by have := hok1.1; have := hok2.1; omega
      have hrg := range_book hbk2
      clear heq hm2 hbk2 hmv2 hfar2 hrd2 hok1 hok2 hlen1 hlen2
      have hm12 : m1 < w2.heap.size := by have := HG12.out.size; omega
      go_wp2
      go_loopw [9] (fun cv wr => ∃ (seen : Array Nat) (ss bkr : List EntryR) (c : Bool), cv = .bool c ∧ IterAt wr w2.heap.size m2 bk2.length seen ∧ Taken bk2 seen ss ∧ BookAt wr m1 bkr ∧ BookAt wr m2 bk2 ∧ MovesAll wr bkr ∧ MovesAll wr bk2 ∧
        MInv (bk1.map (·.d)) (ss.map (·.d)) (bkr.map (·.d)) c ∧ w2.heap.size < wr.heap.size ∧ Below w.heap.size w wr) (fun _ wr => (leftOf (entsM bk2) (wr.iterSeen w2.heap.size)).size)
      case atStart => exact ⟨#[], [], bk1, false, rfl, IterAt.new w2 m2 bk2.length, Taken.start bk2, HBK1b.out.grow (Grow.alloc _ _), HBK2.out.grow (Grow.alloc _ _), HMV1b.out.grow (Grow.alloc _ _), HMV2.out.grow (Grow.alloc _ _), MInv.start HBO1.out.once, by simp, HG2.out.trans (Grow.alloc _ _)⟩
      case round =>
        obtain ⟨seen, ss, bkr, c, rfl, hit, htk, hb1, hb2, hv1, hv2, hinv, hlt, hbw⟩ := hrel
        clear hrg
        rcases next_book 0 hit hb2 with ⟨hall, hn⟩ | ⟨k, x, hx, hk, w1', hw, hn⟩
        · have hnx : ∀ ty, (Instr.next (.pointer (some ⟨w2.heap.size, 0, none⟩)) false ty).run Tryz.prog wr = _ := fun _ => hn
          have hpm := htk.all hall
          have hinv2 := hinv.perm (hpm.map fun y : EntryR => y.d)
          have hlm := hinv2.length HBO1.out HBO2.out HOK1.out.2.1 HOK2.out.2.1
          rw [List.length_map] at hlm
          have HLM := Lib.hid hlm
          have HIN := Lib.hid hinv2
          have HB1 := Lib.hid hb1
          have HV1 := Lib.hid hv1
          have HBW := Lib.hid hbw
          have hrl : ∀ ty, (Builtin.len_ #[82] ty #[.map (some m1)]).run Tryz.prog wr = .ok (.int .i64 bkr.length) wr := fun ty => by
            have h := Go.run_len_map (P := Tryz.prog) wr 82 ty m1 _ _ (by kernel_rfl) hb1
            rw [h]
            simp [entsM, goInt]
          have hbkl : bkr.length ≤ 100 := by rw [hlm]; exact distTo_length _ _
          have HME2 : Hid (mergeErr ld md = if 40 < bkr.length then 2 else if clashD (ld ++ md) = true then 12 else 0) := Lib.hid (by rw [HME.out, HE1.out, HE2.out, if_neg (by simp), if_neg (by simp), HLM.out])
          clear hit htk hb1 hb2 hv1 hv2 hinv hn hpm hinv2 hlm hbw HME
          by_cases hbig : 40 < bkr.length
          · have hbi : (40 : Int) < bkr.length := by omega
            have HE : Hid (mergeErr ld md = 2) := Lib.hid (by rw [HME2.out, if_pos hbig])
            have HL : Hid (mergeL ld md = []) := Lib.hid (HML.out _ HE.out (by decide))
            go_wp2
            go_ret2
            exact ⟨HBW.out, none, 0, [], (by rw [HE.out] <;> rfl), by rw [HL.out]; rfl, .inl rfl, fun y hy => (by cases hy)⟩
          · have hbi : ¬(40 : Int) < bkr.length := by omega
            have hbd : decide ((40 : Int) < bkr.length) = false := decide_eq_false hbi
            cases c with
            | true =>
              have HE : Hid (mergeErr ld md = 12) := Lib.hid (by rw [HME2.out, if_neg hbig, if_pos (HIN.out.clash HBO1.out HBO2.out)])
              have HL : Hid (mergeL ld md = []) := Lib.hid (HML.out _ HE.out (by decide))
              go_wp2
              go_ret2
              exact ⟨HBW.out, none, 0, [], (by rw [HE.out] <;> rfl), by rw [HL.out]; rfl, .inl rfl, fun y hy => (by cases hy)⟩
            | false =>
              have HE : Hid (mergeErr ld md = 0) := Lib.hid (by rw [HME2.out, if_neg hbig, HIN.out.noclash HBO1.out HBO2.out]; rfl)
              have HL : Hid (mergeL ld md = distTo (ld ++ md) 100) := Lib.hid (by unfold mergeL; rw [if_pos HE.out])
              have HBF := Lib.hid (HIN.out.book HBO1.out HBO2.out)
              have HOKF : Hid (∀ x ∈ ld ++ md, okEntry x = true) := Lib.hid fun x hx => by
                rcases List.mem_append.1 hx with h | h
                · exact HOK1.out.2.1 x h
                · exact HOK2.out.2.1 x h
              go_wp2_with fail
              refine (valuesW_any m1 wr).mono ?_
              rintro e w4 ⟨rfl, hw4⟩
              have hg4 : Grow wr w4 := by rw [hw4]; exact Grow.alloc _ _
              have hc4 : w4.cell? ⟨wr.heap.size, 0, none⟩ = some (.map (some m1)) := by rw [hw4]; simp
              have hz4 : wr.heap.size < w4.heap.size := by rw [hw4]; simp
              clear hw4
              have HS := Lib.hid (sortedFunc_any wr.heap.size m1 bkr w4 hz4 hc4 (HB1.out.grow hg4) (HV1.out.grow hg4) (by omega) cmpId cmp_cmpId 72 (enters_of Tryz.func72 (by kernel_rfl) rfl) (fun x y w _ _ _ _ => merge1_any x y w))
              have HB4 := Lib.hid (HBW.out.trans (Below.mono hg4 (by have := HBW.out.size; omega)))
              have HM4 := Lib.hid (HV1.out.grow hg4)
              clear hg4 hc4 hz4
              go_wp2_with fail
              refine HS.out.mono ?_
              rintro e w5 ⟨A5, n5, cap5, ys, rfl, hp, hs, ho, hb5⟩
              obtain ⟨hen, rfl⟩ := own_ents ho (fun y hy => ((HM4.out.grow hb5) y (hp.mem_iff.1 hy)).1)
              have HEN := Lib.hid hen
              have HB5 := Lib.hid (HB4.out.trans (Below.mono (show Below w4.heap.size w4 w5 from hb5) HB4.out.size))
              have HYS : Hid (List.map (fun y : EntryR => y.d) ys = distTo (ld ++ md) 100) := Lib.hid (sorted_dist HOKF.out (HBF.out.perm (hp.map _)) (by rw [List.pairwise_map]; exact hs))
              clear hp hs ho hb5 hen
              go_wp2
              go_ret2
              exact ⟨HB5.out, A5, cap5, ys, (by rw [HE.out] <;> rfl), by rw [HYS.out, HL.out], HEN.out⟩
        · obtain ⟨hit2, hbx2, hz2', hoth⟩ := step_book hit hw
          generalize setBlock w1' w2.heap.size (.mapIter (some m2) bk2.length (seen.push k) bk2.length) = w3 at hn hit2 hbx2 hz2' hoth
          have hnx : ∀ ty, (Instr.next (.pointer (some ⟨w2.heap.size, 0, none⟩)) false ty).run Tryz.prog wr = _ := fun _ => hn
          have hbk23 : BookAt w3 m2 bk2 := (hoth m2 (by omega)).trans hb2
          have hbk13 : BookAt w3 m1 bkr := (hoth m1 (by omega)).trans hb1
          have hen := entry_book hit2 hbk23 hx
          have hv13 : MovesAll w3 bkr := hv1.pastIter hit hoth (by omega)
          have hv23 : MovesAll w3 bk2 := hv2.pastIter hit hoth (by omega)
          have HNT := Lib.hid (not_taken htk HBO2.out.once hx hk)
          have HTK2 := Lib.hid (htk.push hx hk)
          have HI0 := Lib.hid hit
          have HINV := Lib.hid hinv
          have hmeas := left_book hx hk
          have hbw3 : Below w.heap.size w w3 := hbw.trans (hbx2.mono (by have := HG2.out.size; omega))
          clear hn hoth hw hit hb1 hb2 hv1 hv2 htk hk hinv hbw hbx2
          go_upto_region 11 with fail
          obtain ⟨W3, hW3, hg3, hf3, hsz3⟩ := one_block w3 62 (cellsE x)
          rw [hz2'] at hf3 hsz3
          rw [hW3]
          clear hW3
          have hxin := List.mem_of_getElem? hx
          have hbk1W := hbk13.grow hg3
          have hv1W := hv13.grow hg3
          have hv2W := hv23.grow hg3
          have hitW := hit2.grow hg3
          have HBK2W := Lib.hid (hbk23.grow hg3)
          have HB3 := Lib.hid (hbw3.trans (Below.mono (show Below w3.heap.size w3 W3 from hg3) (hbw3.size)))
          have HIT3 := Lib.hid hitW
          have HV1W := Lib.hid hv1W
          have HV2W := Lib.hid hv2W
          have HBK1W := Lib.hid hbk1W
          have hce := hf3.cell
          have hXM := hv2W x hxin
          have hfm := findE_map bkr x.d.id
          have hszW : w2.heap.size < W3.heap.size := hitW.lt
          cases hfe : findE bkr x.d.id with
          | none =>
            rw [hfe] at hfm
            have HAD := Lib.hid (add_new m1 bkr x W3 hbk1W hfe)
            have HI3 : Hid (MInv (bk1.map (·.d)) ((ss ++ [x]).map (·.d)) ((bkr ++ [x]).map (·.d)) c) := Lib.hid (by
              rw [List.map_append, List.map_append]
              exact HINV.out.new fun y hy e => by
                have := List.find?_eq_none.1 hfm y hy
                exact this (by simpa using e))
            have HVN : Hid (MovesAll W3 (bkr ++ [x])) := Lib.hid fun y hy => by
              rcases List.mem_append.1 hy with h | h
              · exact HV1W.out y h
              · rw [List.mem_singleton] at h
                subst h
                exact hXM
            clear hit2 hbk13 hbk23 hv13 hv23 hbw3 hg3 hbk1W hv1W hv2W hitW hXM hfm hfe hen hx hxin
            go_wp2_with fail
            refine HAD.out.mono ?_
            rintro e w5 ⟨rfl, hbk5, hg5⟩
            have HV15 := Lib.hid (HVN.out.pastBook HBK1W.out hg5)
            have HV25 := Lib.hid (HV2W.out.pastBook HBK1W.out hg5)
            have HIT5 : Hid (IterAt w5 w2.heap.size m2 bk2.length (seen.push k)) := Lib.hid ((hg5.block w2.heap.size HIT3.out.lt (by simp; omega)).trans HIT3.out)
            have HBK25 : Hid (BookAt w5 m2 bk2) := Lib.hid ((hg5.block m2 HBK2W.out.lt (by simpa using hne.symm)).trans HBK2W.out)
            have HBK15 := Lib.hid hbk5
            have HB5 := Lib.hid (HB3.out.grown hg5 HB3.out.size (fun q hq => by injection hq with hq; have := HG1.out.size; omega))
            have hz5 : w2.heap.size < w5.heap.size := HIT5.out.lt
            clear hbk5 hg5 hce
            go_wp2
            all_goals
              go_roundw
              case rel => exact ⟨seen.push k, ss ++ [x], bkr ++ [x], c, (by first | rfl | simp), HIT5.out, HTK2.out, HBK15.out, HBK25.out, HV15.out, HV25.out, HI3.out, hz5, HB5.out⟩
              case measure => rw [HIT5.out.seen, HI0.out.seen]; exact hmeas
          | some y =>
            rw [hfe] at hfm
            have hmem : y ∈ bkr := List.mem_of_find?_eq_some hfe
            have hyid : y.d.id = x.d.id := by simpa using List.find?_some hfe
            have HAD := Lib.hid (add_old m1 bkr x y W3.heap.size W3 hbk1W hfe hXM.1 (hv1W y hmem).1 (Nat.le_refl _) hXM.2 (hv1W y hmem).2)
            have HI3 : Hid (MInv (bk1.map (·.d)) ((ss ++ [x]).map (·.d)) (bkr.map (·.d)) (!alikeC x.d y.d || c)) := Lib.hid (by
              rw [List.map_append]
              exact HINV.out.old (List.mem_map.2 ⟨y, hmem, rfl⟩) hyid HNT.out)
            clear hit2 hbk13 hbk23 hv13 hv23 hbw3 hg3 hbk1W hv1W hv2W hitW hXM hfm hfe hen hx hxin hmem hyid
            generalize alikeC x.d y.d = al at HAD HI3
            go_wp2_with fail
            refine HAD.out.mono ?_
            rintro e w5 ⟨rfl, hb5⟩
            have hg5 : Grow W3 w5 := hb5
            have HV15 := Lib.hid (HV1W.out.grow hg5)
            have HV25 := Lib.hid (HV2W.out.grow hg5)
            have HIT5 := Lib.hid (HIT3.out.grow hg5)
            have HBK25 := Lib.hid (HBK2W.out.grow hg5)
            have HBK15 := Lib.hid (HBK1W.out.grow hg5)
            have HB5 := Lib.hid (HB3.out.trans (Below.mono hb5 HB3.out.size))
            have hz5 : w2.heap.size < w5.heap.size := HIT5.out.lt
            clear hb5 hg5 hce
            cases al with
            | true =>
              go_wp2
              all_goals
                go_roundw
                case rel => exact ⟨seen.push k, ss ++ [x], bkr, c, (by first | rfl | simp), HIT5.out, HTK2.out, HBK15.out, HBK25.out, HV15.out, HV25.out, (by simpa using HI3.out), hz5, HB5.out⟩
                case measure => rw [HIT5.out.seen, HI0.out.seen]; exact hmeas
            | false =>
              go_wp2
              all_goals
                go_roundw
                case rel => exact ⟨seen.push k, ss ++ [x], bkr, true, (by first | rfl | simp), HIT5.out, HTK2.out, HBK15.out, HBK25.out, HV15.out, HV25.out, (by simpa using HI3.out), hz5, HB5.out⟩
                case measure => rw [HIT5.out.seen, HI0.out.seen]; exact hmeas

end Go.Proofs.YtfpmkolaiomabaaGreat
