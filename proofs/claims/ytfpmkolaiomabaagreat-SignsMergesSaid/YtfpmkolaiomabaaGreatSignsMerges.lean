/- SignsMerges: the law's walk. -/
import Derived.Test.YtfpmkolaiomabaaGreatMerge
import Derived.Test.YtfpmkolaiomabaaGreatRMerge
import Derived.Test.YtfpmkolaiomabaaGreatSameBooks
import Derived.Test.YtfpmkolaiomabaaGreatOpens2
import Derived.Test.YtfpmkolaiomabaaGreatWorks
import Derived.Test.YtfpmkolaiomabaaGreatCopy
namespace Go.Proofs.YtfpmkolaiomabaaGreat
open Go.RowKit

theorem copy_ents {lo : Nat} {l : List EntryR} {v : Value} {w : World} (h : CopyAt lo l v w) (hl : ∀ x ∈ l, x.d.form.moves.length ≤ 1000000) :
    ∃ A cap ys, v = .slice A (List.length ys) cap ∧ List.map (fun y : EntryR => y.d) ys = List.map (fun y : EntryR => y.d) l ∧ Ents w w.heap.size A ys ∧ List.length ys = l.length := by
  obtain ⟨A, cap, ys, rfl, hys, hown, hym⟩ := h
  have hlen : l.length = ys.length := by
    have := congrArg List.length hys
    simpa using this.symm
  have hml : ∀ d ∈ List.map (fun y : EntryR => y.d) l, d.form.moves.length ≤ 1000000 := fun d hd => by
    obtain ⟨x, hx, rfl⟩ := List.mem_map.1 hd
    exact hl x hx
  obtain ⟨hen, -⟩ := own_ents hown (fun y hy => ⟨(hym y hy).1.intsF.ints, hml y.d (by rw [← hys]; exact List.mem_map.2 ⟨y, hy, rfl⟩)⟩)
  exact ⟨A, cap, ys, by rw [hlen], hys, hen, hlen.symm⟩

set_option maxRecDepth 100000 in
set_option maxHeartbeats 16000000 in
theorem signsMerges_any (A A' : Option Addr) (cap cap' : Nat) (l more : List EntryR) (w : World) (hA : EntsO w w.heap.size A l) (hl : l.length ≤ 9223372036854775807) (hA' : EntsO w w.heap.size A' more) (hl' : more.length ≤ 9223372036854775807) :
    Calls Tryz.prog 5 #[.slice A l.length cap, .slice A' more.length cap'] w fun e w' => e = .returned (.bool true) ∧ Below w.heap.size w w' := by
  have HWK := Lib.hid works_any
  have HLO := Lib.hid (long_any A cap w.heap.size l w hA hl)
  have HLM := Lib.hid (long_any A' cap' w.heap.size more w hA' hl')
  by_cases hP : longD (l.map (·.d)) = false ∧ longD (more.map (·.d)) = false
  · obtain ⟨h1, h2⟩ := hP
    obtain ⟨hE, hl60⟩ := hA.short h1
    obtain ⟨hE', hm60⟩ := hA'.short h2
    rw [h1] at HLO
    rw [h2] at HLM
    have HCO := Lib.hid (rCopy_any A cap w.heap.size l w hE (by omega) (Nat.le_refl _))
    have HCM := Lib.hid (fun (w0 : World) (h : Grow w w0) => rCopy_any A' cap' w.heap.size more w0 (hE'.below h) (by omega) h.size)
    have HRM := Lib.hid (fun (w0 : World) (h : Grow w w0) => rMerge_any A A' cap cap' w.heap.size w.heap.size l more w0 (hE.below h) (by omega) h.size (hE'.below h) (by omega) h.size)
    have HXL := Lib.hid (fun x (hx : x ∈ l) => (hE.2 x hx).2)
    have HXM := Lib.hid (fun x (hx : x ∈ more) => (hE'.2 x hx).2)
    clear hA hA' hE hE' h1 h2
    go_enter Tryz.func5, Tryz.ntmps5
    go_wp2_with fail
    refine HLO.out.mono ?_
    rintro e w1 ⟨rfl, rfl⟩
    go_wp2_with fail
    refine HLM.out.mono ?_
    rintro e w1 ⟨rfl, rfl⟩
    go_wp2_with fail
    refine HCO.out.mono ?_
    rintro e w2 ⟨v2, rfl, hc2, hb2⟩
    have HG2 : Hid (Grow w w2) := hb2
    have HC2 := Lib.hid hc2
    clear hb2 hc2
    go_wp2_with fail
    refine (HCM.out _ HG2.out).mono ?_
    rintro e w3 ⟨v3, rfl, hc3, hb3⟩
    have HG3 : Hid (Grow w w3) := HG2.out.trans hb3
    obtain ⟨A2, cap2, ys, rfl, hys, hen, hyl⟩ := copy_ents (HC2.out.grow hb3) HXL.out
    obtain ⟨A3, cap3, zs, rfl, hzs, hen', hzl⟩ := copy_ents hc3 HXM.out
    have hm := Merge_any A2 A3 cap2 cap3 w3.heap.size w3.heap.size ys zs w3 hen (by omega) (Nat.le_refl _) hen' (by omega) (Nat.le_refl _)
    have hys' : ys.map (fun y : EntryR => y.d) = l.map (fun y : EntryR => y.d) := hys
    have hzs' : zs.map (fun y : EntryR => y.d) = more.map (fun y : EntryR => y.d) := hzs
    rw [hys', hzs'] at hm
    have HM := Lib.hid hm
    clear hb3 hc3 hys hzs hen hen' hyl hzl hys' hzs' hm HC2
    generalize l.map (fun y : EntryR => y.d) = ld at HM HRM
    generalize more.map (fun y : EntryR => y.d) = md at HM HRM
    go_wp2_with fail
    refine HM.out.mono ?_
    rintro e w4 ⟨hb4, A4, cap4, us, rfl, has, hea⟩
    have HG4 : Hid (Grow w w4) := HG3.out.trans hb4
    have HAS := Lib.hid has
    have HEA := Lib.hid hea
    clear hb4 has hea
    generalize hme : mergeErr ld md = me
    have HME := Lib.hid hme
    clear hme
    go_wp2_with fail
    refine (HRM.out _ HG4.out).mono ?_
    rintro e w5 ⟨hb5, A5, cap5, bs, rfl, hbs, heb⟩
    have HG5 : Hid (Grow w w5) := HG4.out.trans hb5
    have hea5 := (HEA.out.below hb5).more (Below.size hb5)
    have hlen : us.length ≤ 1000000 := by
      have h := congrArg List.length HAS.out
      have h2 : (mergeL ld md).length ≤ 100 := by
        unfold mergeL
        split
        · exact distTo_length _ _
        · simp
      rw [List.length_map] at h
      omega
    have HSB := Lib.hid (sameBooks_eq A4 A5 cap4 cap5 us bs w5 hea5 heb hlen (HAS.out.trans hbs.symm))
    clear hb5 hbs heb hea5 HAS HEA
    rw [HME.out]
    go_wp2_with fail
    refine HSB.out.mono ?_
    rintro e w6 ⟨rfl, hb6⟩
    have HG6 : Hid (Grow w w6) := HG5.out.trans hb6
    clear hb6
    go_wp2_with fail
    refine (HWK.out _).mono ?_
    rintro e w13 ⟨rfl, hb13⟩
    have HG13 : Hid (Grow w w13) := HG6.out.trans hb13
    clear hb13
    go_wp2
    go_ret
    exact ⟨rfl, HG13.out⟩
  · have HP := Lib.hid hP
    clear hA hA' hP
    go_enter Tryz.func5, Tryz.ntmps5
    go_wp2_with fail
    refine HLO.out.mono ?_
    rintro e w1 ⟨rfl, rfl⟩
    generalize longD (l.map (·.d)) = b1 at HP ⊢
    cases b1 with
    | true =>
      go_wp2_with fail
      refine (HWK.out _).mono ?_
      rintro e w13 ⟨rfl, hb13⟩
      have HG13 : Hid (Grow w w13) := hb13
      clear hb13
      go_wp2
      go_ret
      exact ⟨rfl, HG13.out⟩
    | false =>
      go_wp2_with fail
      refine HLM.out.mono ?_
      rintro e w1 ⟨rfl, rfl⟩
      generalize longD (more.map (·.d)) = b2 at HP ⊢
      cases b2 with
      | false => exact absurd (by simp) HP.out
      | true =>
        go_wp2_with fail
        refine (HWK.out _).mono ?_
        rintro e w13 ⟨rfl, hb13⟩
        have HG13 : Hid (Grow w w13) := hb13
        clear hb13
        go_wp2
        go_ret
        exact ⟨rfl, HG13.out⟩

end Go.Proofs.YtfpmkolaiomabaaGreat
