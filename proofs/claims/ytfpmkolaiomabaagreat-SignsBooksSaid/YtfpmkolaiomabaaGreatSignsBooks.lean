/- SignsBooks: the law's walk. -/
import Derived.Test.YtfpmkolaiomabaaGreatROrder
import Derived.Test.YtfpmkolaiomabaaGreatRTwins
import Derived.Test.YtfpmkolaiomabaaGreatTwLen
import Derived.Test.YtfpmkolaiomabaaGreatPairs
import Derived.Test.YtfpmkolaiomabaaGreatWorks
import Derived.Test.YtfpmkolaiomabaaGreatCopy
namespace Go.Proofs.YtfpmkolaiomabaaGreat
open Go.RowKit

set_option maxRecDepth 100000 in
set_option maxHeartbeats 2000000 in
theorem Check_any (A : Option Addr) (cap B : Nat) (l : List EntryR) (w : World) (hA : Ents w B A l) (hl : l.length ≤ 1000000) (hB : B ≤ w.heap.size) :
    Calls Tryz.prog 23 #[.slice A l.length cap] w fun e w' => e = .returned (.int .i64 (bookErr (l.map (·.d)))) ∧ Below w.heap.size w w' := by
  have HR := Lib.hid (read_any A cap B l w hA hl hB)
  clear hA
  generalize hbe : bookErr (l.map (·.d)) = be
  have HBE := Lib.hid hbe
  clear hbe
  go_enter Tryz.func23, Tryz.ntmps23
  go_wp2_with fail
  refine HR.out.mono ?_
  rintro e w1 ⟨hb1, ⟨h0, rfl⟩ | ⟨h0, m, bk, rfl, -⟩⟩
  · have HB := Lib.hid hb1
    rw [HBE.out]
    clear hb1 h0
    go_wp2
    go_ret
    exact ⟨rfl, HB.out⟩
  · have HB := Lib.hid hb1
    rw [HBE.out] at h0
    have H0 := Lib.hid h0
    clear hb1 h0
    go_wp2
    go_ret
    exact ⟨(by rw [H0.out] <;> rfl), HB.out⟩

set_option maxRecDepth 100000 in
set_option maxHeartbeats 16000000 in
theorem signsBooks_any (A : Option Addr) (cap : Nat) (l : List EntryR) (w : World) (hA : EntsO w w.heap.size A l) (hl : l.length ≤ 9223372036854775807) :
    Calls Tryz.prog 4 #[.slice A l.length cap] w fun e w' => e = .returned (.bool true) ∧ Below w.heap.size w w' := by
  have HWK := Lib.hid works_any
  have HFA := Lib.hid (Far_any A cap w.heap.size l w hA hl (Nat.le_refl _))
  cases hfar : farD (l.map (·.d)) with
  | false =>
    rw [hfar] at HFA
    have hlong : longD (l.map (·.d)) = false := by
      unfold farD at hfar
      rw [Bool.or_eq_false_iff] at hfar
      exact hfar.1
    obtain ⟨hE, hl60⟩ := hA.short hlong
    have HML := Lib.hid (fun (d : EntryD) (hd : d ∈ l.map (·.d)) => show d.form.moves.length ≤ 1000000 by
      obtain ⟨x, hx, rfl⟩ := List.mem_map.1 hd
      exact (hE.2 x hx).2)
    have HCO := Lib.hid (fun (w0 : World) (h : Grow w w0) => rCopy_any A cap w.heap.size l w0 (hE.below h) (by omega) h.size)
    have HRC := Lib.hid (fun (w0 : World) (h : Grow w w0) => rCheck_any A cap w.heap.size l w0 (hE.below h) (by omega) h.size)
    have HRO := Lib.hid (fun (w0 : World) (h : Grow w w0) => rOrder_any A cap w.heap.size l w0 (hE.below h) (by omega) h.size)
    have HRT := Lib.hid (fun (w0 : World) (h : Grow w w0) => rTwins_any A cap w.heap.size l w0 (hE.below h) (by omega) h.size)
    clear hA hE hlong hfar
    go_enter Tryz.func4, Tryz.ntmps4
    go_wp2_with fail
    refine HFA.out.mono ?_
    rintro e w1 ⟨rfl, hb1⟩
    have HG1 : Hid (Grow w w1) := hb1
    clear hb1
    go_wp2_with fail
    refine (HCO.out _ HG1.out).mono ?_
    rintro e w2 ⟨_, rfl, ⟨A3, cap3, ys, rfl, hys, hown, hym⟩, hb2⟩
    have HG2 : Hid (Grow w w2) := HG1.out.trans hb2
    have hyl : l.length = ys.length := by
      have := congrArg List.length hys
      simpa using this.symm
    have hyD : ys.map (fun y : EntryR => y.d) = l.map (fun y : EntryR => y.d) := hys
    obtain ⟨hey, -⟩ := own_ents hown (fun y hy => ⟨(hym y hy).1.intsF.ints, HML.out y.d (by rw [← hyD]; exact List.mem_map.2 ⟨y, hy, rfl⟩)⟩)
    have HSC := Lib.hid (fun (w0 : World) (h : Grow w2 w0) => by have k := Check_any A3 cap3 w2.heap.size ys w0 (hey.below h) (by omega) h.size; rw [← hyl, hyD] at k; exact k)
    have HSO := Lib.hid (fun (w0 : World) (h : Grow w2 w0) => by have k := Order_any A3 cap3 w2.heap.size ys w0 (hey.below h) (by omega) h.size; rw [← hyl, hyD] at k; exact k)
    have HST := Lib.hid (fun (w0 : World) (h : Grow w2 w0) => by have k := Twins_any A3 cap3 w2.heap.size ys w0 (hey.below h) (by omega) h.size; rw [← hyl, hyD] at k; exact k)
    clear hb2 hys hown hym hey hyl hyD HML
    generalize l.map (fun y : EntryR => y.d) = ld at HRC HRO HRT HSC HSO HST
    go_wp2_with fail
    refine (HSC.out w2 (Grow.refl _)).mono ?_
    rintro e w3 ⟨rfl, hb3⟩
    have HG3 : Hid (Grow w w3) := HG2.out.trans hb3
    have HGY3 : Hid (Grow w2 w3) := hb3
    clear hb3
    go_wp2_with fail
    refine (HRC.out w3 HG3.out).mono ?_
    rintro e w4 ⟨rfl, hb4⟩
    have HG4 : Hid (Grow w w4) := HG3.out.trans hb4
    have HGY4 : Hid (Grow w2 w4) := HGY3.out.trans hb4
    clear hb4
    generalize hbe : bookErr ld = be
    have HBE := Lib.hid hbe
    clear hbe
    go_wp2_with fail
    refine (HSO.out w4 HGY4.out).mono ?_
    rintro e w5 ⟨hb5, A5, cap5, r5, rfl, hi5, hn5, ho5⟩
    have HG5 : Hid (Grow w w5) := HG4.out.trans hb5
    have HGY5 : Hid (Grow w2 w5) := HGY4.out.trans hb5
    have HI5 := Lib.hid hi5.ints
    have HN5 := Lib.hid hn5
    have HO5 := Lib.hid ho5
    clear hb5 hi5 hn5 ho5
    rw [HBE.out]
    go_wp2_with fail
    refine (HRO.out w5 HG5.out).mono ?_
    rintro e w6 ⟨hb6, A6, cap6, r6, rfl, hi6, hn6, ho6⟩
    have HG6 : Hid (Grow w w6) := HG5.out.trans hb6
    have HGY6 : Hid (Grow w2 w6) := HGY5.out.trans hb6
    have HI5b := Lib.hid ((HI5.out.below hb6).more (Below.size hb6))
    have HI6 := Lib.hid hi6.ints
    have hab : r5 = r6 := by
      by_cases h : bookErr ld = 0
      · exact (HO5.out h).unique (ho6 h)
      · rw [(HN5.out h).2, (hn6 h).2]
    subst hab
    have HLEN : Hid (r5.length ≤ 1000000) := Lib.hid (by
      by_cases h : bookErr ld = 0
      · obtain ⟨zs, _, hz, rfl⟩ := HO5.out h
        have := IsBookOf_length hz (bookErr_ok h).2.1
        simp; omega
      · rw [(HN5.out h).2]; simp)
    clear hb6 hi6 hn6 ho6 HI5 HN5 HO5
    rw [HBE.out]
    go_wp2_with fail
    refine (HST.out w6 HGY6.out).mono ?_
    rintro e w7 ⟨hb7, A7, cap7, r7, rfl, ho7, hn7, ht7⟩
    have HG7 : Hid (Grow w w7) := HG6.out.trans hb7
    have HI5c := Lib.hid ((HI5b.out.below hb7).more (Below.size hb7))
    have HI6c := Lib.hid ((HI6.out.below hb7).more (Below.size hb7))
    have HP7 := Lib.hid (own_pairsL ho7).1
    have HN7 := Lib.hid hn7
    have HT7 := Lib.hid ht7
    clear hb7 ho7 hn7 ht7 HI5b HI6
    rw [HBE.out]
    go_wp2_with fail
    refine (HRT.out w7 HG7.out).mono ?_
    rintro e w8 ⟨hb8, A8, cap8, r8, rfl, ho8, hn8, ht8⟩
    have HG8 : Hid (Grow w w8) := HG7.out.trans hb8
    have hI5 := (HI5c.out.below hb8)
    have hI6 := (HI6c.out.below hb8)
    have hP7 := HP7.out.below hb8
    have hP8 := (own_pairsL ho8).1
    have hcd : r7 = r8 := by
      by_cases h : bookErr ld = 0
      · exact (HT7.out h).unique (ht8 h)
      · rw [HN7.out h, hn8 h]
    subst hcd
    have HLEN7 : Hid (r7.length ≤ 10000000) := Lib.hid (by
      by_cases h : bookErr ld = 0
      · have := TwinsD_length (HT7.out h) (bookErr_ok h).2.1; omega
      · rw [HN7.out h]; simp)
    have hsi := sameInts_any A5 A6 cap5 cap6 w7.heap.size w7.heap.size r5 r5 w8 hI5 hI6 HLEN.out HLEN.out
    rw [decide_eq_true rfl] at hsi
    have HSI := Lib.hid hsi
    have HSP := Lib.hid (fun n => by have k := samePairs_any A7 A8 cap7 cap8 w7.heap.size w8.heap.size r7 r7 (w8.drewN n) (hP7.below (Below.drewN_ (Below.refl _ _) n)) (hP8.below (Below.drewN_ (Below.refl _ _) n)) HLEN7.out HLEN7.out; rw [decide_eq_true rfl] at k; exact k)
    clear hb8 hI5 hI6 hP7 hP8 ho8 hn8 ht8 hsi
    rw [HBE.out]
    go_wp2_with fail
    refine HSI.out.mono ?_
    rintro e w9 ⟨rfl, n, rfl⟩
    go_wp2_with fail
    refine (HSP.out n).mono ?_
    rintro e w10 ⟨rfl, n2, rfl⟩
    go_wp2_with fail
    refine (HWK.out _).mono ?_
    rintro e w13 ⟨rfl, hb13⟩
    have HG13 : Hid (Grow w w13) := Grow.trans (show Grow w (w8.drewN (n + n2)) from Below.drewN_ HG8.out (n + n2)) hb13
    clear hb13
    go_wp2
    go_ret
    exact ⟨rfl, HG13.out⟩
  | true =>
    rw [hfar] at HFA
    clear hA hfar
    go_enter Tryz.func4, Tryz.ntmps4
    go_wp2_with fail
    refine HFA.out.mono ?_
    rintro e w1 ⟨rfl, hb1⟩
    have HG1 : Hid (Grow w w1) := hb1
    clear hb1
    go_wp2_with fail
    refine (HWK.out _).mono ?_
    rintro e w13 ⟨rfl, hb13⟩
    have HG13 : Hid (Grow w w13) := HG1.out.trans hb13
    clear hb13
    go_wp2
    go_ret
    exact ⟨rfl, HG13.out⟩

end Go.Proofs.YtfpmkolaiomabaaGreat
