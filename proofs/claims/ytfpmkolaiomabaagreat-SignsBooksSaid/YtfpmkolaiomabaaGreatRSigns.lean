/- RSigns: the specification's signs. -/
import Derived.Test.YtfpmkolaiomabaaGreatTwL
namespace Go.Proofs.YtfpmkolaiomabaaGreat
open Go.RowKit

set_option maxRecDepth 100000 in
set_option maxHeartbeats 4000000 in
theorem rsigns_any (A : Option Addr) (cap B : Nat) (l : List EntryR) (w : World) (hA : Ents w B A l) (hl : l.length ≤ 1000000) (hB : B ≤ w.heap.size) :
    Calls Tryz.prog 69 #[.slice A l.length cap] w fun e w' => ∃ A2 cap2, e = .returned (.slice A2 (signsTo l 1000).length cap2) ∧ IntsF w' w.heap.size A2 (signsTo l 1000) ∧ Below w.heap.size w w' := by
  obtain ⟨i0, hi, hz0, hz1, hz2⟩ := info_parts Tryz.infoInt
  have HE := Lib.hid (hA.more hB)
  clear hA
  go_enter Tryz.func69, Tryz.ntmps69
  go_wp2
  go_loopw [3, 4] (fun v i wr => ∃ (k : Nat) (A2 : Option Addr) (cap2 n : Nat) (rs : List Int), k ≤ 1000 ∧ i = .int .i64 k ∧ v = .slice A2 n cap2 ∧ Hid (rs = signsTo l k) ∧ Hid (n = rs.length) ∧ n ≤ k ∧ wr.ownsRow w.heap.size 3 1 (.slice A2 n cap2) n (rs.map (Value.int .i64)) ∧ Below w.heap.size w wr) (fun _ i _ => (1000 - intOf i).toNat)
  case atStart => exact ⟨0, none, 0, 0, [], by omega, rfl, rfl, rfl, rfl, by omega, by simp [World.ownsRow], Below.refl _ _⟩
  case round =>
    obtain ⟨k, A2, cap2, n, rs, hk, rfl, rfl, HRS, HN, hnk, hown, hbw⟩ := hrel
    rename World => wr
    have HGR : Hid (Grow w wr) := hbw
    have HOWN := Lib.hid hown
    have hzr := hbw.size
    clear hown hbw
    by_cases hlt : k < 1000
    · have hk9 : (k : Int) ≤ 999 := by omega
      have HSU := Lib.hid (signsTo_succ l k)
      go_wp2_with fail
      go_loopw [3, 5] (fun v i wi => ∃ m : Nat, m ≤ l.length ∧ v = .slice A2 n cap2 ∧ i = .int .i64 m ∧ Hid (hasSign (l.take m) k = false) ∧ Grow wr wi) (fun _ i _ => l.length - (intOf i).toNat)
      case atStart => exact ⟨0, Nat.zero_le _, rfl, rfl, rfl, Grow.refl _⟩
      case round =>
        obtain ⟨m, hm, rfl, rfl, HFN, hgr⟩ := hrel
        rename World => wi
        have HGI := Lib.hid hgr
        have hzi := hgr.size
        clear hgr
        by_cases hlt2 : m < l.length
        · obtain ⟨b, off, x, rfl, hb, hc, hmv, HX⟩ := (HE.out.below (HGR.out.trans HGI.out)).at_ hlt2
          have e1 := hc 1 (by omega)
          have hl1 : (m : Int) < l.length := by omega
          have HSN : Hid (hasSign (l.take (m + 1)) k = (hasSign (l.take m) k || x.d.sign == (k : Int))) := by
            refine Lib.hid ?_
            unfold hasSign
            rw [take_snoc HX.out, List.any_append]
            simp
          clear hc hmv hb
          by_cases hid : x.d.sign = k
          · have HFS : Hid (hasSign l k = true) := by
              refine Lib.hid ?_
              unfold hasSign
              rw [List.any_eq_true]
              exact ⟨x, List.mem_of_getElem? HX.out, by simp [hid]⟩
            have hd : decide (x.d.sign = (k : Int)) = true := decide_eq_true hid
            have hd2 : (x.d.sign == (k : Int)) = true := by simpa using hid
            have HOWN3 := Lib.hid (own_grow HOWN.out HGI.out)
            clear hid HSN
            go_wp2_with (at_builtin; refine wpList_append_own _ rfl _ _ 22 rfl w.heap.size 3 i0 (.int .i64 0) 1 8 Tryz.underlying22 hi hz0 hz1 hz2 rfl (by decide) _ _ _ rfl (HOWN3.out.alloc _) ⟨wi.heap.size, 0, none⟩ 1 1 [.int .i64 k] rfl rfl ?c1 ?c2 ?c3 ?c4 ?c5 ?_)
            case c1 => exact news_one (BlockIs.new _ 3 _)
            case c2 => simp [Value.oneCell']
            case c3 => unfold maxLen; omega
            case c4 => omega
            case c5 => first | omega | (simp; omega) | (have := wi.size_alloc; simp [World.alloc]; omega)
            intro v' w6 hown' hgrow _
            obtain ⟨A3, cap3, rfl⟩ := own_form hown'
            have hb1 := below_grown ((HGR.out.trans HGI.out).trans (Grow.alloc _ _)) (HOWN3.out.alloc _) hgrow (by simp; omega)
            have hrs : rs ++ [(k : Int)] = signsTo l (k + 1) := by rw [HSU.out, HFS.out, HRS.out]; rfl
            have HRS2 := Lib.hid hrs
            have HO := Lib.hid hown'
            have HB1 := Lib.hid hb1
            clear hown' hgrow hb1 hrs
            go_wp2
            go_roundw
            case rel => exact ⟨k + 1, A3, cap3, n + 1, rs ++ [(k : Int)], by omega, by go_num, rfl, HRS2, Lib.hid (by rw [HN.out]; simp), by omega, by rw [List.map_append]; exact HO.out, HB1.out⟩
            case measure => simp [intOf]; omega
          · have hd : decide (x.d.sign = (k : Int)) = false := decide_eq_false hid
            have hd2 : (x.d.sign == (k : Int)) = false := by simpa using hid
            have HFN2 : Hid (hasSign (l.take (m + 1)) k = false) := by
              refine Lib.hid ?_
              rw [HSN.out, HFN.out]
              simpa using hid
            clear hid HSN
            go_wp2_with fail
            go_roundw
            case rel => exact ⟨m + 1, by omega, rfl, by go_num, HFN2, HGI.out⟩
            case measure => simp [intOf]; omega
        · obtain rfl : m = l.length := by omega
          have HRS2 : Hid (rs = signsTo l (k + 1)) := by
            refine Lib.hid ?_
            have h1 := HFN.out
            rw [List.take_length] at h1
            rw [HSU.out, h1, HRS.out]
            simp
          go_wp2_with fail
          go_roundw
          case rel => exact ⟨k + 1, A2, cap2, n, rs, by omega, by go_num, rfl, HRS2, HN, by omega, own_grow HOWN.out HGI.out, HGR.out.trans HGI.out⟩
          case measure => simp [intOf]; omega
    · obtain rfl : k = 1000 := by omega
      have HRES := Lib.hid (own_intsF (xs := rs) HOWN.out)
      rw [HRS.out] at HRES
      have HN2 : Hid (n = (signsTo l 1000).length) := Lib.hid (by rw [← HRS.out]; exact HN.out)
      clear HOWN HRS HN
      go_wp2
      go_ret
      exact ⟨A2, cap2, (by rw [HN2.out] <;> rfl), HRES.out, HGR.out⟩

end Go.Proofs.YtfpmkolaiomabaaGreat
