/- ReadL: what the laws' read finds among readings. -/
import Derived.Test.YtinlojealfbbfaaRds
namespace Go.Proofs.Ytinlojealfbbfaa
open Go.RowKit

def RdAt (w : World) (B : Nat) (A : Option Addr) (l : List RdD) : Prop :=
  l = [] ∨ ∃ b off, A = some ⟨b, off, none⟩ ∧ b < B ∧ ∀ i x, l[i]? = some x → ∀ j, j < 3 → w.cell? ⟨b, off + i * 3 + j, none⟩ = (cellsRd x)[j]?
theorem RdAt.at_ {w : World} {B : Nat} {A : Option Addr} {l : List RdD} (h : RdAt w B A l) {k : Nat} (hk : k < l.length) :
    ∃ b off x, A = some ⟨b, off, none⟩ ∧ b < B ∧ (∀ j, j < 3 → w.cell? ⟨b, off + k * 3 + j, none⟩ = (cellsRd x)[j]?) ∧ Hid (l[k]? = some x) := by
  rcases h with rfl | ⟨b, off, rfl, hl, hc⟩
  · simp at hk
  · have hx := List.getElem?_eq_getElem hk
    exact ⟨b, off, l[k], rfl, hl, hc k _ hx, hx⟩
theorem RdAt.below {w w' : World} {B : Nat} {A : Option Addr} {l : List RdD} (h : RdAt w B A l) (hb : Below B w w') : RdAt w' B A l := by
  rcases h with rfl | ⟨b, off, rfl, hl, hc⟩
  · exact .inl rfl
  · exact .inr ⟨b, off, rfl, hl, fun i x hi j hj => (hb.cell (p := ⟨b, off + i * 3 + j, none⟩) hl).trans (hc i x hi j hj)⟩
theorem RdT.at_ {w : World} {lo cap : Nat} {A : Option Addr} {l : List RdD} (h : RdT w lo A cap l) : RdAt w w.heap.size A l := by
  match l, h with
  | [], _ => exact .inl rfl
  | r :: t, h =>
    obtain ⟨g, cs, hA, _, hB, _⟩ := own_rdAt h rfl (k := 0) (r := r) rfl
    refine .inr ⟨g, 0, hA, hB.lt, fun i x hi j hj => ?_⟩
    obtain ⟨g', cs', hA', _, _, hc⟩ := own_rdAt h rfl hi
    rw [hA] at hA'
    injection hA' with hA'
    injection hA' with hA'
    subst hA'
    rw [Nat.zero_add]
    exact hc j hj

def inRd (k : Int) (r : RdD) : Bool := decide (r.frm ≤ k) && decide (k < r.till)
/-- the sets of the readings of a frame -/
def sgAt (l : List RdD) (k : Int) : List Int := (l.filter (inRd k)).map (·.signs)
def readS (l : List RdD) (k : Int) : Int := (sgAt l k).foldl (fun _ s => s) 0
theorem sgAt_snoc (l : List RdD) (r : RdD) (k : Int) : sgAt (l ++ [r]) k = sgAt l k ++ if inRd k r = true then [r.signs] else [] := by
  unfold sgAt
  rw [List.filter_append, List.map_append]
  congr 1
  cases h : inRd k r with
  | true => simp [h]
  | false => simp [h]
structure RdsOK (set : Nat → Nat) (m : Nat) (l : List RdD) : Prop where
  span : ∀ r ∈ l, 0 ≤ r.frm ∧ r.frm < r.till ∧ r.till ≤ m
  at_ : ∀ k : Nat, k < m → sgAt l k = if set k = 0 then [] else [(set k : Int)]
theorem sgAt_out {m : Nat} {l : List RdD} (h : ∀ r ∈ l, 0 ≤ r.frm ∧ r.frm < r.till ∧ r.till ≤ m) : sgAt l (m : Nat) = [] := by
  unfold sgAt
  rw [List.filter_eq_nil_iff.2]
  · rfl
  · intro r hr
    have := h r hr
    simp only [inRd, Bool.and_eq_true, decide_eq_true_eq]
    omega
theorem rdsTo_ok (set : Nat → Nat) : ∀ m, RdsOK set m (rdsTo set m)
  | 0 => ⟨by simp [rdsTo], fun k h => by omega⟩
  | m + 1 => by
    have ih := rdsTo_ok set m
    show RdsOK set (m + 1) (rdStep (rdsTo set m) m (set m))
    have ho := sgAt_out ih.span
    have ha := ih.at_
    have hs := ih.span
    clear ih
    by_cases h0 : set m = 0
    · rw [h0]
      rw [show ((0 : Nat) : Int) = 0 from rfl, rdStep_zero]
      refine ⟨fun r hr => by have := hs r hr; omega, fun k hk => ?_⟩
      rcases Nat.lt_or_ge k m with g | g
      · exact ha k g
      · obtain rfl : k = m := by omega
        rw [ho, if_pos h0]
    · have h0' : (set m : Int) ≠ 0 := by omega
      rcases List.eq_nil_or_concat (rdsTo set m) with e | ⟨l', r, e⟩
      · rw [e] at ha ho ⊢
        rw [rdStep_nil h0']
        refine ⟨fun r hr => ?_, fun k hk => ?_⟩
        · obtain rfl := List.mem_singleton.1 hr
          simp only
          omega
        · rw [show ([⟨(m : Int), (m : Int) + 1, (set m : Int)⟩] : List RdD) = [] ++ [⟨(m : Int), (m : Int) + 1, (set m : Int)⟩] from rfl, sgAt_snoc]
          rcases Nat.lt_or_ge k m with g | g
          · rw [ha k g]
            have : inRd k ⟨(m : Int), (m : Int) + 1, (set m : Int)⟩ = false := by
              simp only [inRd, Bool.and_eq_false_iff, decide_eq_false_iff_not]; omega
            rw [this]; simp
          · obtain rfl : k = m := by omega
            rw [ho]
            have : inRd k ⟨(k : Int), (k : Int) + 1, (set k : Int)⟩ = true := by
              simp only [inRd, Bool.and_eq_true, decide_eq_true_eq]; omega
            rw [this, if_neg h0]; simp
      · rw [List.concat_eq_append] at e
        rw [e] at ha ho hs ⊢
        have hr0 := hs r (by simp)
        by_cases h1 : r.till = (m : Int) ∧ r.signs = (set m : Int)
        · rw [rdStep_join h0' h1.1 h1.2]
          refine ⟨fun q hq => ?_, fun k hk => ?_⟩
          · rcases List.mem_append.1 hq with hq | hq
            · have := hs q (by simp [hq]); omega
            · obtain rfl := List.mem_singleton.1 hq
              simp only
              omega
          · rw [sgAt_snoc]
            rcases Nat.lt_or_ge k m with g | g
            · have hk2 := ha k g
              rw [sgAt_snoc] at hk2
              rw [← hk2]
              have : inRd k ⟨r.frm, (m : Int) + 1, (set m : Int)⟩ = inRd k r := by
                rw [Bool.eq_iff_iff]
                simp only [inRd, Bool.and_eq_true, decide_eq_true_eq]; omega
              rw [this, h1.2]
            · obtain rfl : k = m := by omega
              rw [sgAt_snoc] at ho
              rw [(List.append_eq_nil_iff.1 ho).1]
              have : inRd k ⟨r.frm, (k : Int) + 1, (set k : Int)⟩ = true := by
                simp only [inRd, Bool.and_eq_true, decide_eq_true_eq]; omega
              rw [this, if_neg h0]; simp
        · rw [rdStep_new h0' h1]
          refine ⟨fun q hq => ?_, fun k hk => ?_⟩
          · rcases List.mem_append.1 hq with hq | hq
            · have := hs q hq; omega
            · obtain rfl := List.mem_singleton.1 hq
              simp only
              omega
          · rw [sgAt_snoc]
            rcases Nat.lt_or_ge k m with g | g
            · rw [ha k g]
              have : inRd k ⟨(m : Int), (m : Int) + 1, (set m : Int)⟩ = false := by
                simp only [inRd, Bool.and_eq_false_iff, decide_eq_false_iff_not]; omega
              rw [this]; simp
            · obtain rfl : k = m := by omega
              rw [ho]
              have : inRd k ⟨(k : Int), (k : Int) + 1, (set k : Int)⟩ = true := by
                simp only [inRd, Bool.and_eq_true, decide_eq_true_eq]; omega
              rw [this, if_neg h0]; simp
theorem readS_rds {set : Nat → Nat} {m k : Nat} (hk : k < m) : readS (rdsTo set m) k = set k ∧ (sgAt (rdsTo set m) k).length ≤ 1 := by
  have h := (rdsTo_ok set m).at_ k hk
  unfold readS
  rw [h]
  split
  · rename_i h0; simp [h0]
  · simp

set_option maxRecDepth 100000 in
set_option maxHeartbeats 4000000 in
theorem lread_any (l : List RdD) (A : Option Addr) (cap n : Nat) (k : Int) (w : World) (hA : RdAt w n A l) (hl : l.length ≤ 1000) :
    Calls Try.prog 22 #[.slice A l.length cap, .int .i64 k] w fun e w' => e = .returned (.tuple #[.int .i64 (readS l k), .bool (decide ((sgAt l k).length ≤ 1))]) ∧ w = w' := by
  have HO : Hid (∀ i : Nat, i ≤ l.length → (sgAt (l.take i) k).length ≤ i) := Lib.hid (fun i hi => by
    have h1 : (sgAt (l.take i) k).length ≤ (l.take i).length := by unfold sgAt; rw [List.length_map]; exact List.length_filter_le _ _
    rw [List.length_take] at h1
    omega)
  have HZ : Hid (readS l k = readS (l.take l.length) k ∧ (sgAt l k).length = (sgAt (l.take l.length) k).length) := Lib.hid (by rw [List.take_length]; exact ⟨rfl, rfl⟩)
  obtain ⟨rs, hrs⟩ : ∃ q, readS l k = q := ⟨_, rfl⟩
  obtain ⟨rn, hrn⟩ : ∃ q, (sgAt l k).length = q := ⟨_, rfl⟩
  rw [hrs, hrn] at HZ ⊢
  clear hrs hrn
  go_enter Try.func22, Try.ntmps22
  go_wp2
  go_loop [6, 7, 8] (fun s n i => ∃ (j c : Nat) (v : Int), j ≤ l.length ∧ i = .int .i64 j ∧ s = .int .i64 v ∧ n = .int .i64 c ∧ Hid (v = readS (l.take j) k ∧ c = (sgAt (l.take j) k).length)) (fun _ _ i => l.length - (intOf i).toNat)
  case atStart => exact ⟨0, 0, 0, Nat.zero_le _, rfl, rfl, rfl, Lib.hid ⟨rfl, rfl⟩⟩
  case round =>
    obtain ⟨j, c, v, hj, rfl, rfl, rfl, HV⟩ := hrel
    by_cases hlt : j < l.length
    · obtain ⟨b, off, x, rfl, hb, hc, HX⟩ := hA.at_ hlt
      have e0 := hc 0 (by omega); have e1 := hc 1 (by omega); have e2 := hc 2 (by omega)
      rw [Nat.add_zero] at e0
      obtain ⟨fr, tl, sg⟩ := x
      have hcj : c ≤ j := by rw [HV.out.2]; exact HO.out j hj
      have HT : Hid (l.take (j + 1) = l.take j ++ [⟨fr, tl, sg⟩]) := Lib.hid (take_snoc HX.out)
      have HIN : Hid (readS (l.take (j + 1)) k = (if inRd k ⟨fr, tl, sg⟩ = true then sg else v) ∧ (sgAt (l.take (j + 1)) k).length = c + (if inRd k ⟨fr, tl, sg⟩ = true then 1 else 0)) := Lib.hid (by
        rw [HT.out]
        unfold readS
        rw [sgAt_snoc]
        split
        · rw [List.foldl_append, List.length_append, HV.out.2]; exact ⟨rfl, rfl⟩
        · rw [List.append_nil, HV.out.1, HV.out.2]; exact ⟨rfl, rfl⟩)
      have HQ : Hid (inRd k ⟨fr, tl, sg⟩ = (decide (fr ≤ k) && decide (k < tl))) := rfl
      clear hA hc
      by_cases h1 : fr ≤ k
      · have d1 : decide (fr ≤ k) = true := decide_eq_true h1
        by_cases h2 : k < tl
        · have d2 : decide (k < tl) = true := decide_eq_true h2
          have HF : Hid (sg = readS (l.take (j + 1)) k ∧ c + 1 = (sgAt (l.take (j + 1)) k).length) := Lib.hid (by rw [HIN.out.1, HIN.out.2, HQ.out, d1, d2]; exact ⟨rfl, rfl⟩)
          clear h1 h2
          go_wp2
          go_round
          case rel => exact ⟨j + 1, c + 1, sg, by omega, by go_num, rfl, by go_num, HF⟩
          case measure => simp [intOf]; omega
        · have d2 : decide (k < tl) = false := decide_eq_false h2
          have HF : Hid (v = readS (l.take (j + 1)) k ∧ c = (sgAt (l.take (j + 1)) k).length) := Lib.hid (by rw [HIN.out.1, HIN.out.2, HQ.out, d1, d2]; exact ⟨rfl, rfl⟩)
          clear h1 h2
          go_wp2
          go_round
          case rel => exact ⟨j + 1, c, v, by omega, by go_num, rfl, rfl, HF⟩
          case measure => simp [intOf]; omega
      · have d1 : decide (fr ≤ k) = false := decide_eq_false h1
        have HF : Hid (v = readS (l.take (j + 1)) k ∧ c = (sgAt (l.take (j + 1)) k).length) := Lib.hid (by rw [HIN.out.1, HIN.out.2, HQ.out, d1]; exact ⟨rfl, rfl⟩)
        clear h1
        go_wp2
        go_round
        case rel => exact ⟨j + 1, c, v, by omega, by go_num, rfl, rfl, HF⟩
        case measure => simp [intOf]; omega
    · obtain rfl : j = l.length := by omega
      have HE : Hid (v = rs ∧ c = rn) := Lib.hid ⟨HV.out.1.trans HZ.out.1.symm, HV.out.2.trans HZ.out.2.symm⟩
      obtain ⟨rfl, rfl⟩ := HE.out
      have HCB : Hid (decide ((c : Int) ≤ 1) = decide (c ≤ 1)) := Lib.hid (by rw [decide_eq_decide]; omega)
      clear hA HE
      go_wp2
      exact bodyPost_ret (results_pair45 Try.results22 _ _ _ _ rfl rfl) rfl ⟨congrArg (fun q => Ending.returned (Value.tuple #[Value.int .i64 v, .bool q])) HCB.out, rfl⟩

end Go.Proofs.Ytinlojealfbbfaa
