/- Turned: messages in another order, as the laws turn them. -/
import Derived.Test.YtinlojealfbbfaaCopies
import Derived.Test.YtinlojealfbbfaaMoreM
namespace Go.Proofs.Ytinlojealfbbfaa
open Go.RowKit

theorem GlossAt.take {w : World} {B : Nat} {A : Option Addr} {l : List GlossD} (h : GlossAt w B A l) (p : Nat) : GlossAt w B A (l.take p) := by
  rcases h with rfl | ⟨b, off, e, hl, hc⟩
  · exact .inl (by simp)
  · refine .inr ⟨b, off, e, hl, fun i x hi j hj => hc i x ?_ j hj⟩
    rw [List.getElem?_take] at hi
    split at hi
    · exact hi
    · cases hi
structure MixD where
  at_ : Int
  cut : Int
  twice : Bool
abbrev cellsX (x : MixD) : Array Value := #[.int .i64 x.at_, .int .i64 x.cut, .bool x.twice]
abbrev mixV (x : MixD) : Value := .agg (cellsX x)
def turnTo (l : List GlossD) (a k : Nat) : List GlossD := (List.range k).filterMap fun i => l[(i + a) % l.length]?
theorem turnTo_succ {l : List GlossD} {a k : Nat} {y : GlossD} (h : l[(k + a) % l.length]? = some y) : turnTo l a (k + 1) = turnTo l a k ++ [y] := by
  unfold turnTo
  rw [List.range_succ, List.filterMap_append]
  simp [h]
theorem turnTo_len {l : List GlossD} {a : Nat} (h : 0 < l.length) : ∀ k, (turnTo l a k).length = k
  | 0 => rfl
  | k + 1 => by
    have hlt := Nat.mod_lt (k + a) h
    rw [turnTo_succ (List.getElem?_eq_getElem hlt), List.length_append, turnTo_len h k]
    rfl
theorem turnTo_mem {l : List GlossD} {a : Nat} {x : GlossD} : x ∈ turnTo l a l.length ↔ x ∈ l := by
  unfold turnTo
  rw [List.mem_filterMap]
  constructor
  · rintro ⟨i, _, h⟩
    exact List.mem_of_getElem? h
  · intro hx
    obtain ⟨j, hj⟩ := List.getElem?_of_mem hx
    have hjl := lt_of_at hj
    have hn : 0 < l.length := by omega
    refine ⟨(j + (l.length - a % l.length)) % l.length, List.mem_range.2 (Nat.mod_lt _ hn), ?_⟩
    have e : ((j + (l.length - a % l.length)) % l.length + a) % l.length = j := by
      have h1 := Nat.mod_lt a hn
      have h2 := Nat.div_add_mod a l.length
      rw [Nat.mod_add_mod]
      have h3 : j + (l.length - a % l.length) + a = j + l.length * (1 + a / l.length) := by rw [Nat.mul_add]; omega
      rw [h3, Nat.add_mul_mod_self_left, Nat.mod_eq_of_lt hjl]
    rw [e]
    exact hj
def turnD (l : List GlossD) (a : Nat) (tw : Bool) : List GlossD := turnTo l a l.length ++ if tw = true then l else []
theorem turnD_mem {l : List GlossD} {a : Nat} {tw : Bool} {x : GlossD} : x ∈ turnD l a tw ↔ x ∈ l := by
  unfold turnD
  rw [List.mem_append, turnTo_mem]
  cases tw <;> simp
theorem turnTo_len' (l : List GlossD) (a : Nat) : (turnTo l a l.length).length = l.length := by
  rcases Nat.eq_zero_or_pos l.length with h | h
  · rw [List.eq_nil_of_length_eq_zero h]; rfl
  · exact turnTo_len h _
theorem turnD_len (l : List GlossD) (a : Nat) (tw : Bool) : l.length ≤ (turnD l a tw).length ∧ (turnD l a tw).length ≤ 2 * l.length := by
  unfold turnD
  rw [List.length_append, turnTo_len']
  cases tw <;> simp <;> omega

set_option maxRecDepth 100000 in
set_option maxHeartbeats 8000000 in
theorem turned_any (l : List GlossD) (A : Option Addr) (cap n0 : Nat) (a : Nat) (ct : Int) (tw : Bool) (w : World) (hA : GlossAt w n0 A l) (hn0 : n0 ≤ w.heap.size) (hl : l.length ≤ 1000) (ha : a ≤ 1000) :
    Calls Try.prog 14 #[.slice A l.length cap, mixV ⟨(a : Nat), ct, tw⟩] w fun e w' => ∃ A' c', e = .returned (.slice A' (turnD l a tw).length c') ∧ GlossT w' w.heap.size A' c' (turnD l a tw) ∧ Below w.heap.size w w' := by
  obtain ⟨j0, hj, hy0, hy1, hy2⟩ := info_parts Try.infoGloss
  have HGL := Lib.hid (fun (w0 : World) (hw : Grow w w0) => ((hA.more hn0).below hw).more hw.size)
  have HD : Hid (turnD l a tw = turnTo l a l.length ++ if tw = true then l else []) := rfl
  have HTL := Lib.hid (turnTo_len' l a)
  generalize turnD l a tw = res at HD ⊢
  clear hA hn0
  go_enter Try.func14, Try.ntmps14
  go_upto_region 1 with fail
  obtain ⟨W, hW, hg, hf, hsz⟩ := one_block w 27 (cellsX ⟨(a : Nat), ct, tw⟩)
  rw [hW]
  clear hW
  have HF := Lib.hid hf
  have HG := Lib.hid hg
  clear hf hg
  go_wp2_with fail
  go_loopw [5, 6] (fun v iv wr => ∃ (k : Nat) (acc : List GlossD) (A' : Option Addr) (c' : Nat), k ≤ l.length ∧ iv = .int .i64 k ∧ v = .slice A' acc.length c' ∧ Hid (acc = turnTo l a k ∧ acc.length = k) ∧ GlossT wr W.heap.size A' c' acc ∧ Grow W wr) (fun _ v _ => l.length - (intOf v).toNat)
  case atStart => exact ⟨0, [], none, 0, Nat.zero_le _, rfl, rfl, Lib.hid ⟨rfl, rfl⟩, own_nilG _ _, Grow.refl _⟩
  case round =>
    obtain ⟨k, acc, A', c', hk, rfl, rfl, HAC, hT, hgr⟩ := hrel
    rename World => wr
    have HT := Lib.hid hT
    have HGR := Lib.hid hgr
    have hmc := (hgr.block HF.out).cell
    clear hT hgr
    by_cases hlt : k < l.length
    · have hkd : decide ((k : Int) < (l.length : Int)) = true := decide_eq_true (by omega)
      have hkdn : decide (k < l.length) = true := decide_eq_true hlt
      have hml : (k + a) % l.length < l.length := Nat.mod_lt _ (by omega)
      obtain ⟨b, off, y, rfl, hb, hc, HX⟩ := (HGL.out wr (HG.out.trans HGR.out)).at_ hml
      have HTS := Lib.hid (turnTo_succ HX.out)
      have hmod : Int.tmod ((k : Int) + (a : Int)) (l.length : Int) = (((k + a) % l.length : Nat) : Int) := by
        rw [← Int.natCast_add, ← Int.ofNat_tmod]
      obtain ⟨m, hm⟩ : ∃ q, (k + a) % l.length = q := ⟨_, rfl⟩
      rw [hm] at hml hc HX hmod
      have hne : decide ((l.length : Int) = 0) = false := decide_eq_false (by omega)
      have hneb : ((l.length : Int) == 0) = false := by rw [beq_eq_false_iff_ne]; omega
      have hki : (m : Int) < (l.length : Int) := Int.ofNat_lt.2 hml
      have hk0 : (0 : Int) ≤ (m : Int) := Int.natCast_nonneg m
      have e0 := hc 0 (by omega); have e1 := hc 1 (by omega); have e2 := hc 2 (by omega); have e3 := hc 3 (by omega); have e4 := hc 4 (by omega); have e5 := hc 5 (by omega)
      rw [Nat.add_zero] at e0
      have hak : acc.length = k := HAC.out.2
      have HAK := Lib.hid hak
      have HOA := Lib.hid (own_grow HT.out (Grow.alloc wr (.cells (cellsG y) 55)))
      have ha9 : acc.length ≤ 1000 := by omega
      have hsz1 := HGR.out.size
      have hsz2 := HG.out.size
      clear hc hb hm hak
      go_wp2_with (at_builtin; go_loud (refine wpList_append_gloss rfl _ _ 25 rfl W.heap.size 55 j0 (.agg #[.int .i64 0, .int .i64 0, .int .i64 0, .int .i64 0, .int .i64 0, .int .i64 0]) 48 Try.underlying25 hj hy0 hy1 hy2 rfl _ acc.length (acc.flatMap cellsGL) rfl HOA.out (some ⟨wr.heap.size, 0, none⟩) 1 1 _ [y] rfl rfl (news_gloss (BlockIs.new _ _ _)) ?c2 ?c3 ?c4 ?_))
      case c2 => unfold maxLen; omega
      case c3 => omega
      case c4 => simp; omega
      intro v' w5 hown hgr
      obtain ⟨An, cn, rfl⟩ := own_form hown
      have HN3 : Hid (acc.length + 1 = (acc ++ [y]).length) := Lib.hid (by simp)
      have HT5 : Hid (GlossT w5 W.heap.size An cn (acc ++ [y])) := Lib.hid (by
        unfold GlossT
        rw [← HN3.out, List.flatMap_append]
        exact hown)
      have HG5 : Hid (Grow W w5) := Lib.hid (below_grown (HGR.out.trans (Grow.alloc _ _)) HOA.out hgr (by simp; omega))
      clear hown hgr HOA
      go_wp2
      go_roundw
      case rel => exact ⟨k + 1, acc ++ [y], An, cn, hlt, by go_num, congrArg (fun z => Value.slice An z cn) HN3.out, Lib.hid ⟨by rw [HTS.out, HAC.out.1], by rw [← HN3.out, HAK.out]⟩, HT5.out, HG5.out⟩
      case measure => simp [intOf]; omega
    · obtain rfl : k = l.length := by omega
      have hkd : decide ((l.length : Int) < (l.length : Int)) = false := by simp
      have hkdn : decide (l.length < l.length) = false := by simp
      have HTK : Hid (acc = turnTo l a l.length) := Lib.hid HAC.out.1
      have hak : acc.length = l.length := HAC.out.2
      have ha9 : acc.length ≤ 1000 := by omega
      have hsz1 := HGR.out.size
      have HGA := Lib.hid (HGL.out wr (HG.out.trans HGR.out))
      have HZ := Lib.hid HG.out.size
      clear hlt HAC hak
      cases tw with
      | false =>
        have HE : Hid (acc = res) := Lib.hid (by rw [HD.out, HTK.out]; simp)
        obtain rfl := HE.out
        go_wp2
        go_ret
        exact ⟨A', c', rfl, HT.out.mono HZ.out, HG.out.trans HGR.out⟩
      | true =>
        go_wp2_with (at_builtin; go_loud (refine wpList_append_gloss rfl _ _ 25 rfl W.heap.size 55 j0 (.agg #[.int .i64 0, .int .i64 0, .int .i64 0, .int .i64 0, .int .i64 0, .int .i64 0]) 48 Try.underlying25 hj hy0 hy1 hy2 rfl _ acc.length (acc.flatMap cellsGL) rfl HT.out A l.length cap _ l rfl rfl HGA.out ?c2 ?c3 ?c4 ?_))
        case c2 => unfold maxLen; omega
        case c3 => omega
        intro v' w5 hown hgr
        obtain ⟨An, cn, rfl⟩ := own_form hown
        have HN3 : Hid (acc.length + l.length = res.length) := Lib.hid (by rw [HD.out, ← HTK.out]; simp)
        have HT5 : Hid (GlossT w5 W.heap.size An cn res) := Lib.hid (by
          unfold GlossT
          rw [← HN3.out, HD.out, ← HTK.out]
          simp only [if_true]
          rw [List.flatMap_append]
          exact hown)
        have HG5 : Hid (Grow W w5) := Lib.hid (below_grown HGR.out HT.out hgr hsz1)
        clear hown hgr
        go_wp2
        go_ret
        exact ⟨An, cn, congrArg (fun z => Ending.returned (Value.slice An z cn)) HN3.out, HT5.out.mono HZ.out, HG.out.trans HG5.out⟩

end Go.Proofs.Ytinlojealfbbfaa
