/- Bias: the biases that are left for each judge: wrong, biases, narrow. -/
import Derived.Test.YthehkgpnnndboaaDoorTurn
import Derived.Test.YthehkgpnnndboaaDoorValid
import Derived.BigQuiet
namespace Go.Proofs.YthehkgpnnndboaaDoor
open Go.RowKit

abbrev cellsB (l : List (Int × Int)) : Array Value := #[.int .i64 (l[0]?.getD (0, 0)).1, .int .i64 (l[0]?.getD (0, 0)).2, .int .i64 (l[1]?.getD (0, 0)).1, .int .i64 (l[1]?.getD (0, 0)).2, .int .i64 (l[2]?.getD (0, 0)).1, .int .i64 (l[2]?.getD (0, 0)).2, .int .i64 (l[3]?.getD (0, 0)).1, .int .i64 (l[3]?.getD (0, 0)).2]
theorem cellsB_at (l : List (Int × Int)) : ∀ {k : Nat}, k < 4 → (cellsB l)[k * 2]? = some (.int .i64 (l[k]?.getD (0, 0)).1) ∧ (cellsB l)[k * 2 + 1]? = some (.int .i64 (l[k]?.getD (0, 0)).2)
  | 0, _ => ⟨rfl, rfl⟩
  | 1, _ => ⟨rfl, rfl⟩
  | 2, _ => ⟨rfl, rfl⟩
  | 3, _ => ⟨rfl, rfl⟩
  | k + 4, h => by omega
theorem cellsB_set {l : List (Int × Int)} (hl : l.length = 4) (s : Int × Int) {k : Nat} (hk : k < 4) : ((cellsB l).setIfInBounds (k * 2) (.int .i64 s.1)).setIfInBounds (k * 2 + 1) (.int .i64 s.2) = cellsB (l.set k s) := by
  match l, hl with
  | [a, b, c, d], _ =>
    match k, hk with
    | 0, _ => rfl
    | 1, _ => rfl
    | 2, _ => rfl
    | 3, _ => rfl
    | k + 4, h => omega
theorem getD_d {p : PaperR} {k : Nat} {x : JudgeR} (h : p.judges[k]? = some x) : p.d.judges.getD k noJ = x.d := by
  unfold PaperR.d
  rw [List.getD_eq_getElem?_getD, List.getElem?_map, h]
  rfl
theorem d_len (p : PaperR) : p.d.judges.length = p.judges.length := List.length_map _
theorem or_key : ∀ a < 16, ∀ k < 4, bits .or .i64 ((a : Nat) : Int) (2 ^ k : Int) = ((a ||| 2 ^ k : Nat) : Int) := by decide +kernel
set_option maxRecDepth 100000 in
set_option maxHeartbeats 4000000 in
theorem wrong_any (p : PaperR) (ps : List Int) (w : World) (h4 : p.judges.length ≤ 4) :
    Calls Tryd.prog 68 #[paperV p, .agg (cellsB (biasP p.d.judges ps))] w fun e w' => e = .returned (.int .i64 (wrongS p.d.judges ps : Nat)) ∧ Below w.heap.size w w' := by
  have HD := Lib.hid (d_len p)
  have HLT := Lib.hid (fun k => wrongTo_lt p.d.judges ps k)
  have HAT := Lib.hid (fun (k : Nat) (hk : k < p.d.judges.length) => biasP_at p.d.judges ps hk)
  have HST : Hid (∀ k, wrongTo p.d.judges ps (k + 1) = if rightJ (p.d.judges.getD k noJ) ps then wrongTo p.d.judges ps k else wrongTo p.d.judges ps k ||| 2 ^ k) := Lib.hid (fun _ => rfl)
  have HRJ : Hid (∀ k, rightJ (p.d.judges.getD k noJ) ps = decide ((spanJ (p.d.judges.getD k noJ) ps).1 ≤ (spanJ (p.d.judges.getD k noJ) ps).2)) := Lib.hid (fun _ => rfl)
  have HWS : Hid (wrongS p.d.judges ps = wrongTo p.d.judges ps p.judges.length) := Lib.hid (by unfold wrongS; rw [d_len])
  obtain ⟨wf, hwf⟩ : ∃ z, wrongTo p.d.judges ps = z := ⟨_, rfl⟩
  rw [hwf] at HLT HST HWS
  rw [HWS.out]
  obtain ⟨l, hl⟩ : ∃ z, biasP p.d.judges ps = z := ⟨_, rfl⟩
  rw [hl] at HAT ⊢
  have h0 : wf 0 = 0 := by rw [← hwf]; rfl
  clear hwf hl
  have hl0 : (0 : Int) ≤ (p.judges.length : Int) := by omega
  go_enter Tryd.func68, Tryd.ntmps68
  go_upto_region 1 with fail
  obtain ⟨W, hW, hg, hf, hx, hsz⟩ := two_blocks w 73 107 (cellsP p) (cellsB l)
  rw [hW]
  clear hW
  have HG := Lib.hid hg
  have HF := Lib.hid hf
  have HX := Lib.hid hx
  have hcc := hf.cell
  clear hf hx hg
  go_wp2_with fail
  go_loopw [5, 11] (fun sv iv wr => ∃ k : Nat, k ≤ p.judges.length ∧ iv = .int .i64 (k : Nat) ∧ sv = .int .i64 (wf k : Nat) ∧ Grow W wr) (fun _ iv _ => p.judges.length - (intOf iv).toNat)
  case atStart => exact ⟨0, Nat.zero_le _, rfl, by rw [h0]; rfl, Grow.refl _⟩
  case round =>
    obtain ⟨k, hk, rfl, rfl, hgr⟩ := hrel
    have HGR := Lib.hid hgr
    have hlt16 := HLT.out k
    by_cases hlt : k < p.judges.length
    · have hd : decide ((k : Int) < (p.judges.length : Int)) = true := decide_eq_true (by omega)
      have hxc := (HGR.out.block HX.out).cell
      obtain ⟨hc0, hc1⟩ := cellsB_at l (show k < 4 by omega)
      have e0 : wr.cell? ⟨w.heap.size + 1, k * 2, none⟩ = some (.int .i64 (l[k]?.getD (0, 0)).1) := (hxc _).trans hc0
      have e1 : wr.cell? ⟨w.heap.size + 1, k * 2 + 1, none⟩ = some (.int .i64 (l[k]?.getD (0, 0)).2) := (hxc _).trans hc1
      have hld : l[k]?.getD (0, 0) = spanJ (p.d.judges.getD k noJ) ps := by rw [HAT.out k (by rw [HD.out]; exact hlt)]; rfl
      rw [hld] at e0 e1
      have hrj := HRJ.out k
      have hst := HST.out k
      obtain ⟨s, hs⟩ : ∃ z, spanJ (p.d.judges.getD k noJ) ps = z := ⟨_, rfl⟩
      rw [hs] at e0 e1 hrj
      obtain ⟨s1, s2⟩ := s
      dsimp only at e0 e1 hrj
      have HRJ2 := Lib.hid hrj
      have HST2 := Lib.hid hst
      have hk4 : (k : Int) < 4 := by omega
      have hk0 : (0 : Int) ≤ (k : Int) := by omega
      clear hrj hst hld hs hc0 hc1 hxc
      by_cases hq : s2 < s1
      · have hdq : decide (s2 < s1) = true := decide_eq_true hq
        have HN : Hid (wf (k + 1) = wf k ||| 2 ^ k) := Lib.hid (by rw [HST2.out, HRJ2.out, decide_eq_false (by omega), if_neg Bool.false_ne_true])
        have hk64 : k ≤ 64 := by omega
        have hpI : ((2 : Int) ^ k) = ((2 ^ k : Nat) : Int) := (Int.natCast_pow 2 _).symm
        have hp8 : 2 ^ k ≤ 8 := Nat.pow_le_pow_right (n := 2) (by omega) (show k ≤ 3 by omega)
        have hor := or_key (wf k) (by omega) k (by omega)
        rw [hpI] at hor
        obtain ⟨z, hz⟩ : ∃ z, 2 ^ k = z := ⟨_, rfl⟩
        rw [hz] at hpI hp8 hor HN
        have hwr : IntKind.i64.wrap ((2 : Int) ^ k) = (z : Int) := by rw [hpI]; exact IntWalk.i64_in _ (by omega)
        have HOR := Lib.hid hor
        clear hpI hz hor
        go_wp2_with fail
        go_quiet (fail)
        go_wp2_with fail
        go_roundw
        case rel => exact ⟨k + 1, by omega, by go_num, by rw [HN.out, ← HOR.out], Below.drewN_ HGR.out _⟩
        case measure => simp [intOf]; omega
      · have hdq : decide (s2 < s1) = false := decide_eq_false hq
        have HN : Hid (wf (k + 1) = wf k) := Lib.hid (by rw [HST2.out, HRJ2.out, decide_eq_true (by omega), if_pos rfl])
        go_wp2_with fail
        go_quiet (fail)
        go_wp2_with fail
        go_roundw
        case rel => exact ⟨k + 1, by omega, by go_num, by rw [HN.out], Below.drewN_ HGR.out _⟩
        case measure => simp [intOf]; omega
    · obtain rfl : k = p.judges.length := by omega
      have hd : decide ((p.judges.length : Int) < (p.judges.length : Int)) = false := decide_eq_false (by omega)
      go_wp2
      go_ret
      exact ⟨rfl, HG.out.trans HGR.out⟩

/-- the biases before any item is looked at, the first k of them -/
def startK (js : List JudgeI) (k : Nat) : List (Int × Int) := (js.take k).map (fun j => spanJ j []) ++ List.replicate (4 - k) (0, 0)
theorem startK_len {js : List JudgeI} (h4 : js.length ≤ 4) {k : Nat} (hk : k ≤ js.length) : (startK js k).length = 4 := by
  unfold startK
  rw [List.length_append, List.length_map, List.length_take, List.length_replicate]
  omega
theorem startK_succ {js : List JudgeI} (h4 : js.length ≤ 4) {k : Nat} (hk : k < js.length) : startK js (k + 1) = (startK js k).set k (spanJ (js.getD k noJ) []) := by
  have ht : js.take (k + 1) = js.take k ++ [js.getD k noJ] := by
    rw [List.take_add_one, List.getD_eq_getElem?_getD, List.getElem?_eq_getElem hk]
    rfl
  have hl : ((js.take k).map fun j => spanJ j []).length = k := by rw [List.length_map, List.length_take]; omega
  have hr : List.replicate (4 - k) ((0 : Int), (0 : Int)) = (0, 0) :: List.replicate (4 - (k + 1)) (0, 0) := by
    rw [show 4 - k = (4 - (k + 1)) + 1 by omega, List.replicate_succ]
  unfold startK
  rw [ht, List.map_append, List.append_assoc, List.set_append_right _ _ (by rw [hl]; exact Nat.le_refl k), hl, Nat.sub_self, hr]
  rfl
theorem startK_all (js : List JudgeI) : startK js js.length = biasP js [] := by unfold startK biasP; rw [List.take_length]
theorem biasK_len {js : List JudgeI} (h4 : js.length ≤ 4) (ps : List Int) (x : Int) {k : Nat} (hk : k ≤ js.length) : (biasK js ps x k).length = 4 := by
  unfold biasK
  simp only [List.length_append, List.length_map, List.length_take, List.length_drop, List.length_replicate]
  omega
theorem block_congr {w : World} {b : Nat} {t : TypeId} {c c' : Array Value} (e : c = c') (h : BlockIs w b t c) : BlockIs w b t c' := e ▸ h
/-- two cells of the array stored -/
theorem bias_store {w : World} {b : Nat} {l : List (Int × Int)} (h : BlockIs w b 107 (cellsB l)) (hl : l.length = 4) {k : Nat} (hk : k < 4) (s : Int × Int) :
    BlockIs ((w.setCell ⟨b, k * 2, none⟩ (.int .i64 s.1)).setCell ⟨b, k * 2 + 1, none⟩ (.int .i64 s.2)) b 107 (cellsB (l.set k s)) :=
  block_congr (cellsB_set hl s hk) ((h.near (k * 2) (.int .i64 s.1)).near (k * 2 + 1) (.int .i64 s.2))
theorem eight_stores {w : World} {b : Nat} {t : TypeId} {c0 c1 c2 c3 c4 c5 c6 c7 : Value} (h : BlockIs w b t #[c0, c1, c2, c3, c4, c5, c6, c7]) (v0 v1 v2 v3 v4 v5 v6 v7 : Value) :
    BlockIs ((((((((w.setCell ⟨b, 0, none⟩ v0).setCell ⟨b, 1, none⟩ v1).setCell ⟨b, 2, none⟩ v2).setCell ⟨b, 3, none⟩ v3).setCell ⟨b, 4, none⟩ v4).setCell ⟨b, 5, none⟩ v5).setCell ⟨b, 6, none⟩ v6).setCell ⟨b, 7, none⟩ v7) b t #[v0, v1, v2, v3, v4, v5, v6, v7] :=
  have h2 : BlockIs ((w.setCell ⟨b, 0, none⟩ v0).setCell ⟨b, 1, none⟩ v1) b t #[v0, v1, c2, c3, c4, c5, c6, c7] := (h.near 0 v0).near 1 v1
  have h4 := (show BlockIs _ b t #[v0, v1, v2, v3, c4, c5, c6, c7] from (h2.near 2 v2).near 3 v3)
  have h6 := (show BlockIs _ b t #[v0, v1, v2, v3, v4, v5, c6, c7] from (h4.near 4 v4).near 5 v5)
  (h6.near 6 v6).near 7 v7
theorem eight_below {w : World} {B b : Nat} (hb : B ≤ b) (v0 v1 v2 v3 v4 v5 v6 v7 : Value) : Below B w ((((((((w.setCell ⟨b, 0, none⟩ v0).setCell ⟨b, 1, none⟩ v1).setCell ⟨b, 2, none⟩ v2).setCell ⟨b, 3, none⟩ v3).setCell ⟨b, 4, none⟩ v4).setCell ⟨b, 5, none⟩ v5).setCell ⟨b, 6, none⟩ v6).setCell ⟨b, 7, none⟩ v7) :=
  ((((((((Below.refl B w).setCell (p := ⟨b, 0, none⟩) hb v0).setCell (p := ⟨b, 1, none⟩) hb v1).setCell (p := ⟨b, 2, none⟩) hb v2).setCell (p := ⟨b, 3, none⟩) hb v3).setCell (p := ⟨b, 4, none⟩) hb v4).setCell (p := ⟨b, 5, none⟩) hb v5).setCell (p := ⟨b, 6, none⟩) hb v6).setCell (p := ⟨b, 7, none⟩) hb v7
theorem judge_at {w : World} {B : Nat} {p : PaperR} (hA : PaperAt w B p) {k : Nat} (hk : k < p.judges.length) :
    ∃ b off x, p.ja = some ⟨b, off, none⟩ ∧ b < B ∧ w.cell? ⟨b, off + k * 4, none⟩ = some (.int .i64 x.d.lo) ∧ w.cell? ⟨b, off + k * 4 + 1, none⟩ = some (.int .i64 x.d.hi) ∧ w.cell? ⟨b, off + k * 4 + 2, none⟩ = some (.int .i64 x.d.err) ∧ w.cell? ⟨b, off + k * 4 + 3, none⟩ = some (.slice x.a x.d.marks.length x.c) ∧ Hid (p.judges[k]? = some x) ∧ Hid (p.d.judges.getD k noJ = x.d) := by
  obtain ⟨b, off, x, h1, h2, h3, h4⟩ := hA.judges.at_ hk
  exact ⟨b, off, x, h1, h2, h3 0 (by omega), h3 1 (by omega), h3 2 (by omega), h3 3 (by omega), h4, Lib.hid (getD_d h4)⟩

end Go.Proofs.YthehkgpnnndboaaDoor
