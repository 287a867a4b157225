/- ROver: the specification's Overlap, Agrees and Size. -/
import Derived.Test.YtinlojealfbbfaaReadings
namespace Go.Proofs.Ytinlojealfbbfaa
open Go.RowKit

/-- glosses of one film that share a frame, as the specification has it -/
def overD (x y : GlossD) : Bool := (decide (x.film = y.film) && decide (x.frm < y.to)) && decide (y.frm < x.to)

set_option maxRecDepth 100000 in
set_option maxHeartbeats 800000 in
theorem rOverlap_any (x y : GlossD) (w : World) :
    Calls Try.prog 84 #[glossV x, glossV y] w fun e w' => e = .returned (.bool (overD x y)) ∧ Below w.heap.size w w' := by
  have HO : Hid (overD x y = ((decide (x.film = y.film) && decide (x.frm < y.to)) && decide (y.frm < x.to))) := rfl
  generalize overD x y = r at HO ⊢
  obtain ⟨a, b, c, d, e, f⟩ := x
  obtain ⟨a', b', c', d', e', f'⟩ := y
  dsimp only at HO
  go_enter Try.func84, Try.ntmps84
  go_upto_region 1 with fail
  obtain ⟨W, hW, hg, hf, hf', hsz⟩ := two_blocks w 55 55 (cellsG ⟨a, b, c, d, e, f⟩) (cellsG ⟨a', b', c', d', e', f'⟩)
  rw [hW]
  clear hW
  have hcc := hf.cell
  have hcc' := hf'.cell
  have HG := Lib.hid hg
  clear hf hf' hg
  by_cases h1 : c = c'
  · have d1 : decide (c = c') = true := decide_eq_true h1
    have b1 : (c == c') = true := by simpa using h1
    clear h1
    by_cases h2 : d < e'
    · have d2 : decide (d < e') = true := decide_eq_true h2
      have HR : Hid (r = decide (d' < e)) := Lib.hid (by rw [HO.out, d1, d2]; rfl)
      clear h2
      go_wp2
      go_ret
      exact ⟨ret_bool HR.out.symm, HG.out⟩
    · have d2 : decide (d < e') = false := decide_eq_false h2
      have HR : Hid (r = false) := Lib.hid (by rw [HO.out, d2]; simp)
      clear h2
      go_wp2
      go_ret
      exact ⟨ret_bool HR.out.symm, HG.out⟩
  · have d1 : decide (c = c') = false := decide_eq_false h1
    have b1 : (c == c') = false := by simpa using h1
    have HR : Hid (r = false) := Lib.hid (by rw [HO.out, d1]; simp)
    clear h1
    go_wp2
    go_ret
    exact ⟨ret_bool HR.out.symm, HG.out⟩

theorem all_take_succ {α : Type} (q : α → Bool) {l : List α} {k : Nat} {x : α} (hx : l[k]? = some x) (h : (l.take k).all q = true) : (l.take (k + 1)).all q = q x := by
  rw [List.take_add_one, hx]
  simp [List.all_append, h]
theorem all_of_take {α : Type} (q : α → Bool) {l : List α} {k : Nat} (h : (l.take k).all q = false) : l.all q = false := by
  rw [← List.take_append_drop k l, List.all_append, h]; rfl

set_option maxRecDepth 100000 in
set_option maxHeartbeats 2000000 in
theorem rAgrees_any (s : Nat) (l : List GlossD) (A : Option Addr) (cap n : Nat) (w : World) (hA : GlossAt w n A l) (hl : l.length ≤ 1000) (hx : ∀ x ∈ l, SignsOK x) (hs : s < 1048576) :
    Calls Try.prog 24 #[.int .i64 s, .slice A l.length cap] w fun e w' => e = .returned (.bool (agreesD s l)) ∧ w = w' := by
  have HX0 : Hid (∀ x ∈ l, bits .and .i64 (s : Int) x.signs = ((x.signs.toNat &&& s : Nat) : Int)) := Lib.hid (by
    intro x hxl
    obtain ⟨h0, h1⟩ := hx x hxl
    obtain ⟨m, hm⟩ := Int.eq_ofNat_of_zero_le h0
    rw [hm] at h1 ⊢
    rw [Int.toNat_natCast, Nat.and_comm]
    exact and_i64 s m (by omega) (by omega))
  have HO : Hid (agreesD s l = l.all (hitD s)) := rfl
  generalize agreesD s l = r at HO ⊢
  clear hx hs
  go_enter Try.func24, Try.ntmps24
  go_wp2
  go_loop [5] (fun i => ∃ k : Nat, k ≤ l.length ∧ i = .int .i64 k ∧ (l.take k).all (hitD s) = true) (fun i => l.length - (intOf i).toNat)
  case atStart => exact ⟨0, Nat.zero_le _, rfl, rfl⟩
  case round =>
    obtain ⟨k, hk, rfl, hor⟩ := hrel
    by_cases hlt : k < l.length
    · obtain ⟨b, off, x, rfl, hb, hc, HX⟩ := hA.at_ hlt
      have HT := Lib.hid (all_take_succ (hitD s) HX.out hor)
      have e5 : w.cell? ⟨b, off + k * 6 + 5, none⟩ = some (.int .i64 x.signs) := hc 5 (by omega)
      have HB := Lib.hid (HX0.out x (List.mem_of_getElem? HX.out))
      have HH : Hid (hitD s x = decide (x.signs.toNat &&& s ≠ 0)) := rfl
      clear hA hor hc
      generalize hitD s x = hb at HH HT
      generalize x.signs.toNat &&& s = m at HB HH
      generalize x.signs = sg at HB e5
      have hbits := HB.out
      by_cases h1 : m = 0
      · have HF : Hid (r = false) := Lib.hid (by rw [HO.out]; exact all_of_take (k := k + 1) _ (by rw [HT.out, HH.out, h1]; rfl))
        subst h1
        go_wp2
        go_ret
        exact ⟨ret_bool HF.out.symm, rfl⟩
      · have d1 : decide ((m : Int) = 0) = false := decide_eq_false (by omega)
        have d2 : decide (m = 0) = false := decide_eq_false h1
        have d3 : ((m : Int) == 0) = false := by simpa using h1
        have HF : Hid ((l.take (k + 1)).all (hitD s) = true) := Lib.hid (by rw [HT.out, HH.out]; exact decide_eq_true h1)
        clear h1
        go_wp2
        go_round
        case rel => exact ⟨k + 1, by omega, by go_num, HF.out⟩
        case measure => simp [intOf]; omega
    · obtain rfl : k = l.length := by omega
      have HF : Hid (r = true) := Lib.hid (by rw [HO.out, ← hor, List.take_length])
      clear hor hA
      go_wp2
      go_ret
      exact ⟨ret_bool HF.out.symm, rfl⟩

def popTo (s : Nat) : Nat → Nat
  | 0 => 0
  | k + 1 => popTo s k + s / 2 ^ k % 2
theorem popTo_sum (s : Nat) : ∀ k, popTo s k = ((List.range k).map fun i => s / 2 ^ i % 2).sum
  | 0 => rfl
  | k + 1 => by rw [List.range_succ, List.map_append, List.sum_append, ← popTo_sum s k]; simp [popTo]
theorem popTo_ten (s : Nat) : popTo s 10 = popD s := popTo_sum s 10
theorem popTo_le (s : Nat) : ∀ k, k ≤ 10 → popTo s k ≤ 10 := by
  have h : ∀ k, popTo s k ≤ k := by
    intro k
    induction k with
    | zero => exact Nat.le_refl _
    | succ k ih => have := Nat.mod_lt (s / 2 ^ k) (y := 2) (by omega); unfold popTo; omega
  exact fun k hk => Nat.le_trans (h k) hk

set_option maxRecDepth 100000 in
set_option maxHeartbeats 4000000 in
theorem rSize_any (s : Nat) (w : World) (hs : s < 1024) :
    Calls Try.prog 25 #[.int .i64 s] w fun e w' => e = .returned (.int .i64 (popD s)) ∧ w = w' := by
  have hsh : ∀ k : Nat, k < 10 → bits .and .i64 ((s : Int) / 2 ^ k) 1 = ((s / 2 ^ k % 2 : Nat) : Int) := by
    intro k hk
    have h1 : ((s : Int) / 2 ^ k) = ((s / 2 ^ k : Nat) : Int) := by simp
    rw [h1]
    have := and_i64 (s / 2 ^ k) 1 (by have := Nat.div_le_self s (2 ^ k); omega) (by omega)
    rw [Nat.and_one_is_mod] at this
    exact this
  have HS := Lib.hid hsh
  clear hsh
  go_enter Try.func25, Try.ntmps25
  go_wp2
  go_loop [3, 4] (fun nn i => ∃ k : Nat, k ≤ 10 ∧ i = .int .i64 k ∧ nn = .int .i64 (popTo s k : Nat)) (fun _ i => 10 - (intOf i).toNat)
  case atStart => exact ⟨0, Nat.zero_le _, rfl, rfl⟩
  case round =>
    obtain ⟨k, hk, rfl, rfl⟩ := hrel
    by_cases hlt : k < 10
    · have hb := HS.out k hlt
      have hle : popTo s k ≤ 10 := popTo_le s k hk
      have HT : Hid (popTo s (k + 1) = popTo s k + s / 2 ^ k % 2) := rfl
      have hm : s / 2 ^ k % 2 < 2 := Nat.mod_lt _ (by omega)
      generalize popTo s k = p at hle HT ⊢
      go_wp2
      go_round
      case rel => exact ⟨k + 1, by omega, by go_num, by rw [HT.out]; go_num⟩
      case measure => show 10 - ((k : Int) + 1).toNat < 10 - (k : Int).toNat; omega
    · obtain rfl : k = 10 := by omega
      have HP : Hid (popTo s 10 = popD s) := popTo_ten s
      go_wp2
      go_ret
      exact ⟨congrArg (fun q : Nat => Ending.returned (Value.int .i64 q)) HP.out, rfl⟩

/-- the signs of the first gloss of an author, as the specification's 'by' finds them -/
def byD (l : List GlossD) (a : Int) : Int := ((l.find? fun x => decide (x.author = a)).map GlossD.signs).getD 0
theorem find_take_none {α : Type} (q : α → Bool) {l : List α} {k : Nat} {x : α} (hx : l[k]? = some x) (h : (l.take k).find? q = none) (hq : q x = true) : l.find? q = some x := by
  obtain ⟨hk, rfl⟩ := List.getElem?_eq_some_iff.1 hx
  have e : l = l.take k ++ l[k] :: l.drop (k + 1) := by rw [← List.drop_eq_getElem_cons hk, List.take_append_drop]
  generalize l[k] = y at e hq ⊢
  rw [e, List.find?_append, h, List.find?_cons, hq]
  rfl
theorem find_take_succ {α : Type} (q : α → Bool) {l : List α} {k : Nat} {x : α} (hx : l[k]? = some x) (h : (l.take k).find? q = none) (hq : q x = false) : (l.take (k + 1)).find? q = none := by
  rw [List.take_add_one, hx, List.find?_append, h]
  simp [hq]

set_option maxRecDepth 100000 in
set_option maxHeartbeats 2000000 in
theorem rBy_any (a : Int) (l : List GlossD) (A : Option Addr) (cap n : Nat) (w : World) (hA : GlossAt w n A l) (hl : l.length ≤ 1000) :
    Calls Try.prog 57 #[.slice A l.length cap, .int .i64 a] w fun e w' => e = .returned (.int .i64 (byD l a)) ∧ w = w' := by
  have HO : Hid (byD l a = ((l.find? fun x => decide (x.author = a)).map GlossD.signs).getD 0) := rfl
  generalize byD l a = r at HO ⊢
  go_enter Try.func57, Try.ntmps57
  go_wp2
  go_loop [5] (fun i => ∃ k : Nat, k ≤ l.length ∧ i = .int .i64 k ∧ Hid ((l.take k).find? (fun x => decide (x.author = a)) = none)) (fun i => l.length - (intOf i).toNat)
  case atStart => exact ⟨0, Nat.zero_le _, rfl, rfl⟩
  case round =>
    obtain ⟨k, hk, rfl, hor⟩ := hrel
    by_cases hlt : k < l.length
    · obtain ⟨b, off, x, rfl, hb, hc, HX⟩ := hA.at_ hlt
      obtain ⟨au, st, fi, fr, tt, sg⟩ := x
      have e0 : w.cell? ⟨b, off + k * 6, none⟩ = some (.int .i64 au) := hc 0 (by omega)
      have e5 : w.cell? ⟨b, off + k * 6 + 5, none⟩ = some (.int .i64 sg) := hc 5 (by omega)
      clear hA hc
      by_cases h1 : au = a
      · have d1 : decide (au = a) = true := decide_eq_true h1
        have b1 : (au == a) = true := by simpa using h1
        have HF : Hid (r = sg) := Lib.hid (by rw [HO.out, find_take_none _ HX.out hor.out (decide_eq_true h1)]; rfl)
        clear h1
        go_wp2
        go_ret
        exact ⟨congrArg (fun q => Ending.returned (Value.int .i64 q)) HF.out.symm, rfl⟩
      · have d1 : decide (au = a) = false := decide_eq_false h1
        have b1 : (au == a) = false := by simpa using h1
        have HF : Hid ((l.take (k + 1)).find? (fun x => decide (x.author = a)) = none) := Lib.hid (find_take_succ _ HX.out hor.out (decide_eq_false h1))
        clear h1
        go_wp2
        go_round
        case rel => exact ⟨k + 1, by omega, by go_num, HF⟩
        case measure => simp [intOf]; omega
    · obtain rfl : k = l.length := by omega
      have HF : Hid (r = 0) := Lib.hid (by have h := hor.out; rw [List.take_length] at h; rw [HO.out, h]; rfl)
      clear hA
      go_wp2
      go_ret
      exact ⟨congrArg (fun q => Ending.returned (Value.int .i64 q)) HF.out.symm, rfl⟩

end Go.Proofs.Ytinlojealfbbfaa
