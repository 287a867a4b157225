/- Has: sets as numbers: has, count, size; who has a tie. -/
import Derived.Test.YticeekkfdkfcgaaIsCrew
namespace Go.Proofs.Yticeekkfdkfcgaa
open Go.RowKit

def hasN (s e : Nat) : Bool := decide (s / 2 ^ e % 2 = 1)
theorem shr_and {s e : Nat} (hs : s < 1000000) : bits .and .i64 ((s : Int) / 2 ^ e) 1 = ((s / 2 ^ e % 2 : Nat) : Int) := by
  have h1 : ((s : Int) / 2 ^ e) = ((s / 2 ^ e : Nat) : Int) := by simp
  have h2 := Nat.div_le_self s (2 ^ e)
  generalize s / 2 ^ e = z at h1 h2 ⊢
  rw [h1, and_one (by omega) (by omega)]
  omega
set_option maxHeartbeats 400000 in
theorem has_any (s e : Nat) (w : World) (hs : s < 1000000) (he : e ≤ 40) :
    Calls Try.prog 60 #[.int .i64 s, .int .i64 e] w fun e' w' => e' = .returned (.bool (hasN s e)) ∧ w = w' := by
  have hsh := shr_and (e := e) hs
  have h0 : (0 : Int) ≤ (e : Int) := by omega
  have h64 : e ≤ 64 := by omega
  have HR : Hid (hasN s e = decide (((s / 2 ^ e % 2 : Nat) : Int) = 1)) := Lib.hid (by
    unfold hasN
    by_cases h : s / 2 ^ e % 2 = 1
    · rw [decide_eq_true h, decide_eq_true (by omega)]
    · rw [decide_eq_false h, decide_eq_false (by omega)])
  generalize hasN s e = r at HR ⊢
  generalize s / 2 ^ e % 2 = q at hsh HR
  go_enter Try.func60, Try.ntmps60
  go_wp2
  go_ret
  exact ⟨ret_bool (by rw [HR.out]; rfl), rfl⟩
set_option maxHeartbeats 400000 in
theorem rHas_any (s e : Nat) (w : World) (hs : s < 1000000) (he : e ≤ 40) :
    Calls Try.prog 32 #[.int .i64 s, .int .i64 e] w fun e' w' => e' = .returned (.bool (hasN s e)) ∧ w = w' := by
  have hsh := shr_and (e := e) hs
  have h0 : (0 : Int) ≤ (e : Int) := by omega
  have h64 : e ≤ 64 := by omega
  have hcv : IntKind.u64.wrap (e : Int) = (e : Int) := IntWalk.u64_in _ (by omega)
  have HR : Hid (hasN s e = decide (((s / 2 ^ e % 2 : Nat) : Int) = 1)) := Lib.hid (by
    unfold hasN
    by_cases h : s / 2 ^ e % 2 = 1
    · rw [decide_eq_true h, decide_eq_true (by omega)]
    · rw [decide_eq_false h, decide_eq_false (by omega)])
  generalize hasN s e = r at HR ⊢
  generalize s / 2 ^ e % 2 = q at hsh HR
  go_enter Try.func32, Try.ntmps32
  go_wp2
  go_ret
  exact ⟨ret_bool (by rw [HR.out]; rfl), rfl⟩

/-- has a person a tie to a client? -/
def tiedD (p : PersonD) (client : Int) : Bool := p.ties.any fun x => decide (x = client)
set_option maxRecDepth 100000 in
set_option maxHeartbeats 2000000 in
theorem rTied_any (x : PersonR) (client : Int) (n : Nat) (w : World) (hx : PersonAt w n x) (hn : n ≤ w.heap.size) (hl : x.d.ties.length ≤ 1000000) :
    Calls Try.prog 57 #[personV x, .int .i64 client] w fun e w' => e = .returned (.bool (tiedD x.d client)) ∧ Below w.heap.size w w' := by
  have HT := Lib.hid (fun (w0 : World) (hw : Grow w w0) => (hx.2.more hn).below hw)
  have HO : Hid (tiedD x.d client = x.d.ties.any fun x => decide (x = client)) := rfl
  generalize tiedD x.d client = ok at HO ⊢
  clear hx hn
  go_enter Try.func57, Try.ntmps57
  go_upto_region 1 with fail
  obtain ⟨W, hW, hg, hf, hsz⟩ := one_block w 52 (cellsP x)
  rw [hW]
  clear hW
  have HG := Lib.hid hg
  have HF := Lib.hid hf
  clear hf hg
  go_wp2_with fail
  go_loopw [5] (fun iv wx => ∃ i : Nat, i ≤ x.d.ties.length ∧ iv = .int .i64 i ∧ (x.d.ties.take i).any (fun y => decide (y = client)) = false ∧ wx = W) (fun iv _ => x.d.ties.length - (intOf iv).toNat)
  case atStart => exact ⟨0, Nat.zero_le _, rfl, rfl, rfl⟩
  case round => as_aux_lemma =>
    obtain ⟨i, hi, rfl, hta, rfl⟩ := hrel
    rename World => W
    have HTA := Lib.hid hta
    clear hta
    by_cases hil : i < x.d.ties.length
    · have hi1 : decide ((i : Int) < (x.d.ties.length : Int)) = true := decide_eq_true (by omega)
      have hi2 : decide (i < x.d.ties.length) = true := decide_eq_true hil
      have hi3 : (i : Int) < (x.d.ties.length : Int) := by omega
      have hi0 : (0 : Int) ≤ (i : Int) := by omega
      obtain ⟨lb, lo, y, hla, hlb, hy, HY⟩ := (HT.out W HG.out).at_ hil
      have hpc0 : W.cell? ⟨w.heap.size, 3, none⟩ = some (.slice (some ⟨lb, lo, none⟩) x.d.ties.length x.tc) := by rw [HF.out.cell 3, ← hla]; rfl
      have HS := Lib.hid (any_take_succ (fun y => decide (y = client)) HY.out HTA.out)
      have HIL := Lib.hid hil
      clear hla hlb hil
      by_cases hyc : y = client
      · have hq : ((y == client) = true) := by simp [hyc]
        have hq2 : decide (y = client) = true := decide_eq_true hyc
        have HX : Hid (ok = true) := Lib.hid (by rw [HO.out]; exact any_of_take _ (by rw [HS.out]; exact hq2))
        clear hyc
        go_wp2
        go_ret
        exact ⟨ret_bool HX.out.symm, HG.out⟩
      · have hq : ((y == client) = false) := by simp [hyc]
        have hq2 : decide (y = client) = false := decide_eq_false hyc
        have HS2 := Lib.hid (HS.out.trans hq2)
        clear hyc
        go_wp2
        go_roundw
        case rel => exact ⟨i + 1, HIL.out, by go_num, HS2.out, trivial⟩
        case measure => have := HIL.out; simp [intOf]; omega
    · obtain rfl : i = x.d.ties.length := by omega
      have hi1 : decide ((x.d.ties.length : Int) < (x.d.ties.length : Int)) = false := by simp
      have hi2 : decide (x.d.ties.length < x.d.ties.length) = false := by simp
      have hpc0 : W.cell? ⟨w.heap.size, 3, none⟩ = some (.slice x.ta x.d.ties.length x.tc) := HF.out.cell 3
      have HX : Hid (ok = false) := Lib.hid (by
        rw [HO.out]
        have h := HTA.out
        rwa [List.take_length] at h)
      clear hil
      go_wp2
      go_ret
      exact ⟨ret_bool HX.out.symm, HG.out⟩

set_option maxHeartbeats 800000 in
theorem indexI_any (A : Option Addr) (cap B : Nat) (xs : List Int) (c : Int) (w : World) (hA : Ints w B A xs) (hl : xs.length ≤ 1000000) :
    Calls Try.prog 90 #[.slice A xs.length cap, .int .i64 c] w (IndexPost (xs.any fun y => decide (y = c)) w) := by
  go_enter Try.func90, Try.ntmps90
  go_wp2
  go_loop [8] (fun i => ∃ k : Nat, k ≤ xs.length ∧ i = .int .i64 k ∧ (xs.take k).any (fun y => decide (y = c)) = false) (fun i => xs.length - (intOf i).toNat)
  case atStart => exact ⟨0, Nat.zero_le _, rfl, rfl⟩
  case round =>
    obtain ⟨k, hk, rfl, hor⟩ := hrel
    by_cases hlt : k < xs.length
    · obtain ⟨b, off, x, rfl, hb, hc, HX⟩ := hA.at_ hlt
      have HT := Lib.hid (any_take_succ (fun y => decide (y = c)) HX.out hor)
      clear hA hor
      by_cases hxc : x = c
      · have HT2 := Lib.hid (HT.out.trans (decide_eq_true hxc))
        have hq : (c == x) = true := by simp [hxc]
        have hq2 : decide (c = x) = true := decide_eq_true hxc.symm
        clear hxc
        go_wp2
        go_ret
        exact ⟨k, by rw [any_of_take _ HT2.out]; simp, rfl, rfl⟩
      · have HT2 := Lib.hid (HT.out.trans (decide_eq_false hxc))
        have hq : (c == x) = false := by simp; exact fun e => hxc e.symm
        have hq2 : decide (c = x) = false := decide_eq_false fun e => hxc e.symm
        clear hxc
        go_wp2
        go_round
        case rel => exact ⟨k + 1, by omega, by go_num, HT2.out⟩
        case measure => simp [intOf]; omega
    · obtain rfl : k = xs.length := by omega
      have HO := Lib.hid hor
      clear hor hA
      go_wp2
      go_ret
      exact ⟨-1, by have := HO.out; rw [List.take_length] at this; rw [this]; rfl, rfl, rfl⟩
set_option maxHeartbeats 400000 in
theorem containsI_any (A : Option Addr) (cap B : Nat) (xs : List Int) (c : Int) (w : World) (hA : Ints w B A xs) (hl : xs.length ≤ 1000000) :
    Calls Try.prog 82 #[.slice A xs.length cap, .int .i64 c] w fun e w' => e = .returned (.bool (xs.any fun y => decide (y = c))) ∧ w = w' := by
  have HI := Lib.hid (indexI_any A cap B xs c w hA hl)
  clear hA
  go_enter Try.func82, Try.ntmps82
  go_wp2_with fail
  refine HI.out.mono ?_
  rintro e w' ⟨n, hn, rfl, rfl⟩
  have HN := Lib.hid hn
  clear hn
  go_wp2
  go_ret
  exact ⟨ret_bool HN.out, rfl⟩

end Go.Proofs.Yticeekkfdkfcgaa
