/- RunsM: Weary in all cases, of the program and of the specification; sameSpans. -/
import Derived.Test.YthlihchndmbkaaaRefWeary
import Derived.Test.YthlihchndmbkaaaWearyOff
namespace Go.Proofs.Ythlihchndmbkaaa
open Go.RowKit

/-- what Weary answers -/
def wearyAll (t : TaskD) (xs : List Int) (part : Int) : List (Int × Int) := if okTask t = true ∧ okRota t xs = true ∧ inB part 0 t.parts.length = true then wearyL t xs part.toNat else []
def wearyEr (t : TaskD) (xs : List Int) (part : Int) : Int := if okTask t = true ∧ okRota t xs = true then if inB part 0 t.parts.length = true then 0 else 1 else rotaErr t xs
theorem SpansAt.nil (w : World) (B : Nat) : SpansAt w B none [] := .inl rfl
theorem wearyL_len (t : TaskD) (xs : List Int) (p : Nat) : (wearyL t xs p).length = t.hands.length := by simp [wearyL]
theorem sWeary_all (t : TaskR) (xs : List Int) (A1 : Option Addr) (c1 : Nat) (part : Int) (n : Nat) (w : World) (ht : TaskAt w n t) (h1 : Ints w n A1 xs) (hn : n ≤ w.heap.size) (hc : xs.length ≤ c1) :
    Calls Try.prog 22 #[taskV t, .slice A1 xs.length c1, .int .i64 part] w fun e w' => ∃ A cap, e = .returned (.tuple #[.slice A (wearyAll t.d xs part).length cap, .int .i64 (wearyEr t.d xs part)]) ∧ SpansAt w' w'.heap.size A (wearyAll t.d xs part) ∧ Below w.heap.size w w' := by
  unfold wearyAll wearyEr
  by_cases hg : okTask t.d = true ∧ okRota t.d xs = true
  · rw [if_pos hg]
    cases hp : inB part 0 t.d.parts.length with
    | true =>
      have hpp := inB_iff.1 hp
      obtain ⟨p, rfl⟩ : ∃ p : Nat, part = p := ⟨part.toNat, by omega⟩
      rw [if_pos ⟨hg.1, hg.2, rfl⟩, if_pos rfl, Int.toNat_natCast, wearyL_len]
      exact (weary_any t xs A1 c1 p n w ht h1 hn hc hg.1 hg.2 (by omega)).mono fun e w' ⟨⟨A, he, hs⟩, hb⟩ => ⟨A, _, he, hs, hb⟩
    | false =>
      rw [if_neg (by rintro ⟨_, _, h⟩; cases h), if_neg (by decide)]
      exact (weary_far t xs A1 c1 part n w ht h1 hn hg.1 hg.2 hp).mono fun e w' ⟨he, hb⟩ => ⟨none, 0, he, SpansAt.nil _ _, hb⟩
  · rw [if_neg hg, if_neg (fun h => hg ⟨h.1, h.2.1⟩)]
    exact (weary_err t xs A1 c1 part n w ht h1 hn hg).mono fun e w' ⟨he, hb⟩ => ⟨none, 0, he, SpansAt.nil _ _, hb⟩
theorem rWeary_all (t : TaskR) (xs : List Int) (A1 : Option Addr) (c1 : Nat) (part : Int) (n : Nat) (w : World) (ht : TaskAt w n t) (h1 : Ints w n A1 xs) (hn : n ≤ w.heap.size) (hl : xs.length ≤ 20) :
    Calls Try.prog 33 #[taskV t, .slice A1 xs.length c1, .int .i64 part] w fun e w' => ∃ A cap, e = .returned (.tuple #[.slice A (wearyAll t.d xs part).length cap, .int .i64 (wearyEr t.d xs part)]) ∧ SpansAt w' w'.heap.size A (wearyAll t.d xs part) ∧ Below w.heap.size w w' := by
  unfold wearyAll wearyEr
  by_cases hg : okTask t.d = true ∧ okRota t.d xs = true
  · rw [if_pos hg]
    obtain ⟨q1, q2, _⟩ := okRota_parts hg.2
    cases hp : inB part 0 t.d.parts.length with
    | true =>
      have hpp := inB_iff.1 hp
      obtain ⟨p, rfl⟩ : ∃ p : Nat, part = p := ⟨part.toNat, by omega⟩
      rw [if_pos ⟨hg.1, hg.2, rfl⟩, if_pos rfl, Int.toNat_natCast, wearyL_len]
      obtain ⟨rota, hro⟩ : ∃ q, natsOf xs = q := ⟨_, rfl⟩
      rw [hro] at q2
      subst q2
      rw [show (natsL rota).length = rota.length from List.length_map ..] at q1 ⊢
      exact (rWeary_ok t rota A1 c1 p n w ht h1 hn hg.1 hg.2 (by omega)).mono fun e w' ⟨⟨A, cap, he, hs⟩, hb⟩ => ⟨A, cap, he, hs, hb⟩
    | false =>
      rw [if_neg (by rintro ⟨_, _, h⟩; cases h), if_neg (by decide)]
      rw [← q1] at hp
      exact (rWeary_far t xs A1 c1 part n w ht h1 hn hl hg.1 hg.2 hp).mono fun e w' ⟨he, hb⟩ => ⟨none, 0, he, SpansAt.nil _ _, hb⟩
  · rw [if_neg hg, if_neg (fun h => hg ⟨h.1, h.2.1⟩)]
    exact (rWeary_err t xs A1 c1 part n w ht h1 hn hl hg).mono fun e w' ⟨he, hb⟩ => ⟨none, 0, he, SpansAt.nil _ _, hb⟩

theorem wearyAll_len (t : TaskD) (xs : List Int) (part : Int) : (wearyAll t xs part).length ≤ 20 := by
  unfold wearyAll
  split
  · rename_i h
    rw [wearyL_len]
    have := (okTask_parts h.1).1.2
    omega
  · simp
theorem SpansAt.at_ {w : World} {B : Nat} {A : Option Addr} {l : List (Int × Int)} (h : SpansAt w B A l) {k : Nat} (hk : k < l.length) : ∃ b p, A = some ⟨b, 0, none⟩ ∧ Hid (l[k]? = some p) ∧ w.cell? ⟨b, k * 2, none⟩ = some (.int .i64 p.1) ∧ w.cell? ⟨b, k * 2 + 1, none⟩ = some (.int .i64 p.2) := by
  rcases h with rfl | ⟨b, e, _, h⟩
  · simp at hk
  · have hx := List.getElem?_eq_getElem hk
    exact ⟨b, l[k], e, hx, (h k _ hx).1, (h k _ hx).2⟩
theorem run_eqS (a b : Int) (w : World) : (Op.equalIn 10000 47 (.agg #[.int .i64 a, .int .i64 b]) (.agg #[.int .i64 a, .int .i64 b])).run Try.prog w = .ok true w := by
  simp [go_sem]

set_option maxRecDepth 100000 in
set_option maxHeartbeats 4000000 in
theorem sameSpans_same (A A' : Option Addr) (cap cap' B B' : Nat) (l : List (Int × Int)) (w : World) (hA : SpansAt w B A l) (hA' : SpansAt w B' A' l) (hl : l.length ≤ 20) :
    Calls Try.prog 34 #[.slice A l.length cap, .slice A' l.length cap'] w fun e w' => e = .returned (.bool true) ∧ Below w.heap.size w w' := by
  obtain ⟨n, hn⟩ : ∃ q, l.length = q := ⟨_, rfl⟩
  have HN := Lib.hid hn
  rw [hn] at hl ⊢
  clear hn
  have HA := Lib.hid hA
  have HA' := Lib.hid hA'
  clear hA hA'
  have hne : ((n : Int) != (n : Int)) = false := by simp
  go_enter Try.func34, Try.ntmps34
  go_wp2
  go_loopw [5] (fun i wr => ∃ k q : Nat, k ≤ n ∧ i = .int .i64 k ∧ wr = w.drewN q) (fun i _ => n - (intOf i).toNat)
  case atStart => exact ⟨0, 0, Nat.zero_le _, rfl, rfl⟩
  case round =>
    obtain ⟨k, q, hk, rfl, rfl⟩ := hrel
    by_cases hlt : k < n
    · obtain ⟨b, p, hAe, HP, hc0, hc1⟩ := HA.out.at_ (k := k) (by rw [HN.out]; exact hlt)
      obtain ⟨b', p', hAe', HP', hc0', hc1'⟩ := HA'.out.at_ (k := k) (by rw [HN.out]; exact hlt)
      obtain rfl : p' = p := Option.some.inj (HP'.out.symm.trans HP.out)
      subst hAe
      subst hAe'
      obtain ⟨x, y⟩ := p'
      have hki : (k : Int) < (n : Int) := by omega
      have hk0 : (0 : Int) ≤ (k : Int) := by omega
      have heq := run_eqS x y
      dsimp only at hc0 hc1 hc0' hc1'
      go_wp2
      go_quiet (fail)
      go_wp2
      go_roundw
      case rel => exact ⟨k + 1, _, by omega, by go_num, rfl⟩
      case measure => simp [intOf]; omega
    · obtain rfl : k = n := by omega
      go_wp2
      go_ret
      exact ⟨rfl, Below.drewN_ (Below.refl _ _) _⟩

end Go.Proofs.Ythlihchndmbkaaa
