/- RClash: the specification's clash. -/
import Derived.Test.YtinlojealfbbfaaSpecM
import Derived.BigQuiet
namespace Go.Proofs.Ytinlojealfbbfaa
open Go.RowKit

def badG (x y : GlossD) : Bool := (decide (x.author = y.author) && decide (x.stamp = y.stamp)) && !decide (x = y)
def NoBad (l : List GlossD) (i : Nat) : Prop := ∀ a, a < i → ∀ b, b < a → ∀ x y, l[a]? = some x → l[b]? = some y → badG x y = false
theorem clashB_yes {l : List GlossD} {a b : Nat} {x y : GlossD} (hx : l[a]? = some x) (hy : l[b]? = some y) (h : badG x y = true) : clashB l = true := by
  simp only [badG, Bool.and_eq_true, decide_eq_true_eq, Bool.not_eq_true', decide_eq_false_iff_not] at h
  exact clashB_iff.2 ⟨x, List.mem_of_getElem? hx, y, List.mem_of_getElem? hy, h.1.1, h.1.2, h.2⟩
theorem clashB_no {l : List GlossD} (h : NoBad l l.length) : clashB l = false := by
  cases hc : clashB l with
  | false => rfl
  | true =>
    exfalso
    obtain ⟨x, hx, y, hy, h1, h2, h3⟩ := clashB_iff.1 hc
    obtain ⟨a, ha⟩ := List.getElem?_of_mem hx
    obtain ⟨b, hb⟩ := List.getElem?_of_mem hy
    have hal := lt_of_at ha
    have hbl := lt_of_at hb
    rcases Nat.lt_trichotomy a b with g | g | g
    · have := h b hbl a g y x hb ha
      have h3' : ¬ y = x := fun e => h3 e.symm
      simp [badG, h1, h2, h3'] at this
    · subst g
      rw [ha] at hb
      exact h3 (Option.some.inj hb)
    · have := h a hal b g x y ha hb
      simp [badG, h1, h2, h3] at this

set_option maxRecDepth 100000 in
set_option maxHeartbeats 4000000 in
theorem rclash_any (l : List GlossD) (A : Option Addr) (cap n : Nat) (w : World) (hA : GlossAt w n A l) (hl : l.length ≤ 1000) :
    Calls Try.prog 55 #[.slice A l.length cap] w fun e w' => e = .returned (.bool (clashB l)) ∧ ∃ q, w' = w.drewN q := by
  have HY : Hid (∀ (a b : Nat) (x y : GlossD), l[a]? = some x → l[b]? = some y → badG x y = true → clashB l = true) := Lib.hid (fun _ _ _ _ h1 h2 h3 => clashB_yes h1 h2 h3)
  have HN : Hid (NoBad l l.length → clashB l = false) := Lib.hid clashB_no
  generalize clashB l = r at HY HN ⊢
  go_enter Try.func55, Try.ntmps55
  go_wp2_with fail
  go_loopw [3] (fun iv wr => ∃ i q : Nat, i ≤ l.length ∧ iv = .int .i64 i ∧ Hid (NoBad l i) ∧ wr = w.drewN q) (fun v _ => l.length - (intOf v).toNat)
  case atStart => exact ⟨0, 0, Nat.zero_le _, rfl, Lib.hid (fun a ha => by omega), rfl⟩
  case round =>
    obtain ⟨i, q, hi, rfl, HB, rfl⟩ := hrel
    by_cases hlt : i < l.length
    · have hld : decide ((i : Int) < (l.length : Int)) = true := decide_eq_true (by omega)
      have hldn : decide (i < l.length) = true := decide_eq_true hlt
      obtain ⟨b, off, x, rfl, hb, hc, HX⟩ := hA.at_ hlt
      have hii : (i : Int) < (l.length : Int) := by omega
      have hi0 : (0 : Int) ≤ (i : Int) := by omega
      have e0 := hc 0 (by omega); have e1 := hc 1 (by omega); have e2 := hc 2 (by omega); have e3 := hc 3 (by omega); have e4 := hc 4 (by omega); have e5 := hc 5 (by omega)
      rw [Nat.add_zero] at e0
      have HA := Lib.hid hA
      clear hc hb hA
      go_wp2_with fail
      go_loopw [4] (fun kv wx => ∃ k q2 : Nat, k ≤ i ∧ kv = .int .i64 k ∧ Hid (∀ c, c < k → ∀ y, l[c]? = some y → badG x y = false) ∧ wx = w.drewN q2) (fun v _ => i - (intOf v).toNat)
      case atStart => exact ⟨0, q, Nat.zero_le _, rfl, Lib.hid (fun c hc => by omega), rfl⟩
      case round =>
        obtain ⟨k, q2, hk, rfl, HK, rfl⟩ := hrel
        by_cases hki : k < i
        · have hkd : decide ((k : Int) < (i : Int)) = true := decide_eq_true (by omega)
          have hkdn : decide (k < i) = true := decide_eq_true hki
          obtain ⟨b', off', y, e, hb', hc', HYY⟩ := HA.out.at_ (show k < l.length by omega)
          obtain ⟨rfl, rfl⟩ : b = b' ∧ off = off' := by injection e with e; injection e with e1 e2; exact ⟨e1, e2⟩
          have hkl : (k : Int) < (l.length : Int) := by omega
          have hk0 : (0 : Int) ≤ (k : Int) := by omega
          have y0 := hc' 0 (by omega); have y1 := hc' 1 (by omega); have y2 := hc' 2 (by omega); have y3 := hc' 3 (by omega); have y4 := hc' 4 (by omega); have y5 := hc' 5 (by omega)
          rw [Nat.add_zero] at y0
          have HBD : Hid (badG x y = ((decide (x.author = y.author) && decide (x.stamp = y.stamp)) && !decide (x = y))) := rfl
          have heq : ∀ w0 : World, (Op.equalIn 10000 55 (glossV x) (glossV y)).run Try.prog w0 = .ok (decide (x = y)) w0 := fun w0 => run_eqG x y w0
          generalize decide (x = y) = xy at heq HBD
          clear e hc' hb'
          have HKK : Hid (badG x y = false → ∀ c, c < k + 1 → ∀ z, l[c]? = some z → badG x z = false) := Lib.hid (fun h c hc z hz => by
            rcases Nat.lt_or_ge c k with g | g
            · exact HK.out c g z hz
            · obtain rfl : c = k := by omega
              rw [HYY.out] at hz
              rw [← Option.some.inj hz]
              exact h)
          by_cases h1 : x.author = y.author
          · have d1 : decide (x.author = y.author) = true := decide_eq_true h1
            have b1 : (x.author == y.author) = true := by simpa using h1
            by_cases h2 : x.stamp = y.stamp
            · have d2 : decide (x.stamp = y.stamp) = true := decide_eq_true h2
              have b2 : (x.stamp == y.stamp) = true := by simpa using h2
              have HF : Hid (badG x y = !xy) := Lib.hid (by rw [HBD.out, d1, d2]; rfl)
              clear h1 h2
              cases xy with
              | true =>
                go_wp2
                go_quiet (fail)
                go_wp2
                go_roundw
                case rel => exact ⟨k + 1, _, hki, by go_num, HKK.out HF.out, rfl⟩
                case measure => simp [intOf]; omega
              | false =>
                have HR : Hid (r = true) := Lib.hid (HY.out i k x y HX.out HYY.out HF.out)
                go_wp2
                go_quiet (fail)
                go_wp2
                go_ret
                exact ⟨ret_bool HR.out.symm, _, drewN_two _ _ _⟩
            · have d2 : decide (x.stamp = y.stamp) = false := decide_eq_false h2
              have b2 : (x.stamp == y.stamp) = false := by simpa using h2
              have HF : Hid (badG x y = false) := Lib.hid (by rw [HBD.out, d1, d2]; rfl)
              clear h1 h2
              go_wp2
              go_quiet (fail)
              go_wp2
              go_roundw
              case rel => exact ⟨k + 1, _, hki, by go_num, HKK.out HF.out, rfl⟩
              case measure => simp [intOf]; omega
          · have d1 : decide (x.author = y.author) = false := decide_eq_false h1
            have b1 : (x.author == y.author) = false := by simpa using h1
            have HF : Hid (badG x y = false) := Lib.hid (by rw [HBD.out, d1]; rfl)
            clear h1
            go_wp2
            go_quiet (fail)
            go_wp2
            go_roundw
            case rel => exact ⟨k + 1, _, hki, by go_num, HKK.out HF.out, rfl⟩
            case measure => simp [intOf]; omega
        · obtain rfl : k = i := by omega
          have hkd : decide ((k : Int) < (k : Int)) = false := by simp
          have hkdn : decide (k < k) = false := by simp
          have HN2 : Hid (NoBad l (k + 1)) := Lib.hid (fun a ha c hc x' y' hx' hy' => by
            rcases Nat.lt_or_ge a k with g | g
            · exact HB.out a g c hc x' y' hx' hy'
            · obtain rfl : a = k := by omega
              rw [HX.out] at hx'
              obtain rfl := Option.some.inj hx'
              exact HK.out c hc y' hy')
          go_wp2
          go_roundw
          case rel => exact ⟨k + 1, q2, hlt, by go_num, HN2, rfl⟩
          case measure => simp [intOf]; omega
    · obtain rfl : i = l.length := by omega
      have hld : decide ((l.length : Int) < (l.length : Int)) = false := by simp
      have hldn : decide (l.length < l.length) = false := by simp
      have HR : Hid (r = false) := Lib.hid (HN.out HB.out)
      clear hA hlt
      go_wp2
      go_ret
      exact ⟨ret_bool HR.out.symm, q, rfl⟩

end Go.Proofs.Ytinlojealfbbfaa
