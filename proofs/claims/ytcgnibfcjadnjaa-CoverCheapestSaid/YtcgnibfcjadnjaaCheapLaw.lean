/- CheapLaw: the statement on the least cost; written by wip/tools/cheaplaw10.py. -/
import Derived.Test.YtcgnibfcjadnjaaCheapB
import Derived.Test.YtcgnibfcjadnjaaCheapC
namespace Go.Proofs.Ytcgnibfcjadnjaa
open Go.RowKit

theorem coverCheapest_any (h : PoolH) (d : PoolI) (A : Option Addr) (cap : Nat) (ws : List Int) (w : World) (hA : PoolAt w w.heap.size h d) (hI : Ints w w.heap.size A ws) (hwf : Wf ws) :
    Calls Try.prog 5 #[poolV h d, .slice A ws.length cap] w fun e w' => e = .returned (.bool true) ∧ Below w.heap.size w w' := by
  cases hv : validI d with
  | false => exact coverCheapest_bad h d A cap ws w hA hv
  | true =>
    obtain ⟨p, rfl, G⟩ := valid_is hv
    rw [pool_i]
    by_cases hl : 20 < ws.length
    · exact coverCheapest_long h p A cap ws w hA hv hl
    · cases hq : okWatch p ws with
      | false =>
        cases hpl : planD p with
        | none => exact coverCheapest_nn h p G A cap ws w hA hv hI (by omega) hwf hq hpl
        | some x => exact coverCheapest_np h p G A cap ws w hA hv hI (by omega) hwf hq x.1 x.2 hpl
      | true =>
        obtain ⟨e, hwt⟩ := okWatch_is G hwf hq
        obtain ⟨gs, hgs⟩ : ∃ z, gsOf ws = z := ⟨_, rfl⟩
        rw [hgs] at e hwt
        subst e
        rw [natsL_length] at hl ⊢
        cases hsf : safeD p gs with
        | false =>
          cases hpl : planD p with
          | none => exact coverCheapest_wn h p G A cap gs w hA hv hI (by omega) hwt hsf hpl
          | some x => exact coverCheapest_wp h p G A cap gs w hA hv hI (by omega) hwt hsf x.1 x.2 hpl
        | true =>
          cases hpl : planD p with
          | none => have h1 := plan_none G hpl hwt; rw [hsf] at h1; cases h1
          | some x => exact coverCheapest_sp h p G A cap gs w hA hv hI (by omega) hwt hsf x.1 x.2 hpl

end Go.Proofs.Ytcgnibfcjadnjaa
