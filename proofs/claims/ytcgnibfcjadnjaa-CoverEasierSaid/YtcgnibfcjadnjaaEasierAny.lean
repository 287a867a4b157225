/- EasierAny: the statement on pools made easier, at any pool and any change; written by wip/tools/easierany10.py. -/
import Derived.Test.YtcgnibfcjadnjaaEasierA
import Derived.Test.YtcgnibfcjadnjaaEasierB
import Derived.Test.YtcgnibfcjadnjaaEasierLaw
import Derived.Test.YtcgnibfcjadnjaaOpens3
namespace Go.Proofs.Ytcgnibfcjadnjaa
open Go.RowKit

theorem coverEasier_any (h : PoolH) (d : PoolI) (x : EaseI) (w : World) (hA : PoolAt w w.heap.size h d) :
    Calls Try.prog 6 #[poolV h d, .agg (cellsX x)] w fun e w' => e = .returned (.bool true) ∧ Below w.heap.size w w' := by
  cases hv : validI d with
  | false => exact coverEasier_bad h d x.who x.a x.b x.c x.sl x.la x.n x.i x.m x.j.t x.j.s x.j.y w hA hv
  | true =>
    obtain ⟨p, rfl, G⟩ := valid_is hv
    rw [pool_i]
    by_cases hn0 : (4 : Int) < (p.folk.length : Int)
    · exact coverEasier_out0 h p x.who x.a x.b x.c x.sl x.la x.n x.i x.m x.j.t x.j.s x.j.y w hA hv hn0
    by_cases hn1 : x.a < (0 : Int)
    · exact coverEasier_out1 h p x.who x.a x.b x.c x.sl x.la x.n x.i x.m x.j.t x.j.s x.j.y w hA hv hn0 hn1
    by_cases hn2 : (31 : Int) < x.a
    · exact coverEasier_out2 h p x.who x.a x.b x.c x.sl x.la x.n x.i x.m x.j.t x.j.s x.j.y w hA hv hn0 hn1 hn2
    by_cases hn3 : x.b < (0 : Int)
    · exact coverEasier_out3 h p x.who x.a x.b x.c x.sl x.la x.n x.i x.m x.j.t x.j.s x.j.y w hA hv hn0 hn1 hn2 hn3
    by_cases hn4 : (63 : Int) < x.b
    · exact coverEasier_out4 h p x.who x.a x.b x.c x.sl x.la x.n x.i x.m x.j.t x.j.s x.j.y w hA hv hn0 hn1 hn2 hn3 hn4
    by_cases hn5 : x.c < (0 : Int)
    · exact coverEasier_out5 h p x.who x.a x.b x.c x.sl x.la x.n x.i x.m x.j.t x.j.s x.j.y w hA hv hn0 hn1 hn2 hn3 hn4 hn5
    by_cases hn6 : (1000 : Int) < x.c
    · exact coverEasier_out6 h p x.who x.a x.b x.c x.sl x.la x.n x.i x.m x.j.t x.j.s x.j.y w hA hv hn0 hn1 hn2 hn3 hn4 hn5 hn6
    by_cases hn7 : x.n < (0 : Int)
    · exact coverEasier_out7 h p x.who x.a x.b x.c x.sl x.la x.n x.i x.m x.j.t x.j.s x.j.y w hA hv hn0 hn1 hn2 hn3 hn4 hn5 hn6 hn7
    by_cases hn8 : (8 : Int) < x.n
    · exact coverEasier_out8 h p x.who x.a x.b x.c x.sl x.la x.n x.i x.m x.j.t x.j.s x.j.y w hA hv hn0 hn1 hn2 hn3 hn4 hn5 hn6 hn7 hn8
    by_cases hn9 : x.i < (0 : Int)
    · exact coverEasier_out9 h p x.who x.a x.b x.c x.sl x.la x.n x.i x.m x.j.t x.j.s x.j.y w hA hv hn0 hn1 hn2 hn3 hn4 hn5 hn6 hn7 hn8 hn9
    by_cases hn10 : (3 : Int) < x.i
    · exact coverEasier_out10 h p x.who x.a x.b x.c x.sl x.la x.n x.i x.m x.j.t x.j.s x.j.y w hA hv hn0 hn1 hn2 hn3 hn4 hn5 hn6 hn7 hn8 hn9 hn10
    by_cases hn11 : x.m < (0 : Int)
    · exact coverEasier_out11 h p x.who x.a x.b x.c x.sl x.la x.n x.i x.m x.j.t x.j.s x.j.y w hA hv hn0 hn1 hn2 hn3 hn4 hn5 hn6 hn7 hn8 hn9 hn10 hn11
    by_cases hn12 : (6 : Int) < x.m
    · exact coverEasier_out12 h p x.who x.a x.b x.c x.sl x.la x.n x.i x.m x.j.t x.j.s x.j.y w hA hv hn0 hn1 hn2 hn3 hn4 hn5 hn6 hn7 hn8 hn9 hn10 hn11 hn12
    obtain ⟨a', ha⟩ : ∃ k : Nat, x.a = (k : Int) := ⟨x.a.toNat, by omega⟩
    obtain ⟨b', hb⟩ : ∃ k : Nat, x.b = (k : Int) := ⟨x.b.toNat, by omega⟩
    obtain ⟨c', hc⟩ : ∃ k : Nat, x.c = (k : Int) := ⟨x.c.toNat, by omega⟩
    obtain ⟨n', hn⟩ : ∃ k : Nat, x.n = (k : Int) := ⟨x.n.toNat, by omega⟩
    obtain ⟨i', hi⟩ : ∃ k : Nat, x.i = (k : Int) := ⟨x.i.toNat, by omega⟩
    obtain ⟨m', hm⟩ : ∃ k : Nat, x.m = (k : Int) := ⟨x.m.toNat, by omega⟩
    show Calls _ _ #[_, .agg #[.int .i64 x.who, .int .i64 x.a, .int .i64 x.b, .int .i64 x.c, .int .i64 x.sl, .int .i64 x.la, .int .i64 x.n, .int .i64 x.i, .int .i64 x.m, .int .i64 x.j.t, .int .i64 x.j.s, .int .i64 x.j.y]] _ _
    rw [ha, hb, hc, hn, hi, hm]
    exact coverEasier_good h p G x.who x.sl x.la a' b' c' n' i' m' x.j w hA hv (by omega) (by omega) (by omega) (by omega) (by omega) (by omega) (by omega)

end Go.Proofs.Ytcgnibfcjadnjaa
