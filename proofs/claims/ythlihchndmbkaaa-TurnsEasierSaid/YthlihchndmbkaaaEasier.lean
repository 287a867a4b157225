/- Easier: TurnsEasier. -/
import Derived.Test.YthlihchndmbkaaaEasierOffA
import Derived.Test.YthlihchndmbkaaaEasierOffB
import Derived.Test.YthlihchndmbkaaaEasierOffC
import Derived.Test.YthlihchndmbkaaaEasierOffD
import Derived.Test.YthlihchndmbkaaaEasierIn
import Derived.Test.YthlihchndmbkaaaEasierOut
namespace Go.Proofs.Ythlihchndmbkaaa
open Go.RowKit

theorem turnsEasier_any (t : TaskR) (xs : List Int) (A1 : Option Addr) (c1 : Nat) (x : EaseD) (w : World) (ht : TaskAt w w.heap.size t) (h1 : Ints w w.heap.size A1 xs) (hc : xs.length ≤ c1) :
    Calls Try.prog 5 #[taskV t, .slice A1 xs.length c1, easeV x] w fun e w' => e = .returned (.bool true) ∧ Below w.heap.size w w' := by
  obtain ⟨xh, xs0, xt, xe, xsl, xl, xr⟩ := x
  cases hv : validD t.d
  · exact easier_off0 t xs A1 c1 xh xs0 xt xe xsl xl xr w ht h1 hv
  by_cases hl : xs.length ≤ 20
  case neg => exact easier_off1 t xs A1 c1 xh xs0 xt xe xsl xl xr w ht h1 hv hl
  cases hr : okRota t.d xs
  · exact easier_off2 t xs A1 c1 xh xs0 xt xe xsl xl xr w ht h1 hv hl hr
  by_cases n0 : xs0 < 0
  · exact easier_off3 t xs A1 c1 xh xs0 xt xe xsl xl xr w ht h1 hv hl hr n0
  by_cases n1 : 100 < xs0
  · exact easier_off4 t xs A1 c1 xh xs0 xt xe xsl xl xr w ht h1 hv hl hr n0 n1
  by_cases n2 : xt < 0
  · exact easier_off5 t xs A1 c1 xh xs0 xt xe xsl xl xr w ht h1 hv hl hr n0 n1 n2
  by_cases n3 : 20 < xt
  · exact easier_off6 t xs A1 c1 xh xs0 xt xe xsl xl xr w ht h1 hv hl hr n0 n1 n2 n3
  by_cases n4 : xe < 0
  · exact easier_off7 t xs A1 c1 xh xs0 xt xe xsl xl xr w ht h1 hv hl hr n0 n1 n2 n3 n4
  by_cases n5 : 20 < xe
  · exact easier_off8 t xs A1 c1 xh xs0 xt xe xsl xl xr w ht h1 hv hl hr n0 n1 n2 n3 n4 n5
  by_cases n6 : xsl < 0
  · exact easier_off9 t xs A1 c1 xh xs0 xt xe xsl xl xr w ht h1 hv hl hr n0 n1 n2 n3 n4 n5 n6
  by_cases n7 : 100 < xsl
  · exact easier_off10 t xs A1 c1 xh xs0 xt xe xsl xl xr w ht h1 hv hl hr n0 n1 n2 n3 n4 n5 n6 n7
  by_cases n8 : xl < 0
  · exact easier_off11 t xs A1 c1 xh xs0 xt xe xsl xl xr w ht h1 hv hl hr n0 n1 n2 n3 n4 n5 n6 n7 n8
  by_cases n9 : 10 < xl
  · exact easier_off12 t xs A1 c1 xh xs0 xt xe xsl xl xr w ht h1 hv hl hr n0 n1 n2 n3 n4 n5 n6 n7 n8 n9
  by_cases n10 : xr < 0
  · exact easier_off13 t xs A1 c1 xh xs0 xt xe xsl xl xr w ht h1 hv hl hr n0 n1 n2 n3 n4 n5 n6 n7 n8 n9 n10
  by_cases n11 : 10 < xr
  · exact easier_off14 t xs A1 c1 xh xs0 xt xe xsl xl xr w ht h1 hv hl hr n0 n1 n2 n3 n4 n5 n6 n7 n8 n9 n10 n11
  have hx : okEase ⟨xh, xs0, xt, xe, xsl, xl, xr⟩ = true := by
    simp only [okEase, Bool.and_eq_true, inB_iff]
    omega
  by_cases hin : 0 ≤ xh ∧ xh < (t.d.hands.length : Int)
  · exact easier_in t xs A1 c1 xh xs0 xt xe xsl xl xr w ht h1 hc hv hl hr hx hin
  · exact easier_out t xs A1 c1 xh xs0 xt xe xsl xl xr w ht h1 hc hv hl hr hx hin

end Go.Proofs.Ythlihchndmbkaaa
