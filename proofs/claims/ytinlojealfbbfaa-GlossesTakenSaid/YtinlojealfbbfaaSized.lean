/- Sized: the room of the messages that a law is given. -/
import Derived.Test.YtinlojealfbbfaaOpens
import Derived.SizedLaws
namespace Go.Proofs.Ytinlojealfbbfaa
open Go.RowKit Go.ChangeShapes Go.WideShapes Go.ChangeAt Go.Joins Go.Deep

theorem bytesGloss : Try.prog.bytesOf 55 = 48 := by kernel_rfl
section
variable {H : Type} {enc : TypeId × Value → H} {w : World} {base : Nat} {spare : Nat → Bool} {held : Bool}
theorem glosses_sized {ts : List TypeId} {ds : List (DataW H)} {d : DataW H} {v : Value} {p : List MemPlace} (hsz : (DataW.weightsEach Try.prog ts ds).all (· ≤ reachBytes) = true) {j : Nat} (ht : ts[j]? = some 25) (hd : ds[j]? = some d)
    (h : DataW.Trod enc Try.prog w base spare held 25 v d p) : ∀ (A : Option Addr) (cap n : Nat), v = .slice A n cap → n * 48 ≤ 140737488351232 := by
  intro A cap n hv
  subst hv
  obtain ⟨fuel, hf⟩ := h
  have hf : DataW.trod enc Try.prog w base spare held fuel 25 [.slice A n cap] = some (d, p) := by simpa [Value.cells] using hf
  rcases open_slice Try.underlying25 hf with ⟨hcs, _⟩ | ⟨a, len, cap', m, n', D, Pl, hcs, _, hl, hm, hmm, hx, hi⟩
  · have : n = 0 := by simp at hcs; exact hcs.2.1
    omega
  · have e : n = len := by simp at hcs; exact hcs.2.1
    subst e
    have hd2 : d = .slice ((List.range n).map D) ((List.range (m - n)).map fun j => D (n + j)) := by injection hx with h1 h2
    rw [hd2] at hd
    have := sized_slice hsz (j := j) (t := 25) (e := 55) ht hd Try.underlying25
    rw [bytesGloss] at this
    simp only [List.length_map, List.length_range, reachBytes] at this
    have h2 : n * 48 ≤ (n + (m - n)) * 48 := Nat.mul_le_mul_right 48 (by omega)
    omega
end

end Go.Proofs.Ytinlojealfbbfaa
