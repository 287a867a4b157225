/- HalfT: a sight of which four cells are written anew, in whatever order: what is known in between. -/
import Derived.Test.YtfpmkolaiomabaaGreatRegionS
import Derived.Test.YtfpmkolaiomabaaGreatSeen
import Derived.Test.YtfpmkolaiomabaaGreatMem
namespace Go.Proofs.YtfpmkolaiomabaaGreat
open Go.RowKit

/-- the sight in block b: of its first four cells each is as it was, or as it will be -/
def HalfT (b : Nat) (s : SeenD) (A : Option Addr) (cap : Nat) (n0 n1 n2 n3 : Int) (w : World) (c0 c1 c2 c3 : Int) : Prop :=
  BlockIs w b 50 #[.int .i64 c0, .int .i64 c1, .int .i64 c2, .int .i64 c3, .int .i64 s.lost, .int .i64 s.cl, .int .i64 s.ch, .int .i64 s.rl, .int .i64 s.rh, .int .i64 s.al, .int .i64 s.ah, .slice A s.moves.length cap] ∧ (c0 = s.rights ∨ c0 = n0) ∧ (c1 = s.lefts ∨ c1 = n1) ∧ (c2 = s.faces ∨ c2 = n2) ∧ (c3 = s.regions ∨ c3 = n3)
/-- what is written stays, all else below b, too -/
def RelT (b : Nat) (s : SeenD) (A : Option Addr) (cap : Nat) (n0 n1 n2 n3 : Int) (x y : World) : Prop := Below b x y ∧ ∀ c0 c1 c2 c3, HalfT b s A cap n0 n1 n2 n3 x c0 c1 c2 c3 → ∃ d0 d1 d2 d3, HalfT b s A cap n0 n1 n2 n3 y d0 d1 d2 d3 ∧ (c0 = n0 → d0 = n0) ∧ (c1 = n1 → d1 = n1) ∧ (c2 = n2 → d2 = n2) ∧ (c3 = n3 → d3 = n3)
section
variable {b : Nat} {s : SeenD} {A : Option Addr} {cap : Nat} {n0 n1 n2 n3 : Int}
theorem RelT.refl (x : World) : RelT b s A cap n0 n1 n2 n3 x x := ⟨Below.refl _ _, fun c0 c1 c2 c3 h => ⟨c0, c1, c2, c3, h, id, id, id, id⟩⟩
theorem RelT.trans {x y z : World} (h : RelT b s A cap n0 n1 n2 n3 x y) (k : RelT b s A cap n0 n1 n2 n3 y z) : RelT b s A cap n0 n1 n2 n3 x z := by
  refine ⟨h.1.trans k.1, fun c0 c1 c2 c3 hc => ?_⟩
  obtain ⟨d0, d1, d2, d3, hd, p0, p1, p2, p3⟩ := h.2 c0 c1 c2 c3 hc
  obtain ⟨e0, e1, e2, e3, he, q0, q1, q2, q3⟩ := k.2 d0 d1 d2 d3 hd
  exact ⟨e0, e1, e2, e3, he, fun u => q0 (p0 u), fun u => q1 (p1 u), fun u => q2 (p2 u), fun u => q3 (p3 u)⟩
theorem RelT.of_drew {x y : World} (h : RelT b s A cap n0 n1 n2 n3 x.drew y) : RelT b s A cap n0 n1 n2 n3 x y := ⟨⟨h.1.os, h.1.tape, h.1.output, h.1.size, h.1.block⟩, h.2⟩
def Stored0 (b : Nat) (s : SeenD) (A : Option Addr) (cap : Nat) (n0 n1 n2 n3 : Int) (w : World) : Prop := ∃ c0 c1 c2 c3, HalfT b s A cap n0 n1 n2 n3 w c0 c1 c2 c3 ∧ c0 = n0
theorem Stored0.stay {x y : World} (h : Stored0 b s A cap n0 n1 n2 n3 x) (k : RelT b s A cap n0 n1 n2 n3 x y) : Stored0 b s A cap n0 n1 n2 n3 y := by
  obtain ⟨c0, c1, c2, c3, hc, e⟩ := h
  obtain ⟨d0, d1, d2, d3, hd, p0, p1, p2, p3⟩ := k.2 c0 c1 c2 c3 hc
  exact ⟨d0, d1, d2, d3, hd, p0 e⟩
theorem HalfT.store0 {x : World} {c0 c1 c2 c3 : Int} (h : HalfT b s A cap n0 n1 n2 n3 x c0 c1 c2 c3) : RelT b s A cap n0 n1 n2 n3 x (x.setCell ⟨b, 0, none⟩ (.int .i64 n0)) ∧ Stored0 b s A cap n0 n1 n2 n3 (x.setCell ⟨b, 0, none⟩ (.int .i64 n0)) := by
  have step : ∀ c0 c1 c2 c3, HalfT b s A cap n0 n1 n2 n3 x c0 c1 c2 c3 → HalfT b s A cap n0 n1 n2 n3 (x.setCell ⟨b, 0, none⟩ (.int .i64 n0)) n0 c1 c2 c3 := fun c0 c1 c2 c3 ⟨hb, h0, h1, h2, h3⟩ => ⟨hb.near 0 _, .inr rfl, h1, h2, h3⟩
  exact ⟨⟨(Below.refl _ _).setCell (p := ⟨b, 0, none⟩) (Nat.le_refl _) _, fun c0 c1 c2 c3 hc => ⟨n0, c1, c2, c3, step _ _ _ _ hc, fun _ => rfl, id, id, id⟩⟩, n0, c1, c2, c3, step _ _ _ _ h, rfl⟩
def Stored1 (b : Nat) (s : SeenD) (A : Option Addr) (cap : Nat) (n0 n1 n2 n3 : Int) (w : World) : Prop := ∃ c0 c1 c2 c3, HalfT b s A cap n0 n1 n2 n3 w c0 c1 c2 c3 ∧ c1 = n1
theorem Stored1.stay {x y : World} (h : Stored1 b s A cap n0 n1 n2 n3 x) (k : RelT b s A cap n0 n1 n2 n3 x y) : Stored1 b s A cap n0 n1 n2 n3 y := by
  obtain ⟨c0, c1, c2, c3, hc, e⟩ := h
  obtain ⟨d0, d1, d2, d3, hd, p0, p1, p2, p3⟩ := k.2 c0 c1 c2 c3 hc
  exact ⟨d0, d1, d2, d3, hd, p1 e⟩
theorem HalfT.store1 {x : World} {c0 c1 c2 c3 : Int} (h : HalfT b s A cap n0 n1 n2 n3 x c0 c1 c2 c3) : RelT b s A cap n0 n1 n2 n3 x (x.setCell ⟨b, 1, none⟩ (.int .i64 n1)) ∧ Stored1 b s A cap n0 n1 n2 n3 (x.setCell ⟨b, 1, none⟩ (.int .i64 n1)) := by
  have step : ∀ c0 c1 c2 c3, HalfT b s A cap n0 n1 n2 n3 x c0 c1 c2 c3 → HalfT b s A cap n0 n1 n2 n3 (x.setCell ⟨b, 1, none⟩ (.int .i64 n1)) c0 n1 c2 c3 := fun c0 c1 c2 c3 ⟨hb, h0, h1, h2, h3⟩ => ⟨hb.near 1 _, h0, .inr rfl, h2, h3⟩
  exact ⟨⟨(Below.refl _ _).setCell (p := ⟨b, 1, none⟩) (Nat.le_refl _) _, fun c0 c1 c2 c3 hc => ⟨c0, n1, c2, c3, step _ _ _ _ hc, id, fun _ => rfl, id, id⟩⟩, c0, n1, c2, c3, step _ _ _ _ h, rfl⟩
def Stored2 (b : Nat) (s : SeenD) (A : Option Addr) (cap : Nat) (n0 n1 n2 n3 : Int) (w : World) : Prop := ∃ c0 c1 c2 c3, HalfT b s A cap n0 n1 n2 n3 w c0 c1 c2 c3 ∧ c2 = n2
theorem Stored2.stay {x y : World} (h : Stored2 b s A cap n0 n1 n2 n3 x) (k : RelT b s A cap n0 n1 n2 n3 x y) : Stored2 b s A cap n0 n1 n2 n3 y := by
  obtain ⟨c0, c1, c2, c3, hc, e⟩ := h
  obtain ⟨d0, d1, d2, d3, hd, p0, p1, p2, p3⟩ := k.2 c0 c1 c2 c3 hc
  exact ⟨d0, d1, d2, d3, hd, p2 e⟩
theorem HalfT.store2 {x : World} {c0 c1 c2 c3 : Int} (h : HalfT b s A cap n0 n1 n2 n3 x c0 c1 c2 c3) : RelT b s A cap n0 n1 n2 n3 x (x.setCell ⟨b, 2, none⟩ (.int .i64 n2)) ∧ Stored2 b s A cap n0 n1 n2 n3 (x.setCell ⟨b, 2, none⟩ (.int .i64 n2)) := by
  have step : ∀ c0 c1 c2 c3, HalfT b s A cap n0 n1 n2 n3 x c0 c1 c2 c3 → HalfT b s A cap n0 n1 n2 n3 (x.setCell ⟨b, 2, none⟩ (.int .i64 n2)) c0 c1 n2 c3 := fun c0 c1 c2 c3 ⟨hb, h0, h1, h2, h3⟩ => ⟨hb.near 2 _, h0, h1, .inr rfl, h3⟩
  exact ⟨⟨(Below.refl _ _).setCell (p := ⟨b, 2, none⟩) (Nat.le_refl _) _, fun c0 c1 c2 c3 hc => ⟨c0, c1, n2, c3, step _ _ _ _ hc, id, id, fun _ => rfl, id⟩⟩, c0, c1, n2, c3, step _ _ _ _ h, rfl⟩
def Stored3 (b : Nat) (s : SeenD) (A : Option Addr) (cap : Nat) (n0 n1 n2 n3 : Int) (w : World) : Prop := ∃ c0 c1 c2 c3, HalfT b s A cap n0 n1 n2 n3 w c0 c1 c2 c3 ∧ c3 = n3
theorem Stored3.stay {x y : World} (h : Stored3 b s A cap n0 n1 n2 n3 x) (k : RelT b s A cap n0 n1 n2 n3 x y) : Stored3 b s A cap n0 n1 n2 n3 y := by
  obtain ⟨c0, c1, c2, c3, hc, e⟩ := h
  obtain ⟨d0, d1, d2, d3, hd, p0, p1, p2, p3⟩ := k.2 c0 c1 c2 c3 hc
  exact ⟨d0, d1, d2, d3, hd, p3 e⟩
theorem HalfT.store3 {x : World} {c0 c1 c2 c3 : Int} (h : HalfT b s A cap n0 n1 n2 n3 x c0 c1 c2 c3) : RelT b s A cap n0 n1 n2 n3 x (x.setCell ⟨b, 3, none⟩ (.int .i64 n3)) ∧ Stored3 b s A cap n0 n1 n2 n3 (x.setCell ⟨b, 3, none⟩ (.int .i64 n3)) := by
  have step : ∀ c0 c1 c2 c3, HalfT b s A cap n0 n1 n2 n3 x c0 c1 c2 c3 → HalfT b s A cap n0 n1 n2 n3 (x.setCell ⟨b, 3, none⟩ (.int .i64 n3)) c0 c1 c2 n3 := fun c0 c1 c2 c3 ⟨hb, h0, h1, h2, h3⟩ => ⟨hb.near 3 _, h0, h1, h2, .inr rfl⟩
  exact ⟨⟨(Below.refl _ _).setCell (p := ⟨b, 3, none⟩) (Nat.le_refl _) _, fun c0 c1 c2 c3 hc => ⟨c0, c1, c2, n3, step _ _ _ _ hc, id, id, id, fun _ => rfl⟩⟩, c0, c1, c2, n3, step _ _ _ _ h, rfl⟩
theorem half_done {w : World} (h0 : Stored0 b s A cap n0 n1 n2 n3 w) (h1 : Stored1 b s A cap n0 n1 n2 n3 w) (h2 : Stored2 b s A cap n0 n1 n2 n3 w) (h3 : Stored3 b s A cap n0 n1 n2 n3 w) : BlockIs w b 50 #[.int .i64 n0, .int .i64 n1, .int .i64 n2, .int .i64 n3, .int .i64 s.lost, .int .i64 s.cl, .int .i64 s.ch, .int .i64 s.rl, .int .i64 s.rh, .int .i64 s.al, .int .i64 s.ah, .slice A s.moves.length cap] := by
  obtain ⟨c0, c1, c2, c3, ⟨hc, _⟩, rfl⟩ := h0
  obtain ⟨d0, d1, d2, d3, ⟨hd, _⟩, rfl⟩ := h1
  obtain ⟨e0, e1, e2, e3, ⟨he, _⟩, rfl⟩ := h2
  obtain ⟨f0, f1, f2, f3, ⟨hf, _⟩, rfl⟩ := h3
  have k1 := (hc.cell 1).symm.trans (hd.cell 1)
  have k2 := (hc.cell 2).symm.trans (he.cell 2)
  have k3 := (hc.cell 3).symm.trans (hf.cell 3)
  simp at k1 k2 k3
  subst k1 k2 k3
  exact hc
end

end Go.Proofs.YtfpmkolaiomabaaGreat
