/- Entries that show the same: the program's. -/
import Derived.Test.YtjpnblflenlnaaaGreatEntry
import Derived.Test.YtjpnblflenlnaaaGreatBits
import Derived.Deep.DeepCutAuto
namespace Go.Proofs.YtjpnblflenlnaaaGreat
open Go.RowKit

def shownD (x y : EntryD) : Bool := (cmpF x.form y.form == 0) && ((bits .and .i64 x.regions y.regions != 0) && meetD x.low x.high y.low y.high)

set_option maxRecDepth 100000 in
set_option maxHeartbeats 2000000 in
theorem sameShown_any (x y : EntryR) (w : World) (hx : MovesAt w w.heap.size x) (hy : MovesAt w w.heap.size y) (hxl : x.d.form.moves.length ≤ 6) (hyl : y.d.form.moves.length ≤ 6) :
    Calls Tryz.prog 64 #[entryV x, entryV y] w fun e w' => e = .returned (.bool (shownD x.d y.d)) ∧ Below w.heap.size w w' := by
  have HC := Lib.hid (fun w1 (h : Grow w w1) => compareForms_any x.d.form y.d.form x.A y.A x.cap y.cap w1 ((hx.1.below h).more h.size) ((hy.1.below h).more h.size) (by omega) (by omega))
  clear hx hy
  have HO : Hid (shownD x.d y.d = ((cmpF x.d.form y.d.form == 0) && ((bits .and .i64 x.d.regions y.d.regions != 0) && meetD x.d.low x.d.high y.d.low y.d.high))) := rfl
  generalize shownD x.d y.d = res at HO ⊢
  generalize cmpF x.d.form y.d.form = c at HC HO
  have HM := Lib.hid (fun w0 => meet_any x.d.low x.d.high y.d.low y.d.high w0)
  generalize meetD x.d.low x.d.high y.d.low y.d.high = m at HM HO
  generalize hz : bits .and .i64 x.d.regions y.d.regions = z at HO
  have HZ := Lib.hid hz
  go_enter Tryz.func64, Tryz.ntmps64
  go_upto_region 1 with fail
  obtain ⟨W, hW, hg, hf, hf', hsz⟩ := two_blocks w 62 62 (cellsE x) (cellsE y)
  rw [hW]
  clear hW
  have HG := Lib.hid hg
  have HF := Lib.hid hf
  have HF' := Lib.hid hf'
  have hfc := hf.cell
  have hfc' := hf'.cell
  clear hg hf hf'
  go_wp2_with fail
  refine (HC.out _ HG.out).mono ?_
  rintro e w2 ⟨rfl, hb2⟩
  have HG2 : Hid (Grow W w2) := hb2
  have hgc := (Grow.block hb2 HF.out).cell
  have hgc' := (Grow.block hb2 HF'.out).cell
  clear hb2 hfc hfc'
  cases hc0 : (c == 0) with
  | false =>
    have HC0 := Lib.hid hc0
    go_wp2
    all_goals first
      | (go_ret; exact ⟨by rw [HO.out, HC0.out]; rfl, HG.out.trans HG2.out⟩)
  | true =>
    have HC0 := Lib.hid hc0
    cases hz0 : (z != 0) with
    | false =>
      have HZ0 := Lib.hid hz0
      go_wp2
      all_goals first
        | (go_ret; exact ⟨by rw [HO.out, HC0.out, HZ0.out]; rfl, HG.out.trans HG2.out⟩)
    | true =>
      have HZ0 := Lib.hid hz0
      go_wp2_with (first | (go_at_call 94; refine (HM.out _).mono ?_; rintro e w3 ⟨rfl, hb3⟩; have HG3 : Hid (Grow w2 w3) := hb3; clear hb3))
      all_goals first
        | (go_ret; exact ⟨by rw [HO.out, HC0.out, HZ0.out]; rfl, (HG.out.trans HG2.out).trans HG3.out⟩)

end Go.Proofs.YtjpnblflenlnaaaGreat
