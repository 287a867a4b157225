/- slices.SortedFunc of maps.Values of a book. -/
import Derived.Test.YtjpnblflenlnaaaGreatSeq
import Derived.Test.YtjpnblflenlnaaaGreatRead
namespace Go.Proofs.YtjpnblflenlnaaaGreat
open Go.RowKit Go.Shelf

theorem valuesW_any (m : Nat) (w : World) : Calls Tryz.prog 61 #[.map (some m)] w fun e w' =>
    e = .returned (.func (.func 93) #[] #[.pointer (some ⟨w.heap.size, 0, none⟩)]) ∧ w' = w.alloc (.cells #[.map (some m)] 82) :=
  (callsIn_wide (n := 5)).1 (values_any Fence.wide 5 trivial rfl m w)

set_option maxRecDepth 100000 in
set_option maxHeartbeats 1000000 in
theorem collect_any (Bm m : Nat) (bk : List EntryR) (w : World) (hB : Bm < w.heap.size) (hm : w.cell? ⟨Bm, 0, none⟩ = some (.map (some m))) (hb : BookAt w m bk) (hl : bk.length ≤ 1000000) :
    Calls Tryz.prog 91 #[.func (.func 93) #[] #[.pointer (some ⟨Bm, 0, none⟩)]] w fun e w' =>
      ∃ v ss, e = .returned v ∧ List.Perm ss bk ∧ w'.ownsRow w.heap.size 62 11 v ss.length (ss.flatMap cellsL) ∧ Below w.heap.size w w' := by
  have HA := Lib.hid ((callsIn_wide (n := 5)).1 (appendSeq_in Fence.wide 5 trivial rfl (by omega) 93 #[.pointer (some ⟨Bm, 0, none⟩)] trivial (enters_of Tryz.func93 (by kernel_rfl) rfl)
    (fun ss => List.Perm ss bk) (fun _ => True) bk.length hl w (fun w0 h0 => values_stops Fence.wide 4 trivial rfl (by omega) Bm m bk w0 (by have := h0.size; omega) ((h0.cell (p := ⟨Bm, 0, none⟩) hB).trans hm) (hb.grow h0))))
  clear hb hm
  go_enter Tryz.func91, Tryz.ntmps91
  go_wp2_with fail
  refine HA.out.mono ?_
  rintro e w' ⟨v, ss, rfl, hp, ho, hb⟩
  have HR := Lib.hid (And.intro hp (And.intro ho hb))
  clear hp ho hb
  go_wp2
  go_ret
  exact ⟨v, ss, rfl, HR.out⟩

/-- what a sorted walk through a book leaves -/
def SortedPost (cf : EntryD → EntryD → Int) (bk : List EntryR) (w : World) (e : Ending) (w' : World) : Prop :=
  ∃ A n cap ys, e = .returned (.slice A n cap) ∧ List.Perm ys bk ∧ ys.Pairwise (fun x y => cf x.d y.d ≤ 0) ∧ w'.ownsRow w.heap.size 62 11 (.slice A n cap) n (List.flatMap cellsL ys) ∧ Below w.heap.size w w'

set_option maxRecDepth 100000 in
set_option maxHeartbeats 1000000 in
theorem sortedFunc_any (Bm m : Nat) (bk : List EntryR) (w : World) (hB : Bm < w.heap.size) (hm : w.cell? ⟨Bm, 0, none⟩ = some (.map (some m))) (hb : BookAt w m bk) (hmv : MovesAll w bk) (hl : bk.length ≤ 1000000)
    (cf : EntryD → EntryD → Int) (hO : Cmp cf) (f : Nat) (ef : ∀ args w, (callFunc f args).run Tryz.prog w = .ok (.enter f args) w)
    (hf : ∀ (x y : EntryR) (w : World), MovesAt w w.heap.size x → MovesAt w w.heap.size y → x.d.form.moves.length ≤ 6 → y.d.form.moves.length ≤ 6 → Calls Tryz.prog f #[entryV x, entryV y] w fun e w' => e = .returned (.int .i64 (cf x.d y.d)) ∧ Grew w w') :
    Calls Tryz.prog 60 #[.func (.func 93) #[] #[.pointer (some ⟨Bm, 0, none⟩)], .func (.func f) #[] #[]] w (SortedPost cf bk w) := by
  have HC := Lib.hid (collect_any Bm m bk w hB hm hb hl)
  have HM := Lib.hid hmv
  have HF := Lib.hid hf
  have HE := Lib.hid ef
  have HO := Lib.hid hO
  clear hb hm hmv hf ef hO
  go_enter Tryz.func60, Tryz.ntmps60
  go_wp2_with fail
  refine HC.out.mono ?_
  rintro e w1 ⟨v, ss, rfl, hp, ho, hb⟩
  obtain ⟨A, cap, rfl⟩ := own_form ho
  have hsl : ss.length ≤ 1000000 := by rw [hp.length_eq]; exact hl
  have HS := Lib.hid (sortE_any ho hsl (fun x hx => ⟨((HM.out x (hp.mem_iff.1 hx)).1.below hb), (HM.out x (hp.mem_iff.1 hx)).2⟩) cf HO.out f HE.out HF.out)
  have HP := Lib.hid hp
  have HB := Lib.hid hb
  have HOW := Lib.hid ho
  clear hp ho hb
  go_wp2_with fail
  refine HS.out.mono ?_
  rintro e w2 ⟨rfl, ys, hyp, hys, hyo, hyg⟩
  have hb2 : Below w.heap.size w w2 := HB.out.grown hyg HB.out.size (fun q hq => own_ge HOW.out q hq)
  have HR := Lib.hid (And.intro (hyp.trans HP.out) (And.intro hys (And.intro hyo hb2)))
  clear hyp hys hyo hyg hb2
  go_wp2
  go_ret
  exact ⟨A, ss.length, cap, ys, rfl, HR.out⟩

end Go.Proofs.YtjpnblflenlnaaaGreat
