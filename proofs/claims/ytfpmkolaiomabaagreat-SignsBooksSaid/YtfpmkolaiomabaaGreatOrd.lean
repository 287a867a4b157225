/- Ord: the specification's before and Order. -/
import Derived.Test.YtfpmkolaiomabaaGreatDist
namespace Go.Proofs.YtfpmkolaiomabaaGreat
open Go.RowKit

theorem cmpE_before (x y : EntryD) : decide (cmpE x y < 0) = if cmpF x.form y.form ≠ 0 then decide (cmpF x.form y.form < 0) else if x.sign ≠ y.sign then decide (x.sign < y.sign) else decide (x.id < y.id) := by
  rw [cmpE_then]
  unfold thenC
  by_cases h1 : cmpF x.form y.form = 0
  · rw [if_neg (show ¬cmpF x.form y.form ≠ 0 from fun h => h h1)]
    by_cases h2 : x.sign = y.sign
    · rw [if_neg (show ¬x.sign ≠ y.sign from fun h => h h2)]
      have e : cmpI x.sign y.sign = 0 := by rw [h2]; exact cmpI_self _
      simp [h1, e, cmpI_neg]
    · rw [if_pos h2]
      have e : ¬cmpI x.sign y.sign = 0 := fun e => h2 (cmpI_eq0 e)
      simp [h1, e, cmpI_neg]
  · rw [if_pos h1]
    simp [h1]

set_option maxRecDepth 100000 in
set_option maxHeartbeats 2000000 in
theorem before_any (x y : EntryR) (w : World) (hx : MovesAt w w.heap.size x) (hy : MovesAt w w.heap.size y) (ox : okForm x.d.form = true) (oy : okForm y.d.form = true) :
    Calls Tryz.prog 63 #[entryV x, entryV y] w fun e w' => e = .returned (.bool (decide (cmpE x.d y.d < 0))) ∧ Below w.heap.size w w' := by
  have HFI := Lib.hid (fun (w0 : World) (h : Grow w w0) => rFirst_any x.d.form y.d.form x.A y.A x.cap y.cap w0 ((hx.1.below h).more h.size) ((hy.1.below h).more h.size) ox oy)
  have HCE := Lib.hid (cmpE_before x.d y.d)
  clear hx hy ox oy
  generalize decide (cmpE x.d y.d < 0) = res at HCE ⊢
  go_enter Tryz.func63, Tryz.ntmps63
  go_upto_region 1 with fail
  obtain ⟨W, hW, hg, hX, hY, hsz⟩ := two_blocks w 62 62 (cellsE x) (cellsE y)
  rw [hW]
  clear hW
  have HG := Lib.hid hg
  have HX := Lib.hid hX
  have HY := Lib.hid hY
  have hxc := hX.cell
  have hyc := hY.cell
  clear hg hX hY
  go_wp2_with fail
  refine (HFI.out _ HG.out).mono ?_
  rintro e w2 ⟨rfl, hb2⟩
  have HG2 : Hid (Grow w w2) := HG.out.trans hb2
  have HX2 := Lib.hid (Grow.block hb2 HX.out)
  have HY2 := Lib.hid (Grow.block hb2 HY.out)
  clear hxc hyc hb2
  have hxc := HX2.out.cell
  have hyc := HY2.out.cell
  generalize cmpF x.d.form y.d.form = c at HCE
  by_cases h1 : c = 0
  · have e1 : decide (c = 0) = true := decide_eq_true h1
    subst h1
    rw [if_neg (by simp)] at HCE
    by_cases h2 : x.d.sign = y.d.sign
    · have e2 : decide (x.d.sign = y.d.sign) = true := decide_eq_true h2
      rw [if_neg (by simpa using h2)] at HCE
      go_wp2_with fail
      go_ret
      exact ⟨ret_bool HCE.out.symm, HG2.out⟩
    · have e2 : decide (x.d.sign = y.d.sign) = false := decide_eq_false h2
      rw [if_pos h2] at HCE
      go_wp2_with fail
      go_ret
      exact ⟨ret_bool HCE.out.symm, HG2.out⟩
  · have e1 : decide (c = 0) = false := decide_eq_false h1
    rw [if_pos h1] at HCE
    go_wp2_with fail
    go_ret
    exact ⟨ret_bool HCE.out.symm, HG2.out⟩

/-- done are the first ones of the book bk, in order; rest are the others -/
def SelInv (bk done rest : List EntryD) : Prop := (done ++ rest).Perm bk ∧ done.Pairwise (fun x y => cmpE x y ≤ 0) ∧ ∀ x ∈ done, ∀ y ∈ rest, cmpE x y ≤ 0
theorem SelInv.start (bk : List EntryD) : SelInv bk [] bk := ⟨List.Perm.refl _, List.Pairwise.nil, fun x hx => by cases hx⟩
theorem rest_perm {α : Type} {rest : List α} {k : Nat} {x : α} (hx : rest[k]? = some x) : (x :: (rest.take k ++ rest.drop (k + 1))).Perm rest := by
  have hk := lt_of_at hx
  have e : rest = rest.take k ++ x :: rest.drop (k + 1) := by
    have h1 := List.take_append_drop k rest
    rw [List.drop_eq_getElem_cons hk] at h1
    rw [show rest[k] = x from Option.some.inj ((List.getElem?_eq_getElem hk).symm.trans hx)] at h1
    exact h1.symm
  exact (List.perm_middle.symm).trans (by rw [← e])
theorem SelInv.step {bk done rest : List EntryD} (h : SelInv bk done rest) {k : Nat} {x : EntryD} (hx : rest[k]? = some x) (hm : ∀ y ∈ rest, cmpE x y ≤ 0) : SelInv bk (done ++ [x]) (rest.take k ++ rest.drop (k + 1)) := by
  obtain ⟨h1, h2, h3⟩ := h
  have hp := rest_perm hx
  have hxr : x ∈ rest := List.mem_of_getElem? hx
  have hsub : ∀ y ∈ rest.take k ++ rest.drop (k + 1), y ∈ rest := fun y hy => hp.mem_iff.1 (List.mem_cons_of_mem _ hy)
  refine ⟨?_, ?_, fun a ha b hb => ?_⟩
  · rw [List.append_assoc]
    exact ((List.Perm.refl done).append hp).trans h1
  · rw [List.pairwise_append]
    exact ⟨h2, by simp, fun a ha b hb => by rw [List.mem_singleton] at hb; subst hb; exact h3 a ha b hxr⟩
  · rcases List.mem_append.1 ha with ha | ha
    · exact h3 a ha b (hsub b hb)
    · rw [List.mem_singleton] at ha
      subst ha
      exact hm b (hsub b hb)
theorem SelInv.finish {l bk done : List EntryD} (h : SelInv bk done []) (hb : IsBookOf l bk) : OrderD l (done.map EntryD.id) := by
  obtain ⟨h1, h2, _⟩ := h
  rw [List.append_nil] at h1
  exact ⟨done, h2, hb.perm h1, rfl⟩

end Go.Proofs.YtfpmkolaiomabaaGreat
