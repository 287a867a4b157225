/- RMerge: the specification's Merge. -/
import Derived.Test.YtfpmkolaiomabaaGreatMergeL
namespace Go.Proofs.YtfpmkolaiomabaaGreat
open Go.RowKit

section
variable {P : Program}
theorem wpList_append_ents {w : World} {ops : Array Oper} {rest : List Oper} {o : Oper} {a : Act} {Q : Exit → Act → World → Prop} (hgd : o.guard = none) (s x : Operand) (t : TypeId)
    (ho : o.op = .call { callee := .builtin .append, args := #[s, x], argTypes := #[t, t] })
    (base : Nat) (e : TypeId) (i : TypeInfo) (z : Value) (bytes : Nat) (ht : P.underlying t = some (.slice e)) (hi : P.info? e = some i) (hz : i.zero = some z)
    (hsize : i.size = 11) (hby : i.bytes = bytes) (hzs : z.cells.size = 11)
    (v : Value) (n : Nat) (xs : List Value) (hs : a.eval s = v) (hown : w.ownsRow base e 11 v n xs)
    (A : Option Addr) (m c B : Nat) (ys : List EntryR) (hx : a.eval x = .slice A m c) (hm : m = ys.length) (hr : Ents w B A ys)
    (h63 : n + m ≤ maxLen) (hbytes : (n + m) * bytes ≤ 140737488355328) (hbase : base ≤ w.heap.size)
    (h : ∀ v' w', w'.ownsRow base e 11 v' (n + m) (xs ++ ys.flatMap cellsL) → w.grownBy w' v.ownBlock → wpList P ops Q rest (a.put o.dst v') w') : wpList P ops Q (o :: rest) a w := by
  subst hm
  cases A with
  | none =>
    have hn : ys = [] := by
      rcases hr.1 with h | ⟨_, _, h, _⟩
      · exact h
      · cases h
    subst hn
    refine wpList_plain hgd fun K hK => ?_
    have hrun := run_append_nothing (P := P) w base t o.type e i 11 ht hi v n xs hown c
    have h1 := hK _ _ (h v w (by simpa using hown) (World.grownBy.refl w _))
    unfold Oper.wp
    simp at hx
    simp [execOp, ho, resolve, invoke, builtin, hs, hx, hrun, Result.andThen]
    exact h1
  | some ad =>
    refine wpList_append_own w hgd s x t ho base e i z 11 bytes ht hi hz hsize hby hzs (by omega) v n xs hs hown ad ys.length c (ys.flatMap cellsL) hx (by rw [flat_length (enc := cellsL) (k := 11) (fun _ => rfl)]) ?_ (fun u hu => by
      obtain ⟨y, _, hu⟩ := List.mem_flatMap.1 hu
      exact one_entry y u hu) h63 hbytes hbase (fun v' w' h1 h2 _ => h v' w' h1 h2)
    intro j u hu
    rcases hr.1 with h | ⟨b, off, h1, _, h2⟩
    · subst h; simp at hu
    · injection h1 with h1
      subst h1
      have e : j / 11 * 11 + j % 11 = j := by omega
      have hf := flat_get (enc := cellsL) (k := 11) (fun _ => rfl) ys (j / 11) (j % 11) (by omega)
      rw [e, hu] at hf
      cases hy : ys[j / 11]? with
      | none => rw [hy] at hf; cases hf
      | some y =>
        rw [hy, Option.bind_some] at hf
        have h3 := h2 _ y hy (j % 11) (by omega)
        rw [show (⟨b, off, none⟩ : Addr).add j = ⟨b, off + j / 11 * 11 + j % 11, none⟩ by (rw [Nat.add_assoc, e]; simp [Addr.add]), h3]
        exact Array.getElem?_toList.symm.trans hf.symm
end

set_option maxRecDepth 100000 in
set_option maxHeartbeats 8000000 in
theorem rMerge_any (A A' : Option Addr) (cap cap' B B' : Nat) (l more : List EntryR) (w : World) (hA : Ents w B A l) (hl : l.length ≤ 1000000) (hB : B ≤ w.heap.size) (hA' : Ents w B' A' more) (hl' : more.length ≤ 1000000) (hB' : B' ≤ w.heap.size) :
    Calls Tryz.prog 33 #[.slice A l.length cap, .slice A' more.length cap'] w (MergePost (l.map (·.d)) (more.map (·.d)) w) := by
  obtain ⟨j0, hj, hy0, hy1, hy2⟩ := info_parts Tryz.infoEntry
  have HR := Lib.hid (rCheck_any A cap B l w hA hl hB)
  have HE := Lib.hid (hA.more hB)
  have HE' := Lib.hid (hA'.more hB')
  have HR2 := Lib.hid (fun (w0 : World) (h : Grow w w0) => rCheck_any A' cap' w.heap.size more w0 (HE'.out.below h) hl' h.size)
  clear hA hA' hB hB'
  have HML : Hid (∀ e, mergeErr (l.map (·.d)) (more.map (·.d)) = e → e ≠ 0 → mergeL (l.map (·.d)) (more.map (·.d)) = []) := Lib.hid fun e h he => by unfold mergeL; rw [if_neg (by rw [h]; exact he)]
  have HBOTH : Hid ((l ++ more).map (fun y : EntryR => y.d) = l.map (fun y : EntryR => y.d) ++ more.map (fun y : EntryR => y.d)) := Lib.hid List.map_append
  have HOKS : Hid (bookErr (l.map (·.d)) = 0 → bookErr (more.map (·.d)) = 0 → (l.length ≤ 40 ∧ more.length ≤ 40) ∧ ∀ x ∈ l ++ more, okEntry x.d = true) := Lib.hid fun h1 h2 => by
    have k1 := bookErr_ok h1
    have k2 := bookErr_ok h2
    simp only [List.length_map] at k1 k2
    refine ⟨⟨k1.1, k2.1⟩, fun x hx => ?_⟩
    rcases List.mem_append.1 hx with h | h
    · exact k1.2.1 x.d (List.mem_map.2 ⟨x, h, rfl⟩)
    · exact k2.2.1 x.d (List.mem_map.2 ⟨x, h, rfl⟩)
  generalize hld : l.map (fun y : EntryR => y.d) = ld at HR HML HBOTH HOKS
  generalize hmd : more.map (fun y : EntryR => y.d) = md at HR2 HML HBOTH HOKS
  have HLD := Lib.hid hld
  have HMD := Lib.hid hmd
  clear hld hmd
  have HME : Hid (mergeErr ld md = if bookErr ld ≠ 0 then bookErr ld else if bookErr md ≠ 0 then bookErr md else if 40 < (distTo (ld ++ md) 100).length then 2 else if clashD (ld ++ md) = true then 12 else 0) := rfl
  go_enter Tryz.func33, Tryz.ntmps33
  go_wp2_with fail
  refine HR.out.mono ?_
  rintro e w1 ⟨rfl, hb1⟩
  have HG1 : Hid (Grow w w1) := hb1
  clear hb1
  by_cases hb1 : bookErr ld = 0
  · have HB1 := Lib.hid hb1
    rw [hb1]
    clear hb1
    go_wp2_with fail
    refine (HR2.out _ HG1.out).mono ?_
    rintro e w2 ⟨rfl, hb2⟩
    have HG2 : Hid (Grow w w2) := HG1.out.trans hb2
    clear hb2
    by_cases hb2 : bookErr md = 0
    · have HB2 := Lib.hid hb2
      rw [hb2]
      clear hb2
      obtain ⟨⟨hl40, hm40⟩, hok⟩ := HOKS.out HB1.out HB2.out
      have HOK := Lib.hid hok
      clear hok
      have hown0 : (w2.alloc (.cells #[] 62)).ownsRow w2.heap.size 62 11 (.slice (some ⟨w2.heap.size, 0, none⟩) 0 0) 0 [] :=
        ⟨rfl, .inr ⟨w2.heap.size, 0, #[], rfl, Nat.le_refl _, heap_alloc_new w2 _, Nat.le_refl _, by unfold maxLen; omega, rfl, rfl⟩⟩
      have hE1 := HE.out.below (HG2.out.trans (Grow.alloc w2 (.cells #[] 62)))
      go_wp2_with (at_builtin; refine wpList_append_ents rfl _ _ 33 rfl w2.heap.size 62 j0 (.agg zeroE) 104 Tryz.underlying33 hj hy0 hy1 hy2 rfl _ 0 [] rfl hown0 A l.length cap w.heap.size l rfl rfl hE1 ?c2 ?c3 ?c4 ?_)
      case c2 => unfold maxLen; omega
      case c3 => omega
      case c4 => simp
      intro v3 w3 hown3 hgr3
      obtain ⟨A3, cap3, rfl⟩ := own_form hown3
      have hb3 : Below w2.heap.size w2 w3 := below_grown (Grow.alloc w2 (.cells #[] 62)) hown0 hgr3 (by simp)
      have HG3 : Hid (Grow w w3) := HG2.out.trans hb3
      have hE2 := HE'.out.below HG3.out
      have hz30 := hb3.size
      have hz3 := hb3.size
      clear hE1 hgr3 hown0
      go_wp2_with (at_builtin; refine wpList_append_ents rfl _ _ 33 rfl w2.heap.size 62 j0 (.agg zeroE) 104 Tryz.underlying33 hj hy0 hy1 hy2 rfl _ _ _ rfl hown3 A' more.length cap' w.heap.size more rfl rfl hE2 ?c2 ?c3 ?c4 ?_)
      case c2 => unfold maxLen; omega
      case c3 => omega
      case c4 => exact hz3
      intro v4 w4 hown4 hgr4
      obtain ⟨A4, cap4, rfl⟩ := own_form hown4
      have hb4 : Below w2.heap.size w2 w4 := below_grown hb3 hown3 hgr4 hz3
      have HG4 : Hid (Grow w w4) := HG2.out.trans hb4
      rw [← List.flatMap_append] at hown4
      obtain ⟨hen, hlen⟩ := own_ents hown4 (fun y hy => by
        rcases List.mem_append.1 hy with h | h
        · exact ((HE.out.2 y h).below HG4.out).more HG4.out.size
        · exact ((HE'.out.2 y h).below HG4.out).more HG4.out.size)
      have HEN := Lib.hid hen
      have HLEN : Hid (l.length + more.length = (l ++ more).length) := hlen
      have HDI := Lib.hid (fun (w0 : World) (h : Grow w4 w0) => by
        have k := distinct_any A4 cap4 w4.heap.size (l ++ more) w0 (HEN.out.below h) (by rw [List.length_append]; omega) h.size (fun x hx => okEntry_okForm (HOK.out x hx))
        rw [← HLEN.out, HBOTH.out] at k
        exact k)
      have HCL := Lib.hid (fun (w0 : World) (h : Grow w4 w0) => by
        have k := rclash_any A4 cap4 w4.heap.size (l ++ more) w0 (HEN.out.below h) (by rw [List.length_append]; omega) h.size HOK.out
        rw [← HLEN.out, HBOTH.out] at k
        exact k)
      have HDL := Lib.hid (distTo_length (ld ++ md) 100)
      have HML2 : Hid (mergeErr ld md = 0 → mergeL ld md = distTo (ld ++ md) 100) := Lib.hid fun h => by unfold mergeL; rw [if_pos h]
      have HME2 : Hid (mergeErr ld md = if 40 < (distTo (ld ++ md) 100).length then 2 else if clashD (ld ++ md) = true then 12 else 0) := Lib.hid (by rw [HME.out, HB1.out, HB2.out, if_neg (by simp), if_neg (by simp)])
      have HOKF : Hid (∀ y ∈ distTo (ld ++ md) 100, y.form.moves.length ≤ 1000000) := Lib.hid fun y hy => by
        obtain ⟨x, hx, _, _, rfl⟩ := distTo_mem.1 hy
        have hx0 := (findI_some hx).1
        rw [← HBOTH.out] at hx0
        obtain ⟨x', hx', rfl⟩ := List.mem_map.1 hx0
        have := okForm_len (okForm_canon (okEntry_okForm (HOK.out x' hx')))
        show (canonD x'.d.form).moves.length ≤ 1000000
        omega
      generalize distTo (ld ++ md) 100 = ds at HDI HDL HML2 HME2 HOKF
      generalize clashD (ld ++ md) = cl at HCL HME2
      clear hown3 hown4 hgr4 hen hlen hE2 hb3 hb4 HME HLEN HEN HBOTH HOK
      go_wp2_with fail
      refine (HDI.out w4 (Grow.refl _)).mono ?_
      rintro e w5 ⟨_, rfl, ⟨A5, cap5, ys5, rfl, -, -, -⟩, hb5⟩
      have HG5 : Hid (Grow w w5) := HG4.out.trans hb5
      have HG45 : Hid (Grow w4 w5) := hb5
      clear hb5
      have hdl := HDL.out
      by_cases hbig : 40 < ds.length
      · have hbi : (40 : Int) < ds.length := by omega
        have HER : Hid (mergeErr ld md = 2) := Lib.hid (by rw [HME2.out, if_pos hbig])
        have HL : Hid (mergeL ld md = []) := Lib.hid (HML.out _ HER.out (by decide))
        go_wp2
        go_ret2
        exact ⟨HG5.out, none, 0, [], (by rw [HER.out] <;> rfl), by rw [HL.out]; rfl, .inl rfl, fun y hy => (by cases hy)⟩
      · have hbd : decide ((40 : Int) < ds.length) = false := decide_eq_false (by omega)
        go_wp2_with fail
        refine (HCL.out w5 HG45.out).mono ?_
        rintro e w6 ⟨rfl, hb6⟩
        have HG6 : Hid (Grow w w6) := HG5.out.trans hb6
        have HG46 : Hid (Grow w4 w6) := HG45.out.trans hb6
        clear hb6
        cases cl with
        | true =>
          have HER : Hid (mergeErr ld md = 12) := Lib.hid (by rw [HME2.out, if_neg hbig, if_pos rfl])
          have HL : Hid (mergeL ld md = []) := Lib.hid (HML.out _ HER.out (by decide))
          go_wp2
          go_ret2
          exact ⟨HG6.out, none, 0, [], (by rw [HER.out] <;> rfl), by rw [HL.out]; rfl, .inl rfl, fun y hy => (by cases hy)⟩
        | false =>
          have HER : Hid (mergeErr ld md = 0) := Lib.hid (by rw [HME2.out, if_neg hbig]; rfl)
          have HL : Hid (mergeL ld md = ds) := Lib.hid (HML2.out HER.out)
          go_wp2_with fail
          refine (HDI.out w6 HG46.out).mono ?_
          rintro e w7 ⟨_, rfl, ⟨A7, cap7, ys7, rfl, hys7, hown7, hm7⟩, hb7⟩
          have HG7 : Hid (Grow w w7) := HG6.out.trans hb7
          obtain ⟨hen7, hln7⟩ := own_ents hown7 (fun y hy => ⟨(hm7 y hy).intsF.ints, HOKF.out y.d (by rw [← hys7]; exact List.mem_map.2 ⟨y, hy, rfl⟩)⟩)
          have HEN7 := Lib.hid hen7
          have HLN7 := Lib.hid hln7
          have HYS7 := Lib.hid hys7
          clear hys7 hown7 hm7 hb7 hen7 hln7
          go_wp2
          go_ret2
          exact ⟨HG7.out, A7, cap7, ys7, (by rw [HER.out, ← HLN7.out] <;> rfl), by rw [HL.out]; exact HYS7.out, HEN7.out⟩
    · have HER : Hid (mergeErr ld md = bookErr md) := Lib.hid (by rw [HME.out, HB1.out, if_neg (by simp), if_pos hb2])
      have HL : Hid (mergeL ld md = []) := Lib.hid (HML.out _ HER.out hb2)
      generalize bookErr md = be at hb2 HER
      clear HME
      go_wp2
      go_ret2
      exact ⟨HG2.out, none, 0, [], (by rw [HER.out] <;> rfl), by rw [HL.out]; rfl, .inl rfl, fun y hy => (by cases hy)⟩
  · have HER : Hid (mergeErr ld md = bookErr ld) := Lib.hid (by rw [HME.out, if_pos hb1])
    have HL : Hid (mergeL ld md = []) := Lib.hid (HML.out _ HER.out hb1)
    generalize bookErr ld = be at hb1 HER
    clear HME
    go_wp2
    go_ret2
    exact ⟨HG1.out, none, 0, [], (by rw [HER.out] <;> rfl), by rw [HL.out]; rfl, .inl rfl, fun y hy => (by cases hy)⟩

end Go.Proofs.YtfpmkolaiomabaaGreat
