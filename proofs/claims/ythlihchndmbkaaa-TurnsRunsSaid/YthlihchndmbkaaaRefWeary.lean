/- RefWeary: the specification's Weary. -/
import Derived.Test.YthlihchndmbkaaaRefW
import Derived.Test.YthlihchndmbkaaaWeary
import Derived.Test.YthlihchndmbkaaaHands
namespace Go.Proofs.Ythlihchndmbkaaa
open Go.RowKit

/-- a new slice of one span -/
def NewSpan (lo : Nat) (x y : Int) (v : Value) (w : World) : Prop := ∃ b, v = .slice (some ⟨b, 0, none⟩) 1 1 ∧ lo ≤ b ∧ BlockIs w b 47 #[.int .i64 x, .int .i64 y]
theorem NewSpan.grow {lo : Nat} {x y : Int} {v : Value} {a b : World} (h : NewSpan lo x y v a) (k : Grow a b) : NewSpan lo x y v b := by
  obtain ⟨g, h1, h2, h3⟩ := h
  exact ⟨g, h1, h2, k.block h3⟩
theorem news_two {w : World} {g : Nat} {t : TypeId} {u v : Value} (h : BlockIs w g t #[u, v]) : ∀ j x, [u, v][j]? = some x → w.cell? ((⟨g, 0, none⟩ : Addr).add j) = some x := fun j x hx => by
  rw [show (⟨g, 0, none⟩ : Addr).add j = ⟨g, j, none⟩ by (simp [Addr.add]; try omega), h.cell]
  match j, hx with
  | 0, hx => exact hx
  | 1, hx => exact hx
def pairL (p : Int × Int) : List Value := [.int .i64 p.1, .int .i64 p.2]
/-- a row of spans of the call's own -/
def SpansT (w : World) (lo : Nat) (A : Option Addr) (cap : Nat) (l : List (Int × Int)) : Prop := w.ownsRow lo 47 2 (.slice A l.length cap) l.length (l.flatMap pairL)
theorem SpansT.at_ {w : World} {lo cap : Nat} {A : Option Addr} {l : List (Int × Int)} (h : SpansT w lo A cap l) : SpansAt w w.heap.size A l := by
  have h' := h
  rcases h.2 with ⟨h0, h2⟩ | ⟨g, c, cur, hv, hg, hh, h2, h3, h4, h5⟩
  · exact .inl (List.eq_nil_of_length_eq_zero (by omega))
  · injection hv with e1 e2 e3
    subst e1 e3
    have hB : BlockIs w g 47 cur := hh
    have key : ∀ (i : Nat) (p : Int × Int), l[i]? = some p → ∀ j, j < 2 → ∀ u, (pairL p)[j]? = some u → w.cell? ⟨g, i * 2 + j, none⟩ = some u := fun i p hi j hj u hu => by
      have hf := flat_get (enc := pairL) (k := 2) (fun _ => rfl) l i j hj
      rw [hi, Option.bind_some, hu] at hf
      have hc := World.ownsRow.cells (g := g) h' rfl (i * 2 + j) u hf
      rwa [show (⟨g, 0, none⟩ : Addr).add (i * 2 + j) = ⟨g, i * 2 + j, none⟩ by (simp [Addr.add]; try omega)] at hc
    exact .inr ⟨g, rfl, hB.lt, fun i p hi => ⟨key i p hi 0 (by omega) _ rfl, key i p hi 1 (by omega) _ rfl⟩⟩
theorem row_at_run {t : TaskD} (hk : okTask t = true) {rota : List Nat} (hr : ∀ h ∈ rota, h < t.hands.length) (hl : rota.length ≤ t.parts.length) {up : Bool} {R : List RowR} (hR : R.map (·.xs) = (List.range (rota.length + 1)).map (wearRow t.hands.length (runF rota (extSt up t) (extRows up t rota)))) {p : Nat} (hp : p ≤ rota.length) :
    R.length = rota.length + 1 ∧ ∀ r, R[p]? = some r → r.xs.length = t.hands.length ∧ ∀ h, h < t.hands.length → r.xs[h]? = some ((afterD up t (rota.take p)).get h) := by
  refine ⟨by have h := congrArg List.length hR; simpa using h, fun r hr' => ?_⟩
  have e : r.xs = wearRow t.hands.length (runF rota (extSt up t) (extRows up t rota)) p := by
    have h := congrArg (fun l => l[p]?) hR
    simp only [List.getElem?_map, hr', List.getElem?_range (show p < rota.length + 1 by omega), Option.map_some, Option.some.injEq] at h
    exact h
  refine ⟨by rw [e, wearRow_len], fun h hh => ?_⟩
  rw [e]
  unfold wearRow
  rw [List.getElem?_map, List.getElem?_range hh, Option.map_some, ext_row hk hr hl up hp hh]

theorem own_nil' (w : World) (lo : Nat) : SpansT w lo none 0 [] := ⟨rfl, .inl ⟨rfl, rfl⟩⟩

set_option maxRecDepth 100000 in
set_option maxHeartbeats 16000000 in
theorem rWeary_ok (t : TaskR) (rota : List Nat) (A1 : Option Addr) (c1 part : Nat) (n : Nat) (w : World) (ht : TaskAt w n t) (h1 : Ints w n A1 (natsL rota)) (hn : n ≤ w.heap.size) (hk : okTask t.d = true) (hro : okRota t.d (natsL rota) = true) (hp : part ≤ rota.length) :
    Calls Try.prog 33 #[taskV t, .slice A1 rota.length c1, .int .i64 (part : Nat)] w fun e w' => (∃ A cap, e = .returned (.tuple #[.slice A t.d.hands.length cap, .int .i64 0]) ∧ SpansAt w' w'.heap.size A (wearyL t.d (natsL rota) part)) ∧ Below w.heap.size w w' := by
  obtain ⟨q1, q2, q3⟩ := okRota_parts hro
  rw [natsOf_natsL] at q3
  have hll : (natsL rota).length = rota.length := List.length_map ..
  have hl : rota.length ≤ t.d.parts.length := by omega
  have hEX := fun (up : Bool) (w5 : World) (hg : Grow w w5) => isExt_call (up := up) (c1 := c1) (ht.more hn) (h1.more hn) hk hl hg
  have hRU := fun (up : Bool) (w5 : World) (hg : Grow w w5) (v : Value) (hv : IsExt up t rota v w5) => isRun_call (up := up) (c1 := c1) (ht.more hn) (h1.more hn) hk q3 hl hg hv
  have HEX0 := Lib.hid (hEX false)
  have HEX1 := Lib.hid (hEX true)
  have HRU0 := Lib.hid (hRU false)
  have HRU1 := Lib.hid (hRU true)
  have hCR := fun (w0 : World) (hw : Grow w w0) => checkRota_any t (natsL rota) A1 c1 w.heap.size w0 ((ht.more hn).below hw) ((h1.more hn).below hw) hw.size (by have := (okTask_parts hk).2.2.1.2; omega)
  have he : rotaErr t.d (natsL rota) = 0 := by unfold rotaErr; rw [if_pos hk, if_pos hro]
  rw [he, hll] at hCR
  have HCR := Lib.hid hCR
  have HIN : Hid (inB (part : Int) 0 (rota.length : Int) = true) := Lib.hid (inB_iff.2 (by omega))
  have HW0 := Lib.hid (fun (R : List RowR) hR => row_at_run hk q3 hl (up := false) (R := R) hR hp)
  have HW1 := Lib.hid (fun (R : List RowR) hR => row_at_run hk q3 hl (up := true) (R := R) hR hp)
  have hn3 := (okTask_parts hk).1.2
  have HWL : Hid (wearyL t.d (natsL rota) part = (List.range t.d.hands.length).map fun h => ((afterD false t.d (rota.take part)).get h, (afterD true t.d (rota.take part)).get h)) := Lib.hid (by
    unfold wearyL
    have e : natsOf ((natsL rota).take part) = rota.take part := by rw [← List.map_take]; exact natsOf_natsL _
    rw [e])
  have hpl : part < rota.length + 1 := by omega
  have hpi : (part : Int) < (rota.length : Int) + 1 := by omega
  have hp0 : (0 : Int) ≤ (part : Int) := by omega
  clear ht h1 hn hk hro q1 q2 q3 hll hl hCR he hEX hRU hp
  generalize wearyL t.d (natsL rota) part = wl at HWL ⊢
  obtain ⟨nn, hnn⟩ : ∃ q, t.d.hands.length = q := ⟨_, rfl⟩
  have HNN := Lib.hid hnn
  rw [hnn] at HWL hn3 ⊢
  clear hnn
  go_enter Try.func33, Try.ntmps33
  go_upto_region 1 with fail
  obtain ⟨W, hW, hg, hf, hsz⟩ := one_block w 25 (cellsT t)
  rw [hW]
  clear hW
  have hcc := hf.cell
  have HG := Lib.hid hg
  have HF := Lib.hid hf
  clear hg hf
  go_wp2_with fail
  refine (HCR.out _ HG.out).mono ?_
  rintro e w2 ⟨rfl, hb2⟩
  have HGB : Hid (Grow W w2) := hb2
  clear hcc hb2
  go_wp2_with fail
  refine (rwithin_any _ _ _ _).mono ?_
  rintro e w' ⟨rfl, rfl⟩
  rw [HIN.out]
  go_upto_region 6 with fail
  refine wp_region_lit 11 [[], [], [], [], [(2, 29), (3, 30)], [(0, 27), (1, 28), (4, 31)], [(5, 32)], [(6, 26)], [(6, 26)], [(7, 33)], [(8, 34)]] Grow (fun i v w' => match i with
      | 0 => v = taskV t
      | 1 => v = .slice A1 rota.length c1
      | 2 => v = taskV t
      | 3 => v = .slice A1 rota.length c1
      | 4 => IsExt false t rota v w'
      | 5 => IsRun false t rota v w'
      | 6 => IsRun false t rota v w'
      | 7 => IsRows false t rota v w'
      | 8 => v = .int .i64 (afterD false t.d rota).mis
      | 9 => IsRows false t rota v w'
      | 10 => v = .int .i64 (afterD false t.d rota).mis
      | _ => False) (by kernel_rfl) (by kernel_rfl) (fun _ _ _ => Grow.trans) Grow.refl ?_ ?_ ?_
  · intro i v y y' h k
    match i, h with
    | 4, h => exact h.grow k
    | 5, h => exact h.grow k
    | 6, h => exact h.grow k
    | 7, h => exact h.grow k
    | 9, h => exact h.grow k
    | 0, h | 1, h | 2, h | 3, h | 8, h | 10, h => exact h
  · simp only [StepsLit, List.take_succ_cons, List.take_zero]
    refine ⟨?_, ?_, ?_, ?_, ?_, ?_, ?_, ?_, ?_, ?_, ?_, trivial⟩
    · intro w5 hR
      have hGw : Grow w2 w5 := hR.of_drew
      have HGW := Lib.hid hGw
      have hcc := (HGW.out.block (HGB.out.block HF.out)).cell
      clear hR hGw
      simp only [depV]
      try go_simp
      first
        | (with_reducible exact Grow.refl _)
        | (with_reducible exact ⟨Grow.refl _, rfl⟩)
    · intro w5 hR
      have hGw : Grow w2 w5 := hR.of_drew
      have HGW := Lib.hid hGw
      have hcc := (HGW.out.block (HGB.out.block HF.out)).cell
      clear hR hGw
      simp only [depV]
      try go_simp
      first
        | (with_reducible exact Grow.refl _)
        | (with_reducible exact ⟨Grow.refl _, rfl⟩)
    · intro w5 hR
      have hGw : Grow w2 w5 := hR.of_drew
      have HGW := Lib.hid hGw
      have hcc := (HGW.out.block (HGB.out.block HF.out)).cell
      clear hR hGw
      simp only [depV]
      try go_simp
      first
        | (with_reducible exact Grow.refl _)
        | (with_reducible exact ⟨Grow.refl _, rfl⟩)
    · intro w5 hR
      have hGw : Grow w2 w5 := hR.of_drew
      have HGW := Lib.hid hGw
      have hcc := (HGW.out.block (HGB.out.block HF.out)).cell
      clear hR hGw
      simp only [depV]
      try go_simp
      first
        | (with_reducible exact Grow.refl _)
        | (with_reducible exact ⟨Grow.refl _, rfl⟩)
    · intro w5 hR
      have hGw : Grow w2 w5 := hR.of_drew
      have HGW := Lib.hid hGw
      have hcc := (HGW.out.block (HGB.out.block HF.out)).cell
      clear hR hGw
      simp only [depV]
      rintro _ rfl
      rintro _ rfl
      try go_simp
      refine (HEX0.out _ (HG.out.trans (HGB.out.trans HGW.out))).mono ?_
      rintro e w6 ⟨v, rfl, hg6, hv⟩
      exact ⟨hg6, hv⟩
    · intro w5 hR
      have hGw : Grow w2 w5 := hR.of_drew
      have HGW := Lib.hid hGw
      have hcc := (HGW.out.block (HGB.out.block HF.out)).cell
      clear hR hGw
      simp only [depV]
      rintro _ rfl
      rintro _ rfl
      intro v4 hv4
      try go_simp
      refine (HRU0.out _ (HG.out.trans (HGB.out.trans HGW.out)) _ hv4).mono ?_
      rintro e w6 ⟨u, rfl, hg6, hu⟩
      exact ⟨hg6, hu⟩
    · intro w5 hR
      have hGw : Grow w2 w5 := hR.of_drew
      have HGW := Lib.hid hGw
      have hcc := (HGW.out.block (HGB.out.block HF.out)).cell
      clear hR hGw
      simp only [depV]
      intro v5 hv5
      try go_simp
      first
        | exact ⟨Grow.refl _, hv5⟩
        | exact Grow.refl _
    · intro w5 hR
      have hGw : Grow w2 w5 := hR.of_drew
      have HGW := Lib.hid hGw
      have hcc := (HGW.out.block (HGB.out.block HF.out)).cell
      clear hR hGw
      simp only [depV]
      intro v6 hv6
      obtain ⟨A, cap, R, rfl, hr1, hr2⟩ := hv6
      try go_simp
      exact ⟨Grow.refl _, ⟨A, cap, R, rfl, hr1, hr2⟩⟩
    · intro w5 hR
      have hGw : Grow w2 w5 := hR.of_drew
      have HGW := Lib.hid hGw
      have hcc := (HGW.out.block (HGB.out.block HF.out)).cell
      clear hR hGw
      simp only [depV]
      intro v6 hv6
      obtain ⟨A, cap, R, rfl, hr1, hr2⟩ := hv6
      try go_simp
      first
        | exact ⟨Grow.refl _, rfl⟩
        | exact Grow.refl _
    · intro w5 hR
      have hGw : Grow w2 w5 := hR.of_drew
      have HGW := Lib.hid hGw
      have hcc := (HGW.out.block (HGB.out.block HF.out)).cell
      clear hR hGw
      simp only [depV]
      intro v7 hv7
      try go_simp
      first
        | exact ⟨Grow.refl _, hv7⟩
        | exact Grow.refl _
    · intro w5 hR
      have hGw : Grow w2 w5 := hR.of_drew
      have HGW := Lib.hid hGw
      have hcc := (HGW.out.block (HGB.out.block HF.out)).cell
      clear hR hGw
      simp only [depV]
      rintro _ rfl
      try go_simp
      first
        | (with_reducible exact Grow.refl _)
        | (with_reducible exact ⟨Grow.refl _, rfl⟩)
  · intro w5 hR
    have HG5 : Hid (Grow w2 w5) := Lib.hid hR.of_drew
    clear hR
    simp only [finVC, List.take_succ_cons, List.take_zero, List.drop_succ_cons, List.drop_zero]
    rintro _ rfl
    rintro _ rfl
    rintro _ rfl
    rintro _ rfl
    intro v4 hv4
    intro v5 hv5
    intro v6 hv6
    intro v7 hv7
    rintro _ rfl
    intro v9 hv9
    rintro _ rfl
    simp only [Act.put, List.setIfInBounds_toArray, List.set_cons_succ, List.set_cons_zero]
    obtain ⟨A0, c0, R0, rfl, hR0, hm0⟩ := hv9
    obtain ⟨f1, f2⟩ := HW0.out R0 hm0
    rw [HNN.out] at f2
    have HR0 := Lib.hid hR0
    have HF0 := Lib.hid f2
    have HL0 := Lib.hid f1
    clear hR0 hm0 f1 f2 hv4 hv5 hv6 hv7
    have HGC : Hid (Grow W w5) := Lib.hid (HGB.out.trans HG5.out)
    obtain ⟨w7, hw7⟩ : ∃ q, w5 = q := ⟨_, rfl⟩
    rw [hw7] at HR0 HGC ⊢
    clear hw7 HG5 HGB
    go_upto_region 7 with fail
    refine wp_region_lit 11 [[], [], [], [], [(2, 38), (3, 39)], [(0, 36), (1, 37), (4, 40)], [(5, 41)], [(6, 35)], [(6, 35)], [(7, 42)], [(8, 43)]] Grow (fun i v w' => match i with
        | 0 => v = taskV t
        | 1 => v = .slice A1 rota.length c1
        | 2 => v = taskV t
        | 3 => v = .slice A1 rota.length c1
        | 4 => IsExt true t rota v w'
        | 5 => IsRun true t rota v w'
        | 6 => IsRun true t rota v w'
        | 7 => IsRows true t rota v w'
        | 8 => v = .int .i64 (afterD true t.d rota).mis
        | 9 => IsRows true t rota v w'
        | 10 => v = .int .i64 (afterD true t.d rota).mis
        | _ => False) (by kernel_rfl) (by kernel_rfl) (fun _ _ _ => Grow.trans) Grow.refl ?_ ?_ ?_
    · intro i v y y' h k
      match i, h with
      | 4, h => exact h.grow k
      | 5, h => exact h.grow k
      | 6, h => exact h.grow k
      | 7, h => exact h.grow k
      | 9, h => exact h.grow k
      | 0, h | 1, h | 2, h | 3, h | 8, h | 10, h => exact h
    · simp only [StepsLit, List.take_succ_cons, List.take_zero]
      refine ⟨?_, ?_, ?_, ?_, ?_, ?_, ?_, ?_, ?_, ?_, ?_, trivial⟩
      · intro w5 hR
        have hGw : Grow w7 w5 := hR.of_drew
        have HGW := Lib.hid hGw
        have hcc := ((HGC.out.trans HGW.out).block HF.out).cell
        clear hR hGw
        simp only [depV]
        try go_simp
        first
          | (with_reducible exact Grow.refl _)
          | (with_reducible exact ⟨Grow.refl _, rfl⟩)
      · intro w5 hR
        have hGw : Grow w7 w5 := hR.of_drew
        have HGW := Lib.hid hGw
        have hcc := ((HGC.out.trans HGW.out).block HF.out).cell
        clear hR hGw
        simp only [depV]
        try go_simp
        first
          | (with_reducible exact Grow.refl _)
          | (with_reducible exact ⟨Grow.refl _, rfl⟩)
      · intro w5 hR
        have hGw : Grow w7 w5 := hR.of_drew
        have HGW := Lib.hid hGw
        have hcc := ((HGC.out.trans HGW.out).block HF.out).cell
        clear hR hGw
        simp only [depV]
        try go_simp
        first
          | (with_reducible exact Grow.refl _)
          | (with_reducible exact ⟨Grow.refl _, rfl⟩)
      · intro w5 hR
        have hGw : Grow w7 w5 := hR.of_drew
        have HGW := Lib.hid hGw
        have hcc := ((HGC.out.trans HGW.out).block HF.out).cell
        clear hR hGw
        simp only [depV]
        try go_simp
        first
          | (with_reducible exact Grow.refl _)
          | (with_reducible exact ⟨Grow.refl _, rfl⟩)
      · intro w5 hR
        have hGw : Grow w7 w5 := hR.of_drew
        have HGW := Lib.hid hGw
        have hcc := ((HGC.out.trans HGW.out).block HF.out).cell
        clear hR hGw
        simp only [depV]
        rintro _ rfl
        rintro _ rfl
        try go_simp
        refine (HEX1.out _ (HG.out.trans (HGC.out.trans HGW.out))).mono ?_
        rintro e w6 ⟨v, rfl, hg6, hv⟩
        exact ⟨hg6, hv⟩
      · intro w5 hR
        have hGw : Grow w7 w5 := hR.of_drew
        have HGW := Lib.hid hGw
        have hcc := ((HGC.out.trans HGW.out).block HF.out).cell
        clear hR hGw
        simp only [depV]
        rintro _ rfl
        rintro _ rfl
        intro v4 hv4
        try go_simp
        refine (HRU1.out _ (HG.out.trans (HGC.out.trans HGW.out)) _ hv4).mono ?_
        rintro e w6 ⟨u, rfl, hg6, hu⟩
        exact ⟨hg6, hu⟩
      · intro w5 hR
        have hGw : Grow w7 w5 := hR.of_drew
        have HGW := Lib.hid hGw
        have hcc := ((HGC.out.trans HGW.out).block HF.out).cell
        clear hR hGw
        simp only [depV]
        intro v5 hv5
        try go_simp
        first
          | exact ⟨Grow.refl _, hv5⟩
          | exact Grow.refl _
      · intro w5 hR
        have hGw : Grow w7 w5 := hR.of_drew
        have HGW := Lib.hid hGw
        have hcc := ((HGC.out.trans HGW.out).block HF.out).cell
        clear hR hGw
        simp only [depV]
        intro v6 hv6
        obtain ⟨A, cap, R, rfl, hr1, hr2⟩ := hv6
        try go_simp
        exact ⟨Grow.refl _, ⟨A, cap, R, rfl, hr1, hr2⟩⟩
      · intro w5 hR
        have hGw : Grow w7 w5 := hR.of_drew
        have HGW := Lib.hid hGw
        have hcc := ((HGC.out.trans HGW.out).block HF.out).cell
        clear hR hGw
        simp only [depV]
        intro v6 hv6
        obtain ⟨A, cap, R, rfl, hr1, hr2⟩ := hv6
        try go_simp
        first
          | exact ⟨Grow.refl _, rfl⟩
          | exact Grow.refl _
      · intro w5 hR
        have hGw : Grow w7 w5 := hR.of_drew
        have HGW := Lib.hid hGw
        have hcc := ((HGC.out.trans HGW.out).block HF.out).cell
        clear hR hGw
        simp only [depV]
        intro v7 hv7
        try go_simp
        first
          | exact ⟨Grow.refl _, hv7⟩
          | exact Grow.refl _
      · intro w5 hR
        have hGw : Grow w7 w5 := hR.of_drew
        have HGW := Lib.hid hGw
        have hcc := ((HGC.out.trans HGW.out).block HF.out).cell
        clear hR hGw
        simp only [depV]
        rintro _ rfl
        try go_simp
        first
          | (with_reducible exact Grow.refl _)
          | (with_reducible exact ⟨Grow.refl _, rfl⟩)
    · intro w5 hR
      have HG5 : Hid (Grow w7 w5) := Lib.hid hR.of_drew
      clear hR
      simp only [finVC, List.take_succ_cons, List.take_zero, List.drop_succ_cons, List.drop_zero]
      rintro _ rfl
      rintro _ rfl
      rintro _ rfl
      rintro _ rfl
      intro v4 hv4
      intro v5 hv5
      intro v6 hv6
      intro v7 hv7
      rintro _ rfl
      intro v9 hv9
      rintro _ rfl
      simp only [Act.put, List.setIfInBounds_toArray, List.set_cons_succ, List.set_cons_zero]
      obtain ⟨A2, c2, R1, rfl, hR1, hm1⟩ := hv9
      obtain ⟨f1, f2⟩ := HW1.out R1 hm1
      rw [HNN.out] at f2
      have HR1 := Lib.hid hR1
      have HF1 := Lib.hid f2
      have HL1 := Lib.hid f1
      clear hR1 hm1 f1 f2 hv4 hv5 hv6 hv7
      have HGD : Hid (Grow W w5) := Lib.hid (HGC.out.trans HG5.out)
      have HRZ : Hid (RowsAt w5 w5.heap.size A0 R0) := Lib.hid ((HR0.out.below HG5.out).more HG5.out.size)
      obtain ⟨W8, hw8⟩ : ∃ q, w5 = q := ⟨_, rfl⟩
      rw [hw8] at HR1 HGD HRZ ⊢
      clear hw8 HG5 HGC HR0
      obtain ⟨k0, hk', hk0, hk1, hk2⟩ := info_parts Try.infoSpan
      obtain ⟨rl, hrl⟩ : ∃ q, rota.length + 1 = q := ⟨_, rfl⟩
      rw [hrl] at HL0 HL1 hpl ⊢
      have hpi : (part : Int) < (rl : Int) := by omega
      clear hrl
      obtain ⟨pf, hpf⟩ : ∃ q : Nat → Int × Int, (fun h => ((afterD false t.d (rota.take part)).get h, (afterD true t.d (rota.take part)).get h)) = q := ⟨_, rfl⟩
      have HPP := Lib.hid hpf
      rw [hpf] at HWL
      clear hpf
      go_upto_region 9 with fail
      go_wp2_with fail
      go_loopw [13, 14] (fun ov hv wh => ∃ (h : Nat) (Ao : Option Addr) (co : Nat), ov = .slice Ao h co ∧ hv = .int .i64 h ∧ h ≤ nn ∧ SpansT wh W8.heap.size Ao co ((List.range h).map pf) ∧ Grow W8 wh) (fun _ v _ => nn - (intOf v).toNat)
      case atStart => exact ⟨0, none, 0, rfl, rfl, Nat.zero_le _, own_nil' _ _, Grow.refl _⟩
      case round => as_aux_lemma =>
        obtain ⟨h, Ao, co, rfl, rfl, hle, hown, hgr⟩ := hrel
        rename World => wh
        have HOH : Hid (wh.ownsRow W8.heap.size 47 2 (.slice Ao h co) h (((List.range h).map pf).flatMap pairL)) := Lib.hid (by unfold SpansT at hown; simpa using hown)
        have HGH := Lib.hid hgr
        clear hgr hown
        have hcc0 : wh.cell? ⟨w.heap.size, 0, none⟩ = some (.slice t.A nn t.ca) := by rw [← HNN.out]; exact ((HGD.out.trans HGH.out).block HF.out).cell 0
        by_cases hht : h < nn
        · have hh1 : (h : Int) < (nn : Int) := by omega
          have hh0 : (0 : Int) ≤ (h : Int) := by omega
          have hhd1 : decide ((h : Int) < (nn : Int)) = true := decide_eq_true hh1
          have hhd2 : decide (h < nn) = true := decide_eq_true hht
          have HHT := Lib.hid hht
          obtain ⟨bL, oL, r0, hLe, hbL, hLc, hLi, HLR⟩ := (HRZ.out.below HGH.out).at_ (k := part) (by rw [HL0.out]; exact hpl)
          obtain ⟨bM, oM, r1, hMe, hbM, hMc, hMi, HMR⟩ := (HR1.out.below HGH.out).at_ (k := part) (by rw [HL1.out]; exact hpl)
          obtain ⟨hl0, hx0⟩ := HF0.out r0 HLR.out
          obtain ⟨hl1, hx1⟩ := HF1.out r1 HMR.out
          obtain ⟨bs, os, lo, hse, hbs, hsc, HV0⟩ := hLi.at_ (k := h) (by omega)
          obtain ⟨bu, ou, hi, hue, hbu, huc, HV1⟩ := hMi.at_ (k := h) (by omega)
          have HPF : Hid ((lo, hi) = pf h) := Lib.hid (by
            rw [← HPP.out]
            dsimp only
            rw [← Option.some.inj (HV0.out.symm.trans (hx0 h hht)), ← Option.some.inj (HV1.out.symm.trans (hx1 h hht))])
          subst hLe
          subst hMe
          rw [hse, hl0] at hLc
          rw [hue, hl1] at hMc
          have HCL := Lib.hid (fun (w0 : World) (hw : Grow wh w0) => And.intro (hw.cell hLc) (And.intro (hw.cell hMc) (And.intro (hw.cell hsc) (hw.cell huc))))
          clear hbL hbM hLi hMi hl0 hl1 hx0 hx1 hbs hbu hse hue hLc hMc hsc huc
          go_upto_region 12 with fail
          clear hcc0
          refine wp_region_lit 17 [[], [], [], [(1, 52), (2, 53)], [(3, 54)], [], [(4, 55), (5, 56)], [(6, 57)], [], [], [(8, 59), (9, 60)], [(10, 61)], [], [(11, 62), (12, 63)], [(13, 64)], [(7, 58), (14, 65)], [(15, 66)]] Grow (fun i v w' => match i with
              | 0 => v = .slice Ao h co
              | 1 => v = .slice (some ⟨bL, oL, none⟩) rl c0
              | 2 => v = .int .i64 (part : Nat)
              | 3 => v = .pointer (some ⟨bL, oL + part, none⟩)
              | 4 => v = .slice (some ⟨bs, os, none⟩) nn r0.c
              | 5 => v = .int .i64 (h : Nat)
              | 6 => v = .pointer (some ⟨bs, os + h, none⟩)
              | 7 => v = .int .i64 lo
              | 8 => v = .slice (some ⟨bM, oM, none⟩) rl c2
              | 9 => v = .int .i64 (part : Nat)
              | 10 => v = .pointer (some ⟨bM, oM + part, none⟩)
              | 11 => v = .slice (some ⟨bu, ou, none⟩) nn r1.c
              | 12 => v = .int .i64 (h : Nat)
              | 13 => v = .pointer (some ⟨bu, ou + h, none⟩)
              | 14 => v = .int .i64 hi
              | 15 => v = spanV lo hi
              | 16 => NewSpan W8.heap.size lo hi v w'
              | _ => False) (by kernel_rfl) (by kernel_rfl) (fun _ _ _ => Grow.trans) Grow.refl ?_ ?_ ?_
          · intro i v y y' h k
            match i, h with
            | 16, h => exact h.grow k
            | 0, h | 1, h | 2, h | 3, h | 4, h | 5, h | 6, h | 7, h | 8, h | 9, h | 10, h | 11, h | 12, h | 13, h | 14, h | 15, h => exact h
          · simp only [StepsLit, List.take_succ_cons, List.take_zero]
            refine ⟨?_, ?_, ?_, ?_, ?_, ?_, ?_, ?_, ?_, ?_, ?_, ?_, ?_, ?_, ?_, ?_, ?_, trivial⟩
            · intro w5 hR
              have hGw : Grow wh w5 := hR.of_drew
              have HGW := Lib.hid hGw
              obtain ⟨hL, hM, hs, hu⟩ := HCL.out w5 hGw
              have hz5 : W8.heap.size ≤ w5.heap.size := Nat.le_trans HGH.out.size hGw.size
              clear hR hGw
              simp only [depV]
              try go_simp
              first
                | (with_reducible exact Grow.refl _)
                | (with_reducible exact ⟨Grow.refl _, rfl⟩)
            · intro w5 hR
              have hGw : Grow wh w5 := hR.of_drew
              have HGW := Lib.hid hGw
              obtain ⟨hL, hM, hs, hu⟩ := HCL.out w5 hGw
              have hz5 : W8.heap.size ≤ w5.heap.size := Nat.le_trans HGH.out.size hGw.size
              clear hR hGw
              simp only [depV]
              try go_simp
              first
                | (with_reducible exact Grow.refl _)
                | (with_reducible exact ⟨Grow.refl _, rfl⟩)
            · intro w5 hR
              have hGw : Grow wh w5 := hR.of_drew
              have HGW := Lib.hid hGw
              obtain ⟨hL, hM, hs, hu⟩ := HCL.out w5 hGw
              have hz5 : W8.heap.size ≤ w5.heap.size := Nat.le_trans HGH.out.size hGw.size
              clear hR hGw
              simp only [depV]
              try go_simp
              first
                | (with_reducible exact Grow.refl _)
                | (with_reducible exact ⟨Grow.refl _, rfl⟩)
            · intro w5 hR
              have hGw : Grow wh w5 := hR.of_drew
              have HGW := Lib.hid hGw
              obtain ⟨hL, hM, hs, hu⟩ := HCL.out w5 hGw
              have hz5 : W8.heap.size ≤ w5.heap.size := Nat.le_trans HGH.out.size hGw.size
              clear hR hGw
              simp only [depV]
              rintro _ rfl
              rintro _ rfl
              try go_simp
              first
                | (with_reducible exact Grow.refl _)
                | (with_reducible exact ⟨Grow.refl _, rfl⟩)
            · intro w5 hR
              have hGw : Grow wh w5 := hR.of_drew
              have HGW := Lib.hid hGw
              obtain ⟨hL, hM, hs, hu⟩ := HCL.out w5 hGw
              have hz5 : W8.heap.size ≤ w5.heap.size := Nat.le_trans HGH.out.size hGw.size
              clear hR hGw
              simp only [depV]
              rintro _ rfl
              try go_simp
              first
                | (with_reducible exact Grow.refl _)
                | (with_reducible exact ⟨Grow.refl _, rfl⟩)
            · intro w5 hR
              have hGw : Grow wh w5 := hR.of_drew
              have HGW := Lib.hid hGw
              obtain ⟨hL, hM, hs, hu⟩ := HCL.out w5 hGw
              have hz5 : W8.heap.size ≤ w5.heap.size := Nat.le_trans HGH.out.size hGw.size
              clear hR hGw
              simp only [depV]
              try go_simp
              first
                | (with_reducible exact Grow.refl _)
                | (with_reducible exact ⟨Grow.refl _, rfl⟩)
            · intro w5 hR
              have hGw : Grow wh w5 := hR.of_drew
              have HGW := Lib.hid hGw
              obtain ⟨hL, hM, hs, hu⟩ := HCL.out w5 hGw
              have hz5 : W8.heap.size ≤ w5.heap.size := Nat.le_trans HGH.out.size hGw.size
              clear hR hGw
              simp only [depV]
              rintro _ rfl
              rintro _ rfl
              try go_simp
              first
                | (with_reducible exact Grow.refl _)
                | (with_reducible exact ⟨Grow.refl _, rfl⟩)
            · intro w5 hR
              have hGw : Grow wh w5 := hR.of_drew
              have HGW := Lib.hid hGw
              obtain ⟨hL, hM, hs, hu⟩ := HCL.out w5 hGw
              have hz5 : W8.heap.size ≤ w5.heap.size := Nat.le_trans HGH.out.size hGw.size
              clear hR hGw
              simp only [depV]
              rintro _ rfl
              try go_simp
              first
                | (with_reducible exact Grow.refl _)
                | (with_reducible exact ⟨Grow.refl _, rfl⟩)
            · intro w5 hR
              have hGw : Grow wh w5 := hR.of_drew
              have HGW := Lib.hid hGw
              obtain ⟨hL, hM, hs, hu⟩ := HCL.out w5 hGw
              have hz5 : W8.heap.size ≤ w5.heap.size := Nat.le_trans HGH.out.size hGw.size
              clear hR hGw
              simp only [depV]
              try go_simp
              first
                | (with_reducible exact Grow.refl _)
                | (with_reducible exact ⟨Grow.refl _, rfl⟩)
            · intro w5 hR
              have hGw : Grow wh w5 := hR.of_drew
              have HGW := Lib.hid hGw
              obtain ⟨hL, hM, hs, hu⟩ := HCL.out w5 hGw
              have hz5 : W8.heap.size ≤ w5.heap.size := Nat.le_trans HGH.out.size hGw.size
              clear hR hGw
              simp only [depV]
              try go_simp
              first
                | (with_reducible exact Grow.refl _)
                | (with_reducible exact ⟨Grow.refl _, rfl⟩)
            · intro w5 hR
              have hGw : Grow wh w5 := hR.of_drew
              have HGW := Lib.hid hGw
              obtain ⟨hL, hM, hs, hu⟩ := HCL.out w5 hGw
              have hz5 : W8.heap.size ≤ w5.heap.size := Nat.le_trans HGH.out.size hGw.size
              clear hR hGw
              simp only [depV]
              rintro _ rfl
              rintro _ rfl
              try go_simp
              first
                | (with_reducible exact Grow.refl _)
                | (with_reducible exact ⟨Grow.refl _, rfl⟩)
            · intro w5 hR
              have hGw : Grow wh w5 := hR.of_drew
              have HGW := Lib.hid hGw
              obtain ⟨hL, hM, hs, hu⟩ := HCL.out w5 hGw
              have hz5 : W8.heap.size ≤ w5.heap.size := Nat.le_trans HGH.out.size hGw.size
              clear hR hGw
              simp only [depV]
              rintro _ rfl
              try go_simp
              first
                | (with_reducible exact Grow.refl _)
                | (with_reducible exact ⟨Grow.refl _, rfl⟩)
            · intro w5 hR
              have hGw : Grow wh w5 := hR.of_drew
              have HGW := Lib.hid hGw
              obtain ⟨hL, hM, hs, hu⟩ := HCL.out w5 hGw
              have hz5 : W8.heap.size ≤ w5.heap.size := Nat.le_trans HGH.out.size hGw.size
              clear hR hGw
              simp only [depV]
              try go_simp
              first
                | (with_reducible exact Grow.refl _)
                | (with_reducible exact ⟨Grow.refl _, rfl⟩)
            · intro w5 hR
              have hGw : Grow wh w5 := hR.of_drew
              have HGW := Lib.hid hGw
              obtain ⟨hL, hM, hs, hu⟩ := HCL.out w5 hGw
              have hz5 : W8.heap.size ≤ w5.heap.size := Nat.le_trans HGH.out.size hGw.size
              clear hR hGw
              simp only [depV]
              rintro _ rfl
              rintro _ rfl
              try go_simp
              first
                | (with_reducible exact Grow.refl _)
                | (with_reducible exact ⟨Grow.refl _, rfl⟩)
            · intro w5 hR
              have hGw : Grow wh w5 := hR.of_drew
              have HGW := Lib.hid hGw
              obtain ⟨hL, hM, hs, hu⟩ := HCL.out w5 hGw
              have hz5 : W8.heap.size ≤ w5.heap.size := Nat.le_trans HGH.out.size hGw.size
              clear hR hGw
              simp only [depV]
              rintro _ rfl
              try go_simp
              first
                | (with_reducible exact Grow.refl _)
                | (with_reducible exact ⟨Grow.refl _, rfl⟩)
            · intro w5 hR
              have hGw : Grow wh w5 := hR.of_drew
              have HGW := Lib.hid hGw
              obtain ⟨hL, hM, hs, hu⟩ := HCL.out w5 hGw
              have hz5 : W8.heap.size ≤ w5.heap.size := Nat.le_trans HGH.out.size hGw.size
              clear hR hGw
              simp only [depV]
              rintro _ rfl
              rintro _ rfl
              try go_simp
              first
                | (with_reducible exact Grow.refl _)
                | (with_reducible exact ⟨Grow.refl _, rfl⟩)
            · intro w5 hR
              have hGw : Grow wh w5 := hR.of_drew
              have HGW := Lib.hid hGw
              obtain ⟨hL, hM, hs, hu⟩ := HCL.out w5 hGw
              have hz5 : W8.heap.size ≤ w5.heap.size := Nat.le_trans HGH.out.size hGw.size
              clear hR hGw
              simp only [depV]
              rintro _ rfl
              try go_simp
              exact ⟨Grow.alloc _ _, _, rfl, hz5, BlockIs.new _ _ _⟩
          · intro w5 hR
            have HG5 : Hid (Grow wh w5) := Lib.hid hR.of_drew
            clear hR
            simp only [finVC, List.take_succ_cons, List.take_zero, List.drop_succ_cons, List.drop_zero]
            rintro _ rfl
            rintro _ rfl
            rintro _ rfl
            rintro _ rfl
            rintro _ rfl
            rintro _ rfl
            rintro _ rfl
            rintro _ rfl
            rintro _ rfl
            rintro _ rfl
            rintro _ rfl
            rintro _ rfl
            rintro _ rfl
            rintro _ rfl
            rintro _ rfl
            rintro _ rfl
            intro v16 hv16
            simp only [Act.put, List.setIfInBounds_toArray, List.set_cons_succ, List.set_cons_zero]
            obtain ⟨bz, rfl, hbz, hBz⟩ := hv16
            have HBZ := Lib.hid hBz
            have HO5 : Hid (w5.ownsRow W8.heap.size 47 2 (.slice Ao h co) h (((List.range h).map pf).flatMap pairL)) := Lib.hid (by
              have q := own_grow HOH.out HG5.out
              simpa using q)
            clear hBz hbz
            go_wp2_with (at_builtin; go_loud (refine wpList_append_own _ rfl _ _ 43 rfl W8.heap.size 47 k0 (.agg #[.int .i64 0, .int .i64 0]) 2 16 Try.underlying43 hk' hk0 hk1 hk2 rfl (by omega) _ h (((List.range h).map pf).flatMap pairL) rfl ?d0 ⟨bz, 0, none⟩ 1 1 [.int .i64 lo, .int .i64 hi] rfl rfl ?d1 ?d2 ?d3 ?d4 ?d5 ?_))
            case d0 => exact HO5.out
            case d1 => exact news_two HBZ.out
            case d2 => simp [Value.oneCell']
            case d3 => unfold maxLen; omega
            case d4 => omega
            case d5 => exact Nat.le_trans HGH.out.size HG5.out.size
            intro v' w3 hown hgr _
            obtain ⟨An, cn, rfl⟩ := own_form hown
            have HON : Hid (SpansT w3 W8.heap.size An cn ((List.range (h + 1)).map pf)) := Lib.hid (by
              have e : (List.range (h + 1)).map pf = (List.range h).map pf ++ [(lo, hi)] := by rw [List.range_succ, List.map_append, HPF.out]; rfl
              unfold SpansT
              rw [e, List.flatMap_append]
              have el : ((List.range h).map pf ++ [(lo, hi)]).length = h + 1 := by simp
              rw [el]
              exact hown)
            have HGN : Hid (Grow W8 w3) := Lib.hid (below_grown (HGH.out.trans HG5.out) HO5.out hgr (Nat.le_trans HGH.out.size HG5.out.size))
            clear hown hgr HO5 HBZ
            go_wp2
            go_roundw
            case rel => exact ⟨h + 1, An, cn, rfl, by go_num, HHT.out, HON.out, HGN.out⟩
            case measure => have := HHT.out; simp [intOf]; omega
        · obtain rfl : nn = h := by omega
          have hhd1 : decide ((nn : Int) < (nn : Int)) = false := by simp
          have hhd2 : decide (nn < nn) = false := by simp
          have HFI : Hid (SpansAt wh wh.heap.size Ao wl) := Lib.hid (by
            have q : SpansT wh W8.heap.size Ao co ((List.range nn).map pf) := by unfold SpansT; simpa using HOH.out
            rw [HWL.out]
            exact q.at_)
          clear HOH
          go_wp2
          exact bodyPost_ret (results_two67 Try.results33 _ _ _ _ rfl rfl) rfl ⟨⟨Ao, co, rfl, HFI.out⟩, HG.out.trans (HGD.out.trans HGH.out)⟩

set_option maxRecDepth 100000 in
set_option maxHeartbeats 8000000 in
theorem rWeary_err (t : TaskR) (xs : List Int) (A1 : Option Addr) (c1 : Nat) (part : Int) (n : Nat) (w : World) (ht : TaskAt w n t) (h1 : Ints w n A1 xs) (hn : n ≤ w.heap.size) (hl : xs.length ≤ 20) (hbad : ¬ (okTask t.d = true ∧ okRota t.d xs = true)) :
    Calls Try.prog 33 #[taskV t, .slice A1 xs.length c1, .int .i64 part] w fun e w' => e = .returned (.tuple #[.slice none 0 0, .int .i64 (rotaErr t.d xs)]) ∧ Below w.heap.size w w' := by
  have HC := Lib.hid (fun (w0 : World) (hw : Grow w w0) => checkRota_any t xs A1 c1 w.heap.size w0 ((ht.more hn).below hw) ((h1.more hn).below hw) hw.size hl)
  have her := (rotaErr_cases t.d xs).resolve_left (fun h => hbad ⟨h.1, h.2.1⟩)
  generalize rotaErr t.d xs = er at HC her ⊢
  have her := her.1
  clear ht h1 hn hl hbad
  rcases her with rfl | rfl
  all_goals
    go_enter Try.func33, Try.ntmps33
    go_upto_region 1 with fail
    obtain ⟨W, hW, hg, hf, hsz⟩ := one_block w 25 (cellsT t)
    rw [hW]
    clear hW
    have hcc := hf.cell
    have HG := Lib.hid hg
    clear hf hg
    go_wp2_with fail
    refine (HC.out _ HG.out).mono ?_
    rintro e w2 ⟨rfl, hb2⟩
    have HG2 : Hid (Grow W w2) := hb2
    clear hcc hb2
    go_wp2
    exact bodyPost_ret (results_two67 Try.results33 _ _ _ _ rfl rfl) rfl ⟨rfl, HG.out.trans HG2.out⟩

set_option maxRecDepth 100000 in
set_option maxHeartbeats 8000000 in
theorem rWeary_far (t : TaskR) (xs : List Int) (A1 : Option Addr) (c1 : Nat) (part : Int) (n : Nat) (w : World) (ht : TaskAt w n t) (h1 : Ints w n A1 xs) (hn : n ≤ w.heap.size) (hl : xs.length ≤ 20) (hk : okTask t.d = true) (hr : okRota t.d xs = true) (hp : inB part 0 xs.length = false) :
    Calls Try.prog 33 #[taskV t, .slice A1 xs.length c1, .int .i64 part] w fun e w' => e = .returned (.tuple #[.slice none 0 0, .int .i64 1]) ∧ Below w.heap.size w w' := by
  have hC := (fun (w0 : World) (hw : Grow w w0) => checkRota_any t xs A1 c1 w.heap.size w0 ((ht.more hn).below hw) ((h1.more hn).below hw) hw.size hl)
  have he : rotaErr t.d xs = 0 := by unfold rotaErr; rw [if_pos hk, if_pos hr]
  rw [he] at hC
  have HC := Lib.hid hC
  have HIN := Lib.hid hp
  clear ht h1 hn hl hk hr hp hC he
  go_enter Try.func33, Try.ntmps33
  go_upto_region 1 with fail
  obtain ⟨W, hW, hg, hf, hsz⟩ := one_block w 25 (cellsT t)
  rw [hW]
  clear hW
  have hcc := hf.cell
  have HG := Lib.hid hg
  clear hf hg
  go_wp2_with fail
  refine (HC.out _ HG.out).mono ?_
  rintro e w2 ⟨rfl, hb2⟩
  have HG2 : Hid (Grow W w2) := hb2
  clear hcc hb2
  go_wp2_with fail
  refine (rwithin_any _ _ _ _).mono ?_
  rintro e w' ⟨rfl, rfl⟩
  rw [HIN.out]
  go_wp2
  exact bodyPost_ret (results_two67 Try.results33 _ _ _ _ rfl rfl) rfl ⟨rfl, HG.out.trans HG2.out⟩

end Go.Proofs.Ythlihchndmbkaaa
