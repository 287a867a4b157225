/- ReadTeam: a crew, a job and a team read by the program; its exported functions Broken and Chain; written by wip/tools/readteam3.py. ApiT: tasks that are valid; the exported functions Broken and Chain. -/
import Derived.Test.YticeekkfdkfcgaaFitting
namespace Go.Proofs.Yticeekkfdkfcgaa
open Go.RowKit

theorem results_task2 {fn : Func} (h : fn.results = #[.cell 6 63, .tmp 7]) (t : Array Value) (W : World) (b : Nat) (v0 v1 v2 v3 v4 v5 v6 v7 v8 v9 v10 v11 v12 u : Value)
    (hb : BlockIs W b 63 #[v0, v1, v2, v3, v4, v5, v6, v7, v8, v9, v10, v11, v12]) (ht : t.getD 6 undef = .pointer (some ⟨b, 0, none⟩)) (hu : t.getD 7 undef = u) :
    (results fn t).run Try.prog W = .ok (.tuple #[.agg #[v0, v1, v2, v3, v4, v5, v6, v7, v8, v9, v10, v11, v12], u]) W := by
  have hc := hb.cell
  simp only [results, h]
  simp at ht hu
  simp [go_sem, ht, hc, hu]

/-- the error of a crew, a job and a team -/
def teamErr (c : CrewD) (j : JobD) (team : Int) : Int := if crewErr c j ≠ 0 then crewErr c j else if inB team 0 (2 ^ c.people.length - 1) = false then 1 else 0
theorem is13_read {lo : Nat} {c : CrewR} {j : JobD} {er : Int} {v : Value} {w : World} (h : ReadV lo c j er v w) : Is13 v := by
  by_cases h0 : er = 0
  · obtain ⟨sb, e, _⟩ := (h.2 h0).2.2
    exact ⟨_, _, _, _, _, _, _, _, _, _, _, _, _, _, _, _, _, _, _, e⟩
  · exact ⟨_, _, _, _, _, _, _, _, _, _, _, _, _, _, _, _, _, _, _, h.1 h0⟩

set_option maxRecDepth 100000 in
set_option maxHeartbeats 16000000 in
theorem readTeam_any (c : CrewR) (j : JobD) (team : Int) (n : Nat) (w : World) (hA : CrewAt w n c) (hn : n ≤ w.heap.size) (hs : Short c) :
    Calls Try.prog 41 #[crewV c, jobV j, .int .i64 team] w fun e w' => ∃ v, e = .returned (.tuple #[v, .int .i64 (teamErr c.d j team)]) ∧ ReadV w.heap.size c j (teamErr c.d j team) v w' ∧ Below w.heap.size w w' := by
  have HR := Lib.hid (fun (w0 : World) (hw : Grow w w0) => read_any c j w0.heap.size w0 (((hA.more hn).below hw).more hw.size) (Nat.le_refl _) hs)
  have HE : Hid (teamErr c.d j team = if crewErr c.d j ≠ 0 then crewErr c.d j else if inB team 0 (2 ^ c.people.length - 1) = false then 1 else 0) := Lib.hid (by unfold teamErr; rw [show c.d.people.length = c.people.length from List.length_map ..])
  have HW := Lib.hid (fun w0 => within_any team 0 (2 ^ c.people.length - 1) w0)
  have HL8 : Hid (crewErr c.d j = 0 → c.people.length ≤ 8) := Lib.hid (fun h => by
    have h2 : okCrew c.d = true := by
      cases hk : okCrew c.d with
      | true => rfl
      | false => rw [crewErr, if_pos hk] at h; cases h
    have h3 := (okCrew_ok h2).count
    rwa [show c.d.people.length = c.people.length from List.length_map ..] at h3)
  obtain ⟨te, hte⟩ : ∃ z, teamErr c.d j team = z := ⟨_, rfl⟩
  obtain ⟨er, her⟩ : ∃ z, crewErr c.d j = z := ⟨_, rfl⟩
  obtain ⟨inb, hinb⟩ : ∃ z, inB team 0 (2 ^ c.people.length - 1) = z := ⟨_, rfl⟩
  rw [hte, her, hinb] at HE
  rw [her] at HR HL8
  rw [hinb] at HW
  rw [hte]
  clear hA hn hte her hinb
  go_enter Try.func41, Try.ntmps41
  go_upto_region 1 with fail
  obtain ⟨W, hW, hg, hf, hs1, hr, hsz⟩ := three_blocks w 25 27 63 (cellsC c) (cellsJ j) zeroT
  rw [hW]
  clear hW
  have hcc := hf.cell
  have hjc := hs1.cell
  have HRB := Lib.hid hr
  have HG := Lib.hid hg
  clear hf hs1 hg hr
  go_wp2_with fail
  refine (HR.out W HG.out).mono ?_
  rintro e w1 ⟨v, rfl, hv, hb1⟩
  have HG1 : Hid (Grow W w1) := hb1
  have HLE : Hid (w.heap.size ≤ W.heap.size) := Lib.hid HG.out.size
  clear hb1 hcc hjc
  by_cases h0 : er = 0
  · subst h0
    obtain ⟨hk1, hk2, sb, rfl, hsb, hbk⟩ := hv.2 rfl
    obtain ⟨law, hlaw⟩ : ∃ z, lawOf c.d j = z := ⟨_, rfl⟩
    have HTV : Hid (∀ w0, BlockIs w0 sb 3 (natCells (c.people.map fun x => breakD j x.d)) → TaskV w.heap.size c j (taskV c j law (some ⟨sb, 0, none⟩) c.people.length) w0) := Lib.hid fun w0 h2 => ⟨sb, by rw [hlaw], by have := HLE.out; omega, h2⟩
    rw [hlaw]
    have hl8 := HL8.out rfl
    have HSB := Lib.hid hbk
    have HSL := Lib.hid hsb
    have HE1 : Hid (te = if inb = false then 1 else 0) := HE
    have hl0 : (0 : Int) ≤ (c.people.length : Int) := by omega
    have hl64 : c.people.length ≤ 64 := by omega
    have hpl : 2 ^ c.people.length ≤ 256 := Nat.pow_le_pow_right (n := 2) (by omega) hl8
    have hp1 : 1 ≤ 2 ^ c.people.length := Nat.one_le_two_pow
    have hpI : ((2 : Int) ^ c.people.length) = ((2 ^ c.people.length : Nat) : Int) := (Int.natCast_pow 2 _).symm
    have hwr : IntKind.i64.wrap ((2 : Int) ^ c.people.length) = (2 : Int) ^ c.people.length := by
      rw [hpI]
      exact IntWalk.i64_in _ (by omega)
    have hwr2 : IntKind.i64.wrap ((2 : Int) ^ c.people.length - 1) = (2 : Int) ^ c.people.length - 1 := by
      rw [hpI]
      exact IntWalk.i64_in _ (by omega)
    clear hv hlaw hsb hbk HR HE HL8 hpI hpl hp1 hl8
    go_upto_region 2 with fail
    obtain ⟨w2, hw2, hg2, hf2, hz2⟩ := one_block w1 63 (cellsT c j law (some ⟨sb, 0, none⟩) c.people.length)
    have HG2 : Hid (Grow W w2) := Lib.hid (HG1.out.trans hg2)
    have HSB2 := Lib.hid (Grow.block hg2 HSB.out)
    have htc := hf2.cell
    have hnb : sb ≠ w.heap.size + 1 + 1 := by have := HSL.out; omega
    rw [hw2]
    clear hw2 hg2 hf2 HSB HLE
    cases inb with
    | false =>
      obtain rfl : te = 1 := HE1.out
      have hrb := HG2.out.block HRB.out
      have hrc := hrb.cell
      have hrf := hrb.frozen
      have H5 := Lib.hid (stores13 hrb (.int .i64 0) (.slice none 0 0) (.slice none 0 0) (.int .i64 0) (.int .i64 0) (.int .i64 0) (.int .i64 0) (.int .i64 0) (.int .i64 0) (.int .i64 0) (.int .i64 0) (.bool false) (.slice none 0 0))
      have HB5 := Lib.hid ((HG.out.trans HG2.out).trans' (below13 (w := w2) (B := w.heap.size) (b := w.heap.size + 1 + 1) (by omega) (.int .i64 0) (.slice none 0 0) (.slice none 0 0) (.int .i64 0) (.int .i64 0) (.int .i64 0) (.int .i64 0) (.int .i64 0) (.int .i64 0) (.int .i64 0) (.int .i64 0) (.bool false) (.slice none 0 0)))
      clear hrb
      go_upto_region 5 with (refine (HW.out _).mono ?_; rintro e w' ⟨rfl, rfl⟩)
      go_wp2
      exact bodyPost_ret (results_task2 Try.results41 _ _ _ _ _ _ _ _ _ _ _ _ _ _ _ _ _ H5.out rfl rfl) rfl ⟨_, rfl, ⟨fun _ => rfl, fun h => by cases h⟩, HB5.out⟩
    | true =>
      obtain rfl : te = 0 := HE1.out
      have hrb := HG2.out.block HRB.out
      have hrc := hrb.cell
      have hrf := hrb.frozen
      have H5 := Lib.hid (stores13 hrb (.int .i64 c.languages) (.slice c.pa c.people.length c.pc) (.slice c.wa c.laws.length c.wc) (.int .i64 j.fr) (.int .i64 j.dest) (.int .i64 j.client) (.int .i64 j.field) (.int .i64 j.kind) (.int .i64 j.size) (.int .i64 law.level) (.int .i64 law.size) (.bool law.deaf) (.slice (some ⟨sb, 0, none⟩) c.people.length c.people.length))
      have HB5 := Lib.hid ((HG.out.trans HG2.out).trans' (below13 (w := w2) (B := w.heap.size) (b := w.heap.size + 1 + 1) (by omega) (.int .i64 c.languages) (.slice c.pa c.people.length c.pc) (.slice c.wa c.laws.length c.wc) (.int .i64 j.fr) (.int .i64 j.dest) (.int .i64 j.client) (.int .i64 j.field) (.int .i64 j.kind) (.int .i64 j.size) (.int .i64 law.level) (.int .i64 law.size) (.bool law.deaf) (.slice (some ⟨sb, 0, none⟩) c.people.length c.people.length)))
      have HSB5 := Lib.hid (far13 HSB2.out hnb (.int .i64 c.languages) (.slice c.pa c.people.length c.pc) (.slice c.wa c.laws.length c.wc) (.int .i64 j.fr) (.int .i64 j.dest) (.int .i64 j.client) (.int .i64 j.field) (.int .i64 j.kind) (.int .i64 j.size) (.int .i64 law.level) (.int .i64 law.size) (.bool law.deaf) (.slice (some ⟨sb, 0, none⟩) c.people.length c.people.length))
      have HOK := Lib.hid (And.intro hk1 hk2)
      clear hrb hnb hk1 hk2
      go_upto_region 6 with (refine (HW.out _).mono ?_; rintro e w' ⟨rfl, rfl⟩)
      go_wp2
      exact bodyPost_ret (results_task2 Try.results41 _ _ _ _ _ _ _ _ _ _ _ _ _ _ _ _ _ H5.out rfl rfl) rfl ⟨_, rfl, ⟨fun h => absurd rfl h, fun _ => ⟨HOK.out.1, HOK.out.2, HTV.out _ HSB5.out⟩⟩, HB5.out⟩
  · obtain rfl : te = er := by rw [HE.out, if_pos h0]
    obtain rfl := hv.1 h0
    clear hv
    have hne : (te != 0) = true := by simpa using h0
    go_upto_region 2 with fail
    obtain ⟨w2, hw2, hg2, hf2, hz2⟩ := one_block w1 63 zeroT
    have HG2 : Hid (Grow W w2) := Lib.hid (HG1.out.trans hg2)
    rw [hw2]
    clear hw2 hg2 hf2 hz2
    have hrb := HG2.out.block HRB.out
    have hrc := hrb.cell
    have hrf := hrb.frozen
    have H5 := Lib.hid (stores13 hrb (.int .i64 0) (.slice none 0 0) (.slice none 0 0) (.int .i64 0) (.int .i64 0) (.int .i64 0) (.int .i64 0) (.int .i64 0) (.int .i64 0) (.int .i64 0) (.int .i64 0) (.bool false) (.slice none 0 0))
    have HB5 := Lib.hid ((HG.out.trans HG2.out).trans' (below13 (w := w2) (B := w.heap.size) (b := w.heap.size + 1 + 1) (by omega) (.int .i64 0) (.slice none 0 0) (.slice none 0 0) (.int .i64 0) (.int .i64 0) (.int .i64 0) (.int .i64 0) (.int .i64 0) (.int .i64 0) (.int .i64 0) (.int .i64 0) (.bool false) (.slice none 0 0)))
    clear hrb
    go_wp2
    exact bodyPost_ret (results_task2 Try.results41 _ _ _ _ _ _ _ _ _ _ _ _ _ _ _ _ _ H5.out rfl rfl) rfl ⟨_, rfl, ⟨fun _ => rfl, fun h => absurd h h0⟩, HB5.out⟩

end Go.Proofs.Yticeekkfdkfcgaa

namespace Go.Proofs.Yticeekkfdkfcgaa
open Go.RowKit

theorem results_pair45 {fn : Func} (h : fn.results = #[.tmp 4, .tmp 5]) (t : Array Value) (W : World) (u1 u2 : Value) (h1 : t.getD 4 undef = u1) (h2 : t.getD 5 undef = u2) :
    (results fn t).run Try.prog W = .ok (.tuple #[u1, u2]) W := by
  simp only [results, h]
  simp at h1 h2
  simp [go_sem, h1, h2]
theorem results_pair67 {fn : Func} (h : fn.results = #[.tmp 6, .tmp 7]) (t : Array Value) (W : World) (u1 u2 : Value) (h1 : t.getD 6 undef = u1) (h2 : t.getD 7 undef = u2) :
    (results fn t).run Try.prog W = .ok (.tuple #[u1, u2]) W := by
  simp only [results, h]
  simp at h1 h2
  simp [go_sem, h1, h2]
/-- what is known of a crew and a job that are valid -/
structure GoodT (c : CrewR) (j : JobD) (n fr dst : Nat) : Prop where
  crew : CrewOK c.d
  job : JobAll c.languages j
  lang : c.languages = (n : Int)
  n5 : n ≤ 5
  n2 : 2 ≤ n
  frI : j.fr = (fr : Int)
  frn : fr < n
  dstI : j.dest = (dst : Int)
  dstn : dst < n
  len : c.people.length ≤ 8
  levels : ∀ x ∈ c.people, x.d.levels.length = n
  fees : ∀ x ∈ c.people, 0 ≤ x.d.fee ∧ x.d.fee ≤ 1000
theorem good_ok {c : CrewR} {j : JobD} (h1 : okCrew c.d = true) (h2 : okJob c.languages j = true) : GoodT c j c.languages.toNat j.fr.toNat j.dest.toNat := by
  have hc := okCrew_ok h1
  have hj := okJob_ok h2
  have hl := hc.lang
  have hl : 2 ≤ c.languages ∧ c.languages ≤ 5 := hl
  have hfr := hj.fr
  have hds := hj.dest
  have hp : ∀ x ∈ c.people, okPerson c.languages x.d = true := fun x hx => hc.people x.d (List.mem_map.2 ⟨x, hx, rfl⟩)
  refine ⟨hc, hj, by omega, by omega, by omega, by omega, by omega, by omega, by omega, ?_, fun x hx => ?_, fun x hx => ?_⟩
  · have := hc.count
    rwa [show c.d.people.length = c.people.length from List.length_map ..] at this
  · have h := hp x hx
    unfold okPerson at h
    simp only [Bool.and_eq_true, decide_eq_true_eq] at h
    have := h.1.1.1.1
    omega
  · have h := hp x hx
    unfold okPerson at h
    simp only [Bool.and_eq_true] at h
    exact inB_iff.1 h.2
theorem sets_ints {w : World} {sb : Nat} {l : List Nat} (h : BlockIs w sb 3 (natCells l)) : Ints w w.heap.size (some ⟨sb, 0, none⟩) (l.map fun x : Nat => (x : Int)) :=
  .inr ⟨sb, 0, rfl, h.lt, fun i x hx => by
    rw [Nat.zero_add, h.cell, natCells, List.getElem?_toArray, List.getElem?_map]
    rw [List.getElem?_map] at hx
    cases hl : l[i]? with
    | none => rw [hl] at hx; cases hx
    | some y =>
      rw [hl] at hx
      have : (y : Int) = x := Option.some.inj hx
      rw [← this]
      rfl⟩
/-- the broken set of a team -/
def brokenT (c : CrewR) (j : JobD) (t : Nat) : Nat := brokenL j (lawOf c.d j) c.languages.toNat j.fr.toNat j.dest.toNat t (membersL c.people t)
def chainT (c : CrewR) (j : JobD) (t : Nat) : Option (List Nat) := chainD c.languages.toNat (fun a b => joinsL (lawOf c.d j).level a b (membersL c.people t)) j.fr.toNat j.dest.toNat
theorem task_broken {c : CrewR} {j : JobD} (h1 : okCrew c.d = true) (h2 : okJob c.languages j = true) (sb t : Nat) (ht : t < 1024) (w : World) (hP : People w w.heap.size c.pa c.people) (hsb : BlockIs w sb 3 (natCells (c.people.map fun x => breakD j x.d))) :
    Calls Try.prog 42 #[taskV c j (lawOf c.d j) (some ⟨sb, 0, none⟩) c.people.length, .int .i64 (t : Nat)] w fun e w' => e = .returned (.int .i64 (brokenT c j t : Nat)) ∧ Below w.heap.size w w' := by
  have g := good_ok h1 h2
  have hi := sets_ints hsb
  rw [List.map_map] at hi
  exact broken_any c j (lawOf c.d j) (some ⟨sb, 0, none⟩) c.people.length t _ _ _ w hP g.len ht g.lang g.n5 g.frI g.frn g.dstI g.dstn g.levels hi
theorem task_chain {c : CrewR} {j : JobD} (h1 : okCrew c.d = true) (h2 : okJob c.languages j = true) (bA : Option Addr) (bc t : Nat) (ht : t < 1024) (w : World) (hP : People w w.heap.size c.pa c.people) :
    Calls Try.prog 45 #[taskV c j (lawOf c.d j) bA bc, .int .i64 (t : Nat)] w fun e w' => ∃ v, e = .returned v ∧ ChainV (chainT c j t) v w' ∧ Below w.heap.size w w' := by
  have g := good_ok h1 h2
  exact chain_any c j (lawOf c.d j) bA bc t _ _ _ w hP g.len (by omega) g.lang g.n5 g.frI g.frn g.dstI g.dstn g.levels
theorem task_fee {c : CrewR} {j : JobD} (h1 : okCrew c.d = true) (h2 : okJob c.languages j = true) (bA : Option Addr) (bc t : Nat) (ht : t < 1024) (w : World) (hP : People w w.heap.size c.pa c.people) :
    Calls Try.prog 48 #[taskV c j (lawOf c.d j) bA bc, .int .i64 (t : Nat)] w fun e w' => e = .returned (.int .i64 (feeL (membersL c.people t))) ∧ Below w.heap.size w w' :=
  fee_any c j (lawOf c.d j) bA bc t w hP (good_ok h1 h2).len (by omega) (good_ok h1 h2).fees
/-- a team of a valid crew -/
theorem team_nat {c : CrewR} {j : JobD} {team : Int} (h : teamErr c.d j team = 0) (hl : c.people.length ≤ 8) : ∃ t : Nat, team = (t : Int) ∧ t < 2 ^ c.people.length ∧ t < 1024 := by
  unfold teamErr at h
  rw [show c.d.people.length = c.people.length from List.length_map ..] at h
  by_cases h0 : crewErr c.d j = 0
  · rw [if_neg (by simp [h0])] at h
    have hpI : ((2 : Int) ^ c.people.length) = ((2 ^ c.people.length : Nat) : Int) := (Int.natCast_pow 2 _).symm
    have hpl : 2 ^ c.people.length ≤ 256 := Nat.pow_le_pow_right (n := 2) (by omega) hl
    cases hb : inB team 0 (2 ^ c.people.length - 1) with
    | false => rw [hb] at h; cases h
    | true =>
      have := inB_iff.1 hb
      exact ⟨team.toNat, by omega, by omega, by omega⟩
  · rw [if_pos h0] at h
    exact absurd h h0

set_option maxRecDepth 100000 in
set_option maxHeartbeats 16000000 in
/-- the program's Broken -/
theorem brokenApi_any (c : CrewR) (j : JobD) (team : Int) (n : Nat) (w : World) (hA : CrewAt w n c) (hn : n ≤ w.heap.size) (hs : Short c) :
    Calls Try.prog 17 #[crewV c, jobV j, .int .i64 team] w fun e w' => ∃ b : Nat, e = .returned (.tuple #[.int .i64 b, .int .i64 (teamErr c.d j team)]) ∧ (teamErr c.d j team ≠ 0 → b = 0) ∧ (teamErr c.d j team = 0 → b = brokenT c j team.toNat) ∧ Below w.heap.size w w' := by
  have HAT := Lib.hid (fun (w0 : World) (hw : Grow w w0) => ((hA.more hn).below hw).more hw.size)
  have HR := Lib.hid (fun (w0 : World) (hw : Grow w w0) => readTeam_any c j team w0.heap.size w0 (HAT.out w0 hw) (Nat.le_refl _) hs)
  have HTN := Lib.hid (fun (h : teamErr c.d j team = 0) (hl : c.people.length ≤ 8) => team_nat h hl)
  obtain ⟨te, hte⟩ : ∃ z, teamErr c.d j team = z := ⟨_, rfl⟩
  rw [hte] at HR HTN ⊢
  clear hA hn hte
  go_enter Try.func17, Try.ntmps17
  go_upto_region 1 with fail
  obtain ⟨W, hW, hg, hf, hs1, hsz⟩ := two_blocks w 25 27 (cellsC c) (cellsJ j)
  rw [hW]
  clear hW
  have hcc := hf.cell
  have hjc := hs1.cell
  have HG := Lib.hid hg
  clear hf hs1 hg
  go_wp2_with fail
  refine (HR.out W HG.out).mono ?_
  rintro e w1 ⟨v, rfl, hv, hb1⟩
  have HG1 : Hid (Grow W w1) := hb1
  clear hb1 hcc hjc
  by_cases h0 : te = 0
  · subst h0
    obtain ⟨hk1, hk2, sb, rfl, hsb, hbk⟩ := hv.2 rfl
    have HBC : Hid (∀ (t : Nat) (w0 : World), t < 1024 → Grow W w0 → BlockIs w0 sb 3 (natCells (c.people.map fun x => breakD j x.d)) → Calls Try.prog 42 #[taskV c j (lawOf c.d j) (some ⟨sb, 0, none⟩) c.people.length, .int .i64 (t : Nat)] w0 fun e w' => e = .returned (.int .i64 (brokenT c j t : Nat)) ∧ Below w0.heap.size w0 w') := Lib.hid fun t w0 ht hw hb => task_broken hk1 hk2 sb t ht w0 (HAT.out w0 (HG.out.trans hw)).1 hb
    obtain ⟨t, rfl, ht1, ht2⟩ := HTN.out rfl (good_ok hk1 hk2).len
    obtain ⟨law, hlaw⟩ : ∃ z, lawOf c.d j = z := ⟨_, rfl⟩
    rw [hlaw] at HBC ⊢
    have HSB := Lib.hid hbk
    clear hv hlaw hsb hbk HR HTN hk1 hk2 ht1 HAT
    go_upto_region 2 with fail
    obtain ⟨w2, hw2, hg2, hf2, hz2⟩ := one_block w1 63 (cellsT c j law (some ⟨sb, 0, none⟩) c.people.length)
    have HG2 : Hid (Grow W w2) := Lib.hid (HG1.out.trans hg2)
    have HSB2 := Lib.hid (Grow.block hg2 HSB.out)
    have htc := hf2.cell
    rw [hw2]
    clear hw2 hg2 hf2 HSB
    go_wp2_with fail
    refine (HBC.out t w2 ht2 HG2.out HSB2.out).mono ?_
    rintro e w3 ⟨rfl, hg3⟩
    have HG3 : Hid (Grow w w3) := Lib.hid (HG.out.trans (HG2.out.trans hg3))
    clear htc hg3
    go_wp2
    exact bodyPost_ret (results_pair67 Try.results17 _ _ _ _ rfl rfl) rfl ⟨_, rfl, rfl, HG3.out⟩
  · obtain rfl := hv.1 h0
    have hne : (te != 0) = true := by simpa using h0
    clear hv
    go_upto_region 2 with fail
    obtain ⟨w2, hw2, hg2, hf2, hz2⟩ := one_block w1 63 zeroT
    have HG2 : Hid (Grow w w2) := Lib.hid (HG.out.trans (HG1.out.trans hg2))
    rw [hw2]
    clear hw2 hg2 hf2 hz2
    go_wp2
    exact bodyPost_ret (results_pair67 Try.results17 _ _ _ _ rfl rfl) rfl ⟨0, rfl, fun _ => rfl, fun h => absurd h h0, HG2.out⟩

set_option maxRecDepth 100000 in
set_option maxHeartbeats 16000000 in
/-- the program's Chain -/
theorem chainApi_any (c : CrewR) (j : JobD) (team : Int) (n : Nat) (w : World) (hA : CrewAt w n c) (hn : n ≤ w.heap.size) (hs : Short c) :
    Calls Try.prog 19 #[crewV c, jobV j, .int .i64 team] w fun e w' => ∃ v er, e = .returned (.tuple #[v, .int .i64 er]) ∧ (teamErr c.d j team ≠ 0 → er = teamErr c.d j team ∧ v = .slice none 0 0) ∧ (teamErr c.d j team = 0 → er = (if chainT c j team.toNat = none then 3 else 0) ∧ ChainV (chainT c j team.toNat) v w') ∧ Below w.heap.size w w' := by
  have HAT := Lib.hid (fun (w0 : World) (hw : Grow w w0) => ((hA.more hn).below hw).more hw.size)
  have HR := Lib.hid (fun (w0 : World) (hw : Grow w w0) => readTeam_any c j team w0.heap.size w0 (HAT.out w0 hw) (Nat.le_refl _) hs)
  have HTN := Lib.hid (fun (h : teamErr c.d j team = 0) (hl : c.people.length ≤ 8) => team_nat h hl)
  obtain ⟨te, hte⟩ : ∃ z, teamErr c.d j team = z := ⟨_, rfl⟩
  obtain ⟨ch, hch⟩ : ∃ z, chainT c j team.toNat = z := ⟨_, rfl⟩
  rw [hte] at HR HTN ⊢
  rw [hch]
  have HCH := Lib.hid hch
  clear hA hn hte hch
  go_enter Try.func19, Try.ntmps19
  go_upto_region 1 with fail
  obtain ⟨W, hW, hg, hf, hs1, hsz⟩ := two_blocks w 25 27 (cellsC c) (cellsJ j)
  rw [hW]
  clear hW
  have hcc := hf.cell
  have hjc := hs1.cell
  have HG := Lib.hid hg
  clear hf hs1 hg
  go_wp2_with fail
  refine (HR.out W HG.out).mono ?_
  rintro e w1 ⟨v, rfl, hv, hb1⟩
  have HG1 : Hid (Grow W w1) := hb1
  clear hb1 hcc hjc
  by_cases h0 : te = 0
  · subst h0
    obtain ⟨hk1, hk2, sb, rfl, hsb, hbk⟩ := hv.2 rfl
    have HBC : Hid (∀ (t : Nat) (w0 : World), t < 1024 → Grow W w0 → Calls Try.prog 45 #[taskV c j (lawOf c.d j) (some ⟨sb, 0, none⟩) c.people.length, .int .i64 (t : Nat)] w0 fun e w' => ∃ v, e = .returned v ∧ ChainV (chainT c j t) v w' ∧ Below w0.heap.size w0 w') := Lib.hid fun t w0 ht hw => task_chain hk1 hk2 _ _ t ht w0 (HAT.out w0 (HG.out.trans hw)).1
    obtain ⟨t, rfl, ht1, ht2⟩ := HTN.out rfl (good_ok hk1 hk2).len
    have hch : chainT c j t = ch := by
      have h := HCH.out
      rwa [Int.toNat_natCast] at h
    obtain ⟨law, hlaw⟩ : ∃ z, lawOf c.d j = z := ⟨_, rfl⟩
    have HBC := Lib.hid (HBC.out t)
    rw [hlaw, hch] at HBC
    rw [hlaw]
    clear hv hlaw hch HCH hsb hbk HR HTN hk1 hk2 ht1 HAT
    go_upto_region 2 with fail
    obtain ⟨w2, hw2, hg2, hf2, hz2⟩ := one_block w1 63 (cellsT c j law (some ⟨sb, 0, none⟩) c.people.length)
    have HG2 : Hid (Grow W w2) := Lib.hid (HG1.out.trans hg2)
    have htc := hf2.cell
    rw [hw2]
    clear hw2 hg2 hf2
    go_wp2_with fail
    refine (HBC.out w2 ht2 HG2.out).mono ?_
    rintro e w3 ⟨v, rfl, hcv, hg3⟩
    have HG3 : Hid (Grow w w3) := Lib.hid (HG.out.trans (HG2.out.trans hg3))
    clear htc hg3
    cases ch with
    | none =>
      obtain rfl := hcv.1 rfl
      have hnil := none_eql_nil
      have HCV := Lib.hid hcv
      clear hcv
      go_wp2
      exact bodyPost_ret (results_pair67 Try.results19 _ _ _ _ rfl rfl) rfl ⟨_, _, rfl, ⟨rfl, HCV.out⟩, HG3.out⟩
    | some lc =>
      obtain ⟨b9, c9, rfl, _⟩ := hcv.2 _ rfl
      have hnil := some_eql_nil
      have HCV := Lib.hid hcv
      clear hcv
      go_wp2
      exact bodyPost_ret (results_pair67 Try.results19 _ _ _ _ rfl rfl) rfl ⟨_, _, rfl, ⟨rfl, HCV.out⟩, HG3.out⟩
  · obtain rfl := hv.1 h0
    have hne : (te != 0) = true := by simpa using h0
    clear hv
    go_upto_region 2 with fail
    obtain ⟨w2, hw2, hg2, hf2, hz2⟩ := one_block w1 63 zeroT
    have HG2 : Hid (Grow w w2) := Lib.hid (HG.out.trans (HG1.out.trans hg2))
    rw [hw2]
    clear hw2 hg2 hf2 hz2
    go_wp2
    all_goals (refine bodyPost_ret (results_pair67 Try.results19 _ _ _ _ rfl rfl) rfl ?_; exact ⟨.slice none 0 0, te, rfl, ⟨rfl, rfl⟩, HG2.out⟩)

end Go.Proofs.Yticeekkfdkfcgaa

