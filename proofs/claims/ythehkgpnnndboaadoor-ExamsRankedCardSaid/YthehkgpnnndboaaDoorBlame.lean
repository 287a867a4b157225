/- Blamed: who is wrong in each possible truth, as a set. Blame: exams.Blame: whom each possible truth makes wrong. -/
import Derived.Test.YthehkgpnnndboaaDoorRange
import Derived.Laws.AppendOwnNone
namespace Go.Proofs.YthehkgpnnndboaaDoor
open Go.RowKit Go.Shelf

attribute [local go_sem] Oper.semAt_some

set_option maxRecDepth 100000 in
set_option maxHeartbeats 16000000 in
theorem blamed_any (p : PaperR) (G : GoodP p.d) (w : World) (hA : PaperAt w w.heap.size p) :
    Calls Tryd.prog 57 #[paperV p] w fun e w' => e = .returned (.int .i64 (blamedTo p.d.judges (truthsL p.d) : Nat)) ∧ Below w.heap.size w w' := by
  have HPA := Lib.hid (fun (w0 : World) (hw : Below w.heap.size w w0) => hA.below hw)
  have h4 : p.judges.length ≤ 4 := by have := G.j4; rw [d_len] at this; exact this
  have HB0 : Hid (blamedTo p.d.judges [] = 2 ^ p.judges.length - 1) := Lib.hid (by unfold blamedTo; rw [d_len]; rfl)
  have HBS := Lib.hid (fun pre x => blamed_snoc p.d.judges pre x)
  have HBL := Lib.hid (fun pre => blamed_lt p.d.judges pre G.j4)
  have HWL := Lib.hid (fun x => wrongS_lt (js := p.d.judges) G.j4 x)
  obtain ⟨bf, hbf⟩ : ∃ z, blamedTo p.d.judges = z := ⟨_, rfl⟩
  rw [hbf] at HB0 HBS HBL ⊢
  have hro : Fence.wide.round = none := rfl
  have hl0 : (0 : Int) ≤ (p.judges.length : Int) := by omega
  have hl64 : p.judges.length ≤ 64 := by omega
  have hpI : ((2 : Int) ^ p.judges.length) = ((2 ^ p.judges.length : Nat) : Int) := (Int.natCast_pow 2 _).symm
  have hp8 : 2 ^ p.judges.length ≤ 16 := Nat.pow_le_pow_right (n := 2) (by omega) h4
  have hp1 := Nat.two_pow_pos p.judges.length
  obtain ⟨z, hz⟩ : ∃ z, 2 ^ p.judges.length = z := ⟨_, rfl⟩
  rw [hz] at hpI hp8 hp1 HB0
  have hwr : IntKind.i64.wrap ((2 : Int) ^ p.judges.length) = (z : Int) := by rw [hpI]; exact IntWalk.i64_in _ (by omega)
  have hsb : IntKind.i64.wrap ((z : Int) - 1) = ((z - 1 : Nat) : Int) := by rw [IntWalk.i64_in _ (by omega)]; omega
  obtain ⟨z1, hz1⟩ : ∃ k, z - 1 = k := ⟨_, rfl⟩
  rw [hz1] at hsb HB0
  clear hA hbf hpI hz hz1 hp8 hp1
  refine (callsIn_wide (n := 8)).1 ?_
  refine callsIn_of_wp_marks Tryd.func57 rfl trivial ?_ hro
  simp only [Tryd.ntmps57, List.size_toArray, List.length_cons, List.length_nil, Nat.reduceAdd, Nat.reduceSub, Array.replicate_succ, Array.replicate_zero, List.push_toArray, List.append_toArray, List.nil_append, List.cons_append]
  refine wpIn_wide.2 ?_
  go_upto_region 1 with fail
  obtain ⟨W1, hW1, hg1, hf1, hsz1⟩ := one_block w 73 (cellsP p)
  have hz1 : W1.heap.size = w.heap.size + 1 := by rw [← hW1]; simp
  rw [hW1]
  clear hW1
  have hcc := hf1.cell
  go_upto_region 2 with fail
  obtain ⟨W, hW, hg2, hf2, hsz⟩ := one_block W1 3 #[.int .i64 (z1 : Nat)]
  rw [hW]
  rw [hz1] at hf2 hsz
  have HF := Lib.hid (hg2.block hf1)
  have HX := Lib.hid hf2
  have HG := Lib.hid (hg1.trans hg2)
  clear hW hg1 hf1 hsz1 hg2 hf2 hcc hz1
  have hcc := HF.out.cell
  go_wp2_with fail
  refine (wpIn_wide (n := 8)).1 ?_
  refine wpIn_rangeLow (first := #[paperV p]) (lb := #[]) (gf := 50) rfl (enters_of Tryd.func50 (by kernel_rfl) rfl)
    (truths_stops p (good_with G (Int.le_refl 0) (by omega)) w.heap.size w.heap.size W (HPA.out W HG.out) HG.out.size) HG.out.size (by omega) (Below.refl _ _) (fun _ => rfl)
    (fun pre W' => BlockIs W' (w.heap.size + 1) 3 #[.int .i64 (bf pre : Nat)] ∧ Below w.heap.size w W' ∧ W.heap.size ≤ W'.heap.size)
    (fun _ _ => False)
    (fun pre A B h g => ⟨(g.block _ (by omega)).trans h.1, h.2.1.trans (Below.mono g HG.out.size), Nat.le_trans h.2.2 g.size⟩)
    (fun _ _ _ h _ => h)
    (fun _ _ h => h.2.2) (fun _ _ h => h.elim)
    ⟨by rw [HB0.out]; exact HX.out, HG.out, Nat.le_refl _⟩
    (fun x a' _ => a' = { tmps := #[paperV p, .pointer (some ⟨w.heap.size, 0, none⟩), .int .i64 0, .pointer (some ⟨w.heap.size + 1, 0, none⟩), undef, .int .i64 (wrongS p.d.judges x : Nat), .pointer (some ⟨w.heap.size, 0, none⟩), .pointer (some ⟨w.heap.size, 1, none⟩), .slice p.ja p.judges.length p.jc, .int .i64 (p.judges.length : Nat), .int .i64 (z : Nat), .int .i64 (z1 : Nat), paperV p, .func (.func 50) #[paperV p] #[], .agg (cellsT x), .int .i64 (wrongS p.d.judges x : Nat), undef, undef, undef, undef], defers := [] })
    (fun _ _ _ _ _ _ hs _ _ => hs)
    ?assign ?body ?done ?stop
  case assign =>
    rintro l pre x W3 K hi hK
    simp only [encT]
    gi_wp2
    exact hK _ _ (KeepM.refl _ _ _ _) hi rfl
  case body =>
    rintro l pre x a' W3 hl ⟨r, hr⟩ ⟨hv, hgw, hsw⟩ rfl hpr
    have hb16 := HBL.out pre
    have hw16 := HWL.out x
    have HN := Lib.hid (HBS.out pre x)
    have hvc := hv.cell 0
    have hvf := hv.frozen 0
    have HV := Lib.hid hv
    clear hv
    obtain ⟨a, ha⟩ : ∃ k, bf pre = k := ⟨_, rfl⟩
    obtain ⟨b, hb⟩ : ∃ k, wrongS p.d.judges x = k := ⟨_, rfl⟩
    rw [ha] at hb16 HN hvc
    rw [hb] at hw16 HN ⊢
    have hand := and_i64 a b (by omega) (by omega)
    gi_wp2
    refine ⟨KeepM.store _ _ _ (by omega) (by omega) (by omega), ?_, hgw.setCell (p := ⟨w.heap.size + 1, 0, none⟩) (by show w.heap.size ≤ w.heap.size + 1; omega) _, by simpa using hsw⟩
    rw [HN.out]
    exact HV.out.near 0 _
  case done =>
    rintro D xs W3 hD rfl ⟨hv, hgw, hsw⟩ hK
    have hvc := hv.cell 0
    clear hv
    go_wp2
    refine ⟨by simp, .inl ⟨_, _, rfl, run_takeDeferred hK, ?_⟩⟩
    exact ⟨_, results_tmp rfl _ _ _, rfl, hgw.trans (put_below _ _ (by omega))⟩
  case stop =>
    rintro D pre W3 hD _ h _
    exact h.elim

end Go.Proofs.YthehkgpnnndboaaDoor

namespace Go.Proofs.YthehkgpnnndboaaDoor
open Go.RowKit

abbrev natsL (l : List Nat) : List Int := l.map (Int.ofNat ·)
theorem Tryd.infoInt : (Tryd.prog.info? 3).map (fun i => (i.zero, i.size, i.bytes)) = some (some (Value.int .i64 0), 1, 8) := by kernel_rfl
theorem own_nil (w : World) (base e : Nat) : w.ownsRow base e 1 (.slice none 0 0) 0 [] := ⟨rfl, .inl ⟨rfl, rfl⟩⟩
theorem natsL_snoc (l : List Nat) (k : Nat) : natsL (l ++ [k]) = natsL l ++ [(k : Int)] := by simp [natsL]
theorem shr_bit (s i : Nat) (hs : s < 16) : bits .and .i64 ((s : Int) / 2 ^ i) 1 = if s.testBit i then 1 else 0 := by
  have h := Nat.div_le_self s (2 ^ i)
  have e : (s : Int) / 2 ^ i = ((s / 2 ^ i : Nat) : Int) := by
    rw [Int.natCast_ediv, Int.natCast_pow]
    rfl
  rw [e, Nat.testBit_eq_decide_div_mod_eq]
  generalize s / 2 ^ i = q at h ⊢
  rw [and_one (by omega) (by omega)]
  by_cases hq : q % 2 = 1
  · rw [if_pos (decide_eq_true hq)]; omega
  · rw [if_neg (by rw [decide_eq_true_iff]; exact hq)]; omega
theorem blameTo_len (d : PaperI) : ∀ k, (blameTo d k).length ≤ k
  | 0 => Nat.le_refl _
  | k + 1 => by
    have ih := blameTo_len d k
    rw [blameTo]
    split
    · rw [List.length_append]; simp; omega
    · omega
theorem blameTo_in {d : PaperI} {k : Nat} (h : (blamedTo d.judges (truthsL d)).testBit k = true) : blameTo d (k + 1) = blameTo d k ++ [k] := by rw [blameTo, if_pos h]
theorem blameTo_out {d : PaperI} {k : Nat} (h : (blamedTo d.judges (truthsL d)).testBit k = false) : blameTo d (k + 1) = blameTo d k := by rw [blameTo, if_neg (by rw [h]; exact Bool.false_ne_true)]

set_option maxRecDepth 100000 in
set_option maxHeartbeats 8000000 in
theorem blame_bad (p : PaperR) (w : World) (hA : PaperAt w w.heap.size p) (hs : Short p) (he : numErr p 0 0 ≠ 0) :
    Calls Tryd.prog 25 #[paperV p] w fun e w' => e = .returned (.tuple #[.slice none 0 0, .int .i64 (numErr p 0 0)]) ∧ Below w.heap.size w w' := by
  have HR := Lib.hid (fun (w0 : World) (hw : Grow w w0) => readPossible_any p w0 (hA.grow hw) hs)
  rw [show numCells p 0 0 = zeroP from by unfold numCells; rw [if_neg he]] at HR
  obtain ⟨er, her⟩ : ∃ z, numErr p 0 0 = z := ⟨_, rfl⟩
  rw [her] at HR he ⊢
  have hne : (er != 0) = true := by rw [bne_iff_ne]; exact he
  clear her hA he
  go_enter Tryd.func25, Tryd.ntmps25
  go_upto_region 1 with fail
  obtain ⟨W, hW, hg, hf, hsz⟩ := one_block w 26 (cellsP p)
  rw [hW]
  clear hW
  have hcc := hf.cell
  have HG := Lib.hid hg
  clear hf hg
  go_wp2_with fail
  refine (HR.out W HG.out).mono ?_
  rintro e w1 ⟨rfl, hb1⟩
  have HG1 : Hid (Grow w w1) := Lib.hid (HG.out.trans hb1)
  clear hb1 hcc
  go_upto_region 3 with fail
  obtain ⟨W2, hW2, hg2, _, _⟩ := one_block w1 73 zeroP
  rw [hW2]
  clear hW2
  have HG2 : Hid (Grow w W2) := Lib.hid (HG1.out.trans hg2)
  clear hg2
  go_wp2_with fail
  go_ret2
  exact ⟨rfl, HG2.out⟩

set_option maxRecDepth 100000 in
set_option maxHeartbeats 8000000 in
theorem blame_good (p : PaperR) (w : World) (hA : PaperAt w w.heap.size p) (hs : Short p) (he : numErr p 0 0 = 0) :
    Calls Tryd.prog 25 #[paperV p] w fun e w' => ∃ A cap, e = .returned (.tuple #[.slice A (blameL p.d).length cap, .int .i64 0]) ∧ Ints w' w'.heap.size A (natsL (blameL p.d)) ∧ Below w.heap.size w w' := by
  obtain ⟨i0, hi, hz0, hz1, hz2⟩ := info_parts Tryd.infoInt
  obtain ⟨G, _, hne⟩ := numErr_zero he
  have HR := Lib.hid (fun (w0 : World) (hw : Grow w w0) => readPossible_any p w0 (hA.grow hw) hs)
  rw [show numCells p 0 0 = cellsP p from by unfold numCells; rw [if_pos he], he] at HR
  have HBL := Lib.hid (fun (w0 : World) (hw : Grow w w0) => blamed_any p G w0 (hA.grow hw))
  have h4 : p.judges.length ≤ 4 := by have := G.j4; rw [d_len] at this; exact this
  have h16 := blamed_lt p.d.judges (truthsL p.d) G.j4
  have HIN := Lib.hid (fun k => blameTo_in (d := p.d) (k := k))
  have HOUT := Lib.hid (fun k => blameTo_out (d := p.d) (k := k))
  have HLE := Lib.hid (blameTo_len p.d)
  have HBT := Lib.hid (fun i => shr_bit (blamedTo p.d.judges (truthsL p.d)) i h16)
  have HEND : Hid (blameTo p.d p.judges.length = blameL p.d) := Lib.hid (by have := blame_is p.d; rwa [d_len] at this)
  obtain ⟨bs, hbs⟩ : ∃ z, blamedTo p.d.judges (truthsL p.d) = z := ⟨_, rfl⟩
  rw [hbs] at HBL HIN HOUT HBT
  rw [← HEND.out]
  obtain ⟨bf, hbf⟩ : ∃ z, blameTo p.d = z := ⟨_, rfl⟩
  have hb0 : bf 0 = [] := by rw [← hbf]; rfl
  rw [hbf] at HIN HOUT HLE ⊢
  clear hbs hbf hA he hne HEND h16
  go_enter Tryd.func25, Tryd.ntmps25
  go_upto_region 1 with fail
  obtain ⟨W, hW, hg, hf, hsz⟩ := one_block w 26 (cellsP p)
  rw [hW]
  clear hW
  have hcc := hf.cell
  have HG := Lib.hid hg
  clear hf hg
  go_wp2_with fail
  refine (HR.out W HG.out).mono ?_
  rintro e w1 ⟨rfl, hb1⟩
  have HG1 : Hid (Grow w w1) := Lib.hid (HG.out.trans hb1)
  clear hb1 hcc
  go_upto_region 5 with fail
  obtain ⟨W2, hW2, hg2, hs2, hsz2⟩ := one_block w1 73 (cellsP p)
  rw [hW2]
  clear hW2
  obtain ⟨sb, hsb⟩ : ∃ z, w1.heap.size = z := ⟨_, rfl⟩
  rw [hsb] at hs2 hsz2 ⊢
  have HS2 := Lib.hid hs2
  have HG2 : Hid (Grow w W2) := Lib.hid (HG1.out.trans hg2)
  have hsc := hs2.cell
  clear hg2 hs2 hsb
  go_wp2_with fail
  refine (HBL.out W2 HG2.out).mono ?_
  rintro e w3 ⟨rfl, hb3⟩
  have HS3 := Lib.hid ((show Grow W2 w3 from hb3).block HS2.out)
  have HG3 : Hid (Grow w w3) := Lib.hid (HG2.out.trans hb3)
  have hsc := HS3.out.cell
  clear hb3
  go_wp2_with fail
  go_loopw [6, 23] (fun v iv wr => ∃ (k : Nat) (A : Option Addr) (cap n : Nat), k ≤ p.judges.length ∧ iv = .int .i64 k ∧ v = .slice A n cap ∧ Hid (n = (bf k).length) ∧ n ≤ 4 ∧ wr.ownsRow w.heap.size 3 1 (.slice A n cap) n ((natsL (bf k)).map (Value.int .i64)) ∧ Grow w wr) (fun _ iv _ => p.judges.length - (intOf iv).toNat)
  case atStart => exact ⟨0, none, 0, 0, Nat.zero_le _, rfl, rfl, by rw [hb0]; rfl, by omega, by rw [hb0]; exact own_nil _ _ _, HG3.out⟩
  case round =>
    obtain ⟨k, A, cap, n, hk, rfl, rfl, HN, hn3, hown, hgr⟩ := hrel
    rename World => wr
    have HOW := Lib.hid hown
    have HGR := Lib.hid hgr
    clear hown hgr
    have hb := HBT.out k
    have hk0 : (0 : Int) ≤ (k : Int) := by omega
    by_cases hlt : k < p.judges.length
    · have hd : decide ((k : Int) < (p.judges.length : Int)) = true := decide_eq_true (by omega)
      cases hbit : bs.testBit k with
      | true =>
        rw [hbit, if_pos rfl] at hb
        have HI := Lib.hid (HIN.out k hbit)
        have HOW2 := Lib.hid (own_grow HOW.out (Grow.alloc wr (.cells #[.int .i64 k] 3)))
        clear hbit
        go_wp2_with (at_builtin; go_loud (refine wpList_append_own _ rfl _ _ 24 rfl w.heap.size 3 i0 (.int .i64 0) 1 8 Tryd.underlying24 hi hz0 hz1 hz2 rfl (by omega) _ n ((natsL (bf k)).map (Value.int .i64)) rfl ?d0 ⟨wr.heap.size, 0, none⟩ 1 1 [.int .i64 k] rfl rfl ?d1 ?d2 ?d3 ?d4 ?d5 ?_))
        case d0 => exact HOW2.out
        case d1 => exact news_one (BlockIs.new _ _ _)
        case d2 => simp [Value.oneCell']
        case d3 => unfold maxLen; omega
        case d4 => omega
        case d5 => have := HGR.out.size; simp; omega
        intro v' w4 hown hgr _
        obtain ⟨Aw, cw, rfl⟩ := own_form hown
        have HOW3 : Hid (w4.ownsRow w.heap.size 3 1 (.slice Aw (n + 1) cw) (n + 1) ((natsL (bf (k + 1))).map (Value.int .i64))) := Lib.hid (by
          rw [HI.out, natsL_snoc, List.map_append]
          simpa using hown)
        have HG4 : Hid (Grow w w4) := Lib.hid (below_grown (HGR.out.trans (Grow.alloc _ _)) HOW2.out hgr (by have := HGR.out.size; simp; omega))
        have HN3 : Hid (n + 1 = (bf (k + 1)).length) := Lib.hid (by rw [HI.out, List.length_append, ← HN.out]; rfl)
        have hn4 : n + 1 ≤ 4 := by have h1 := HN3.out; have h2 := HLE.out (k + 1); omega
        clear hown hgr HOW2
        go_wp2
        go_roundw
        case rel => exact ⟨k + 1, Aw, cw, n + 1, by omega, by go_num, rfl, HN3.out, hn4, HOW3.out, HG4.out⟩
        case measure => simp [intOf]; omega
      | false =>
        rw [hbit, if_neg Bool.false_ne_true] at hb
        have HO := Lib.hid (HOUT.out k hbit)
        clear hbit
        go_wp2
        go_roundw
        case rel => exact ⟨k + 1, A, cap, n, by omega, by go_num, rfl, by rw [HO.out]; exact HN.out, hn3, by rw [HO.out]; exact HOW.out, HGR.out⟩
        case measure => simp [intOf]; omega
    · obtain rfl : k = p.judges.length := by omega
      have hd : decide ((p.judges.length : Int) < (p.judges.length : Int)) = false := decide_eq_false (by omega)
      clear hb
      go_wp2
      go_ret2
      have hnn := HN.out
      have hw := HOW.out
      rw [hnn] at hw
      exact ⟨A, cap, by rw [← hnn]; rfl, (own_ints hw).1, HGR.out⟩

/-- what Blame hands back -/
def blameV (p : PaperR) : List Nat := if numErr p 0 0 = 0 then blameL p.d else []
theorem blameApi_any (p : PaperR) (w : World) (hA : PaperAt w w.heap.size p) (hs : Short p) :
    Calls Tryd.prog 25 #[paperV p] w fun e w' => ∃ A cap, e = .returned (.tuple #[.slice A (blameV p).length cap, .int .i64 (numErr p 0 0)]) ∧ Ints w' w'.heap.size A (natsL (blameV p)) ∧ Below w.heap.size w w' := by
  unfold blameV
  by_cases he : numErr p 0 0 = 0
  · rw [if_pos he, he]
    exact blame_good p w hA hs he
  · rw [if_neg he]
    refine (blame_bad p w hA hs he).mono ?_
    rintro e w' ⟨rfl, hb⟩
    exact ⟨none, 0, rfl, .inl rfl, hb⟩

end Go.Proofs.YthehkgpnnndboaaDoor

