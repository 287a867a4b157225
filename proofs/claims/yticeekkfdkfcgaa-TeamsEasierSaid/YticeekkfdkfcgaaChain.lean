/- Chain: the walk of the program's search for a chain. -/
import Derived.Test.YticeekkfdkfcgaaChainM
import Derived.Test.YticeekkfdkfcgaaQueue
import Derived.Test.YticeekkfdkfcgaaJoins
import Derived.Deep.DeepCutAuto
namespace Go.Proofs.Yticeekkfdkfcgaa
open Go.RowKit

/-- nil, or a chain of languages -/
def ChainV (res : Option (List Nat)) (v : Value) (w : World) : Prop := (res = none → v = .slice none 0 0) ∧ ∀ l, res = some l → ∃ b c, v = .slice (some ⟨b, 0, none⟩) l.length c ∧ Ints w w.heap.size (some ⟨b, 0, none⟩) (natsL l) ∧ l ≠ []
/-- a queue of chains in memory -/
def QueueV (w : World) (lo : Nat) (v : Value) (n : Nat) (qs : List (List Nat)) : Prop := n = qs.length ∧ ∃ (b o c : Nat) (R : List RowR), v = .slice (some ⟨b, o, none⟩) n c ∧ QueueAt w lo b o c R ∧ R.map (·.xs) = qs.map natsL

theorem queue_len {R : List RowR} {qs : List (List Nat)} (h : R.map (·.xs) = qs.map natsL) : R.length = qs.length := by
  have := congrArg List.length h
  simpa using this

theorem wpList_append_run {w w' : World} {ops : Array Oper} {rest : List Oper} {o : Oper} {a : Act} {Q : Exit → Act → World → Prop} (hgd : o.guard = none) (s x : Operand) (t : TypeId)
    (ho : o.op = .call { callee := .builtin .append, args := #[s, x], argTypes := #[t, t] }) (ht : o.type = t) {v u v' : Value} (hs : a.eval s = v) (hx : a.eval x = u)
    (hrun : (Builtin.append_ #[t, t] t #[v, u]).run Try.prog w = .ok v' w') (h : wpList Try.prog ops Q rest (a.put o.dst v') w') : wpList Try.prog ops Q (o :: rest) a w := by
  refine wpList_plain hgd fun K hK => ?_
  have h1 := hK _ _ h
  unfold Oper.wp
  simp [execOp, ho, ht, resolve, invoke, builtin, hs, hx, hrun, Result.andThen]
  exact h1
theorem own_intRow {w : World} {base cap : Nat} {A : Option Addr} {xs : List Int} (h : w.ownsRow base 3 1 (.slice A xs.length cap) xs.length (xs.map (Value.int .i64))) (h0 : 0 < xs.length) : IntRow w base ⟨A, cap, xs⟩ := by
  have h' := h
  rcases h.2 with ⟨e, e2⟩ | ⟨g, c, cur, hv, hg, hh, h2, h3, h4, h5⟩
  · omega
  · injection hv with e1 e2 e3
    subst e1 e3
    have hB : BlockIs w g 3 cur := hh
    refine ⟨g, cur, rfl, hg, hB, fun i x hi => ?_⟩
    have hc := World.ownsRow.cells (g := g) h' rfl i (Value.int .i64 x) (by rw [List.getElem?_map, hi]; rfl)
    rwa [show (⟨g, 0, none⟩ : Addr).add i = ⟨g, i, none⟩ by (simp [Addr.add]; try omega), hB.cell] at hc

set_option maxRecDepth 100000 in
set_option maxHeartbeats 16000000 in
theorem chain_any (c : CrewR) (j : JobD) (lw : LawD) (bA : Option Addr) (bc team n fr dst : Nat) (w : World) (hP : People w w.heap.size c.pa c.people) (hl : c.people.length ≤ 8) (ht : team < 1000000) (hn : c.languages = (n : Int)) (hn5 : n ≤ 5) (hfr : j.fr = (fr : Int)) (hfn : fr < n) (hds : j.dest = (dst : Int)) (hdn : dst < n) (hv : ∀ x ∈ c.people, x.d.levels.length = n) :
    Calls Try.prog 45 #[taskV c j lw bA bc, .int .i64 (team : Nat)] w fun e w' => ∃ v, e = .returned v ∧ ChainV (chainD n (fun a b => joinsL lw.level a b (membersL c.people team)) fr dst) v w' ∧ Below w.heap.size w w' := by
  obtain ⟨i0, hi0, hz0, hz1, hz2⟩ := info_parts Try.infoInt
  have HJ := Lib.hid (fun (a b : Nat) (ha : a < n) (hb : b < n) (w0 : World) (hw : Grow w w0) => joins_any c j lw bA bc team a b w0 ((hP.below hw).more hw.size) hl ht (fun x hx => by rw [hv x hx]; exact ⟨ha, hb⟩))
  have HRES : Hid (chainD n (fun a b => joinsL lw.level a b (membersL c.people team)) fr dst = searchC n (fun a b => joinsL lw.level a b (membersL c.people team)) dst 6 (2 ^ fr, [[fr]])) := rfl
  obtain ⟨adj, hadj⟩ : ∃ z : Nat → Nat → Bool, (fun a b => joinsL lw.level a b (membersL c.people team)) = z := ⟨_, rfl⟩
  have HJ2 : Hid (∀ (a b : Nat), a < n → b < n → ∀ (w0 : World), Grow w w0 → Calls Try.prog 61 #[taskV c j lw bA bc, .int .i64 (team : Nat), .int .i64 (a : Nat), .int .i64 (b : Nat)] w0 fun e w' => e = .returned (.bool (adj a b)) ∧ Below w0.heap.size w0 w') := Lib.hid (fun a b ha hb w0 hw => by rw [← hadj]; exact HJ.out a b ha hb w0 hw)
  rw [hadj] at HRES ⊢
  obtain ⟨res, hres⟩ : ∃ z, chainD n adj fr dst = z := ⟨_, rfl⟩
  rw [hres] at HRES ⊢
  have HOK := Lib.hid (SearchOK.start hfn hn5)
  have hfr0 : (0 : Int) ≤ (fr : Int) := by omega
  have hfr64 : fr ≤ 64 := by omega
  have hpI : ((2 : Int) ^ fr) = ((2 ^ fr : Nat) : Int) := (Int.natCast_pow 2 fr).symm
  have hp32 := (popU_one fr (by omega)).2
  obtain ⟨pf, hpf⟩ : ∃ z, 2 ^ fr = z := ⟨_, rfl⟩
  rw [hpf] at hpI hp32 HRES HOK
  have hwr : IntKind.i64.wrap ((2 : Int) ^ fr) = (pf : Int) := by
    rw [hpI]
    exact IntWalk.i64_in _ (by omega)
  have HN := Lib.hid hn
  have HFR := Lib.hid hfr
  have HDS := Lib.hid hds
  clear HJ hadj hpf hpI hres hP hv hn hfr hds
  go_enter Try.func45, Try.ntmps45
  go_upto_region 1 with fail
  obtain ⟨W, hW, hg, hf, hsz⟩ := one_block w 63 (cellsT c j lw bA bc)
  rw [hW]
  clear hW
  have HF := Lib.hid hf
  have HG := Lib.hid hg
  clear hg hf
  have hc3 : W.cell? ⟨w.heap.size, 3, none⟩ = some (.int .i64 (fr : Nat)) := by rw [HF.out.cell 3, ← HFR.out]; rfl
  go_upto_region 3 with fail
  obtain ⟨W2, hW2, hg2, b1, b2, hz2'⟩ := two_blocks W 3 33 #[.int .i64 (fr : Nat)] #[.slice (some ⟨W.heap.size, 0, none⟩) 1 1]
  rw [hW2]
  have HG2 := Lib.hid hg2
  have HQ : Hid (QueueV W2 W.heap.size (.slice (some ⟨W.heap.size + 1, 0, none⟩) 1 1) 1 [[fr]]) := Lib.hid ⟨rfl, W.heap.size + 1, 0, 1, [⟨some ⟨W.heap.size, 0, none⟩, 1, [(fr : Int)]⟩], rfl, ⟨⟨_, b2, Nat.le_refl _, fun i r hr => by
    have hi : i = 0 := by have := (List.getElem?_eq_some_iff.1 hr).1; simpa using this
    subst hi
    have : (⟨some ⟨W.heap.size, 0, none⟩, 1, [(fr : Int)]⟩ : RowR) = r := by simpa using hr
    subst this
    rfl⟩, by omega, Nat.le_refl _, fun r hr => by
    obtain rfl := List.mem_singleton.1 hr
    exact ⟨W.heap.size, _, rfl, Nat.le_refl _, b1, fun i x hx => by
      have hi : i = 0 := by have := (List.getElem?_eq_some_iff.1 hx).1; simpa using this
      subst hi
      have : (fr : Int) = x := by simpa using hx
      subst this
      rfl⟩⟩, rfl⟩
  clear hW2 hg2 b1 b2 hz2' hc3
  go_wp2_with fail
  go_loopw [5, 6] (fun rv qv wr => ∃ (r f m : Nat) (qs : List (List Nat)), rv = .int .i64 (r : Nat) ∧ QueueV wr W.heap.size qv m qs ∧ (∃ A cc, qv = .slice A m cc) ∧ SearchOK n f (r, qs) ∧ f ≤ 6 ∧ Hid (searchC n adj dst f (r, qs) = res) ∧ Grow W wr) (fun rv qv _ => (match qv with | .slice _ m _ => m | _ => 0) + popU (intOf rv).toNat)
  case atStart => exact ⟨pf, 6, 1, [[fr]], rfl, HQ.out, ⟨_, _, rfl⟩, HOK.out, Nat.le_refl _, HRES.out.symm, HG2.out⟩
  case round =>
    obtain ⟨r, f, m, qs, rfl, hq, ⟨A0, cc0, rfl⟩, hok, hf6, HS, hgr⟩ := hrel
    rename World => wr
    have HGR : Hid (Grow W wr) := Lib.hid hgr
    obtain ⟨hm, b, o, cc, R, e, hqa, hrx⟩ := hq
    injection e with e1 e2 e3
    subst e1 e3
    clear HQ HOK HRES hwr hp32 hgr
    cases qs with
    | nil =>
      obtain rfl : m = 0 := hm
      have HX : Hid (res = none) := Lib.hid (by rw [← HS.out]; exact searchC_nil ..)
      clear hqa hrx hok HS
      go_wp2
      go_ret
      exact ⟨_, rfl, ⟨fun _ => rfl, fun l h => by rw [HX.out] at h; cases h⟩, HG.out.trans HGR.out⟩
    | cons ch q =>
      have hRl : R.length = q.length + 1 := by rw [queue_len hrx]; rfl
      cases R with
      | nil => simp at hRl
      | cons r0 R' =>
        simp only [List.map_cons, List.cons.injEq] at hrx
        obtain ⟨hx0, hrx'⟩ := hrx
        obtain rfl : m = q.length + 1 := hm
        have hch := hok.q ch (List.mem_cons_self ..)
        have hr0 := hqa.rows r0 (List.mem_cons_self ..)
        have hcell0 : wr.cell? ⟨b, o, none⟩ = some (rowV r0) := by have := hqa.cell (i := 0) rfl; simpa using this
        have hpop := hqa.pop
        have hroom := hqa.room
        rw [List.length_cons] at hroom
        obtain ⟨cl, hcl⟩ : ∃ cl, ch.length = cl + 1 := ⟨ch.length - 1, by have := List.length_pos_iff.2 hch.1; omega⟩
        have hxl : r0.xs.length = cl + 1 := by rw [hx0, List.length_map, hcl]
        have HR0 := Lib.hid hr0
        have HX0 := Lib.hid hx0
        obtain ⟨g, cs, hga, hgl, hgb, hgc⟩ := hr0
        have hla := last_at hch.1
        rw [hcl, Nat.add_sub_cancel] at hla
        have hlc : wr.cell? ⟨g, cl, none⟩ = some (.int .i64 (ch.getLastD 0 : Nat)) := by
          rw [hgb.cell]
          exact hgc _ _ (by rw [hx0, List.getElem?_map, hla]; rfl)
        rw [show rowV r0 = .slice (some ⟨g, 0, none⟩) (cl + 1) r0.c by rw [← hga, ← hxl]] at hcell0
        obtain ⟨f', rfl⟩ : ∃ f', f = f' + 1 := ⟨f - 1, by have := hok.fuel; omega⟩
        have HOK2 := Lib.hid hok.pop
        have HCH := Lib.hid hch
        have HLM := Lib.hid (hch.2 _ (last_mem hch.1))
        have HLC := Lib.hid hlc
        have HHIT := Lib.hid (fun (h : ch.getLastD 0 = dst) => searchC_hit (n := n) (adj := adj) (f := f') (r := r) (q := q) h)
        have HON := Lib.hid (fun (h : ch.getLastD 0 ≠ dst) => searchC_on (n := n) (adj := adj) (f := f') (r := r) (q := q) h)
        have HCV : Hid (res = some ch → ChainV res (.slice (some ⟨g, 0, none⟩) (cl + 1) r0.c) wr) := Lib.hid (fun h => ⟨fun e => (by rw [h] at e; cases e), fun l hl => by
          rw [h] at hl
          obtain rfl := Option.some.inj hl
          refine ⟨g, r0.c, by rw [hcl], ?_, hch.1⟩
          have := HR0.out.ints
          rw [hga, hx0] at this
          exact this⟩)
        have hmeas := hok.fuel
        have hcl5 : cl ≤ 4 := by have := hok.len ch (List.mem_cons_self ..); omega
        have HCL5 := Lib.hid (hok.len ch (List.mem_cons_self ..))
        generalize ch.getLastD 0 = last at HLM HLC HHIT HON ⊢
        have hq0 : decide ((0 : Int) < ((q.length + 1 : Nat) : Int)) = true := decide_eq_true (by omega)
        have hq1 : (0 : Int) < ((q.length : Int) + 1) := by omega
        have hq2 : (1 : Int) ≤ ((q.length : Int) + 1) := by omega
        have hcc1 : (1 : Int) ≤ (cc0 : Int) := by omega
        have hroom2 : q.length + 1 ≤ cc0 := by have := queue_len hrx'; omega
        go_upto_region 5 with fail
        clear hcell0 hq0 hlc
        go_cut [6] (fun v wx => QueueV wx W.heap.size v q.length q ∧ (∃ A c', v = .slice A q.length c') ∧ wx = wr)
        case first =>
          by_cases h1 : cc0 = 1
          · subst h1
            have hq00 : q.length = 0 := by omega
            go_wp2
            go_meet
            exact ⟨⟨rfl, b, o, 0, R', by rw [hq00], ⟨⟨_, hpop.block.choose_spec.1, by have := hpop.block.choose_spec.2.1; omega, fun i r hr => by have := (List.getElem?_eq_some_iff.1 hr).1; omega⟩, hpop.base, by omega, hpop.rows⟩, hrx'⟩, ⟨_, _, by rw [hq00]⟩, rfl⟩
          · have hcd : decide (cc0 = 1) = false := decide_eq_false h1
            go_wp2
            go_meet
            exact ⟨⟨rfl, b, o + 1, cc0 - 1, R', rfl, hpop, hrx'⟩, ⟨_, _, rfl⟩, rfl⟩
        case rest =>
          obtain ⟨hqv, ⟨A1, c1, rfl⟩, rfl⟩ := hcut
          rename World => wr
          have HQV := Lib.hid hqv
          clear hqv
          have hcl0 : (0 : Int) ≤ (cl : Int) := by omega
          have hcl1 : (cl : Int) < (cl : Int) + 1 := by omega
          have hlc := HLC.out
          have hc4 : wr.cell? ⟨w.heap.size, 4, none⟩ = some (.int .i64 (dst : Nat)) := by rw [(HGR.out.block HF.out).cell 4, ← HDS.out]; rfl
          by_cases hld : last = dst
          · have HX : Hid (res = some ch) := Lib.hid (by rw [← HS.out]; exact HHIT.out hld)
            have hd1 : decide ((last : Int) = (dst : Int)) = true := decide_eq_true (by omega)
            have hd2 : ((last : Int) == (dst : Int)) = true := by simp; omega
            clear hld
            go_wp2
            go_ret
            exact ⟨_, rfl, HCV.out HX.out, HG.out.trans HGR.out⟩
          · have HS2 : Hid (searchC n adj dst f' (roundTo adj ch last (r, q) n) = res) := Lib.hid (by rw [← HS.out]; exact (HON.out hld).symm)
            have hd1 : decide ((last : Int) = (dst : Int)) = false := decide_eq_false (by omega)
            have hd2 : ((last : Int) == (dst : Int)) = false := by simp; omega
            clear hld
            have hc0 : wr.cell? ⟨w.heap.size, 0, none⟩ = some (.int .i64 (n : Nat)) := by rw [(HGR.out.block HF.out).cell 0, ← HN.out]; rfl
            go_upto_region 10 with fail
            clear hc0 hlc hc4 hd1 hd2
            have HRT := Lib.hid (fun k hk => HOK2.out.roundTo (adj := adj) (last := last) HCH.out HCL5.out hn5 k hk)
            go_wp2_with fail
            go_loopw [42, 5, 6] (fun kv rv qv wx => ∃ (k m : Nat) (st : Nat × List (List Nat)), k ≤ n ∧ kv = .int .i64 k ∧ rv = .int .i64 (st.1 : Nat) ∧ QueueV wx W.heap.size qv m st.2 ∧ (∃ A c', qv = .slice A m c') ∧ Hid (st = roundTo adj ch last (r, q) k) ∧ IntRow wx W.heap.size r0 ∧ Grow W wx) (fun kv _ _ _ => n - (intOf kv).toNat)
            case atStart => exact ⟨0, q.length, (r, q), Nat.zero_le _, rfl, rfl, HQV.out, ⟨_, _, rfl⟩, rfl, HR0.out, HGR.out⟩
            case round => as_aux_lemma =>
              obtain ⟨k, m, ⟨sr, sq⟩, hk, rfl, rfl, hqx, ⟨A2, c2, rfl⟩, HST, hrw, hgx⟩ := hrel
              rename World => wx
              have HQX := Lib.hid hqx
              have HRW := Lib.hid hrw
              have HGX : Hid (Grow W wx) := Lib.hid hgx
              clear hqx hrw hgx HQV
              by_cases hkn : k < n
              · have hk1 : decide ((k : Int) < (n : Int)) = true := decide_eq_true (by omega)
                have hk2 : decide (k < n) = true := decide_eq_true hkn
                have HKN := Lib.hid hkn
                have hsk := (HRT.out k (by omega)).1
                rw [← HST.out] at hsk
                have hsr : sr < 32 := hsk.r
                have hsn : sq.length ≤ 5 := by have h1 := hsk.fuel; simp only at h1; omega
                have HHA := Lib.hid (fun w0 => has_any sr k w0 (by omega) (by omega))
                have HSUC := Lib.hid (roundTo_succ adj ch last (r, q) k)
                rw [← HST.out] at HSUC
                have HSK1 := Lib.hid (fun h => stepC_skip (adj := adj) (ch := ch) (last := last) (m := k) (s := (sr, sq)) h)
                have HTK := Lib.hid (fun (h : hasN sr k = false) h2 => stepC_take (adj := adj) (ch := ch) (last := last) (m := k) (s := (sr, sq)) h h2)
                have hcc := (HGX.out.block HF.out).cell
                have HJC := Lib.hid (HJ2.out last k HLM.out hkn wx (HG.out.trans HGX.out))
                have HPU := Lib.hid (fun h => popU_or sr k hsr (by omega) h)
                obtain ⟨hb, hhb⟩ : ∃ z, hasN sr k = z := ⟨_, rfl⟩
                have HHB := Lib.hid hhb
                rw [hhb] at HHA HTK HSK1
                clear hhb hkn hsk
                cases hb with
                | true =>
                  have HNX : Hid ((sr, sq) = roundTo adj ch last (r, q) (k + 1)) := Lib.hid (by rw [HSUC.out, HSK1.out (.inl rfl)])
                  go_wp2_with fail
                  refine (HHA.out _).mono ?_
                  rintro e w' ⟨rfl, rfl⟩
                  go_wp2
                  go_roundw
                  case rel => exact ⟨k + 1, m, (sr, sq), HKN.out, by go_num, rfl, HQX.out, ⟨_, _, rfl⟩, HNX, HRW.out, HGX.out⟩
                  case measure => have := HKN.out; simp [intOf]; omega
                | false =>
                  obtain ⟨ja, hja⟩ : ∃ z, adj last k = z := ⟨_, rfl⟩
                  rw [hja] at HJC HTK HSK1
                  clear hja
                  go_wp2_with fail
                  refine (HHA.out _).mono ?_
                  rintro e w' ⟨rfl, rfl⟩
                  go_wp2_with fail
                  refine HJC.out.mono ?_
                  rintro e w3 ⟨rfl, hb3⟩
                  have HB3 : Hid (Grow wx w3) := hb3
                  have HG3 : Hid (Grow W w3) := Lib.hid (HGX.out.trans' (Below.mono hb3 HGX.out.size))
                  clear hb3 hcc
                  cases ja with
                  | false =>
                    have HNX : Hid ((sr, sq) = roundTo adj ch last (r, q) (k + 1)) := Lib.hid (by rw [HSUC.out, HSK1.out (.inr rfl)])
                    have HQ3 : Hid (QueueV w3 W.heap.size (.slice A2 m c2) m sq) := Lib.hid (by
                      obtain ⟨h1, b, o, c, R, h2, h3, h4⟩ := HQX.out
                      exact ⟨h1, b, o, c, R, h2, h3.grow HB3.out, h4⟩)
                    have HR3 := Lib.hid (HRW.out.keep (KeepQ.of_grow HB3.out))
                    go_wp2
                    go_roundw
                    case rel => exact ⟨k + 1, m, (sr, sq), HKN.out, by go_num, rfl, HQ3.out, ⟨_, _, rfl⟩, HNX, HR3.out, HG3.out⟩
                    case measure => have := HKN.out; simp [intOf]; omega
                  | true =>
                    have HNX : Hid ((sr ||| 2 ^ k, sq ++ [ch ++ [k]]) = roundTo adj ch last (r, q) (k + 1)) := Lib.hid (by rw [HSUC.out, HTK.out (by first | rfl | trivial) (by first | rfl | trivial)])
                    have hk0 : (0 : Int) ≤ (k : Int) := by omega
                    have hk64 : k ≤ 64 := by omega
                    have hpI : ((2 : Int) ^ k) = ((2 ^ k : Nat) : Int) := (Int.natCast_pow 2 k).symm
                    have hp32 := (popU_one k (by have := HKN.out; omega)).2
                    obtain ⟨pk, hpk⟩ : ∃ z, 2 ^ k = z := ⟨_, rfl⟩
                    rw [hpk] at hpI hp32 HNX
                    have hwr : IntKind.i64.wrap ((2 : Int) ^ k) = (pk : Int) := by
                      rw [hpI]
                      exact IntWalk.i64_in _ (by omega)
                    have hor := or_i64 sr pk (by omega) (by omega)
                    have hpk' := hpk
                    clear hpI hpk
                    have hor2 : sr ||| pk < 32 := by
                      have h := (HPU.out (by have h := HHB.out; unfold hasN at h; simpa using h)).2
                      rw [hpk'] at h
                      exact h
                    go_upto_region 14 with fail
                    have HXL : Hid ((natsL ch).length = cl + 1) := Lib.hid (by rw [List.length_map, hcl])
                    have HR3 := Lib.hid (HRW.out.keep (KeepQ.of_grow HB3.out))
                    have HRI := Lib.hid (HR3.out.ints)
                    rw [hga, HX0.out] at HRI
                    have HCLN := Lib.hid (clone_any (some ⟨g, 0, none⟩) r0.c w3.heap.size (natsL ch) w3 HRI.out (by intro e; have := HXL.out; rw [e] at this; simp at this) (by rw [HXL.out]; omega) (Nat.le_refl _))
                    rw [HXL.out] at HCLN
                    go_wp2_with fail
                    refine HCLN.out.mono ?_
                    rintro e w4 ⟨A4, c4, rfl, hown4, hb4⟩
                    have HB4 : Hid (Grow w3 w4) := hb4
                    have hz4 : w3.heap.size ≤ w4.heap.size := hb4.size
                    clear hb4
                    go_wp2_with (at_builtin; refine wpList_append_own _ rfl _ _ 33 rfl w3.heap.size 3 i0 (.int .i64 0) 1 8 Try.underlying33 hi0 hz0 hz1 hz2 rfl (by decide) _ _ _ rfl (hown4.alloc _) ⟨w4.heap.size, 0, none⟩ 1 1 [.int .i64 (k : Nat)] rfl rfl ?c1 ?c2 ?c3 ?c4 ?c5 ?_)
                    case c1 => exact cell_one_new _ _ _
                    case c2 => simp [Value.oneCell']
                    case c3 => unfold maxLen; omega
                    case c4 => omega
                    case c5 => simp; omega
                    intro v' w5 hown5 hgrow5 _
                    obtain ⟨A5, c5, rfl⟩ := own_form hown5
                    have HB5 : Hid (Grow w3 w5) := Lib.hid (((show Below w3.heap.size w3 w4 from HB4.out).alloc hz4 _).grown hgrow5 (by simp; omega) (fun q hq => by have := own_ge hown4 q hq; omega))
                    have hx2 : (natsL (ch ++ [k])).length = cl + 1 + 1 := by rw [List.length_map, List.length_append, hcl]; rfl
                    have hown5' : w5.ownsRow w3.heap.size 3 1 (.slice A5 (natsL (ch ++ [k])).length c5) (natsL (ch ++ [k])).length ((natsL (ch ++ [k])).map (Value.int .i64)) := by
                      rw [hx2, show natsL (ch ++ [k]) = natsL ch ++ [(k : Int)] by simp [natsL], List.map_append, List.map_map]
                      exact hown5
                    have hir := own_intRow hown5' (by omega)
                    obtain ⟨w6, hw6, hg6, hb6, hz6⟩ := one_block w5 33 #[.slice A5 (cl + 1 + 1) c5]
                    obtain ⟨hm, bq, oq, cq, Rq, e, hqa, hrq⟩ := HQX.out
                    injection e with e1 e2 e3
                    subst e1 e3
                    have hRq : Rq.length = m := by rw [queue_len hrq, hm]
                    have hg36 : Grow w3 w6 := HB5.out.trans hg6
                    have hw3 : W.heap.size ≤ w3.heap.size := HG3.out.size
                    obtain ⟨b', o', c', w7, hrun, hq7, hk7, hbl7⟩ := append_queue (hqa.grow (HB3.out.trans hg36)) (Nat.le_trans hw3 hg36.size) (r := ⟨A5, c5, natsL (ch ++ [k])⟩) ((hir.mono hw3).keep (KeepQ.of_grow hg6)) (ad := ⟨w5.heap.size, 0, none⟩) (m := 1) (by rw [hb6.cell 0]; show some (Value.slice A5 (cl + 1 + 1) c5) = some (.slice A5 (natsL (ch ++ [k])).length c5); rw [hx2]) (by have := queue_len hrq; omega)
                    rw [hRq, ← hw6] at hrun
                    have HQ7 : Hid (QueueV w7 W.heap.size (.slice (some ⟨b', o', none⟩) (m + 1) c') (m + 1) (sq ++ [ch ++ [k]])) := Lib.hid ⟨by rw [List.length_append, hm]; rfl, b', o', c', Rq ++ [⟨A5, c5, natsL (ch ++ [k])⟩], rfl, hq7, by rw [List.map_append, List.map_append, hrq]; rfl⟩
                    have HR7 : Hid (IntRow w7 W.heap.size r0) := Lib.hid ((HR3.out.keep (KeepQ.of_grow hg36)).keep hk7)
                    have HG7 : Hid (Grow W w7) := Lib.hid ((HG3.out.trans' (Below.mono hg36 hw3)).trans hbl7)
                    clear hown4 hgrow5 hown5 hown5' hir hb6 hqa hq7 hk7 hbl7 hg6 hg36 hw6 hrq hm hRq
                    go_wp2_with (at_builtin; refine wpList_append_run rfl _ _ 81 rfl rfl rfl rfl hrun ?_)
                    go_wp2
                    go_roundw
                    case rel => exact ⟨k + 1, m + 1, (sr ||| pk, sq ++ [ch ++ [k]]), HKN.out, by go_num, rfl, HQ7.out, ⟨_, _, rfl⟩, HNX, HR7.out, HG7.out⟩
                    case measure => have := HKN.out; simp [intOf]; omega
              · obtain rfl : k = n := by omega
                have hk1 : decide ((k : Int) < (k : Int)) = false := by simp
                have hk2 : decide (k < k) = false := by simp
                have HSE : Hid (searchC k adj dst f' (sr, sq) = res) := Lib.hid (by rw [HST.out]; exact HS2.out)
                have HPOT : Hid (sq.length + popU sr = q.length + popU r) := Lib.hid (by
                  have h := (HRT.out k (Nat.le_refl _)).2.2
                  rw [← HST.out] at h
                  exact h)
                have HSO : Hid (SearchOK k f' (sr, sq)) := Lib.hid (by rw [HST.out]; exact (HRT.out k (Nat.le_refl _)).1)
                clear hkn
                go_wp2
                go_roundw
                case rel => exact ⟨sr, f', m, sq, rfl, HQX.out, ⟨_, _, rfl⟩, HSO.out, by omega, HSE, HGX.out⟩
                case measure =>
                  have h1 : sq.length + popU sr = q.length + popU r := HPOT.out
                  have h2 : m = sq.length := HQX.out.1
                  show m + popU ((sr : Int)).toNat < q.length + 1 + popU ((r : Int)).toNat
                  rw [Int.toNat_natCast, Int.toNat_natCast]
                  omega

end Go.Proofs.Yticeekkfdkfcgaa
