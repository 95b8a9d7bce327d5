/- Leg: parts Gd. -/
import Derived.Deep.DeepCutAuto
import Derived.Deep.CutBlock
import Derived.Test.YtgmlcgifagbjmaaPat
import Derived.Test.YtgmlcgifagbjmaaPau
import Derived.Test.YtgmlcgifagbjmaaPaw
set_option linter.unusedVariables false
set_option linter.unusedSimpArgs false
namespace Go.Proofs.Ytgmlcgifagbjmaa
section
open Go.RowKit Go.Maps Go.Sort Go.Shelf Go.Deep
set_option maxRecDepth 100000 in
set_option maxHeartbeats 16000000 in
theorem step_go {r : LegR} {g : LegG} {R : RG} {es : List Nat} {i k : Nat} (w : World) (vc vl vd vi vw ve vb : Value) (bs : List Int) (hv : vleg r = true) (hg : g.Ok r i) (hi : i ≤ 10000) (hf : RfOk r g R es) (ho : g.over = false) (hk : k < r.counts.length) (hnx : g.next = (k : Int))
  (hc : Sl w 3 encC vc r.counts) (hs : RfSl w vl vd vi vw ve g es) (hbs : Sl w 1 eI vb bs) (h64 : ∀ x ∈ bs, -9223372036854775808 ≤ x ∧ x ≤ 9223372036854775807) :
  Calls Try.prog 50 #[legRV r vc, .agg (rgC R vl vd vi vw ve), .agg #[.int .i64 (k : Int), vb]] w (StepOk r g (k : Int) bs w) := by
 have hr := (vleg_ok hv).1
 have hin : inb 0 ((r.counts.length : Int) - 1) (k : Int) = true := by unfold inb; simp; omega
 have ht : takeG r g (k : Int) bs = (if (takeT r g k bs).2.2 = 0 then (passG r (hitG g k (takeT r g k bs).1), -1, 0) else (g, (takeT r g k bs).2.1, (takeT r g k bs).2.2)) := by
  unfold takeG; rw [if_neg (by rw [ho]; simp), if_pos hin, if_pos hnx.symm, Int.toNat_natCast]
 have hhit : (takeT r g k bs).2.2 = 0 → RfHit r (hitG g k (takeT r g k bs).1) (hitR R k (takeT r g k bs).1) (hitE es k (takeT r g k bs).1) := fun he => rf_hit hf ho hnx.symm hk he
 obtain ⟨c, hcc⟩ : ∃ c, r.counts[k]? = some c := ⟨_, List.getElem?_eq_getElem hk⟩
 obtain ⟨l0, hll⟩ : ∃ x, g.left[k]? = some x := ⟨_, List.getElem?_eq_getElem (by rw [hf.l1]; exact hk)⟩
 obtain ⟨b0, hbb⟩ : ∃ x, g.inn[k]? = some x := ⟨_, List.getElem?_eq_getElem (by rw [hf.l3]; exact hk)⟩
 obtain ⟨d0, hdd⟩ : ∃ x, g.darts[k]? = some x := ⟨_, List.getElem?_eq_getElem (by rw [hf.l2]; exact hk)⟩
 have hT : takeT r g k bs = thr c b0 l0 bs := by unfold takeT; simp [List.getD_eq_getElem?_getD, hcc, hll, hbb]
 have hstand := hf.stand ho k hk (rf_fresh hf ho hnx.symm)
 rw [show r.counts.getD k (0, 0, 0) = c by simp [List.getD_eq_getElem?_getD, hcc], show g.inn.getD k false = b0 by simp [List.getD_eq_getElem?_getD, hbb], show g.left.getD k 0 = l0 by simp [List.getD_eq_getElem?_getD, hll]] at hstand
 obtain ⟨res, hres⟩ : ∃ res, thr c b0 l0 bs = res := ⟨_, rfl⟩
 have hlb := hg.left l0 (List.mem_of_getElem? hll)
 have hdb := hg.darts d0 (List.mem_of_getElem? hdd)
 obtain ⟨dt, hdt⟩ : ∃ dt, (if res.2.2 = 0 then 0 else res.2.1) = dt := ⟨_, rfl⟩
 have x1 : ∀ W, Below w.heap.size w W → Calls Try.prog 17 #[cntV c, .bool b0, .int .i64 l0, vb] W (Ret (.tuple #[thrV res.1, .int .i64 dt, .int .i64 res.2.2]) W) := fun W hB => by
  have := rvisit_dart c b0 l0 vb bs W (hbs.below hB) (hr.cnt c (List.mem_of_getElem? hcc)) hstand h64
  rw [hres] at this
  refine this.mono ?_
  rintro e w' ⟨⟨x, rfl, h1, h2⟩, hB'⟩
  refine ⟨?_, hB'⟩
  have : x = dt := by
   rw [← hdt]
   split
   ·rename_i h; exact h2 h
   ·rename_i h; exact h1 h
  rw [this]
 have hbd := thr_bd c b0 l0 bs hlb.1 hlb.2
 rw [hT, hres] at ht hhit
 rw [hres] at hbd
 have h8 : r.counts.length ≤ 8 := hr.n8
 obtain ⟨n, hn⟩ : ∃ n, r.counts.length = n := ⟨_, rfl⟩
 have HSL : Aside (RfSl w vl vd vi vw ve g es) := hs
 obtain ⟨s1, s2, s3, s4, s5⟩ := hs
 have ho1 : R.over = false := hf.over.trans ho
 have hn1 : R.next = (k : Int) := hf.next.trans hnx
 have hr1 := hf.round
 have HF : Aside (RfOk r g R es) := hf
 obtain ⟨rn, rr, ro, rl, rd⟩ := R
 simp only [] at ho1 hn1 hr1
 subst ho1 hn1
 have HDN : Aside (0 ≤ rd ∧ rd < (n : Int)) := by
  have := HF.out.done ho
  rw [hn] at this
  exact ⟨this.1, this.2.1⟩
 have HRR : Aside (rr = g.round ∧ 0 ≤ rr ∧ rr ≤ 10000) := by
  have h1 := hg.r0
  have h2 := hg.r1
  rw [hr1]
  refine ⟨rfl, h1, by omega⟩
 have hne : r.counts ≠ [] := hr.ne
 obtain ⟨a', cp, rfl, hlc, hcs⟩ := hc
 obtain ⟨b, off, rfl, hblt, hcl⟩ := hcs hne
 obtain ⟨a1, ccl, rfl, hl1, hc1⟩ := s1.1
 obtain ⟨bl, ol, rfl, hbl, hcl1⟩ := hc1 (fun e => by rw [e] at hll; simp at hll)
 obtain ⟨a2, ccd, rfl, hl2, hc2⟩ := s2.1
 obtain ⟨bd, od, rfl, hbd', hcl2⟩ := hc2 (fun e => by rw [e] at hdd; simp at hdd)
 obtain ⟨a3, cci, rfl, hl3, hc3⟩ := s3.1
 obtain ⟨bi, oi, rfl, hbi, hcl3⟩ := hc3 (fun e => by rw [e] at hbb; simp at hbb)
 obtain ⟨aw, cw, rfl, hl4, hc4⟩ := s4.1
 obtain ⟨ae, ce, rfl, hl5, hc5⟩ := s5.1
 obtain ⟨c1, c2, c3⟩ := c
 have q0 : w.cell? ⟨b, off + k * 3, none⟩ = some (.int .i64 c1) := by have := hcl k _ hcc 0 (.int .i64 c1) rfl; simpa using this
 have q1 : w.cell? ⟨b, off + k * 3 + 1, none⟩ = some (.int .i64 c2) := by have := hcl k _ hcc 1 (.int .i64 c2) rfl; simpa using this
 have q2 : w.cell? ⟨b, off + k * 3 + 2, none⟩ = some (.int .i64 c3) := by have := hcl k _ hcc 2 (.int .i64 c3) rfl; simpa using this
 have ql : w.cell? ⟨bl, ol + k, none⟩ = some (.int .i64 l0) := by have := hcl1 k _ hll 0 (.int .i64 l0) rfl; simpa using this
 have qi : w.cell? ⟨bi, oi + k, none⟩ = some (.bool b0) := by have := hcl3 k _ hbb 0 (.bool b0) rfl; simpa using this
 have HLN : Aside (g.left.length = n ∧ g.darts.length = n ∧ g.inn.length = n) := by rw [← hn]; exact ⟨HF.out.l1, HF.out.l2, HF.out.l3⟩
 rw [HLN.out.1] at HSL
 rw [HLN.out.2.1] at HSL
 rw [HLN.out.2.2] at HSL
 rw [HLN.out.1, HLN.out.2.1, HLN.out.2.2]
 obtain ⟨nw, hnw⟩ : ∃ x, g.wins.length = x := ⟨_, rfl⟩
 obtain ⟨ne, hne2⟩ : ∃ x, (cI es).length = x := ⟨_, rfl⟩
 have HNE : Aside ((cI es).length = ne ∧ g.wins.length = nw) := ⟨hne2, hnw⟩
 rw [hnw, hne2] at HSL ⊢
 rw [hn] at hin hk h8 ⊢
 have y1 := fun W => rin_any (k : Int) 0 ((n : Int) - 1) W
 rw [hin] at y1
 have ew1 : IntKind.i64.wrap ((n : Int) - 1) = (n : Int) - 1 := IntWalk.i64_in _ (by omega)
 have hkI : (k : Int) < (n : Int) := by omega
 have HT0 : Aside _ := x1
 have HTK : Aside _ := ht
 have HHIT : Aside _ := hhit
 have HBD : Aside _ := hbd
 have HDT : Aside _ := hdt
 have HH : Aside (r.counts.length = n ∧ vleg r = true ∧ g.over = false ∧ g.darts[k]? = some d0 ∧ 0 ≤ d0 ∧ d0 ≤ 30000 ∧ g.next = (k : Int)) := ⟨hn, hv, ho, hdd, by omega, by omega, hnx⟩
 clear hr ht hhit hcc hll hbb hdd hT hstand hres hlb hdb x1 hbd hdt hlc hcs hblt hcl hl1 hc1 hbl hcl1 hl2 hc2 hbd' hcl2 hl3 hc3 hbi hcl3 hl4 hc4 hl5 hc5 hnw hne2 hf hg hi ho hnx hbs h64 hv hne hin hr1 hn
 unfold legRV
 go_enter Try.func50, Try.ntmps50
 go_wp2_with fail
 refine (y1 _).mono ?_
 rintro e w1 ⟨rfl, hb1⟩
 have HS1 : Aside (StB w r (.slice (some ⟨b, off, none⟩) n cp) k vb (rgC (⟨(k : Int), rr, false, rl, rd⟩ : RG) (.slice (some ⟨bl, ol, none⟩) n ccl) (.slice (some ⟨bd, od, none⟩) n ccd) (.slice (some ⟨bi, oi, none⟩) n cci) (.slice aw nw cw) (.slice ae ne ce)) w1) := (StB.start w r (.slice (some ⟨b, off, none⟩) n cp) k vb _).below hb1
 have BW : Aside (Below w.heap.size w w1) := HS1.out.bel
 clear hb1 y1
 replace q0 := keepc BW.out q0
 replace q1 := keepc BW.out q1
 replace q2 := keepc BW.out q2
 replace ql := keepc BW.out ql
 replace qi := keepc BW.out qi
 have u0 : w1.cell? ⟨w.heap.size, 0, none⟩ = some (.slice (some ⟨b, off, none⟩) n cp) := blk_cell HS1.out.rul rfl
 have v0 : w1.cell? ⟨w.heap.size + 1 + 1, 0, none⟩ = some (.int .i64 (k : Int)) := blk_cell HS1.out.vis rfl
 have v1 : w1.cell? ⟨w.heap.size + 1 + 1, 1, none⟩ = some vb := blk_cell HS1.out.vis rfl
 obtain ⟨⟨tl, ts, td, ti, tb, tw⟩, dt0, er⟩ := res
 have HT : Aside (∀ W, Below w.heap.size w W → Calls Try.prog 17 #[.agg #[.int .i64 c1, .int .i64 c2, .int .i64 c3], .bool b0, .int .i64 l0, vb] W (Ret (.tuple #[.agg #[.int .i64 tl, .int .i64 ts, .int .i64 td, .bool ti, .bool tb, .bool tw], .int .i64 dt, .int .i64 er]) W)) := HT0.out
 clear HT0
 have g0 : w1.cell? ⟨w.heap.size + 1, 0, none⟩ = some (.slice (some ⟨bl, ol, none⟩) n ccl) := blk_cell HS1.out.leg rfl
 have g2 : w1.cell? ⟨w.heap.size + 1, 2, none⟩ = some (.slice (some ⟨bi, oi, none⟩) n cci) := blk_cell HS1.out.leg rfl
 have g3 : w1.cell? ⟨w.heap.size + 1, 3, none⟩ = some (.int .i64 (k : Int)) := blk_cell HS1.out.leg rfl
 go_wp2_with fail
 refine reg8 q0 q1 q2 ql qi u0 v0 v1 g0 g2 HT BW hk hkI (by kernel_rfl) (by rfl) (by rfl) (by rfl) (by rfl) ?rest8
 case rest8 =>
  as_aux_lemma =>
   intro ac w2 hL
   have e40 : ac.tmps.getD 40 undef = .pointer (some ⟨w.heap.size, 0, none⟩) := hL.new 0 _ 40 rfl rfl rfl
   have e41 : ac.tmps.getD 41 undef = .slice (some ⟨b, off, none⟩) n cp := hL.new 1 _ 41 rfl rfl rfl
   have e42 : ac.tmps.getD 42 undef = .pointer (some ⟨w.heap.size + 1 + 1, 0, none⟩) := hL.new 2 _ 42 rfl rfl rfl
   have e43 : ac.tmps.getD 43 undef = .int .i64 (k : Int) := hL.new 3 _ 43 rfl rfl rfl
   have e44 : ac.tmps.getD 44 undef = .pointer (some ⟨b, off + k * 3, none⟩) := hL.new 4 _ 44 rfl rfl rfl
   have e45 : ac.tmps.getD 45 undef = .agg #[.int .i64 c1, .int .i64 c2, .int .i64 c3] := hL.new 5 _ 45 rfl rfl rfl
   have e46 : ac.tmps.getD 46 undef = .pointer (some ⟨w.heap.size + 1, 0, none⟩) := hL.new 6 _ 46 rfl rfl rfl
   have e47 : ac.tmps.getD 47 undef = .pointer (some ⟨w.heap.size + 1, 2, none⟩) := hL.new 7 _ 47 rfl rfl rfl
   have e48 : ac.tmps.getD 48 undef = .slice (some ⟨bi, oi, none⟩) n cci := hL.new 8 _ 48 rfl rfl rfl
   have e49 : ac.tmps.getD 49 undef = .pointer (some ⟨w.heap.size + 1 + 1, 0, none⟩) := hL.new 9 _ 49 rfl rfl rfl
   have e50 : ac.tmps.getD 50 undef = .int .i64 (k : Int) := hL.new 10 _ 50 rfl rfl rfl
   have e51 : ac.tmps.getD 51 undef = .pointer (some ⟨bi, oi + k, none⟩) := hL.new 11 _ 51 rfl rfl rfl
   have e52 : ac.tmps.getD 52 undef = .bool b0 := hL.new 12 _ 52 rfl rfl rfl
   have e53 : ac.tmps.getD 53 undef = .pointer (some ⟨w.heap.size + 1, 0, none⟩) := hL.new 13 _ 53 rfl rfl rfl
   have e54 : ac.tmps.getD 54 undef = .pointer (some ⟨w.heap.size + 1, 0, none⟩) := hL.new 14 _ 54 rfl rfl rfl
   have e55 : ac.tmps.getD 55 undef = .slice (some ⟨bl, ol, none⟩) n ccl := hL.new 15 _ 55 rfl rfl rfl
   have e56 : ac.tmps.getD 56 undef = .pointer (some ⟨w.heap.size + 1 + 1, 0, none⟩) := hL.new 16 _ 56 rfl rfl rfl
   have e57 : ac.tmps.getD 57 undef = .int .i64 (k : Int) := hL.new 17 _ 57 rfl rfl rfl
   have e58 : ac.tmps.getD 58 undef = .pointer (some ⟨bl, ol + k, none⟩) := hL.new 18 _ 58 rfl rfl rfl
   have e59 : ac.tmps.getD 59 undef = .int .i64 l0 := hL.new 19 _ 59 rfl rfl rfl
   have e60 : ac.tmps.getD 60 undef = .pointer (some ⟨w.heap.size + 1 + 1, 1, none⟩) := hL.new 20 _ 60 rfl rfl rfl
   have e61 : ac.tmps.getD 61 undef = vb := hL.new 21 _ 61 rfl rfl rfl
   have e62 : ac.tmps.getD 62 undef = .tuple #[.agg #[.int .i64 tl, .int .i64 ts, .int .i64 td, .bool ti, .bool tb, .bool tw], .int .i64 dt, .int .i64 er] := hL.new 22 _ 62 rfl rfl rfl
   have e39 : ac.tmps.getD 39 undef = .tuple #[.agg #[.int .i64 tl, .int .i64 ts, .int .i64 td, .bool ti, .bool tb, .bool tw], .int .i64 dt, .int .i64 er] := hL.new 23 _ 39 rfl rfl rfl
   have e63 : ac.tmps.getD 63 undef = .agg #[.int .i64 tl, .int .i64 ts, .int .i64 td, .bool ti, .bool tb, .bool tw] := hL.new 24 _ 63 rfl rfl rfl
   have e64 : ac.tmps.getD 64 undef = .int .i64 dt := hL.new 25 _ 64 rfl rfl rfl
   have e65 : ac.tmps.getD 65 undef = .int .i64 er := hL.new 26 _ 65 rfl rfl rfl
   obtain ⟨S, e10, n10, l10, z10⟩ := hL.cls.2.1 (⟨27, 28, 10, .cells #[.int .i64 0, .int .i64 0, .int .i64 0, .bool false, .bool false, .bool false] 30 (0, 0), .cells #[.int .i64 tl, .int .i64 ts, .int .i64 td, .bool ti, .bool tb, .bool tw] 30 (0, 0)⟩ : AS) (by simp) rfl
   simp only [] at e10
   change w2.heap[S]? = some (.cells #[.int .i64 tl, .int .i64 ts, .int .i64 td, .bool ti, .bool tb, .bool tw] 30 (0, 0)) at z10
   have e11 : ac.tmps.getD 11 undef = .int .i64 dt := hL.new 29 _ 11 rfl rfl rfl
   have e12 : ac.tmps.getD 12 undef = .int .i64 er := hL.new 30 _ 12 rfl rfl rfl
   have HCL : Aside ((Cl w1 [(⟨27, 28, 10, .cells #[.int .i64 0, .int .i64 0, .int .i64 0, .bool false, .bool false, .bool false] 30 (0, 0), .cells #[.int .i64 tl, .int .i64 ts, .int .i64 td, .bool ti, .bool tb, .bool tw] 30 (0, 0)⟩ : AS)]) (#[true, true, true, true, true, true, true, true, true, true, true, true, true, true, true, true, true, true, true, true, true, true, true, true, true, true, true, true, true, true, true]) ac w2) := hL.cls
   have BN : Below w1.heap.size w1 w2 := hL.cls.1
   have es_ := hL.sets [40, 41, 42, 43, 44, 45, 46, 47, 48, 49, 50, 51, 52, 53, 54, 55, 56, 57, 58, 59, 60, 61, 62, 39, 63, 64, 65, 10, 11, 12] (by decide +kernel)
   rw [List.foldl_cons, List.foldl_cons, List.foldl_cons, List.foldl_cons, List.foldl_cons, List.foldl_cons, List.foldl_cons, List.foldl_cons, List.foldl_cons, List.foldl_cons, List.foldl_cons, List.foldl_cons, List.foldl_cons, List.foldl_cons, List.foldl_cons, List.foldl_cons, List.foldl_cons, List.foldl_cons, List.foldl_cons, List.foldl_cons, List.foldl_cons, List.foldl_cons, List.foldl_cons, List.foldl_cons, List.foldl_cons, List.foldl_cons, List.foldl_cons, List.foldl_cons, List.foldl_cons, List.foldl_cons, List.foldl_nil, e40, e41, e42, e43, e44, e45, e46, e47, e48, e49, e50, e51, e52, e53, e54, e55, e56, e57, e58, e59, e60, e61, e62, e39, e63, e64, e65, e10, e11, e12] at es_
   rw [es_]
   clear es_ hL e40 e41 e42 e43 e44 e45 e46 e47 e48 e49 e50 e51 e52 e53 e54 e55 e56 e57 e58 e59 e60 e61 e62 e39 e63 e64 e65 e10 e11 e12
   refine wpAny_done (by decide +kernel) ?_ _
   simp only [List.setIfInBounds_toArray, List.set_cons_zero, List.set_cons_succ]
   have HR : Aside (w1.heap.size ≤ S ∧ w2.heap[S]? = some (.cells #[.int .i64 tl, .int .i64 ts, .int .i64 td, .bool ti, .bool tb, .bool tw] 30 (0, 0))) := ⟨n10, z10⟩
   have HS2 : Aside (StB w r (.slice (some ⟨b, off, none⟩) n cp) k vb (rgC (⟨(k : Int), rr, false, rl, rd⟩ : RG) (.slice (some ⟨bl, ol, none⟩) n ccl) (.slice (some ⟨bd, od, none⟩) n ccd) (.slice (some ⟨bi, oi, none⟩) n cci) (.slice aw nw cw) (.slice ae ne ce)) w2) := HS1.out.below BN
   have HZ1 : Aside (w.heap.size + 4 ≤ w1.heap.size) := HS1.out.siz
   clear z10 l10 n10 BN HCL q0 q1 q2 ql qi u0 v0 v1 g0 g2 g3 HT HS1 BW
   by_cases he : er = 0
   ·subst he
    have g0 : w2.cell? ⟨w.heap.size + 1, 0, none⟩ = some (.slice (some ⟨bl, ol, none⟩) n ccl) := blk_cell HS2.out.leg rfl
    have g1 : w2.cell? ⟨w.heap.size + 1, 1, none⟩ = some (.slice (some ⟨bd, od, none⟩) n ccd) := blk_cell HS2.out.leg rfl
    have g2 : w2.cell? ⟨w.heap.size + 1, 2, none⟩ = some (.slice (some ⟨bi, oi, none⟩) n cci) := blk_cell HS2.out.leg rfl
    have g3 : w2.cell? ⟨w.heap.size + 1, 3, none⟩ = some (.int .i64 (k : Int)) := blk_cell HS2.out.leg rfl
    have g4 : w2.cell? ⟨w.heap.size + 1, 4, none⟩ = some (.int .i64 rr) := blk_cell HS2.out.leg rfl
    have g5 : w2.cell? ⟨w.heap.size + 1, 5, none⟩ = some (.bool false) := blk_cell HS2.out.leg rfl
    have g6 : w2.cell? ⟨w.heap.size + 1, 6, none⟩ = some (.slice aw nw cw) := blk_cell HS2.out.leg rfl
    have HT3 : Aside (takeG r g (k : Int) bs = (passG r (hitG g k (⟨tl, ts, td, ti, tb, tw⟩ : Thr)), -1, 0)) := by
     show _ = _
     rw [HTK.out, if_pos rfl]
    have HIT : Aside (RfHit r (hitG g k (⟨tl, ts, td, ti, tb, tw⟩ : Thr)) (hitR (⟨(k : Int), rr, false, rl, rd⟩ : RG) k (⟨tl, ts, td, ti, tb, tw⟩ : Thr)) (hitE es k (⟨tl, ts, td, ti, tb, tw⟩ : Thr))) := HHIT.out rfl
    have HTD : Aside (0 ≤ td ∧ td ≤ 3) := ⟨HBD.out.2.2.1, HBD.out.2.2.2⟩
    have HVO : Aside (vleg r = true ∧ g.over = false ∧ r.counts.length = n) := ⟨HH.out.2.1, HH.out.2.2.1, HH.out.1⟩
    have HLK : Aside (g.darts[k]? = some d0 ∧ 0 ≤ d0 ∧ d0 ≤ 30000) := ⟨HH.out.2.2.2.1, HH.out.2.2.2.2.1, HH.out.2.2.2.2.2.1⟩
    have HAT : Aside (RfAt (w.heap.size + 1) w2 (.slice (some ⟨bl, ol, none⟩) n ccl) (.slice (some ⟨bd, od, none⟩) n ccd) (.slice (some ⟨bi, oi, none⟩) n cci) (.slice aw nw cw) (.slice ae ne ce) g es) := ⟨SlN.old HSL.out.1 HS2.out.bel (by omega), SlN.old HSL.out.2.1 HS2.out.bel (by omega), SlN.old HSL.out.2.2.1 HS2.out.bel (by omega), SlN.old HSL.out.2.2.2.1 HS2.out.bel (by omega), SlN.old HSL.out.2.2.2.2 HS2.out.bel (by omega)⟩
    have HSW : Aside (w.heap.size + 4 ≤ w1.heap.size ∧ w1.heap.size ≤ S ∧ S < w2.heap.size) := ⟨HZ1.out, HR.out.1, (Array.getElem?_eq_some_iff.1 HR.out.2).1⟩
    clear HHIT HTK HBD HDT HF HZ1
    go_wp2_with fail
    obtain ⟨w3, hw3⟩ : ∃ u, u = w2.alloc (.cells #[.slice (some ⟨bl, ol, none⟩) n ccl, .slice (some ⟨bd, od, none⟩) n ccd, .slice (some ⟨bi, oi, none⟩) n cci, .int .i64 (k : Int), .int .i64 rr, .bool false, .slice aw nw cw] 51) := ⟨_, rfl⟩
    have hb3 : Below w2.heap.size w2 w3 := by rw [hw3]; exact (Below.refl _ _).alloc (Nat.le_refl _) _
    have HO3 : Aside (w3.heap[w2.heap.size]? = some (.cells #[.slice (some ⟨bl, ol, none⟩) n ccl, .slice (some ⟨bd, od, none⟩) n ccd, .slice (some ⟨bi, oi, none⟩) n cci, .int .i64 (k : Int), .int .i64 rr, .bool false, .slice aw nw cw] 51 (0, 0))) := by rw [hw3]; exact World.alloc_heap_new _ _
    rw [← hw3]
    clear hw3 g0 g1 g2 g3 g4 g5 g6
    obtain ⟨O, hO⟩ : ∃ O, O = w2.heap.size := ⟨_, rfl⟩
    have HOS : Aside (w.heap.size + 4 ≤ O ∧ O < w3.heap.size) := ⟨by have := HSW.out; omega, by have := (Array.getElem?_eq_some_iff.1 HO3.out).1; omega⟩
    rw [← hO] at HO3 ⊢
    have HS3 : Aside (StB w r (.slice (some ⟨b, off, none⟩) n cp) k vb (rgC (⟨(k : Int), rr, false, rl, rd⟩ : RG) (.slice (some ⟨bl, ol, none⟩) n ccl) (.slice (some ⟨bd, od, none⟩) n ccd) (.slice (some ⟨bi, oi, none⟩) n cci) (.slice aw nw cw) (.slice ae ne ce)) w3) := HS2.out.below hb3
    have HR3 : Aside (w3.heap[S]? = some (.cells #[.int .i64 tl, .int .i64 ts, .int .i64 td, .bool ti, .bool tb, .bool tw] 30 (0, 0))) := (hb3.block _ HSW.out.2.2).trans HR.out.2
    replace HAT : Aside (RfAt (w.heap.size + 1) w3 (.slice (some ⟨bl, ol, none⟩) n ccl) (.slice (some ⟨bd, od, none⟩) n ccd) (.slice (some ⟨bi, oi, none⟩) n cci) (.slice aw nw cw) (.slice ae ne ce) g es) := HAT.out.below hb3
    have hS3 : S < w3.heap.size := (Array.getElem?_eq_some_iff.1 HR3.out).1
    replace HSW : Aside (w.heap.size + 4 ≤ S ∧ S < w3.heap.size) := ⟨by have := HSW.out; omega, hS3⟩
    clear hb3 hO HS2 HR hS3
    obtain ⟨i0, hi0, hz0, hz1, hz2⟩ := info_parts info_int
    obtain ⟨j0, hj0, jz0, jz1, jz2⟩ := info_parts info_bool
    have o0 : w3.cell? ⟨O, 0, none⟩ = some (.slice (some ⟨bl, ol, none⟩) n ccl) := blk_cell HO3.out rfl
    have o1 : w3.cell? ⟨O, 1, none⟩ = some (.slice (some ⟨bd, od, none⟩) n ccd) := blk_cell HO3.out rfl
    have o2 : w3.cell? ⟨O, 2, none⟩ = some (.slice (some ⟨bi, oi, none⟩) n cci) := blk_cell HO3.out rfl
    have hOX : O ∉ [w.heap.size + 1] := by have := HS3.out.siz; have := HOS.out; have := HSW.out; simp; omega
    have HNL : Aside (g.left ≠ [] ∧ g.darts ≠ [] ∧ g.inn ≠ []) := by
     obtain ⟨a1, a2, a3⟩ := HLN.out
     refine ⟨fun e => ?_, fun e => ?_, fun e => ?_⟩
     ·rw [e] at a1; simp at a1; omega
     ·rw [e] at a2; simp at a2; omega
     ·rw [e] at a3; simp at a3; omega
    refine reg12 HS3 HAT HLN HNL o0 o1 o2 hOX h8 (by kernel_rfl) (by rfl) (by rfl) (by rfl) ?rest12
    case rest12 =>
     as_aux_lemma =>
      intro ac w4 hL
      obtain ⟨y73, e73⟩ : ∃ x, ac.tmps.getD 73 undef = x := ⟨_, rfl⟩
      have e74 : ac.tmps.getD 74 undef = .pointer (some ⟨O, 0, none⟩) := hL.new 1 _ 74 rfl rfl rfl
      have e75 : ac.tmps.getD 75 undef = .slice (some ⟨bl, ol, none⟩) n ccl := hL.new 2 _ 75 rfl rfl rfl
      have hn76 := hL.new 3 _ 76 rfl rfl rfl
      obtain ⟨y76, e76⟩ : ∃ x, ac.tmps.getD 76 undef = x := ⟨_, rfl⟩
      rw [e76] at hn76
      obtain ⟨⟨ag, ac_, as_, h76, -⟩, -⟩ := id hn76
      rw [HLN.out.1] at h76
      subst h76
      obtain ⟨y77, e77⟩ : ∃ x, ac.tmps.getD 77 undef = x := ⟨_, rfl⟩
      have e78 : ac.tmps.getD 78 undef = .pointer (some ⟨O, 1, none⟩) := hL.new 5 _ 78 rfl rfl rfl
      have e79 : ac.tmps.getD 79 undef = .slice (some ⟨bd, od, none⟩) n ccd := hL.new 6 _ 79 rfl rfl rfl
      have hn80 := hL.new 7 _ 80 rfl rfl rfl
      obtain ⟨y80, e80⟩ : ∃ x, ac.tmps.getD 80 undef = x := ⟨_, rfl⟩
      rw [e80] at hn80
      obtain ⟨⟨dg, dc, ds, h80, -⟩, -⟩ := id hn80
      rw [HLN.out.2.1] at h80
      subst h80
      obtain ⟨y81, e81⟩ : ∃ x, ac.tmps.getD 81 undef = x := ⟨_, rfl⟩
      have e82 : ac.tmps.getD 82 undef = .pointer (some ⟨O, 2, none⟩) := hL.new 9 _ 82 rfl rfl rfl
      have e83 : ac.tmps.getD 83 undef = .slice (some ⟨bi, oi, none⟩) n cci := hL.new 10 _ 83 rfl rfl rfl
      have hn84 := hL.new 11 _ 84 rfl rfl rfl
      obtain ⟨y84, e84⟩ : ∃ x, ac.tmps.getD 84 undef = x := ⟨_, rfl⟩
      rw [e84] at hn84
      obtain ⟨⟨ig, ic, is, h84, -⟩, -⟩ := id hn84
      rw [HLN.out.2.2] at h84
      subst h84
      have e85 : ac.tmps.getD 85 undef = .pointer (some ⟨w.heap.size + 1, 0, none⟩) := hL.new 12 _ 85 rfl rfl rfl
      have e86 : ac.tmps.getD 86 undef = .pointer (some ⟨w.heap.size + 1, 0, none⟩) := hL.new 13 _ 86 rfl rfl rfl
      have e87 : ac.tmps.getD 87 undef = .pointer (some ⟨w.heap.size + 1, 0, none⟩) := hL.new 15 _ 87 rfl rfl rfl
      have e88 : ac.tmps.getD 88 undef = .pointer (some ⟨w.heap.size + 1, 1, none⟩) := hL.new 16 _ 88 rfl rfl rfl
      have e89 : ac.tmps.getD 89 undef = .pointer (some ⟨w.heap.size + 1, 0, none⟩) := hL.new 18 _ 89 rfl rfl rfl
      have e90 : ac.tmps.getD 90 undef = .pointer (some ⟨w.heap.size + 1, 2, none⟩) := hL.new 19 _ 90 rfl rfl rfl
      have HCL : Aside ((C12 w r (.slice (some ⟨b, off, none⟩) n cp) k vb (⟨(k : Int), rr, false, rl, rd⟩ : RG) (.slice aw nw cw) (.slice ae ne ce) n w3) (#[true, true, true, true, true, true, true, true, true, true, true, true, true, true, true, true, true, true, true, true, true]) ac w4) := hL.cls
      obtain ⟨v0, v1, v2, hbk, h14, h17, h20⟩ := hL.cls.blk
      rw [h14 rfl, e76, h17 rfl, e80, h20 rfl, e84] at hbk
      have HS4 : Aside (StB w r (.slice (some ⟨b, off, none⟩) n cp) k vb (rgC (⟨(k : Int), rr, false, rl, rd⟩ : RG) (rowV ag n ac_) (rowV dg n dc) (rowV ig n ic) (.slice aw nw cw) (.slice ae ne ce)) w4) := hbk
      have HNE4 : Aside (ag ≠ dg ∧ w3.heap.size ≤ ag ∧ w3.heap.size ≤ dg ∧ w3.heap.size ≤ ig) := ⟨hL.cls.ne rfl rfl ag ac_ dg dc e76 e80, hn76.2 _ _ _ rfl, hn80.2 _ _ _ rfl, hn84.2 _ _ _ rfl⟩
      have HO4 : Aside (Outs [w.heap.size + 1] w3 w4) := hL.cls.out
      have HL4 : Aside (RowB w4 1 eI 3 (rowV ag n ac_) g.left ∧ RowB w4 1 eI 3 (rowV dg n dc) g.darts ∧ RowB w4 1 eB 4 (rowV ig n ic) g.inn) := ⟨hn76.1, hn80.1, hn84.1⟩
      clear hn76 hn80 hn84 hbk h14 h17 h20
      (try clear y73)
      have es_ := hL.sets [73, 74, 75, 76, 77, 78, 79, 80, 81, 82, 83, 84, 85, 86, 87, 88, 89, 90] (by decide +kernel)
      rw [List.foldl_cons, List.foldl_cons, List.foldl_cons, List.foldl_cons, List.foldl_cons, List.foldl_cons, List.foldl_cons, List.foldl_cons, List.foldl_cons, List.foldl_cons, List.foldl_cons, List.foldl_cons, List.foldl_cons, List.foldl_cons, List.foldl_cons, List.foldl_cons, List.foldl_cons, List.foldl_cons, List.foldl_nil, e73, e74, e75, e76, e77, e78, e79, e80, e81, e82, e83, e84, e85, e86, e87, e88, e89, e90] at es_
      rw [es_]
      clear es_ hL e73 e74 e75 e76 e77 e78 e79 e80 e81 e82 e83 e84 e85 e86 e87 e88 e89 e90
      refine wpAny_done (by decide +kernel) ?_ _
      simp only [List.setIfInBounds_toArray, List.set_cons_zero, List.set_cons_succ]
      have hb34 : w3.heap.size ≤ w4.heap.size := HO4.out.size
      have HS : Aside (StB w r (.slice (some ⟨b, off, none⟩) n cp) k vb (rgC (⟨(k : Int), rr, false, rl, rd⟩ : RG) (.slice (some ⟨ag, 0, none⟩) n ac_) (.slice (some ⟨dg, 0, none⟩) n dc) (.slice (some ⟨ig, 0, none⟩) n ic) (.slice aw nw cw) (.slice ae ne ce)) w4) := HS4
      have HR4 : Aside (w4.heap[S]? = some (.cells #[.int .i64 tl, .int .i64 ts, .int .i64 td, .bool ti, .bool tb, .bool tw] 30 (0, 0))) := (HO4.out.block _ (by have := HSW.out; simp; omega) HSW.out.2).trans HR3.out
      replace HAT : Aside (RfAt (w.heap.size + 1) w4 (.slice (some ⟨bl, ol, none⟩) n ccl) (.slice (some ⟨bd, od, none⟩) n ccd) (.slice (some ⟨bi, oi, none⟩) n cci) (.slice aw nw cw) (.slice ae ne ce) g es) := HAT.out.outs HO4.out
      have hfar : ¬ ag = dg ∧ ¬ dg = ag ∧ w.heap.size + 4 ≤ ag ∧ w.heap.size + 4 ≤ dg ∧ w.heap.size + 4 ≤ ig ∧ ¬ ag = S ∧ ¬ dg = S ∧ ¬ ig = S ∧ ¬ S = ag ∧ ¬ S = dg ∧ ¬ S = ig := by
       have := HNE4.out; have := HSW.out; omega
      have hai : ¬ ag = ig ∧ ¬ ig = ag ∧ ¬ dg = ig ∧ ¬ ig = dg := by
       obtain ⟨x1, x2, x3⟩ := HL4.out
       obtain ⟨y1, y1⟩ := x1.blk
       obtain ⟨y2, y2⟩ := x2.blk
       obtain ⟨y3, y3⟩ := x3.blk
       exact ⟨blk_ne y1 y3 (by decide), blk_ne y3 y1 (by decide), blk_ne y2 y3 (by decide), blk_ne y3 y2 (by decide)⟩
      obtain ⟨nad, nda, fa, fd, fi, naS, ndS, niS, nSa, nSd, nSi⟩ := hfar
      obtain ⟨nai, nia, ndi, nid⟩ := hai
      have m1 : ¬ w.heap.size + 1 = ag := by omega
      have m2 : ¬ w.heap.size + 1 = dg := by omega
      have m3 : ¬ w.heap.size + 1 = ig := by omega
      have m4 : ¬ w.heap.size + 1 + 1 = ag := by omega
      have m5 : ¬ w.heap.size + 1 + 1 = dg := by omega
      have m6 : ¬ w.heap.size + 1 + 1 = ig := by omega
      obtain ⟨l0', hl0⟩ : ∃ x, g.left[k]? = some x := ⟨_, List.getElem?_eq_getElem (by rw [HLN.out.1]; exact hk)⟩
      obtain ⟨b0', hb0⟩ : ∃ x, g.inn[k]? = some x := ⟨_, List.getElem?_eq_getElem (by rw [HLN.out.2.2]; exact hk)⟩
      have c0 : w4.cell? ⟨w.heap.size + 1, 0, none⟩ = some (.slice (some ⟨ag, 0, none⟩) n ac_) := blk_cell HS.out.leg rfl
      have c2 : w4.cell? ⟨w.heap.size + 1, 2, none⟩ = some (.slice (some ⟨ig, 0, none⟩) n ic) := blk_cell HS.out.leg rfl
      have v0 : w4.cell? ⟨w.heap.size + 1 + 1, 0, none⟩ = some (.int .i64 (k : Int)) := blk_cell HS.out.vis rfl
      have s0 : w4.cell? ⟨S, 0, none⟩ = some (.int .i64 tl) := blk_cell HR4.out rfl
      have s3 : w4.cell? ⟨S, 3, none⟩ = some (.bool ti) := blk_cell HR4.out rfl
      have ql : w4.cell? ⟨ag, k, none⟩ = some (.int .i64 l0') := HL4.out.1.cell hl0 rfl
      have qi : w4.cell? ⟨ig, k, none⟩ = some (.bool b0') := HL4.out.2.2.cell hb0 rfl
      have frl := HL4.out.1.free k
      have fri := HL4.out.2.2.free k
      have za : ag < w4.heap.size := by obtain ⟨y, y⟩ := HL4.out.1.blk; exact (Array.getElem?_eq_some_iff.1 y).1
      have zi : ig < w4.heap.size := by obtain ⟨y, y⟩ := HL4.out.2.2.blk; exact (Array.getElem?_eq_some_iff.1 y).1
      clear hl0 hb0 HS4 HCL HS3 HR3 HO3 o0 o1 o2 hOX hb34 HNL
      go_wp2_with fail
      go_region
      obtain ⟨w5, hw5⟩ : ∃ u, u = ((w4.setCell ⟨ag, k, none⟩ (.int .i64 tl)).setCell ⟨ig, k, none⟩ (.bool ti)).drew := ⟨_, rfl⟩
      have hdw : ∀ W : World, Below W.heap.size W W.drew := fun W => (Below.refl _ _).drew
      have HS5 : Aside (StB w r (.slice (some ⟨b, off, none⟩) n cp) k vb (rgC (⟨(k : Int), rr, false, rl, rd⟩ : RG) (.slice (some ⟨ag, 0, none⟩) n ac_) (.slice (some ⟨dg, 0, none⟩) n dc) (.slice (some ⟨ig, 0, none⟩) n ic) (.slice aw nw cw) (.slice ae ne ce)) w5) := by rw [hw5]; exact (((HS.out.row fa k _).row fi k _).below (hdw _))
      have HL5 : Aside (RowB w5 1 eI 3 (.slice (some ⟨ag, 0, none⟩) n ac_) (g.left.set k tl) ∧ RowB w5 1 eI 3 (.slice (some ⟨dg, 0, none⟩) n dc) g.darts ∧ RowB w5 1 eB 4 (.slice (some ⟨ig, 0, none⟩) n ic) (g.inn.set k ti)) := by
       obtain ⟨x1, x2, x3⟩ := HL4.out
       have k1 : k < g.left.length := by rw [HLN.out.1]; exact hk
       have k3 : k < g.inn.length := by rw [HLN.out.2.2]; exact hk
       rw [hw5]
       refine ⟨RowB.below (RowB.keep (RowB.set x1 k tl _ rfl (fun _ => rfl) k1) ?_) (hdw _), RowB.below (RowB.keep x2 ?_) (hdw _), RowB.below (RowB.set (RowB.keep x3 ?_) k ti _ rfl (fun _ => rfl) k3) (hdw _)⟩
       ·exact Below.heap_setCell _ _ _ _ nai
       ·exact (Below.heap_setCell _ _ _ _ ndi).trans (Below.heap_setCell _ _ _ _ nda)
       ·exact Below.heap_setCell _ _ _ _ nia
      have HR5 : Aside (w5.heap[S]? = some (.cells #[.int .i64 tl, .int .i64 ts, .int .i64 td, .bool ti, .bool tb, .bool tw] 30 (0, 0))) := by rw [hw5]; exact (Below.heap_setCell _ _ _ _ nSi).trans ((Below.heap_setCell _ _ _ _ nSa).trans HR4.out)
      rw [← hw5]
      clear hdw hw5 HS HR4 HL4 HAT c0 c2 v0 s0 s3 ql qi frl fri za zi
      have HLd : Aside (k < g.darts.length) := by show _ < _; rw [HLN.out.2.1]; exact hk
      have k1 : w5.cell? ⟨w.heap.size + 1, 1, none⟩ = some (.slice (some ⟨dg, 0, none⟩) n dc) := blk_cell HS5.out.leg rfl
      have k2 : w5.cell? ⟨w.heap.size + 1 + 1, 0, none⟩ = some (.int .i64 (k : Int)) := blk_cell HS5.out.vis rfl
      have k3 : w5.cell? ⟨dg, k, none⟩ = some (.int .i64 d0) := HL5.out.2.1.cell HLK.out.1 rfl
      have k4 : w5.cell? ⟨S, 2, none⟩ = some (.int .i64 td) := blk_cell HR5.out rfl
      have e3 : IntKind.i64.wrap (d0 + td) = d0 + td := IntWalk.i64_in _ (by have := HTD.out; have := HLK.out; omega)
      go_wp2_with fail
      refine reg14 k1 k2 k3 k4 e3 hk hkI (by kernel_rfl) (by rfl) (by rfl) (by rfl) (by rfl) ?rest14
      case rest14 =>
       as_aux_lemma =>
        intro ac wb hL
        have e107 : ac.tmps.getD 107 undef = .pointer (some ⟨w.heap.size + 1, 0, none⟩) := hL.new 0 _ 107 rfl rfl rfl
        have e108 : ac.tmps.getD 108 undef = .pointer (some ⟨w.heap.size + 1, 1, none⟩) := hL.new 1 _ 108 rfl rfl rfl
        have e109 : ac.tmps.getD 109 undef = .slice (some ⟨dg, 0, none⟩) n dc := hL.new 2 _ 109 rfl rfl rfl
        have e110 : ac.tmps.getD 110 undef = .pointer (some ⟨w.heap.size + 1 + 1, 0, none⟩) := hL.new 3 _ 110 rfl rfl rfl
        have e111 : ac.tmps.getD 111 undef = .int .i64 (k : Int) := hL.new 4 _ 111 rfl rfl rfl
        have e112 : ac.tmps.getD 112 undef = .pointer (some ⟨dg, k, none⟩) := hL.new 5 _ 112 rfl rfl rfl
        have e113 : ac.tmps.getD 113 undef = .int .i64 d0 := hL.new 6 _ 113 rfl rfl rfl
        have e114 : ac.tmps.getD 114 undef = .pointer (some ⟨S, 2, none⟩) := hL.new 7 _ 114 rfl rfl rfl
        have e115 : ac.tmps.getD 115 undef = .int .i64 td := hL.new 8 _ 115 rfl rfl rfl
        have e116 : ac.tmps.getD 116 undef = .int .i64 (d0 + td) := hL.new 9 _ 116 rfl rfl rfl
        have e117 : ac.tmps.getD 117 undef = .pointer (some ⟨dg, k, none⟩) := hL.new 10 _ 117 rfl rfl rfl
        have HCL : Aside ((fun (_ : Array Bool) (_ : Act) (w2_ : World) => Below w5.heap.size w5 w2_) (#[true, true, true, true, true, true, true, true, true, true, true, false]) ac wb) := hL.cls
        have bb : Below w5.heap.size w5 wb := hL.cls
        clear HCL
        have es_ := hL.sets [107, 108, 109, 110, 111, 112, 113, 114, 115, 116, 117] (by decide +kernel)
        rw [List.foldl_cons, List.foldl_cons, List.foldl_cons, List.foldl_cons, List.foldl_cons, List.foldl_cons, List.foldl_cons, List.foldl_cons, List.foldl_cons, List.foldl_cons, List.foldl_cons, List.foldl_nil, e107, e108, e109, e110, e111, e112, e113, e114, e115, e116, e117] at es_
        rw [es_]
        clear es_ hL e107 e108 e109 e110 e111 e112 e113 e114 e115 e116 e117
        simp only [List.setIfInBounds_toArray, List.set_cons_zero, List.set_cons_succ]
        have HSb : Aside (StB w r (.slice (some ⟨b, off, none⟩) n cp) k vb (rgC (⟨(k : Int), rr, false, rl, rd⟩ : RG) (.slice (some ⟨ag, 0, none⟩) n ac_) (.slice (some ⟨dg, 0, none⟩) n dc) (.slice (some ⟨ig, 0, none⟩) n ic) (.slice aw nw cw) (.slice ae ne ce)) wb) := HS5.out.below bb
        have HLb : Aside (RowB wb 1 eI 3 (.slice (some ⟨ag, 0, none⟩) n ac_) (g.left.set k tl) ∧ RowB wb 1 eI 3 (.slice (some ⟨dg, 0, none⟩) n dc) g.darts ∧ RowB wb 1 eB 4 (.slice (some ⟨ig, 0, none⟩) n ic) (g.inn.set k ti)) := ⟨HL5.out.1.below bb, HL5.out.2.1.below bb, HL5.out.2.2.below bb⟩
        have HRb : Aside (wb.heap[S]? = some (.cells #[.int .i64 tl, .int .i64 ts, .int .i64 td, .bool ti, .bool tb, .bool tw] 30 (0, 0))) := (bb.block S (Array.getElem?_eq_some_iff.1 HR5.out).1).trans HR5.out
        have kd : wb.cell? ⟨dg, k, none⟩ = some (.int .i64 d0) := HLb.out.2.1.cell HLK.out.1 rfl
        have frd := HLb.out.2.1.free k
        clear bb HS5 HL5 HR5 k1 k2 k3 k4
        refine wpAny_one (i := 11) (by decide +kernel) rfl rfl ?_
        unfold Oper.wp
        go_simp
        refine wpAny_done (by decide +kernel) ?_ _
        obtain ⟨w6, hw6⟩ : ∃ u, u = wb.setCell ⟨dg, k, none⟩ (.int .i64 (d0 + td)) := ⟨_, rfl⟩
        have HS6 : Aside (StB w r (.slice (some ⟨b, off, none⟩) n cp) k vb (rgC (⟨(k : Int), rr, false, rl, rd⟩ : RG) (.slice (some ⟨ag, 0, none⟩) n ac_) (.slice (some ⟨dg, 0, none⟩) n dc) (.slice (some ⟨ig, 0, none⟩) n ic) (.slice aw nw cw) (.slice ae ne ce)) w6) := by rw [hw6]; exact HSb.out.row fd k _
        have HL6 : Aside (RowB w6 1 eI 3 (.slice (some ⟨ag, 0, none⟩) n ac_) (g.left.set k tl) ∧ RowB w6 1 eI 3 (.slice (some ⟨dg, 0, none⟩) n dc) (g.darts.set k (d0 + td)) ∧ RowB w6 1 eB 4 (.slice (some ⟨ig, 0, none⟩) n ic) (g.inn.set k ti)) := by
         rw [hw6]
         exact ⟨RowB.keep HLb.out.1 (Below.heap_setCell _ _ _ _ nad), RowB.set HLb.out.2.1 k (d0 + td) _ rfl (fun _ => rfl) HLd.out, RowB.keep HLb.out.2.2 (Below.heap_setCell _ _ _ _ nid)⟩
        have HR6 : Aside (w6.heap[S]? = some (.cells #[.int .i64 tl, .int .i64 ts, .int .i64 td, .bool ti, .bool tb, .bool tw] 30 (0, 0))) := by rw [hw6]; exact (Below.heap_setCell _ _ _ _ nSd).trans HRb.out
        rw [← hw6]
        clear hw6 HSb HLb HRb kd frd e3
        have k2 : w6.cell? ⟨w.heap.size + 1 + 1, 0, none⟩ = some (.int .i64 (k : Int)) := blk_cell HS6.out.vis rfl
        have hX : w.heap.size + 1 < w6.heap.size := by have := HS6.out.siz; omega
        obtain ⟨nx, hnx⟩ : ∃ nx, ((k : Int) + 1) % (n : Int) = nx := ⟨_, rfl⟩
        have n0 : ¬ (n : Int) = 0 := by omega
        have n0' : ¬ n = 0 := by omega
        have e1 : IntKind.i64.wrap ((k : Int) + 1) = (k : Int) + 1 := IntWalk.i64_in _ (by omega)
        have e2 : Int.tmod ((k : Int) + 1) (n : Int) = nx := by rw [Int.tmod_eq_emod_of_nonneg (by omega)]; exact hnx
        have e4 : IntKind.i64.wrap (rd + 1) = rd + 1 := IntWalk.i64_in _ (by have := HDN.out; omega)
        have hnx0 : 0 ≤ nx ∧ nx < (n : Int) := by rw [← hnx]; exact ⟨Int.emod_nonneg _ n0, Int.emod_lt_of_pos _ (by omega)⟩
        have e5 : IntKind.i64.wrap nx = nx := IntWalk.i64_in _ (by omega)
        have HNX : Aside (((k : Int) + 1) % (n : Int) = nx) := hnx
        clear hnx
        go_wp2_with fail
        refine reg15 HS6 n0 n0' e1 e2 e4 e5 (by kernel_rfl) (by rfl) (by rfl) (by rfl) (by rfl) ?rest15
        case rest15 =>
         as_aux_lemma =>
          intro ac w7 hL
          have e118 : ac.tmps.getD 118 undef = .pointer (some ⟨w.heap.size + 1 + 1, 0, none⟩) := hL.new 0 _ 118 rfl rfl rfl
          have e119 : ac.tmps.getD 119 undef = .int .i64 (k : Int) := hL.new 1 _ 119 rfl rfl rfl
          have e120 : ac.tmps.getD 120 undef = .int .i64 ((k : Int) + 1) := hL.new 2 _ 120 rfl rfl rfl
          have e121 : ac.tmps.getD 121 undef = .int .i64 (n : Int) := hL.new 3 _ 121 rfl rfl rfl
          have e122 : ac.tmps.getD 122 undef = .int .i64 nx := hL.new 4 _ 122 rfl rfl rfl
          have e123 : ac.tmps.getD 123 undef = .pointer (some ⟨w.heap.size + 1, 16, none⟩) := hL.new 5 _ 123 rfl rfl rfl
          have e124 : ac.tmps.getD 124 undef = .int .i64 rd := hL.new 6 _ 124 rfl rfl rfl
          have e125 : ac.tmps.getD 125 undef = .int .i64 (rd + 1) := hL.new 7 _ 125 rfl rfl rfl
          have e126 : ac.tmps.getD 126 undef = .pointer (some ⟨w.heap.size + 1, 0, none⟩) := hL.new 8 _ 126 rfl rfl rfl
          have e127 : ac.tmps.getD 127 undef = .pointer (some ⟨w.heap.size + 1, 3, none⟩) := hL.new 9 _ 127 rfl rfl rfl
          have e128 : ac.tmps.getD 128 undef = .pointer (some ⟨w.heap.size + 1, 16, none⟩) := hL.new 11 _ 128 rfl rfl rfl
          have HCL : Aside ((C15 w r (.slice (some ⟨b, off, none⟩) n cp) k vb rr rd nx rl (.slice (some ⟨ag, 0, none⟩) n ac_) (.slice (some ⟨dg, 0, none⟩) n dc) (.slice (some ⟨ig, 0, none⟩) n ic) (.slice aw nw cw) (.slice ae ne ce) w6) (#[true, true, true, true, true, true, true, true, true, true, true, true, true]) ac w7) := hL.cls
          have HS7 : Aside (StB w r (.slice (some ⟨b, off, none⟩) n cp) k vb (rgC (⟨nx, rr, false, rl, rd + 1⟩ : RG) (.slice (some ⟨ag, 0, none⟩) n ac_) (.slice (some ⟨dg, 0, none⟩) n dc) (.slice (some ⟨ig, 0, none⟩) n ic) (.slice aw nw cw) (.slice ae ne ce)) w7) := hL.cls.blk
          have HO7 : Aside (Outs [w.heap.size + 1] w6 w7) := hL.cls.out
          have es_ := hL.sets [118, 119, 120, 121, 122, 123, 124, 125, 126, 127, 128] (by decide +kernel)
          rw [List.foldl_cons, List.foldl_cons, List.foldl_cons, List.foldl_cons, List.foldl_cons, List.foldl_cons, List.foldl_cons, List.foldl_cons, List.foldl_cons, List.foldl_cons, List.foldl_cons, List.foldl_nil, e118, e119, e120, e121, e122, e123, e124, e125, e126, e127, e128] at es_
          rw [es_]
          clear es_ hL e118 e119 e120 e121 e122 e123 e124 e125 e126 e127 e128
          refine wpAny_done (by decide +kernel) ?_ _
          simp only [List.setIfInBounds_toArray, List.set_cons_zero, List.set_cons_succ]
          have HR7 : Aside (w7.heap[S]? = some (.cells #[.int .i64 tl, .int .i64 ts, .int .i64 td, .bool ti, .bool tb, .bool tw] 30 (0, 0))) := (HO7.out.block _ (by have := HSW.out; simp; omega) (Array.getElem?_eq_some_iff.1 HR6.out).1).trans HR6.out
          have HL7 : Aside (RowB w7 1 eI 3 (.slice (some ⟨ag, 0, none⟩) n ac_) (g.left.set k tl) ∧ RowB w7 1 eI 3 (.slice (some ⟨dg, 0, none⟩) n dc) (g.darts.set k (d0 + td)) ∧ RowB w7 1 eB 4 (.slice (some ⟨ig, 0, none⟩) n ic) (g.inn.set k ti)) := by
           obtain ⟨x1, x2, x3⟩ := HL6.out
           obtain ⟨y1, y1'⟩ := x1.blk
           obtain ⟨y2, y2'⟩ := x2.blk
           obtain ⟨y3, y3'⟩ := x3.blk
           exact ⟨RowB.keep x1 (HO7.out.block _ (by simp; omega) (Array.getElem?_eq_some_iff.1 y1').1), RowB.keep x2 (HO7.out.block _ (by simp; omega) (Array.getElem?_eq_some_iff.1 y2').1), RowB.keep x3 (HO7.out.block _ (by simp; omega) (Array.getElem?_eq_some_iff.1 y3').1)⟩
          clear HS6 HL6 HR6 HO7 k2 hX n0 n0' e1 e2 e4 e5 HCL
          have HG1 : Aside ((g.left.set k tl) = (hitG g k (⟨tl, ts, td, ti, tb, tw⟩ : Thr)).left ∧ (g.darts.set k (d0 + td)) = (hitG g k (⟨tl, ts, td, ti, tb, tw⟩ : Thr)).darts ∧ (g.inn.set k ti) = (hitG g k (⟨tl, ts, td, ti, tb, tw⟩ : Thr)).inn ∧ g.wins = (hitG g k (⟨tl, ts, td, ti, tb, tw⟩ : Thr)).wins) := ⟨rfl, by show g.darts.set k (d0 + td) = g.darts.set k (g.darts.getD k 0 + td); rw [List.getD_eq_getElem?_getD, HLK.out.1]; rfl, rfl, rfl⟩
          have HA7 : Aside (RfAt (w.heap.size + 1) w7 (.slice (some ⟨ag, 0, none⟩) n ac_) (.slice (some ⟨dg, 0, none⟩) n dc) (.slice (some ⟨ig, 0, none⟩) n ic) (.slice aw nw cw) (.slice ae ne ce) (hitG g k (⟨tl, ts, td, ti, tb, tw⟩ : Thr)) es) := by
           obtain ⟨x1, x2, x3⟩ := HL7.out
           obtain ⟨z1, z2, z3, z4⟩ := HG1.out
           exact ⟨by rw [← z1]; exact SlN.row x1 (by omega), by rw [← z2]; exact SlN.row x2 (by omega), by rw [← z3]; exact SlN.row x3 (by omega), by rw [← z4]; exact SlN.old HSL.out.2.2.2.1 HS7.out.bel (by omega), SlN.old HSL.out.2.2.2.2 HS7.out.bel (by omega)⟩
          clear HL7 HG1 HSL HLK HLN HDN HLd HNE4
          have s5 : w7.cell? ⟨S, 5, none⟩ = some (.bool tw) := blk_cell HR7.out rfl
          go_upto_if 130 with (fail)
          go_cut [] (fun wc => ∃ (R2 : RG) (ve2 : Value), Aside (R2 = hitR (⟨nx, rr, false, rl, rd + 1⟩ : RG) k (⟨tl, ts, td, ti, tb, tw⟩ : Thr) ∧ StB w r (.slice (some ⟨b, off, none⟩) n cp) k vb (rgC R2 (.slice (some ⟨ag, 0, none⟩) n ac_) (.slice (some ⟨dg, 0, none⟩) n dc) (.slice (some ⟨ig, 0, none⟩) n ic) (.slice aw nw cw) ve2) wc ∧ RfAt (w.heap.size + 1) wc (.slice (some ⟨ag, 0, none⟩) n ac_) (.slice (some ⟨dg, 0, none⟩) n dc) (.slice (some ⟨ig, 0, none⟩) n ic) (.slice aw nw cw) ve2 (hitG g k (⟨tl, ts, td, ti, tb, tw⟩ : Thr)) (hitE es k (⟨tl, ts, td, ti, tb, tw⟩ : Thr))))
          case first =>
           cases tw with
           | false =>
            go_wp2_with fail
            go_meet
            exact ⟨_, _, (hitR_no rfl).symm, HS7.out, HA7.out⟩
           | true =>
            have ke : w7.cell? ⟨w.heap.size + 1, 7, none⟩ = some (.slice ae ne ce) := blk_cell HS7.out.leg rfl
            have HZ7 : Aside (w.heap.size + 4 ≤ w7.heap.size) := HS7.out.siz
            have HNE7 : Aside (es.length = ne ∧ ne ≤ 8) := by
             have h1 := HNE.out.1
             rw [cI_len] at h1
             refine ⟨h1, ?_⟩
             have h2 := HIT.out.nodup
             have h3 := HIT.out.lt
             have h4 : (hitE es k (⟨tl, ts, td, ti, tb, true⟩ : Thr)).length ≤ r.counts.length := by
              have := nodup_bd r.counts.length (cI (hitE es k (⟨tl, ts, td, ti, tb, true⟩ : Thr))) (by unfold cI; exact List.pairwise_map.2 (h2.imp (fun h e => h (by omega)))) (fun x hx => by obtain ⟨q, hq, rfl⟩ := List.mem_map.1 hx; have := h3 q hq; omega)
              rw [cI_len] at this
              exact this
             have h5 : (hitE es k (⟨tl, ts, td, ti, tb, true⟩ : Thr)) = es ++ [k] := by unfold hitE; simp
             rw [h5, List.length_append] at h4
             simp at h4
             have h6 := HH.out.1
             omega
            clear HIT
            go_upto_region 17 with (fail)
            refine reg17 HS7 HA7 HZ7 HNE7 ke h8 (by kernel_rfl) (by rfl) (by rfl) (by rfl) ?rest17
            case rest17 =>
             as_aux_lemma =>
              intro ac w8 hL
              obtain ⟨y131, e131⟩ : ∃ x, ac.tmps.getD 131 undef = x := ⟨_, rfl⟩
              have e132 : ac.tmps.getD 132 undef = .pointer (some ⟨w.heap.size + 1, 7, none⟩) := hL.new 1 _ 132 rfl rfl rfl
              have e133 : ac.tmps.getD 133 undef = .slice ae ne ce := hL.new 2 _ 133 rfl rfl rfl
              obtain ⟨y134, e134⟩ : ∃ x, ac.tmps.getD 134 undef = x := ⟨_, rfl⟩
              have e135 : ac.tmps.getD 135 undef = .pointer (some ⟨w.heap.size + 1 + 1, 0, none⟩) := hL.new 4 _ 135 rfl rfl rfl
              have e136 : ac.tmps.getD 136 undef = .int .i64 (k : Int) := hL.new 5 _ 136 rfl rfl rfl
              obtain ⟨y137, e137⟩ : ∃ x, ac.tmps.getD 137 undef = x := ⟨_, rfl⟩
              obtain ⟨y138, e138⟩ : ∃ x, ac.tmps.getD 138 undef = x := ⟨_, rfl⟩
              have e139 : ac.tmps.getD 139 undef = .pointer (some ⟨w.heap.size + 1, 7, none⟩) := hL.new 8 _ 139 rfl rfl rfl
              have HCL : Aside ((C17 w r (.slice (some ⟨b, off, none⟩) n cp) k vb (⟨nx, rr, false, rl, rd + 1⟩ : RG) (.slice (some ⟨ag, 0, none⟩) n ac_) (.slice (some ⟨dg, 0, none⟩) n dc) (.slice (some ⟨ig, 0, none⟩) n ic) (.slice aw nw cw) (.slice ae ne ce) es w7) (#[true, true, true, true, true, true, true, true, true, true]) ac w8) := hL.cls
              obtain ⟨v8, hbk, h9⟩ := hL.cls.blk
              have hown := hL.cls.c7 rfl
              rw [← h9.1 rfl] at hown
              have HS8 : Aside (StB w r (.slice (some ⟨b, off, none⟩) n cp) k vb (rgC (⟨nx, rr, false, rl, rd + 1⟩ : RG) (.slice (some ⟨ag, 0, none⟩) n ac_) (.slice (some ⟨dg, 0, none⟩) n dc) (.slice (some ⟨ig, 0, none⟩) n ic) (.slice aw nw cw) (v8)) w8) := hbk
              have HOW8 : Aside (w8.ownsRow w7.heap.size 3 1 v8 (es.length + 1) ((cI (es ++ [k])).map (Value.int .i64))) := hown
              have HO8 : Aside (Outs [w.heap.size + 1] w7 w8) := hL.cls.out
              clear hbk hown h9
              have es_ := hL.sets [131, 132, 133, 134, 135, 136, 137, 138, 139] (by decide +kernel)
              rw [List.foldl_cons, List.foldl_cons, List.foldl_cons, List.foldl_cons, List.foldl_cons, List.foldl_cons, List.foldl_cons, List.foldl_cons, List.foldl_cons, List.foldl_nil, e131, e132, e133, e134, e135, e136, e137, e138, e139] at es_
              rw [es_]
              clear es_ hL e131 e132 e133 e134 e135 e136 e137 e138 e139
              refine wpAny_done (by decide +kernel) ?_ _
              simp only [List.setIfInBounds_toArray, List.set_cons_zero, List.set_cons_succ]
              clear HCL ke
              have HR8 : Aside (w8.heap[S]? = some (.cells #[.int .i64 tl, .int .i64 ts, .int .i64 td, .bool ti, .bool tb, .bool true] 30 (0, 0))) := (HO8.out.block _ (by have := HSW.out; simp; omega) (Array.getElem?_eq_some_iff.1 HR7.out).1).trans HR7.out
              have s2 : w8.cell? ⟨S, 2, none⟩ = some (.int .i64 td) := blk_cell HR8.out rfl
              have kv : w8.cell? ⟨w.heap.size + 1 + 1, 0, none⟩ = some (.int .i64 (k : Int)) := blk_cell HS8.out.vis rfl
              have kl : w8.cell? ⟨w.heap.size + 1, 8 + k, none⟩ = some (.int .i64 (rl k)) := rg_lastc HS8.out.leg (by omega)
              have kf := blk_free HS8.out.leg
              have hk8 : (k : Int) < 8 := by omega
              have hX8 : w.heap.size + 1 < w8.heap.size := by have := HS8.out.siz; omega
              go_wp2_with fail
              go_meet
              refine ⟨_, _, (hitR_won rfl).symm, HS8.out.outs (Outs.set (by simp) _ _ _) (rg_last HS8.out.leg (by omega) td), ?_⟩
              have HA8 := (HA7.out.outs HO8.out).outs (Outs.set (V := w.heap.size + 1) (by simp) (8 + k) w8 (.int .i64 td))
              refine ⟨HA8.sl, HA8.sd, HA8.si, HA8.sw, ?_⟩
              have h5 : (hitE es k ⟨tl, ts, td, ti, tb, true⟩) = es ++ [k] := by unfold hitE; simp
              rw [h5]
              have h6 := SlN.own (X := w.heap.size + 1) (v := v8) (xs := cI (es ++ [k])) (base := w7.heap.size) (w := w8) (by rw [cI_len, List.length_append]; exact HOW8.out) (by have := HZ7.out; omega) (by rw [cI_len, List.length_append]; have := HNE7.out; simp; omega)
              exact h6.outs (Outs.set (by simp) _ _ _)
          case rest =>
           as_aux_lemma =>
            (try clear hj0)
            (try clear jz0)
            (try clear jz1)
            (try clear jz2)
            (try clear hi0)
            (try clear hz0)
            (try clear hz1)
            (try clear hz2)
            (try clear nad)
            (try clear nda)
            (try clear fa)
            (try clear fd)
            (try clear fi)
            (try clear naS)
            (try clear ndS)
            (try clear niS)
            (try clear nSa)
            (try clear nSd)
            (try clear nSi)
            (try clear nai)
            (try clear nia)
            (try clear ndi)
            (try clear nid)
            (try clear m1)
            (try clear m2)
            (try clear m3)
            (try clear m4)
            (try clear m5)
            (try clear m6)
            (try clear hnx0)
            (try clear ew1)
            (try clear j0)
            (try clear i0)
            (try clear HVO)
            (try clear HTD)
            (try clear HSW)
            (try clear HNE)
            (try clear HO4)
            (try clear HL4)
            (try clear HOS)
            obtain ⟨R2, ve2, HC1⟩ := hcut
            have HSC : Aside (StB w r (.slice (some ⟨b, off, none⟩) n cp) k vb (rgC R2 (.slice (some ⟨ag, 0, none⟩) n ac_) (.slice (some ⟨dg, 0, none⟩) n dc) (.slice (some ⟨ig, 0, none⟩) n ic) (.slice aw nw cw) ve2) wc) := HC1.out.2.1
            have HAC : Aside (RfAt (w.heap.size + 1) wc (.slice (some ⟨ag, 0, none⟩) n ac_) (.slice (some ⟨dg, 0, none⟩) n dc) (.slice (some ⟨ig, 0, none⟩) n ic) (.slice aw nw cw) ve2 (hitG g k (⟨tl, ts, td, ti, tb, tw⟩ : Thr)) (hitE es k (⟨tl, ts, td, ti, tb, tw⟩ : Thr))) := HC1.out.2.2
            have HR2 : Aside (R2 = hitR (⟨nx, rr, false, rl, rd + 1⟩ : RG) k (⟨tl, ts, td, ti, tb, tw⟩ : Thr)) := HC1.out.1
            have hd2 : R2.done = rd + 1 := by rw [HR2.out]; rfl
            have hr2 : R2.round = rr := by rw [HR2.out]; rfl
            have HRD : Aside (R2.done = rd + 1 ∧ R2.round = rr ∧ R2.over = false ∧ R2.next = nx) := ⟨hd2, hr2, by rw [HR2.out]; rfl, by rw [HR2.out]; rfl⟩
            have HDB : Aside (-5 ≤ R2.round ∧ R2.round ≤ 20000) := by have := HRR.out; exact ⟨by omega, by omega⟩
            clear hd2 hr2 HC1 HS7 HA7 HR7 s5
            obtain ⟨D2, hD2⟩ : ∃ D2, R2.done = D2 := ⟨_, rfl⟩
            obtain ⟨U2, hU2⟩ : ∃ U2, R2.round = U2 := ⟨_, rfl⟩
            have HDU : Aside (R2.done = D2 ∧ R2.round = U2) := ⟨hD2, hU2⟩
            have g16 : wc.cell? ⟨w.heap.size + 1, 16, none⟩ = some (.int .i64 D2) := by rw [← hD2]; exact blk_cell HSC.out.leg rfl
            have g4 : wc.cell? ⟨w.heap.size + 1, 4, none⟩ = some (.int .i64 U2) := by rw [← hU2]; exact blk_cell HSC.out.leg rfl
            have gf := blk_free HSC.out.leg
            have hXc : w.heap.size + 1 < wc.heap.size := by have := HSC.out.siz; omega
            have eU : IntKind.i64.wrap (U2 + 1) = U2 + 1 := IntWalk.i64_in _ (by have := HDB.out; omega)
            clear hD2 hU2
            go_upto_if 149 with (fail)
            go_cut [] (fun wd => ∃ R3 : RG, Aside (R3 = { R2 with round := if R2.done = (n : Int) then R2.round + 1 else R2.round, done := if R2.done = (n : Int) then 0 else R2.done } ∧ StB w r (.slice (some ⟨b, off, none⟩) n cp) k vb (rgC R3 (.slice (some ⟨ag, 0, none⟩) n ac_) (.slice (some ⟨dg, 0, none⟩) n dc) (.slice (some ⟨ig, 0, none⟩) n ic) (.slice aw nw cw) ve2) wd ∧ RfAt (w.heap.size + 1) wd (.slice (some ⟨ag, 0, none⟩) n ac_) (.slice (some ⟨dg, 0, none⟩) n dc) (.slice (some ⟨ig, 0, none⟩) n ic) (.slice aw nw cw) ve2 (hitG g k (⟨tl, ts, td, ti, tb, tw⟩ : Thr)) (hitE es k (⟨tl, ts, td, ti, tb, tw⟩ : Thr))))
            case first =>
             as_aux_lemma =>
              by_cases hdn : D2 = (n : Int)
              ·have hdb : (D2 == (n : Int)) = true := by simpa using hdn
               go_wp2_with fail
               go_meet
               refine ⟨_, rfl, ?_, (HAC.out.outs (Outs.set (V := w.heap.size + 1) (by simp) 16 wc _)).outs (Outs.set (V := w.heap.size + 1) (by simp) 4 _ _)⟩
               have h1 : R2.done = (n : Int) := by rw [HDU.out.1]; exact hdn
               rw [if_pos h1, if_pos h1]
               have h2 := (HSC.out.setL 16 (.int .i64 0)).setL 4 (.int .i64 (U2 + 1))
               rw [HDU.out.2]
               exact h2
              ·have hdb : (D2 == (n : Int)) = false := by simpa using hdn
               go_wp2_with fail
               go_meet
               refine ⟨_, rfl, ?_, HAC.out⟩
               have h1 : ¬ R2.done = (n : Int) := by rw [HDU.out.1]; exact hdn
               rw [if_neg h1, if_neg h1]
               exact HSC.out
            case rest =>
             as_aux_lemma =>
              obtain ⟨R3, HC2⟩ := hcut
              have HR3 : Aside _ := HC2.out.1
              have HSD : Aside (StB w r (.slice (some ⟨b, off, none⟩) n cp) k vb (rgC R3 (.slice (some ⟨ag, 0, none⟩) n ac_) (.slice (some ⟨dg, 0, none⟩) n dc) (.slice (some ⟨ig, 0, none⟩) n ic) (.slice aw nw cw) ve2) wc) := HC2.out.2.1
              have HAD : Aside (RfAt (w.heap.size + 1) wc (.slice (some ⟨ag, 0, none⟩) n ac_) (.slice (some ⟨dg, 0, none⟩) n dc) (.slice (some ⟨ig, 0, none⟩) n ic) (.slice aw nw cw) ve2 (hitG g k (⟨tl, ts, td, ti, tb, tw⟩ : Thr)) (hitE es k (⟨tl, ts, td, ti, tb, tw⟩ : Thr))) := HC2.out.2.2
              have hnr : r.counts.length = n := HH.out.1
              have hvr := HH.out.2.1
              have hgo := HH.out.2.2.1
              have hgn := HH.out.2.2.2.2.2.2
              have HR : Aside (r.Ok) := (vleg_ok hvr).1
              have HE1 : Aside (R3.last = (hitR (⟨(k : Int), rr, false, rl, rd⟩ : RG) k (⟨tl, ts, td, ti, tb, tw⟩ : Thr)).last ∧ R3.next = nx ∧ R3.over = false ∧ R3.round = (if rd + 1 = (n : Int) then rr + 1 else rr) ∧ R3.done = (if rd + 1 = (n : Int) then 0 else rd + 1)) := by
               have h1 := HR3.out
               have h2 := HR2.out
               obtain ⟨z1, z2, z3, z4⟩ := HRD.out
               rw [h1]
               refine ⟨?_, z4, z3, ?_, ?_⟩
               ·rw [h2]; rfl
               ·show (if R2.done = (n : Int) then R2.round + 1 else R2.round) = _
                rw [z1, z2]
               ·show (if R2.done = (n : Int) then 0 else R2.done) = _
                rw [z1]
              have HPF : Aside ((passF r (hitG g k (⟨tl, ts, td, ti, tb, tw⟩ : Thr))).2.1 = R3.round ∧ (passF r (hitG g k (⟨tl, ts, td, ti, tb, tw⟩ : Thr))).2.2 = ((!(hitE es k (⟨tl, ts, td, ti, tb, tw⟩ : Thr)).isEmpty && !r.equal) || ((!(hitE es k (⟨tl, ts, td, ti, tb, tw⟩ : Thr)).isEmpty && decide (R3.done = 0)) || (decide (R3.done = 0) && decide (R3.round = r.rounds))))) := by
               obtain ⟨h1, h2⟩ := rf_pass HR.out HIT.out
               obtain ⟨z1, z2, z3, z4, z5⟩ := HE1.out
               have hq : (hitR (⟨(k : Int), rr, false, rl, rd⟩ : RG) k (⟨tl, ts, td, ti, tb, tw⟩ : Thr)).done = rd := rfl
               have hgr : (hitG g k (⟨tl, ts, td, ti, tb, tw⟩ : Thr)).round = rr := HRR.out.1.symm
               rw [hq, hnr, hgr] at h1 h2
               have hd0 := HIT.out.done.1
               rw [hq] at hd0
               have hdz : decide (rd + 1 = (n : Int)) = decide (R3.done = 0) := by
                rw [z5]
                by_cases hx : rd + 1 = (n : Int)
                ·rw [if_pos hx]; simp [hx]
                ·rw [if_neg hx]; rw [decide_eq_false hx, decide_eq_false (by omega)]
               rw [← z4] at h1 h2
               rw [hdz] at h2
               exact ⟨h1, h2⟩
              have HOV : Aside ((passF r (hitG g k (⟨tl, ts, td, ti, tb, tw⟩ : Thr))).2.2 = true → ∀ R4 : RG, R4 = { R3 with over := true, next := -1 } → RfOk r (passG r (hitG g k (⟨tl, ts, td, ti, tb, tw⟩ : Thr))) R4 (hitE es k (⟨tl, ts, td, ti, tb, tw⟩ : Thr))) := by
               intro hp R4 h4
               rw [h4]
               refine (rf_over HIT.out hp R3.done).congr rfl ?_ rfl HE1.out.1 rfl
               exact HPF.out.1.symm
              have HON : Aside ((passF r (hitG g k (⟨tl, ts, td, ti, tb, tw⟩ : Thr))).2.2 = false → RfOk r (passG r (hitG g k (⟨tl, ts, td, ti, tb, tw⟩ : Thr))) R3 (hitE es k (⟨tl, ts, td, ti, tb, tw⟩ : Thr))) := by
               intro hp
               obtain ⟨z1, z2, z3, z4, z5⟩ := HE1.out
               have hq : (hitR (⟨(k : Int), rr, false, rl, rd⟩ : RG) k (⟨tl, ts, td, ti, tb, tw⟩ : Thr)).done = rd := rfl
               have hgr : (hitG g k (⟨tl, ts, td, ti, tb, tw⟩ : Thr)).round = rr := HRR.out.1.symm
               have hgx : (hitG g k (⟨tl, ts, td, ti, tb, tw⟩ : Thr)).next = (k : Int) := hgn
               have hgo' : (hitG g k (⟨tl, ts, td, ti, tb, tw⟩ : Thr)).over = false := hgo
               refine (rf_on HR.out HIT.out hgo' hp).congr ?_ ?_ z3 z1 ?_
               ·rw [z2, hgx, hnr]; exact HNX.out.symm
               ·show R3.round = (if (hitR (⟨(k : Int), rr, false, rl, rd⟩ : RG) k (⟨tl, ts, td, ti, tb, tw⟩ : Thr)).done + 1 = (r.counts.length : Int) then (hitG g k (⟨tl, ts, td, ti, tb, tw⟩ : Thr)).round + 1 else (hitG g k (⟨tl, ts, td, ti, tb, tw⟩ : Thr)).round)
                rw [hq, hgr, hnr]; exact z4
               ·show R3.done = (if (hitR (⟨(k : Int), rr, false, rl, rd⟩ : RG) k (⟨tl, ts, td, ti, tb, tw⟩ : Thr)).done + 1 = (r.counts.length : Int) then 0 else (hitR (⟨(k : Int), rr, false, rl, rd⟩ : RG) k (⟨tl, ts, td, ti, tb, tw⟩ : Thr)).done + 1)
                rw [hq, hnr]; exact z5
              have HLT : Aside (∀ e ∈ (hitE es k (⟨tl, ts, td, ti, tb, tw⟩ : Thr)), e < n) := by have := HIT.out.lt; rw [hnr] at this; exact this
              have HGL : Aside ((hitG g k (⟨tl, ts, td, ti, tb, tw⟩ : Thr)).left.length = n) := by have := HIT.out.l1; rw [hnr] at this; exact this
              have HNR : Aside (r.counts.length = n) := hnr
              obtain ⟨eq, heq⟩ : ∃ x, r.equal = x := ⟨_, rfl⟩
              obtain ⟨rds, hrds⟩ : ∃ x, r.rounds = x := ⟨_, rfl⟩
              have HEQ : Aside (r.equal = eq ∧ r.rounds = rds) := ⟨heq, hrds⟩
              clear hnr hvr hgo hgn HC2 HR3 HR2 HRD heq hrds gf g16 g4 hXc eU HSC HAC HDU HDB
              obtain ⟨ae2, ce2, hve, -, -⟩ := HAD.out.se.1
              obtain ⟨ne2, hne2⟩ : ∃ x, (cI (hitE es k (⟨tl, ts, td, ti, tb, tw⟩ : Thr))).length = x := ⟨_, rfl⟩
              rw [hne2] at hve
              subst hve
              have HNE2 : Aside ((hitE es k (⟨tl, ts, td, ti, tb, tw⟩ : Thr)).length = ne2) := by rw [cI_len] at hne2; exact hne2
              clear hne2
              obtain ⟨i0, hi0, hz0, hz1, hz2⟩ := info_parts info_int
              have HSZ : Aside (w.heap.size + 4 ≤ wc.heap.size) := HSD.out.siz
              go_wp2_with fail
              obtain ⟨we, hwe⟩ : ∃ u, u = wc.alloc (.cells #[] 3) := ⟨_, rfl⟩
              have hown0 : we.ownsRow wc.heap.size 3 1 (.slice (some ⟨wc.heap.size, 0, none⟩) 0 0) 0 [] := by rw [hwe]; exact owns_empty _ _ _
              have HBE : Aside (Below wc.heap.size wc we) := by rw [hwe]; exact (Below.refl _ _).alloc (Nat.le_refl _) _
              rw [← hwe]
              clear hwe
              go_loopg [14, 15] n (fun gg v i wr => ∃ p : Nat, p ≤ n ∧ n - p ≤ gg ∧ i = .int .i64 p ∧ wr.ownsRow wc.heap.size 3 1 v p ((cI (List.range p)).map (Value.int .i64)) ∧ Aside (Below wc.heap.size wc wr))
              case atStart => exact ⟨0, Nat.zero_le _, by omega, rfl, hown0, HBE.out⟩
              case round =>
               obtain ⟨p, hp, hg, rfl, hown, HB⟩ := hrel
               clear hown0 HBE
               by_cases hltp : p < n
               ·have hltz : (p : Int) < (n : Int) := by omega
                go_wp2_with (at_builtin; refine wpList_append_own _ rfl _ _ 48 rfl wc.heap.size 3 i0 (.int .i64 0) 1 8 Try.underlying48 hi0 hz0 hz1 hz2 rfl (by decide) _ _ _ rfl (hown.alloc _) ⟨wr.heap.size, 0, none⟩ 1 1 [.int .i64 (p : Int)] rfl rfl (cell_one_new _ _ _) (ints_oneCell .i64 [(p : Int)]) (by unfold maxLen; omega) (by omega) (by have := HB.out.size; simp; omega) ?_; intro v' w8 hown8 hgrow8 hnil8)
                go_roundg (n - (p + 1))
                case measure => omega
                case rel =>
                 refine ⟨p + 1, by omega, by omega, by go_num, ?_, ?_⟩
                 ·rw [List.range_succ, cI_map]; exact hown8
                 ·exact HB.out.trans ((((Below.refl wc.heap.size wr).alloc HB.out.size _).grown hgrow8 (by have := HB.out.size; simp; omega) (fun j hj => (hown.lt j hj).1)))
               ·have hltz : ¬ (p : Int) < (n : Int) := by omega
                have hpe : p = n := by omega
                subst hpe
                obtain ⟨va, vcc, rfl⟩ := owns_sl hown
                have HALL : Aside (Sl wr 1 eI (.slice va p vcc) (cI (List.range p))) := sl_owns (base := wc.heap.size) (fun _ => rfl) (by rw [cI_len]; simp; omega) (by rw [cI_len, List.length_range, flat_eI]; exact hown)
                have HSR : Aside (StB w r (.slice (some ⟨b, off, none⟩) p cp) k vb (rgC R3 (.slice (some ⟨ag, 0, none⟩) p ac_) (.slice (some ⟨dg, 0, none⟩) p dc) (.slice (some ⟨ig, 0, none⟩) p ic) (.slice aw nw cw) (.slice ae2 ne2 ce2)) wr) := HSD.out.below (HB.out.mono (Nat.le_refl _))
                have HAR : Aside (RfAt (w.heap.size + 1) wr (.slice (some ⟨ag, 0, none⟩) p ac_) (.slice (some ⟨dg, 0, none⟩) p dc) (.slice (some ⟨ig, 0, none⟩) p ic) (.slice aw nw cw) (.slice ae2 ne2 ce2) (hitG g k (⟨tl, ts, td, ti, tb, tw⟩ : Thr)) (hitE es k (⟨tl, ts, td, ti, tb, tw⟩ : Thr))) := HAD.out.below HB.out
                have HBX : Aside (w.heap.size + 1 < wr.heap.size) := by have := HSR.out.siz; show _ < _; omega
                clear hown HSD HAD HB HSZ hltz
                go_upto_block 2 with (fail)
                go_cut [] (fun wf => ∃ (R4 : RG) (vl4 vd4 vi4 vw4 ve4 : Value), Aside (StB w r (.slice (some ⟨b, off, none⟩) p cp) k vb (rgC R4 vl4 vd4 vi4 vw4 ve4) wf ∧ RfAt (w.heap.size + 1) wf vl4 vd4 vi4 vw4 ve4 (passG r (hitG g k (⟨tl, ts, td, ti, tb, tw⟩ : Thr))) (hitE es k (⟨tl, ts, td, ti, tb, tw⟩ : Thr)) ∧ RfOk r (passG r (hitG g k (⟨tl, ts, td, ti, tb, tw⟩ : Thr))) R4 (hitE es k (⟨tl, ts, td, ti, tb, tw⟩ : Thr))))
                case first =>
                 as_aux_lemma =>
                  rename_i J' K' hJ' hK'
                  have HL1 : Aside (R3.last = (hitR (⟨(k : Int), rr, false, rl, rd⟩ : RG) k (⟨tl, ts, td, ti, tb, tw⟩ : Thr)).last) := HE1.out.1
                  by_cases hnz : 0 < ne2
                  ·have hlt : (0 : Int) < (ne2 : Int) := by omega
                   have hEn : (hitE es k (⟨tl, ts, td, ti, tb, tw⟩ : Thr)) ≠ [] := by intro e; have := HNE2.out; rw [e] at this; simp at this; omega
                   have HEM : Aside ((hitE es k (⟨tl, ts, td, ti, tb, tw⟩ : Thr)).isEmpty = false ∧ (hitE es k (⟨tl, ts, td, ti, tb, tw⟩ : Thr)) ≠ []) := ⟨by cases hx : (hitE es k (⟨tl, ts, td, ti, tb, tw⟩ : Thr)) with | nil => exact absurd hx hEn | cons a b => rfl, hEn⟩
                   clear hEn
                   cases eq with
                   | false => exact swA (by kernel_rfl) hJ' hK' HSR HAR HALL HPF HOV HON HEQ HLT HGL HNR HNE2 HIT HR HL1 h8 hk HEM hlt
                   | true =>
                    by_cases hdz : R3.done = 0
                    ·exact swB (by kernel_rfl) hJ' hK' HSR HAR HALL HPF HOV HON HEQ HLT HGL HNR HNE2 HIT HR HL1 h8 hk HEM hlt hdz (by simpa using hdz)
                    ·exact swD1 (by kernel_rfl) hJ' hK' HSR HAR HALL HPF HOV HON HEQ HLT HGL HNR HNE2 HIT HR HL1 h8 hk HEM hlt hdz (by simpa using hdz)
                  ·obtain rfl : ne2 = 0 := by omega
                   have HEM : Aside ((hitE es k (⟨tl, ts, td, ti, tb, tw⟩ : Thr)).isEmpty = true ∧ (hitE es k (⟨tl, ts, td, ti, tb, tw⟩ : Thr)) = []) := by have := List.eq_nil_of_length_eq_zero HNE2.out; exact ⟨by rw [this]; rfl, this⟩
                   by_cases hdz : R3.done = 0
                   ·by_cases hrz : R3.round = rds
                    ·exact swC (by kernel_rfl) hJ' hK' HSR HAR HALL HPF HOV HON HEQ HLT HGL HNR HNE2 HIT HR HL1 h8 hk HEM hdz (by simpa using hdz) hrz (by simpa using hrz)
                    ·exact swD2 (by kernel_rfl) hJ' hK' HSR HAR HALL HPF HOV HON HEQ HLT HGL HNR HNE2 HIT HR HL1 h8 hk HEM hdz (by simpa using hdz) hrz (by simpa using hrz)
                   ·exact swD3 (by kernel_rfl) hJ' hK' HSR HAR HALL HPF HOV HON HEQ HLT HGL HNR HNE2 HIT HR HL1 h8 hk HEM hdz (by simpa using hdz)
                case rest =>
                 as_aux_lemma =>
                  obtain ⟨R4, vl4, vd4, vi4, vw4, ve4, HC3⟩ := hcut
                  have HSF : Aside (StB w r (.slice (some ⟨b, off, none⟩) p cp) k vb (rgC R4 vl4 vd4 vi4 vw4 ve4) wc) := HC3.out.1
                  have HFA : Aside (RfAt (w.heap.size + 1) wc vl4 vd4 vi4 vw4 ve4 (passG r (hitG g k (⟨tl, ts, td, ti, tb, tw⟩ : Thr))) (hitE es k (⟨tl, ts, td, ti, tb, tw⟩ : Thr))) := HC3.out.2.1
                  have HFO : Aside (RfOk r (passG r (hitG g k (⟨tl, ts, td, ti, tb, tw⟩ : Thr))) R4 (hitE es k (⟨tl, ts, td, ti, tb, tw⟩ : Thr))) := HC3.out.2.2
                  obtain ⟨b1, f1, rfl, -, -⟩ := HFA.out.sl.1
                  obtain ⟨b2, f2, rfl, -, -⟩ := HFA.out.sd.1
                  obtain ⟨b3, f3, rfl, -, -⟩ := HFA.out.si.1
                  obtain ⟨b4, f4, rfl, -, -⟩ := HFA.out.sw.1
                  obtain ⟨b5, f5, rfl, -, -⟩ := HFA.out.se.1
                  obtain ⟨m1, hm1⟩ : ∃ x, (passG r (hitG g k (⟨tl, ts, td, ti, tb, tw⟩ : Thr))).left.length = x := ⟨_, rfl⟩
                  obtain ⟨m2, hm2⟩ : ∃ x, (passG r (hitG g k (⟨tl, ts, td, ti, tb, tw⟩ : Thr))).darts.length = x := ⟨_, rfl⟩
                  obtain ⟨m3, hm3⟩ : ∃ x, (passG r (hitG g k (⟨tl, ts, td, ti, tb, tw⟩ : Thr))).inn.length = x := ⟨_, rfl⟩
                  obtain ⟨m4, hm4⟩ : ∃ x, (passG r (hitG g k (⟨tl, ts, td, ti, tb, tw⟩ : Thr))).wins.length = x := ⟨_, rfl⟩
                  obtain ⟨m5, hm5⟩ : ∃ x, (cI (hitE es k (⟨tl, ts, td, ti, tb, tw⟩ : Thr))).length = x := ⟨_, rfl⟩
                  rw [hm1, hm2, hm3, hm4, hm5] at HSF HFA
                  clear hm1 hm2 hm3 hm4 hm5 HC3
                  have hlt3 : w.heap.size + 1 + 1 + 1 < wc.heap.size := by have := HSF.out.siz; omega
                  go_upto_region 38 with (fail)
                  refine wp_region_lit ?_
                  refine wpList_plain rfl fun KK hK => wp_load17 rfl HSF.out.leg (hK _ _ ?_)
                  refine wpList_plain rfl fun KK hK => wp_store17 rfl rfl HSF.out.zero (hK _ _ ?_)
                  obtain ⟨wz, hwz⟩ : ∃ u, u = set17 wc (w.heap.size + 1 + 1 + 1) (.slice b1 m1 f1) (.slice b2 m2 f2) (.slice b3 m3 f3) (.int .i64 R4.next) (.int .i64 R4.round) (.bool R4.over) (.slice b4 m4 f4) (.slice b5 m5 f5) (.int .i64 (R4.last 0)) (.int .i64 (R4.last 1)) (.int .i64 (R4.last 2)) (.int .i64 (R4.last 3)) (.int .i64 (R4.last 4)) (.int .i64 (R4.last 5)) (.int .i64 (R4.last 6)) (.int .i64 (R4.last 7)) (.int .i64 R4.done) := ⟨_, rfl⟩
                  rw [← hwz]
                  simp only [Act.put, List.setIfInBounds_toArray, List.set_cons_zero, List.set_cons_succ]
                  go_wp2_with fail
                  subst hwz
                  refine ret17s (wz := set17 wc (w.heap.size + 1 + 1 + 1) (.slice b1 m1 f1) (.slice b2 m2 f2) (.slice b3 m3 f3) (.int .i64 R4.next) (.int .i64 R4.round) (.bool R4.over) (.slice b4 m4 f4) (.slice b5 m5 f5) (.int .i64 (R4.last 0)) (.int .i64 (R4.last 1)) (.int .i64 (R4.last 2)) (.int .i64 (R4.last 3)) (.int .i64 (R4.last 4)) (.int .i64 (R4.last 5)) (.int .i64 (R4.last 6)) (.int .i64 (R4.last 7)) (.int .i64 R4.done)) rfl rfl rfl rfl (rg17 (.slice b1 m1 f1) (.slice b2 m2 f2) (.slice b3 m3 f3) (.int .i64 R4.next) (.int .i64 R4.round) (.bool R4.over) (.slice b4 m4 f4) (.slice b5 m5 f5) (.int .i64 (R4.last 0)) (.int .i64 (R4.last 1)) (.int .i64 (R4.last 2)) (.int .i64 (R4.last 3)) (.int .i64 (R4.last 4)) (.int .i64 (R4.last 5)) (.int .i64 (R4.last 6)) (.int .i64 (R4.last 7)) (.int .i64 R4.done) HSF.out.zero) ?_
                  unfold StepOk
                  rw [HT3.out]
                  have HO := outs17 wc (w.heap.size + 1 + 1 + 1) (.slice b1 m1 f1) (.slice b2 m2 f2) (.slice b3 m3 f3) (.int .i64 R4.next) (.int .i64 R4.round) (.bool R4.over) (.slice b4 m4 f4) (.slice b5 m5 f5) (.int .i64 (R4.last 0)) (.int .i64 (R4.last 1)) (.int .i64 (R4.last 2)) (.int .i64 (R4.last 3)) (.int .i64 (R4.last 4)) (.int .i64 (R4.last 5)) (.int .i64 (R4.last 6)) (.int .i64 (R4.last 7)) (.int .i64 R4.done)
                  refine ⟨below17 HSF.out.bel (R := w.heap.size + 1 + 1 + 1) (by omega) (.slice b1 m1 f1) (.slice b2 m2 f2) (.slice b3 m3 f3) (.int .i64 R4.next) (.int .i64 R4.round) (.bool R4.over) (.slice b4 m4 f4) (.slice b5 m5 f5) (.int .i64 (R4.last 0)) (.int .i64 (R4.last 1)) (.int .i64 (R4.last 2)) (.int .i64 (R4.last 3)) (.int .i64 (R4.last 4)) (.int .i64 (R4.last 5)) (.int .i64 (R4.last 6)) (.int .i64 (R4.last 7)) (.int .i64 R4.done), R4, (hitE es k (⟨tl, ts, td, ti, tb, tw⟩ : Thr)), _, _, _, _, _, 0, rfl, fun h => absurd rfl h, HFO.out, (HFA.out.outs3 HO).sl5⟩
   ·have HE : Aside (¬ er = 0) := he
    have hlt3 : w.heap.size + 1 + 1 + 1 < w2.heap.size := by have := HS2.out.siz; omega
    go_upto_region 10 with (fail)
    refine wp_region_lit ?_
    refine wpList_plain rfl fun KK hK => wp_load17 rfl HS2.out.leg (hK _ _ ?_)
    clear hK KK
    refine wpList_plain rfl (fun KK hK => ?_)
    unfold Oper.wp
    go_simp
    refine hK _ _ ?_
    clear hK KK
    refine wpList_plain rfl (fun KK hK => ?_)
    unfold Oper.wp
    go_simp
    refine hK _ _ ?_
    clear hK KK
    refine wpList_plain rfl fun KK hK => wp_store17 (B := w.heap.size + 1 + 1 + 1) (by rfl) (by rfl) HS2.out.zero (hK _ _ ?_)
    clear hK KK
    obtain ⟨wz, hwz⟩ : ∃ u, u = set17 w2 (w.heap.size + 1 + 1 + 1) (.slice (some ⟨bl, ol, none⟩) n ccl) (.slice (some ⟨bd, od, none⟩) n ccd) (.slice (some ⟨bi, oi, none⟩) n cci) (.int .i64 (k : Int)) (.int .i64 rr) (.bool false) (.slice aw nw cw) (.slice ae ne ce) (.int .i64 (rl 0)) (.int .i64 (rl 1)) (.int .i64 (rl 2)) (.int .i64 (rl 3)) (.int .i64 (rl 4)) (.int .i64 (rl 5)) (.int .i64 (rl 6)) (.int .i64 (rl 7)) (.int .i64 rd) := ⟨_, rfl⟩
    rw [← hwz]
    simp only [Act.put, List.setIfInBounds_toArray, List.set_cons_zero, List.set_cons_succ]
    go_wp2_with fail
    subst hwz
    refine ret17s (wz := set17 w2 (w.heap.size + 1 + 1 + 1) (.slice (some ⟨bl, ol, none⟩) n ccl) (.slice (some ⟨bd, od, none⟩) n ccd) (.slice (some ⟨bi, oi, none⟩) n cci) (.int .i64 (k : Int)) (.int .i64 rr) (.bool false) (.slice aw nw cw) (.slice ae ne ce) (.int .i64 (rl 0)) (.int .i64 (rl 1)) (.int .i64 (rl 2)) (.int .i64 (rl 3)) (.int .i64 (rl 4)) (.int .i64 (rl 5)) (.int .i64 (rl 6)) (.int .i64 (rl 7)) (.int .i64 rd)) rfl rfl rfl rfl (rg17 (.slice (some ⟨bl, ol, none⟩) n ccl) (.slice (some ⟨bd, od, none⟩) n ccd) (.slice (some ⟨bi, oi, none⟩) n cci) (.int .i64 (k : Int)) (.int .i64 rr) (.bool false) (.slice aw nw cw) (.slice ae ne ce) (.int .i64 (rl 0)) (.int .i64 (rl 1)) (.int .i64 (rl 2)) (.int .i64 (rl 3)) (.int .i64 (rl 4)) (.int .i64 (rl 5)) (.int .i64 (rl 6)) (.int .i64 (rl 7)) (.int .i64 rd) HS2.out.zero) ?_
    refine step_same HF.out HSL.out (below17 HS2.out.bel (R := w.heap.size + 1 + 1 + 1) (by omega) (.slice (some ⟨bl, ol, none⟩) n ccl) (.slice (some ⟨bd, od, none⟩) n ccd) (.slice (some ⟨bi, oi, none⟩) n cci) (.int .i64 (k : Int)) (.int .i64 rr) (.bool false) (.slice aw nw cw) (.slice ae ne ce) (.int .i64 (rl 0)) (.int .i64 (rl 1)) (.int .i64 (rl 2)) (.int .i64 (rl 3)) (.int .i64 (rl 4)) (.int .i64 (rl 5)) (.int .i64 (rl 6)) (.int .i64 (rl 7)) (.int .i64 rd)) ?_
    rw [HTK.out, if_neg HE.out]
    have := HDT.out
    change (if er = 0 then 0 else dt0) = dt at this
    rw [if_neg HE.out] at this
    rw [this]
end
end Go.Proofs.Ytgmlcgifagbjmaa
