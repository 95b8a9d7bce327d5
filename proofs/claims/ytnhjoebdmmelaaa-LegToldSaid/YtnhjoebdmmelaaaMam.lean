/- Leg: parts Z. -/
import Derived.Test.YtnhjoebdmmelaaaMal
set_option linter.unusedVariables false
set_option linter.unusedSimpArgs false
namespace Go.Proofs.Ytnhjoebdmmelaaa
section
open Go.RowKit Go.Maps Go.Sort Go.Shelf Go.Deep
theorem wp_mapUpdate_own {H : Type} {P : Program} (w : World) {o : Oper} {a : Act} {KK : Act → World → Prop} {Q : Exit → Act → World → Prop}
  (m x v : Operand) (t : TypeId) (hop : o.op = Op.mapUpdate t m x v)
  (k e : TypeId) (K : Keyed P k) (ht : P.underlying t = some (.map k e)) (R : Value → Option (DataW H × List MemPlace)) (b n : Nat) (D : DataW H)
  (hm : a.eval m = .map (some b)) (hown : w.ownsMap P k R b n D) (hn : n < maxLen) (key val : Value) (kl : Lit) (hx : a.eval x = key) (hv : a.eval v = val) (hkey : keyOf P k key = some kl)
  (d : DataW H) (ps : List MemPlace) (hval : R val = some (d, ps))
  (hK : ∀ w', w'.ownsMap P k R b (n + 1) (D.put kl d) → w.grownBy w' (some b) → KK (a.put o.dst undef) w') : o.wp P a w KK Q := by
 obtain ⟨w', hrun, r1, r2⟩ := hown.update K ht hn hkey hval
 unfold Oper.wp
 simp [execOp, hop, hm, hx, hv, hrun, Result.andThen]
 exact hK _ r1 r2
set_option maxRecDepth 100000 in
set_option maxHeartbeats 8000000 in
theorem take_good {V gl gd gi M cl cd ci nn b off cp k i : Nat} {vw : Value} {D : DataW Unit} {r : LegR} {g : LegG} (w : World) (h : LegW w V gl gd gi M cl cd ci nn (.slice (some ⟨b, off, none⟩) r.counts.length cp) vw D r g) (hr : r.Ok) (hg : g.Ok r i) (hi : i ≤ 10000) (hov : g.over = false) (hk : k < r.counts.length) (hnx : g.next = (k : Int)) (vb : Value) (bs : List Int) (hbs : Sl w 1 eI vb bs) (h64 : ∀ x ∈ bs, -9223372036854775808 ≤ x ∧ x ≤ 9223372036854775807) (hnn : nn < 1000000) :
  Calls Try.prog 53 #[.pointer (some ⟨V, 0, none⟩), .agg #[.int .i64 (k : Int), vb]] w (TakeG V gl gd gi M cl cd ci nn (.slice (some ⟨b, off, none⟩) r.counts.length cp) vw r g (k : Int) bs w) := by
 have hin : inb 0 ((r.counts.length : Int) - 1) (k : Int) = true := by unfold inb; simp; omega
 have ht : takeG r g (k : Int) bs = (if (takeT r g k bs).2.2 = 0 then (passG r (hitG g k (takeT r g k bs).1), -1, 0) else (g, (takeT r g k bs).2.1, (takeT r g k bs).2.2)) := by
  unfold takeG; rw [if_neg (by rw [hov]; simp), if_pos hin, if_pos hnx.symm, Int.toNat_natCast]
 obtain ⟨c, hc⟩ : ∃ c, r.counts[k]? = some c := ⟨_, List.getElem?_eq_getElem hk⟩
 obtain ⟨l0, hl⟩ : ∃ x, g.left[k]? = some x := ⟨_, List.getElem?_eq_getElem (by rw [h.l1]; exact hk)⟩
 obtain ⟨b0, hb⟩ : ∃ x, g.inn[k]? = some x := ⟨_, List.getElem?_eq_getElem (by rw [h.l3]; exact hk)⟩
 obtain ⟨d0, hd⟩ : ∃ x, g.darts[k]? = some x := ⟨_, List.getElem?_eq_getElem (by rw [h.l2]; exact hk)⟩
 have hT : takeT r g k bs = thr c b0 l0 bs := by unfold takeT; simp [List.getD_eq_getElem?_getD, hc, hl, hb]
 obtain ⟨res, hres⟩ : ∃ res, thr c b0 l0 bs = res := ⟨_, rfl⟩
 have hlb := hg.left l0 (List.mem_of_getElem? hl)
 have hdb := hg.darts d0 (List.mem_of_getElem? hd)
 have x1 : ∀ W, Below w.heap.size w W → Calls Try.prog 41 #[cntV c, .bool b0, .int .i64 l0, vb] W (Ret (thrR res) W) := fun W hB => by
  rw [← hres]; exact thrown_any c b0 l0 vb bs W (hbs.below hB) (hr.cnt c (List.mem_of_getElem? hc)) hlb.1 hlb.2 h64
 have hbd := thr_bd c b0 l0 bs hlb.1 hlb.2
 rw [hT, hres] at ht
 rw [hres] at hbd
 obtain ⟨n, hn⟩ : ∃ n, r.counts.length = n := ⟨_, rfl⟩
 obtain ⟨a', cp', hvc, hlc, hcs⟩ := h.counts
 simp only [Value.slice.injEq, true_and] at hvc
 obtain ⟨ha', rfl⟩ := hvc
 subst ha'
 obtain ⟨b', off', hab, hblt, hcl⟩ := hcs hr.ne
 simp only [Option.some.injEq, Addr.mk.injEq, and_true] at hab
 obtain ⟨rfl, rfl⟩ := hab
 obtain ⟨c1, c2, c3⟩ := c
 have q0 : w.cell? ⟨b, off + k * 3, none⟩ = some (.int .i64 c1) := by have := hcl k _ hc 0 (.int .i64 c1) rfl; simpa using this
 have q1 : w.cell? ⟨b, off + k * 3 + 1, none⟩ = some (.int .i64 c2) := by have := hcl k _ hc 1 (.int .i64 c2) rfl; simpa using this
 have q2 : w.cell? ⟨b, off + k * 3 + 2, none⟩ = some (.int .i64 c3) := by have := hcl k _ hc 2 (.int .i64 c3) rfl; simpa using this
 have ql : w.cell? ⟨gl, k, none⟩ = some (.int .i64 l0) := h.left.cell (by rw [List.getElem?_map, hl]; rfl)
 have qi : w.cell? ⟨gi, k, none⟩ = some (.bool b0) := h.inn.cell (by rw [List.getElem?_map, hb]; rfl)
 have qd : w.cell? ⟨gd, k, none⟩ = some (.int .i64 d0) := h.darts.cell (by rw [List.getElem?_map, hd]; rfl)
 have c0 : w.cell? ⟨V, 0, none⟩ = some (.slice (some ⟨b, off, none⟩) r.counts.length cp) := blk_cell h.blk rfl
 have c4 : w.cell? ⟨V, 4, none⟩ = some (rowV gl r.counts.length cl) := blk_cell h.blk rfl
 have c6 : w.cell? ⟨V, 6, none⟩ = some (rowV gi r.counts.length ci) := blk_cell h.blk rfl
 have c9 : w.cell? ⟨V, 9, none⟩ = some (.bool false) := by rw [← hov]; exact blk_cell h.blk rfl
 have c7 : w.cell? ⟨V, 7, none⟩ = some (.int .i64 (k : Int)) := by rw [← hnx]; exact blk_cell h.blk rfl
 have hV : V < w.heap.size := (Array.getElem?_eq_some_iff.1 h.blk).1
 have hn8 : n ≤ 8 := by rw [← hn]; exact hr.n8
 have y1 := fun W k' hk' t => within_any 0 ((n : Int) - 1) _ [(k : Int)] _ (sl_one W k' hk' t (k : Int))
 simp only [List.all_cons, List.all_nil, Bool.and_true] at y1
 rw [hn] at hin hk
 rw [hin] at y1
 have e1 : IntKind.i64.wrap ((n : Int) - 1) = (n : Int) - 1 := IntWalk.i64_in _ (by omega)
 have HH : Aside (r.counts.length = n ∧ g.next = (k : Int) ∧ g.over = false ∧ g.darts[k]? = some d0 ∧ 0 ≤ d0 ∧ d0 ≤ 30000 ∧ g.left[k]? = some l0) := ⟨hn, hnx, hov, hd, by omega, by omega, hl⟩
 have HL : Aside (LegW w V gl gd gi M cl cd ci nn (.slice (some ⟨b, off, none⟩) r.counts.length cp) vw D r g) := h
 have HRG : Aside (r.Ok ∧ g.Ok r i ∧ i ≤ 10000 ∧ nn < 1000000) := ⟨hr, hg, hi, hnn⟩
 have HT0 : Aside (∀ W, Below w.heap.size w W → Calls Try.prog 41 #[cntV (c1, c2, c3), .bool b0, .int .i64 l0, vb] W (Ret (thrR res) W)) := x1
 have HTK : Aside _ := ht
 have HBD : Aside _ := hbd
 have hkI : (k : Int) < (n : Int) := by omega
 rw [hn] at c0 c4 c6
 clear h hr hg hi hov hnx hbs h64 hnn hc hl hb hd hT hres hlb hdb x1 ht hbd hn hlc hcs hblt hcl hin
 go_enter Try.func53, Try.ntmps53
 go_wp2_with (go_at_call 47; (with_reducible refine (y1 _ _ (by simp) _).mono ?_); rintro e w1 ⟨rfl, hb1⟩; (have kk7 : w1.cell? ⟨V, 7, none⟩ = some (.int .i64 (k : Int)) := by rw [hb1.cell (by simp; omega)]; go_simp); (have qv : w1.cell? ⟨w.heap.size, 1, none⟩ = some vb := by rw [hb1.cell (by simp; omega)]; go_simp); (have B1 : Aside (Below w.heap.size w w1) := by show Below _ _ _; (repeat' (first | exact Below.refl _ _ | assumption | (with_reducible refine Below.drew ?_) | (with_reducible refine Below.setCell ?_ (by (first | (simp; done) | (simp; omega))) _) | (with_reducible refine below_drewN' ?_ _) | (refine Below.alloc ?_ (by (try simp only [World.size_alloc, World.size_drew, World.size_setCell]); omega) _) | (refine Below.trans ?_ (Below.mono (by assumption) (by (try simp only [World.size_alloc, World.size_drew, World.size_setCell]); omega)))))); clear hb1)
 replace q0 := keepc B1.out q0
 replace q1 := keepc B1.out q1
 replace q2 := keepc B1.out q2
 replace ql := keepc B1.out ql
 replace qi := keepc B1.out qi
 replace c0 := keepc B1.out c0
 replace c4 := keepc B1.out c4
 replace c6 := keepc B1.out c6
 clear kk7 c7 c9 y1 qd e1
 obtain ⟨⟨tl, ts, td, ti, tb, tw⟩, dt, er⟩ := res
 have HT : Aside (∀ W, Below w.heap.size w W → Calls Try.prog 41 #[.agg #[.int .i64 c1, .int .i64 c2, .int .i64 c3], .bool b0, .int .i64 l0, vb] W (Ret (.tuple #[.agg #[.int .i64 tl, .int .i64 ts, .int .i64 td, .bool ti, .bool tb, .bool tw], .int .i64 dt, .int .i64 er]) W)) := HT0.out
 clear HT0
 have hV1 : V < w1.heap.size := Nat.lt_of_lt_of_le hV B1.out.size
 refine region_laidK (fun _ _ => True) (fl := 14) [true, true, true, true, true, true, true, true, true, true, true, true, true, true, true, true, true, true, true, true, true, true, true, true, true, true, true, true, true, true, true, true, true, true, true] 0 (fun (i : Nat) (x : Value) (ww : World) => (match i with | 0 => x = .pointer (some ⟨V, 0, none⟩) | 1 => x = .pointer (some ⟨V, 0, none⟩) | 2 => x = .pointer (some ⟨V, 0, none⟩) | 3 => x = .pointer (some ⟨V, 0, none⟩) | 4 => x = .slice (some ⟨b, off, none⟩) n cp | 5 => x = .int .i64 (k : Int) | 6 => x = .pointer (some ⟨b, off + k * 3, none⟩) | 7 => x = .agg #[.int .i64 c1, .int .i64 c2, .int .i64 c3] | 8 => x = .pointer (some ⟨V, 0, none⟩) | 9 => x = .pointer (some ⟨V, 0, none⟩) | 10 => x = .pointer (some ⟨V, 4, none⟩) | 11 => x = .pointer (some ⟨V, 6, none⟩) | 12 => x = rowV gi n ci | 13 => x = .int .i64 (k : Int) | 14 => x = .pointer (some ⟨gi, k, none⟩) | 15 => x = .bool b0 | 16 => x = .pointer (some ⟨V, 0, none⟩) | 17 => x = .pointer (some ⟨V, 0, none⟩) | 18 => x = .pointer (some ⟨V, 4, none⟩) | 19 => x = .pointer (some ⟨V, 4, none⟩) | 20 => x = rowV gl n cl | 21 => x = .int .i64 (k : Int) | 22 => x = .pointer (some ⟨gl, k, none⟩) | 23 => x = .int .i64 l0 | 24 => x = .pointer (some ⟨w.heap.size, 1, none⟩) | 25 => x = vb | 26 => x = .tuple #[.agg #[.int .i64 tl, .int .i64 ts, .int .i64 td, .bool ti, .bool tb, .bool tw], .int .i64 dt, .int .i64 er] | 27 => x = .tuple #[.agg #[.int .i64 tl, .int .i64 ts, .int .i64 td, .bool ti, .bool tb, .bool tw], .int .i64 dt, .int .i64 er] | 28 => x = .agg #[.int .i64 tl, .int .i64 ts, .int .i64 td, .bool ti, .bool tb, .bool tw] | 29 => x = .int .i64 dt | 30 => x = .int .i64 er | 31 => True | 32 => True | 33 => x = .int .i64 dt | 34 => x = .int .i64 er | _ => True : Prop)) (Cl w1 [(⟨31, 32, 7, .cells #[.int .i64 0, .int .i64 0, .int .i64 0, .bool false, .bool false, .bool false] 30 (0, 0), .cells #[.int .i64 tl, .int .i64 ts, .int .i64 td, .bool ti, .bool tb, .bool tw] 30 (0, 0)⟩ : AS)]) (by kernel_rfl) rfl (by show layableK _ 109 _ 14 = true; decide +kernel) rfl (Cl.start _ _ _ _) ?mono8 ?step8 ?rest8
 case mono8 =>
  intro i x ww ww' hB h
  match i, h with
  | 0, h => exact h
  | 1, h => exact h
  | 2, h => exact h
  | 3, h => exact h
  | 4, h => exact h
  | 5, h => exact h
  | 6, h => exact h
  | 7, h => exact h
  | 8, h => exact h
  | 9, h => exact h
  | 10, h => exact h
  | 11, h => exact h
  | 12, h => exact h
  | 13, h => exact h
  | 14, h => exact h
  | 15, h => exact h
  | 16, h => exact h
  | 17, h => exact h
  | 18, h => exact h
  | 19, h => exact h
  | 20, h => exact h
  | 21, h => exact h
  | 22, h => exact h
  | 23, h => exact h
  | 24, h => exact h
  | 25, h => exact h
  | 26, h => exact h
  | 27, h => exact h
  | 28, h => exact h
  | 29, h => exact h
  | 30, h => exact h
  | 31, h => exact h
  | 32, h => exact h
  | 33, h => exact h
  | 34, h => exact h
  | n + 35, h => exact h
 case step8 =>
  intro i o_ listed ac W hA ho hL he hcl hli hsz
  have hk0 : ac.tmps.getD 0 undef = .pointer (some ⟨V, 0, none⟩) := hL.kept 0 (by decide +kernel)
  have hk3 : ac.tmps.getD 3 undef = .pointer (some ⟨w.heap.size, 0, none⟩) := hL.kept 3 (by decide +kernel)
  have hk6 : ac.tmps.getD 6 undef = .int .i64 (k : Int) := hL.kept 6 (by decide +kernel)
  have CL : ∀ W', Below W.heap.size W W' → Below w1.heap.size w1 W' := fun W' h => hL.cls.1.trans (h.mono hL.cls.1.size)
  have k_c0 := keepc hL.cls.1 c0
  have k_c4 := keepc hL.cls.1 c4
  have k_c6 := keepc hL.cls.1 c6
  have k_q0 := keepc hL.cls.1 q0
  have k_q1 := keepc hL.cls.1 q1
  have k_q2 := keepc hL.cls.1 q2
  have k_qi := keepc hL.cls.1 qi
  have k_ql := keepc hL.cls.1 ql
  have k_qv := keepc hL.cls.1 qv
  match i, hA, ho with
  | 0, _, ho =>
   cases ho
   refine wpOp_plain rfl rfl ?_
   unfold Oper.wp
   go_simp
   first | exact Cl.other hL.cls rfl (Below.refl _ _) | exact ⟨_, rfl, trivial, Cl.other hL.cls rfl (Below.refl _ _), rfl⟩
  | 1, _, ho =>
   cases ho
   have d0 : ac.tmps.getD 34 undef = .pointer (some ⟨V, 0, none⟩) := hL.new 0 _ 34 rfl (he ⟨0, .data⟩ (by simp) rfl) rfl
   refine wpOp_plain rfl rfl ?_
   unfold Oper.wp
   go_simp
   first | exact Cl.other hL.cls rfl (Below.refl _ _) | exact ⟨_, rfl, trivial, Cl.other hL.cls rfl (Below.refl _ _), rfl⟩
  | 2, _, ho =>
   cases ho
   have d1 : ac.tmps.getD 35 undef = .pointer (some ⟨V, 0, none⟩) := hL.new 1 _ 35 rfl (he ⟨1, .data⟩ (by simp) rfl) rfl
   refine wpOp_plain rfl rfl ?_
   unfold Oper.wp
   go_simp
   first | exact Cl.other hL.cls rfl (Below.refl _ _) | exact ⟨_, rfl, trivial, Cl.other hL.cls rfl (Below.refl _ _), rfl⟩
  | 3, _, ho =>
   cases ho
   have d2 : ac.tmps.getD 36 undef = .pointer (some ⟨V, 0, none⟩) := hL.new 2 _ 36 rfl (he ⟨2, .data⟩ (by simp) rfl) rfl
   refine wpOp_plain rfl rfl ?_
   unfold Oper.wp
   go_simp
   first | exact Cl.other hL.cls rfl (Below.refl _ _) | exact ⟨_, rfl, trivial, Cl.other hL.cls rfl (Below.refl _ _), rfl⟩
  | 4, _, ho =>
   cases ho
   have d3 : ac.tmps.getD 37 undef = .pointer (some ⟨V, 0, none⟩) := hL.new 3 _ 37 rfl (he ⟨3, .data⟩ (by simp) rfl) rfl
   refine wpOp_plain rfl rfl ?_
   unfold Oper.wp
   go_simp
   first | exact Cl.other hL.cls rfl (Below.refl _ _) | exact ⟨_, rfl, trivial, Cl.other hL.cls rfl (Below.refl _ _), rfl⟩
  | 5, _, ho =>
   cases ho
   refine wpOp_plain rfl rfl ?_
   unfold Oper.wp
   go_simp
   first | exact Cl.other hL.cls rfl (Below.refl _ _) | exact ⟨_, rfl, trivial, Cl.other hL.cls rfl (Below.refl _ _), rfl⟩
  | 6, _, ho =>
   cases ho
   have d4 : ac.tmps.getD 38 undef = .slice (some ⟨b, off, none⟩) n cp := hL.new 4 _ 38 rfl (he ⟨4, .data⟩ (by simp) rfl) rfl
   have d5 : ac.tmps.getD 39 undef = .int .i64 (k : Int) := hL.new 5 _ 39 rfl (he ⟨5, .data⟩ (by simp) rfl) rfl
   refine wpOp_plain rfl rfl ?_
   unfold Oper.wp
   go_simp
   first | exact Cl.other hL.cls rfl (Below.refl _ _) | exact ⟨_, rfl, trivial, Cl.other hL.cls rfl (Below.refl _ _), rfl⟩
  | 7, _, ho =>
   cases ho
   have d6 : ac.tmps.getD 40 undef = .pointer (some ⟨b, off + k * 3, none⟩) := hL.new 6 _ 40 rfl (he ⟨6, .data⟩ (by simp) rfl) rfl
   refine wpOp_plain rfl rfl ?_
   unfold Oper.wp
   go_simp
   first | exact Cl.other hL.cls rfl (Below.refl _ _) | exact ⟨_, rfl, trivial, Cl.other hL.cls rfl (Below.refl _ _), rfl⟩
  | 8, _, ho =>
   cases ho
   refine wpOp_plain rfl rfl ?_
   unfold Oper.wp
   go_simp
   first | exact Cl.other hL.cls rfl (Below.refl _ _) | exact ⟨_, rfl, trivial, Cl.other hL.cls rfl (Below.refl _ _), rfl⟩
  | 9, _, ho =>
   cases ho
   have d8 : ac.tmps.getD 42 undef = .pointer (some ⟨V, 0, none⟩) := hL.new 8 _ 42 rfl (he ⟨8, .data⟩ (by simp) rfl) rfl
   refine wpOp_plain rfl rfl ?_
   unfold Oper.wp
   go_simp
   first | exact Cl.other hL.cls rfl (Below.refl _ _) | exact ⟨_, rfl, trivial, Cl.other hL.cls rfl (Below.refl _ _), rfl⟩
  | 10, _, ho =>
   cases ho
   have d9 : ac.tmps.getD 43 undef = .pointer (some ⟨V, 0, none⟩) := hL.new 9 _ 43 rfl (he ⟨9, .data⟩ (by simp) rfl) rfl
   refine wpOp_plain rfl rfl ?_
   unfold Oper.wp
   go_simp
   first | exact Cl.other hL.cls rfl (Below.refl _ _) | exact ⟨_, rfl, trivial, Cl.other hL.cls rfl (Below.refl _ _), rfl⟩
  | 11, _, ho =>
   cases ho
   have d10 : ac.tmps.getD 44 undef = .pointer (some ⟨V, 4, none⟩) := hL.new 10 _ 44 rfl (he ⟨10, .data⟩ (by simp) rfl) rfl
   refine wpOp_plain rfl rfl ?_
   unfold Oper.wp
   go_simp
   first | exact Cl.other hL.cls rfl (Below.refl _ _) | exact ⟨_, rfl, trivial, Cl.other hL.cls rfl (Below.refl _ _), rfl⟩
  | 12, _, ho =>
   cases ho
   have d11 : ac.tmps.getD 45 undef = .pointer (some ⟨V, 6, none⟩) := hL.new 11 _ 45 rfl (he ⟨11, .data⟩ (by simp) rfl) rfl
   refine wpOp_plain rfl rfl ?_
   unfold Oper.wp
   go_simp
   first | exact Cl.other hL.cls rfl (Below.refl _ _) | exact ⟨_, rfl, trivial, Cl.other hL.cls rfl (Below.refl _ _), rfl⟩
  | 13, _, ho =>
   cases ho
   refine wpOp_plain rfl rfl ?_
   unfold Oper.wp
   go_simp
   first | exact Cl.other hL.cls rfl (Below.refl _ _) | exact ⟨_, rfl, trivial, Cl.other hL.cls rfl (Below.refl _ _), rfl⟩
  | 14, _, ho =>
   cases ho
   have d12 : ac.tmps.getD 46 undef = rowV gi n ci := hL.new 12 _ 46 rfl (he ⟨12, .data⟩ (by simp) rfl) rfl
   have d13 : ac.tmps.getD 47 undef = .int .i64 (k : Int) := hL.new 13 _ 47 rfl (he ⟨13, .data⟩ (by simp) rfl) rfl
   refine wpOp_plain rfl rfl ?_
   unfold Oper.wp
   go_simp
   first | exact Cl.other hL.cls rfl (Below.refl _ _) | exact ⟨_, rfl, trivial, Cl.other hL.cls rfl (Below.refl _ _), rfl⟩
  | 15, _, ho =>
   cases ho
   have d14 : ac.tmps.getD 48 undef = .pointer (some ⟨gi, k, none⟩) := hL.new 14 _ 48 rfl (he ⟨14, .data⟩ (by simp) rfl) rfl
   refine wpOp_plain rfl rfl ?_
   unfold Oper.wp
   go_simp
   first | exact Cl.other hL.cls rfl (Below.refl _ _) | exact ⟨_, rfl, trivial, Cl.other hL.cls rfl (Below.refl _ _), rfl⟩
  | 16, _, ho =>
   cases ho
   refine wpOp_plain rfl rfl ?_
   unfold Oper.wp
   go_simp
   first | exact Cl.other hL.cls rfl (Below.refl _ _) | exact ⟨_, rfl, trivial, Cl.other hL.cls rfl (Below.refl _ _), rfl⟩
  | 17, _, ho =>
   cases ho
   have d16 : ac.tmps.getD 50 undef = .pointer (some ⟨V, 0, none⟩) := hL.new 16 _ 50 rfl (he ⟨16, .data⟩ (by simp) rfl) rfl
   refine wpOp_plain rfl rfl ?_
   unfold Oper.wp
   go_simp
   first | exact Cl.other hL.cls rfl (Below.refl _ _) | exact ⟨_, rfl, trivial, Cl.other hL.cls rfl (Below.refl _ _), rfl⟩
  | 18, _, ho =>
   cases ho
   have d17 : ac.tmps.getD 51 undef = .pointer (some ⟨V, 0, none⟩) := hL.new 17 _ 51 rfl (he ⟨17, .data⟩ (by simp) rfl) rfl
   refine wpOp_plain rfl rfl ?_
   unfold Oper.wp
   go_simp
   first | exact Cl.other hL.cls rfl (Below.refl _ _) | exact ⟨_, rfl, trivial, Cl.other hL.cls rfl (Below.refl _ _), rfl⟩
  | 19, _, ho =>
   cases ho
   have d18 : ac.tmps.getD 52 undef = .pointer (some ⟨V, 4, none⟩) := hL.new 18 _ 52 rfl (he ⟨18, .data⟩ (by simp) rfl) rfl
   refine wpOp_plain rfl rfl ?_
   unfold Oper.wp
   go_simp
   first | exact Cl.other hL.cls rfl (Below.refl _ _) | exact ⟨_, rfl, trivial, Cl.other hL.cls rfl (Below.refl _ _), rfl⟩
  | 20, _, ho =>
   cases ho
   have d19 : ac.tmps.getD 53 undef = .pointer (some ⟨V, 4, none⟩) := hL.new 19 _ 53 rfl (he ⟨19, .data⟩ (by simp) rfl) rfl
   refine wpOp_plain rfl rfl ?_
   unfold Oper.wp
   go_simp
   first | exact Cl.other hL.cls rfl (Below.refl _ _) | exact ⟨_, rfl, trivial, Cl.other hL.cls rfl (Below.refl _ _), rfl⟩
  | 21, _, ho =>
   cases ho
   refine wpOp_plain rfl rfl ?_
   unfold Oper.wp
   go_simp
   first | exact Cl.other hL.cls rfl (Below.refl _ _) | exact ⟨_, rfl, trivial, Cl.other hL.cls rfl (Below.refl _ _), rfl⟩
  | 22, _, ho =>
   cases ho
   have d20 : ac.tmps.getD 54 undef = rowV gl n cl := hL.new 20 _ 54 rfl (he ⟨20, .data⟩ (by simp) rfl) rfl
   have d21 : ac.tmps.getD 55 undef = .int .i64 (k : Int) := hL.new 21 _ 55 rfl (he ⟨21, .data⟩ (by simp) rfl) rfl
   refine wpOp_plain rfl rfl ?_
   unfold Oper.wp
   go_simp
   first | exact Cl.other hL.cls rfl (Below.refl _ _) | exact ⟨_, rfl, trivial, Cl.other hL.cls rfl (Below.refl _ _), rfl⟩
  | 23, _, ho =>
   cases ho
   have d22 : ac.tmps.getD 56 undef = .pointer (some ⟨gl, k, none⟩) := hL.new 22 _ 56 rfl (he ⟨22, .data⟩ (by simp) rfl) rfl
   refine wpOp_plain rfl rfl ?_
   unfold Oper.wp
   go_simp
   first | exact Cl.other hL.cls rfl (Below.refl _ _) | exact ⟨_, rfl, trivial, Cl.other hL.cls rfl (Below.refl _ _), rfl⟩
  | 24, _, ho =>
   cases ho
   refine wpOp_plain rfl rfl ?_
   unfold Oper.wp
   go_simp
   first | exact Cl.other hL.cls rfl (Below.refl _ _) | exact ⟨_, rfl, trivial, Cl.other hL.cls rfl (Below.refl _ _), rfl⟩
  | 25, _, ho =>
   cases ho
   have d24 : ac.tmps.getD 58 undef = .pointer (some ⟨w.heap.size, 1, none⟩) := hL.new 24 _ 58 rfl (he ⟨24, .data⟩ (by simp) rfl) rfl
   refine wpOp_plain rfl rfl ?_
   unfold Oper.wp
   go_simp
   first | exact Cl.other hL.cls rfl (Below.refl _ _) | exact ⟨_, rfl, trivial, Cl.other hL.cls rfl (Below.refl _ _), rfl⟩
  | 26, _, ho =>
   cases ho
   have d7 : ac.tmps.getD 41 undef = .agg #[.int .i64 c1, .int .i64 c2, .int .i64 c3] := hL.new 7 _ 41 rfl (he ⟨7, .data⟩ (by simp) rfl) rfl
   have d15 : ac.tmps.getD 49 undef = .bool b0 := hL.new 15 _ 49 rfl (he ⟨15, .data⟩ (by simp) rfl) rfl
   have d23 : ac.tmps.getD 57 undef = .int .i64 l0 := hL.new 23 _ 57 rfl (he ⟨23, .data⟩ (by simp) rfl) rfl
   have d25 : ac.tmps.getD 59 undef = vb := hL.new 25 _ 59 rfl (he ⟨25, .data⟩ (by simp) rfl) rfl
   have x := HT.out W (B1.out.trans (hL.cls.1.mono B1.out.size))
   refine wpOp_plain rfl rfl ?_
   unfold Oper.wp
   go_simp
   refine x.mono ?_
   rintro e w' ⟨rfl, hBn⟩
   exact ⟨rfl, Cl.other (i := 26) (t := 60) hL.cls rfl hBn⟩
  | 27, _, ho =>
   cases ho
   have d26 : ac.tmps.getD 60 undef = .tuple #[.agg #[.int .i64 tl, .int .i64 ts, .int .i64 td, .bool ti, .bool tb, .bool tw], .int .i64 dt, .int .i64 er] := hL.new 26 _ 60 rfl (he ⟨26, .data⟩ (by simp) rfl) rfl
   refine wpOp_plain rfl rfl ?_
   unfold Oper.wp
   go_simp
   first | exact Cl.other hL.cls rfl (Below.refl _ _) | exact ⟨_, rfl, trivial, Cl.other hL.cls rfl (Below.refl _ _), rfl⟩
  | 28, _, ho =>
   cases ho
   have d27 : ac.tmps.getD 33 undef = .tuple #[.agg #[.int .i64 tl, .int .i64 ts, .int .i64 td, .bool ti, .bool tb, .bool tw], .int .i64 dt, .int .i64 er] := hL.new 27 _ 33 rfl (he ⟨27, .data⟩ (by simp) rfl) rfl
   refine wpOp_plain rfl rfl ?_
   unfold Oper.wp
   go_simp
   first | exact Cl.other hL.cls rfl (Below.refl _ _) | exact ⟨_, rfl, trivial, Cl.other hL.cls rfl (Below.refl _ _), rfl⟩
  | 29, _, ho =>
   cases ho
   have d27 : ac.tmps.getD 33 undef = .tuple #[.agg #[.int .i64 tl, .int .i64 ts, .int .i64 td, .bool ti, .bool tb, .bool tw], .int .i64 dt, .int .i64 er] := hL.new 27 _ 33 rfl (he ⟨27, .data⟩ (by simp) rfl) rfl
   refine wpOp_plain rfl rfl ?_
   unfold Oper.wp
   go_simp
   first | exact Cl.other hL.cls rfl (Below.refl _ _) | exact ⟨_, rfl, trivial, Cl.other hL.cls rfl (Below.refl _ _), rfl⟩
  | 30, _, ho =>
   cases ho
   have d27 : ac.tmps.getD 33 undef = .tuple #[.agg #[.int .i64 tl, .int .i64 ts, .int .i64 td, .bool ti, .bool tb, .bool tw], .int .i64 dt, .int .i64 er] := hL.new 27 _ 33 rfl (he ⟨27, .data⟩ (by simp) rfl) rfl
   refine wpOp_plain rfl rfl ?_
   unfold Oper.wp
   go_simp
   first | exact Cl.other hL.cls rfl (Below.refl _ _) | exact ⟨_, rfl, trivial, Cl.other hL.cls rfl (Below.refl _ _), rfl⟩
  | 31, _, ho =>
   cases ho
   have hq : listed.getD 32 false = false := by
    cases hx : listed.getD 32 false with
    | false => rfl
    | true =>
     have h8 := hcl 32 _ rfl hx ⟨31, .data⟩ (by simp) rfl
     simp only [Array.getD_eq_getD_getElem?] at h8 hli
     rw [Array.getElem?_eq_getElem (show 31 < listed.size by rw [hsz]; decide)] at h8 hli
     rw [Option.getD_some] at h8 hli
     rw [h8] at hli; cases hli
   refine wpOp_plain rfl rfl ?_
   unfold Oper.wp
   go_simp
   exact ⟨_, rfl, Cl.alloc (⟨31, 32, 7, .cells #[.int .i64 0, .int .i64 0, .int .i64 0, .bool false, .bool false, .bool false] 30 (0, 0), .cells #[.int .i64 tl, .int .i64 ts, .int .i64 td, .bool ti, .bool tb, .bool tw] 30 (0, 0)⟩ : AS) hL.cls (by simp) (by rw [hL.size]; exact (by decide : (7 : Nat) < 109)) hq (by simp) (by intro e' he hne; simp at he; subst he; exact absurd rfl hne)⟩
  | 32, _, ho =>
   cases ho
   have d28 : ac.tmps.getD 61 undef = .agg #[.int .i64 tl, .int .i64 ts, .int .i64 td, .bool ti, .bool tb, .bool tw] := hL.new 28 _ 61 rfl (he ⟨28, .data⟩ (by simp) rfl) rfl
   have hpp : listed.getD 31 false = true := he ⟨31, .data⟩ (by simp) rfl
   obtain ⟨g, g1, g2, g3, g4⟩ := hL.cls.2.1 (⟨31, 32, 7, .cells #[.int .i64 0, .int .i64 0, .int .i64 0, .bool false, .bool false, .bool false] 30 (0, 0), .cells #[.int .i64 tl, .int .i64 ts, .int .i64 td, .bool ti, .bool tb, .bool tw] 30 (0, 0)⟩ : AS) (by simp) hpp
   have hq : listed.getD 32 false = false := by
    simp only [Array.getD_eq_getD_getElem?] at hli ⊢
    rw [Array.getElem?_eq_getElem (show 32 < listed.size by rw [hsz]; decide)] at hli ⊢
    simpa using hli
   simp only [] at g1 g4
   rw [if_neg (by rw [hq]; simp)] at g4
   have HPU : Aside _ := Cl.store (⟨31, 32, 7, .cells #[.int .i64 0, .int .i64 0, .int .i64 0, .bool false, .bool false, .bool false] 30 (0, 0), .cells #[.int .i64 tl, .int .i64 ts, .int .i64 td, .bool ti, .bool tb, .bool tw] 30 (0, 0)⟩ : AS) hL.cls (by simp) hpp (by rw [hsz]; exact (by decide : (32 : Nat) < 35)) g1 (put6 g4) (by simp) (by intro e' he hne; simp at he; subst he; exact absurd rfl hne)
   have zc0 : W.cell? ⟨g, 0, none⟩ = some (.int .i64 0) := blk_cell g4 rfl
   have zc1 : W.cell? ⟨g, 1, none⟩ = some (.int .i64 0) := blk_cell g4 rfl
   have zc2 : W.cell? ⟨g, 2, none⟩ = some (.int .i64 0) := blk_cell g4 rfl
   have zc3 : W.cell? ⟨g, 3, none⟩ = some (.bool false) := blk_cell g4 rfl
   have zc4 : W.cell? ⟨g, 4, none⟩ = some (.bool false) := blk_cell g4 rfl
   have zc5 : W.cell? ⟨g, 5, none⟩ = some (.bool false) := blk_cell g4 rfl
   have zf : ∀ i, W.frozen? ⟨g, i, none⟩ = false := fun i => blk_free g4 i
   clear g4
   refine wpOp_plain rfl rfl ?_
   unfold Oper.wp
   go_simp
   exact HPU.out
  | 33, _, ho =>
   cases ho
   have d29 : ac.tmps.getD 62 undef = .int .i64 dt := hL.new 29 _ 62 rfl (he ⟨29, .data⟩ (by simp) rfl) rfl
   refine wpOp_plain rfl rfl ?_
   unfold Oper.wp
   go_simp
   first | exact Cl.other hL.cls rfl (Below.refl _ _) | exact ⟨_, rfl, trivial, Cl.other hL.cls rfl (Below.refl _ _), rfl⟩
  | 34, _, ho =>
   cases ho
   have d30 : ac.tmps.getD 63 undef = .int .i64 er := hL.new 30 _ 63 rfl (he ⟨30, .data⟩ (by simp) rfl) rfl
   refine wpOp_plain rfl rfl ?_
   unfold Oper.wp
   go_simp
   first | exact Cl.other hL.cls rfl (Below.refl _ _) | exact ⟨_, rfl, trivial, Cl.other hL.cls rfl (Below.refl _ _), rfl⟩
  | n + 35, hA, _ => simp at hA
 case rest8 =>
  intro ac w2 hL
  have e34 : ac.tmps.getD 34 undef = .pointer (some ⟨V, 0, none⟩) := hL.new 0 _ 34 rfl rfl rfl
  have e35 : ac.tmps.getD 35 undef = .pointer (some ⟨V, 0, none⟩) := hL.new 1 _ 35 rfl rfl rfl
  have e36 : ac.tmps.getD 36 undef = .pointer (some ⟨V, 0, none⟩) := hL.new 2 _ 36 rfl rfl rfl
  have e37 : ac.tmps.getD 37 undef = .pointer (some ⟨V, 0, none⟩) := hL.new 3 _ 37 rfl rfl rfl
  have e38 : ac.tmps.getD 38 undef = .slice (some ⟨b, off, none⟩) n cp := hL.new 4 _ 38 rfl rfl rfl
  have e39 : ac.tmps.getD 39 undef = .int .i64 (k : Int) := hL.new 5 _ 39 rfl rfl rfl
  have e40 : ac.tmps.getD 40 undef = .pointer (some ⟨b, off + k * 3, none⟩) := hL.new 6 _ 40 rfl rfl rfl
  have e41 : ac.tmps.getD 41 undef = .agg #[.int .i64 c1, .int .i64 c2, .int .i64 c3] := hL.new 7 _ 41 rfl rfl rfl
  have e42 : ac.tmps.getD 42 undef = .pointer (some ⟨V, 0, none⟩) := hL.new 8 _ 42 rfl rfl rfl
  have e43 : ac.tmps.getD 43 undef = .pointer (some ⟨V, 0, none⟩) := hL.new 9 _ 43 rfl rfl rfl
  have e44 : ac.tmps.getD 44 undef = .pointer (some ⟨V, 4, none⟩) := hL.new 10 _ 44 rfl rfl rfl
  have e45 : ac.tmps.getD 45 undef = .pointer (some ⟨V, 6, none⟩) := hL.new 11 _ 45 rfl rfl rfl
  have e46 : ac.tmps.getD 46 undef = rowV gi n ci := hL.new 12 _ 46 rfl rfl rfl
  have e47 : ac.tmps.getD 47 undef = .int .i64 (k : Int) := hL.new 13 _ 47 rfl rfl rfl
  have e48 : ac.tmps.getD 48 undef = .pointer (some ⟨gi, k, none⟩) := hL.new 14 _ 48 rfl rfl rfl
  have e49 : ac.tmps.getD 49 undef = .bool b0 := hL.new 15 _ 49 rfl rfl rfl
  have e50 : ac.tmps.getD 50 undef = .pointer (some ⟨V, 0, none⟩) := hL.new 16 _ 50 rfl rfl rfl
  have e51 : ac.tmps.getD 51 undef = .pointer (some ⟨V, 0, none⟩) := hL.new 17 _ 51 rfl rfl rfl
  have e52 : ac.tmps.getD 52 undef = .pointer (some ⟨V, 4, none⟩) := hL.new 18 _ 52 rfl rfl rfl
  have e53 : ac.tmps.getD 53 undef = .pointer (some ⟨V, 4, none⟩) := hL.new 19 _ 53 rfl rfl rfl
  have e54 : ac.tmps.getD 54 undef = rowV gl n cl := hL.new 20 _ 54 rfl rfl rfl
  have e55 : ac.tmps.getD 55 undef = .int .i64 (k : Int) := hL.new 21 _ 55 rfl rfl rfl
  have e56 : ac.tmps.getD 56 undef = .pointer (some ⟨gl, k, none⟩) := hL.new 22 _ 56 rfl rfl rfl
  have e57 : ac.tmps.getD 57 undef = .int .i64 l0 := hL.new 23 _ 57 rfl rfl rfl
  have e58 : ac.tmps.getD 58 undef = .pointer (some ⟨w.heap.size, 1, none⟩) := hL.new 24 _ 58 rfl rfl rfl
  have e59 : ac.tmps.getD 59 undef = vb := hL.new 25 _ 59 rfl rfl rfl
  have e60 : ac.tmps.getD 60 undef = .tuple #[.agg #[.int .i64 tl, .int .i64 ts, .int .i64 td, .bool ti, .bool tb, .bool tw], .int .i64 dt, .int .i64 er] := hL.new 26 _ 60 rfl rfl rfl
  have e33 : ac.tmps.getD 33 undef = .tuple #[.agg #[.int .i64 tl, .int .i64 ts, .int .i64 td, .bool ti, .bool tb, .bool tw], .int .i64 dt, .int .i64 er] := hL.new 27 _ 33 rfl rfl rfl
  have e61 : ac.tmps.getD 61 undef = .agg #[.int .i64 tl, .int .i64 ts, .int .i64 td, .bool ti, .bool tb, .bool tw] := hL.new 28 _ 61 rfl rfl rfl
  have e62 : ac.tmps.getD 62 undef = .int .i64 dt := hL.new 29 _ 62 rfl rfl rfl
  have e63 : ac.tmps.getD 63 undef = .int .i64 er := hL.new 30 _ 63 rfl rfl rfl
  obtain ⟨R, e7, n7, l7, z7⟩ := hL.cls.2.1 (⟨31, 32, 7, .cells #[.int .i64 0, .int .i64 0, .int .i64 0, .bool false, .bool false, .bool false] 30 (0, 0), .cells #[.int .i64 tl, .int .i64 ts, .int .i64 td, .bool ti, .bool tb, .bool tw] 30 (0, 0)⟩ : AS) (by simp) rfl
  simp only [] at e7
  change w2.heap[R]? = some (.cells #[.int .i64 tl, .int .i64 ts, .int .i64 td, .bool ti, .bool tb, .bool tw] 30 (0, 0)) at z7
  have e4 : ac.tmps.getD 4 undef = .int .i64 dt := hL.new 33 _ 4 rfl rfl rfl
  have e5 : ac.tmps.getD 5 undef = .int .i64 er := hL.new 34 _ 5 rfl rfl rfl
  have HCL : Aside (Cl w1 [(⟨31, 32, 7, .cells #[.int .i64 0, .int .i64 0, .int .i64 0, .bool false, .bool false, .bool false] 30 (0, 0), .cells #[.int .i64 tl, .int .i64 ts, .int .i64 td, .bool ti, .bool tb, .bool tw] 30 (0, 0)⟩ : AS)] _ ac w2) := hL.cls
  have es := hL.sets [34, 35, 36, 37, 38, 39, 40, 41, 42, 43, 44, 45, 46, 47, 48, 49, 50, 51, 52, 53, 54, 55, 56, 57, 58, 59, 60, 33, 61, 62, 63, 7, 4, 5] (by decide +kernel)
  rw [List.foldl_cons, List.foldl_cons, List.foldl_cons, List.foldl_cons, List.foldl_cons, List.foldl_cons, List.foldl_cons, List.foldl_cons, List.foldl_cons, List.foldl_cons, List.foldl_cons, List.foldl_cons, List.foldl_cons, List.foldl_cons, List.foldl_cons, List.foldl_cons, List.foldl_cons, List.foldl_cons, List.foldl_cons, List.foldl_cons, List.foldl_cons, List.foldl_cons, List.foldl_cons, List.foldl_cons, List.foldl_cons, List.foldl_cons, List.foldl_cons, List.foldl_cons, List.foldl_cons, List.foldl_cons, List.foldl_cons, List.foldl_cons, List.foldl_cons, List.foldl_cons, List.foldl_nil, e34, e35, e36, e37, e38, e39, e40, e41, e42, e43, e44, e45, e46, e47, e48, e49, e50, e51, e52, e53, e54, e55, e56, e57, e58, e59, e60, e33, e61, e62, e63, e7, e4, e5] at es
  have BN : Below w1.heap.size w1 w2 := hL.cls.1
  rw [es]
  clear es hL e34 e35 e36 e37 e38 e39 e40 e41 e42 e43 e44 e45 e46 e47 e48 e49 e50 e51 e52 e53 e54 e55 e56 e57 e58 e59 e60 e33 e61 e62 e63 e7 e4 e5
  refine wpAny_done (by decide +kernel) ?_ _
  simp only [List.setIfInBounds_toArray, List.set_cons_zero, List.set_cons_succ]
  have HR : Aside (w1.heap.size ≤ R ∧ w2.heap[R]? = some (.cells #[.int .i64 tl, .int .i64 ts, .int .i64 td, .bool ti, .bool tb, .bool tw] 30 (0, 0))) := ⟨n7, z7⟩
  have B2 : Aside (Below w.heap.size w w2) := B1.out.trans (BN.mono B1.out.size)
  have SZ : Aside (w.heap.size ≤ w1.heap.size) := B1.out.size
  clear z7 l7 n7 BN HCL q0 q1 q2 ql qi qv c0 c4 c6 HT B1 hV1 hV
  by_cases he : er = 0
  ·subst he
   have HL2 : Aside (LegW w2 V gl gd gi M cl cd ci nn (.slice (some ⟨b, off, none⟩) r.counts.length cp) vw D r g) := HL.out.below B2.out
   have hnr := HH.out.1
   have g0 := blk_cell HR.out.2 (i := 0) rfl
   have g2 := blk_cell HR.out.2 (i := 2) rfl
   have g3 := blk_cell HR.out.2 (i := 3) rfl
   have g5 := blk_cell HR.out.2 (i := 5) rfl
   have c4 : w2.cell? ⟨V, 4, none⟩ = some (rowV gl n cl) := by rw [← hnr]; exact blk_cell HL2.out.blk rfl
   have c5 : w2.cell? ⟨V, 5, none⟩ = some (rowV gd n cd) := by rw [← hnr]; exact blk_cell HL2.out.blk rfl
   have c6 : w2.cell? ⟨V, 6, none⟩ = some (rowV gi n ci) := by rw [← hnr]; exact blk_cell HL2.out.blk rfl
   have hd1 := HL2.out.d1
   have hd2 := HL2.out.d2
   have hd3 := HL2.out.d3
   simp only [List.mem_cons, List.not_mem_nil, or_false, not_or] at hd1 hd2 hd3
   have hRs : R ≠ gl ∧ R ≠ gd ∧ R ≠ gi ∧ R ≠ V ∧ R ≠ M := by
    have h1 := HR.out.1
    have h2 := SZ.out
    have a1 := HL.out.left.lt
    have a2 := HL.out.darts.lt
    have a3 := HL.out.inn.lt
    have a4 := HL.out.own.lt
    have a5 := (Array.getElem?_eq_some_iff.1 HL.out.blk).1
    omega
   obtain ⟨rx1, rx2, rx3, rx4, rx5⟩ := hRs
   obtain ⟨dx1, dx2, dx3, dx4⟩ := hd1
   obtain ⟨ex1, ex2, ex3⟩ := hd2
   obtain ⟨fx1, fx2⟩ := hd3
   have hkk : k < n := by omega
   have ql : w2.cell? ⟨gl, k, none⟩ = some (.int .i64 l0) := HL2.out.left.cell (by rw [List.getElem?_map, HH.out.2.2.2.2.2.2]; rfl)
   obtain ⟨b9, hb9⟩ : ∃ x, g.inn[k]? = some x := ⟨_, List.getElem?_eq_getElem (by rw [HL2.out.l3, hnr]; exact hkk)⟩
   have qi : w2.cell? ⟨gi, k, none⟩ = some (.bool b9) := HL2.out.inn.cell (by rw [List.getElem?_map, hb9]; rfl)
   have fl := HL2.out.left.free k
   have fi := HL2.out.inn.free k
   clear hb9
   have hkr : k < r.counts.length := by rw [hnr]; exact hkk
   have HT3 : Aside (takeG r g (k : Int) bs = (passG r (hitG g k ⟨tl, ts, td, ti, tb, tw⟩), -1, 0)) := by
    show _ = _
    rw [HTK.out, if_pos rfl]
   have FIN : Aside (∀ W nn' D', LegW W V gl gd gi M cl cd ci nn' (.slice (some ⟨b, off, none⟩) r.counts.length cp) vw D' r (hitG g k ⟨tl, ts, td, ti, tb, tw⟩) → nn' ≤ nn + 1 → Outs [V, gl, gd, gi, M] w W → Calls Try.prog 76 #[.pointer (some ⟨V, 0, none⟩)] W (fun e w' => (∃ v, e = .returned v) ∧ TakeG V gl gd gi M cl cd ci nn (.slice (some ⟨b, off, none⟩) r.counts.length cp) vw r g (k : Int) bs w (.returned (.tuple #[.int .i64 (-1), .int .i64 0])) w')) := by
    intro W nn' D' hW hnn' hO
    obtain ⟨hr, hg, hi, hnn⟩ := HRG.out
    obtain ⟨t0, t1, t2, t3⟩ := HBD.out
    have hgk := hitG_ok (t := ⟨tl, ts, td, ti, tb, tw⟩) hg hkr t0 t1 t2 t3
    have hnx := hgk.next (show (hitG g k _).over = false from HH.out.2.2.1)
    have h8 := hr.n8
    have hro := hgk.r1
    have hel : (hitG g k ⟨tl, ts, td, ti, tb, tw⟩).ended.length ≤ r.counts.length := by
     have := nodup_bd r.counts.length _ hW.rep.nodup (fun x hx => by obtain ⟨q, hq, rfl⟩ := List.mem_map.1 hx; exact hgk.ended q hq)
     simpa using this
    refine (pass_any W hW hr.ne (by omega) (by omega) (fun x hx => by have := hgk.left x hx; omega) hnx.1 (by have := hnx.2; omega) hgk.r0 (by omega)).mono ?_
    rintro e w' ⟨hv, hOn, vw', hvw, hL'⟩
    refine ⟨hv, ?_⟩
    unfold TakeG
    rw [HT3.out]
    exact ⟨rfl, hO.trans (hOn.outs (by simp)), nn', vw', D', hnn', hvw.imp (fun h => ⟨h.1, h.2⟩) (fun h b o n c e => Nat.le_trans hO.size (h b o n c e)), hL'⟩
   have e3 : IntKind.i64.wrap (d0 + td) = d0 + td := IntWalk.i64_in _ (by
    obtain ⟨t0, t1, t2, t3⟩ := HBD.out
    have := HH.out.2.2.2.2.1
    have := HH.out.2.2.2.2.2.1
    simp only [] at t2 t3
    omega)
   have HDK : Aside (g.darts.getD k 0 = d0) := by show _ = _; rw [List.getD_eq_getElem?_getD, HH.out.2.2.2.1]; rfl
   have HDG : Aside (g.darts[k]? = some d0) := HH.out.2.2.2.1
   have HNN : Aside (nn < 1000000) := HRG.out.2.2.2
   have HTD : Aside (-9223372036854775808 ≤ td ∧ td ≤ 9223372036854775807) := by
    obtain ⟨t0, t1, t2, t3⟩ := HBD.out
    simp only [] at t2 t3
    exact ⟨by omega, by omega⟩
   have RB : Aside (w2.heap[R]? = some (.cells #[.int .i64 tl, .int .i64 ts, .int .i64 td, .bool ti, .bool tb, .bool tw] 30 (0, 0))) := HR.out.2
   have HKR : Aside (k < r.counts.length) := hkr
   have HNR : Aside (r.counts.length = n) := hnr
   have hVV : V < w2.heap.size := (Array.getElem?_eq_some_iff.1 HL2.out.blk).1
   clear HTK HBD HRG HH HL SZ HR hkr hnr HT3
   go_wp2_with fail
   clear g2 g5 c5
   go_region
   obtain ⟨w3, hw3⟩ : ∃ u, u = ((w2.setCell ⟨gl, k, none⟩ (.int .i64 tl)).setCell ⟨gi, k, none⟩ (.bool ti)).drew := ⟨_, rfl⟩
   have HL3 : Aside (LegW w3 V gl gd gi M cl cd ci nn (.slice (some ⟨b, off, none⟩) r.counts.length cp) vw D r { g with left := g.left.set k tl, inn := g.inn.set k ti }) := by rw [hw3]; exact ((HL2.out.setL k tl HKR.out).setI k ti HKR.out).below ((Below.refl _ _).drew)
   have O3 : Aside (Outs [V, gl, gd, gi, M] w w3) := by rw [hw3]; exact (((Outs.of_below B2.out).trans (Outs.set (by simp) _ _ _)).trans (Outs.set (by simp) _ _ _)).trans (Outs.of_below ((Below.refl _ _).drew))
   have R3 : Aside (w3.heap[R]? = some (.cells #[.int .i64 tl, .int .i64 ts, .int .i64 td, .bool ti, .bool tb, .bool tw] 30 (0, 0))) := by
    rw [hw3]
    exact (Below.heap_setCell _ _ _ _ rx3).trans ((Below.heap_setCell _ _ _ _ rx1).trans RB.out)
   rw [← hw3]
   clear hw3 g0 g3 c4 c6 ql qi fl fi B2 RB HL2 hVV
   have k5 : w3.cell? ⟨V, 5, none⟩ = some (rowV gd n cd) := by rw [← HNR.out]; exact blk_cell HL3.out.blk rfl
   have kd : w3.cell? ⟨gd, k, none⟩ = some (.int .i64 d0) := HL3.out.darts.cell (by rw [List.getElem?_map, HDG.out]; rfl)
   have kr : w3.cell? ⟨R, 2, none⟩ = some (.int .i64 td) := blk_cell R3.out rfl
   have MC : Aside (∀ w', Below w3.heap.size w3 w' → (Below w3.heap.size w3 w' ∧ w'.cell? ⟨V, 5, none⟩ = some (rowV gd n cd) ∧ w'.cell? ⟨gd, k, none⟩ = some (.int .i64 d0) ∧ w'.cell? ⟨R, 2, none⟩ = some (.int .i64 td))) := fun w' hB => ⟨hB, keepc hB k5, keepc hB kd, keepc hB kr⟩
   clear k5 kd kr
   go_wp2_with fail
   refine region_tail 12 (fun w' => Below w3.heap.size w3 w' ∧ w'.cell? ⟨V, 5, none⟩ = some (rowV gd n cd) ∧ w'.cell? ⟨gd, k, none⟩ = some (.int .i64 d0) ∧ w'.cell? ⟨R, 2, none⟩ = some (.int .i64 td)) 14 (by kernel_rfl) (by decide +kernel) (MC.out _ ((Below.refl _ _).drew)) ?_
   simp only [List.take_succ_cons, List.take_zero]
   iterate 12 (first | go_big_quiet_skip | (go_big_quiet_want; unfold Oper.quiet; apply Exists.intro; refine ⟨fun W hW => ?_, ?_⟩; (go_split_ands; unfold Oper.quietAt; go_simp; first | rfl | exact ⟨rfl, rfl⟩ | fail); go_big_quiet_on; (try simp only [Act.put, List.setIfInBounds_toArray, List.set_cons_zero, List.set_cons_succ])))
   refine wpQuiet_nil ?_
   intro wb hwb
   have bb : Below w3.heap.size w3 wb := hwb.1
   clear hwb MC
   have HLb : Aside (LegW wb V gl gd gi M cl cd ci nn (.slice (some ⟨b, off, none⟩) r.counts.length cp) vw D r { g with left := g.left.set k tl, inn := g.inn.set k ti }) := HL3.out.below bb
   have Rb : Aside (wb.heap[R]? = some (.cells #[.int .i64 tl, .int .i64 ts, .int .i64 td, .bool ti, .bool tb, .bool tw] 30 (0, 0))) := (bb.block R (Array.getElem?_eq_some_iff.1 R3.out).1).trans R3.out
   have Ob : Aside (Outs [V, gl, gd, gi, M] w wb) := O3.out.bel bb
   have kd : wb.cell? ⟨gd, k, none⟩ = some (.int .i64 d0) := HLb.out.darts.cell (by rw [List.getElem?_map, HDG.out]; rfl)
   have fd := HLb.out.darts.free k
   clear bb HL3 R3 O3
   refine wpAny_one (i := 12) (by decide +kernel) rfl rfl ?_
   unfold Oper.wp
   go_simp
   refine wpAny_done (by decide +kernel) ?_ _
   obtain ⟨w4, hw4⟩ : ∃ u, u = wb.setCell ⟨gd, k, none⟩ (.int .i64 (d0 + td)) := ⟨_, rfl⟩
   have HL4 : Aside (LegW w4 V gl gd gi M cl cd ci nn (.slice (some ⟨b, off, none⟩) r.counts.length cp) vw D r { g with left := g.left.set k tl, inn := g.inn.set k ti, darts := g.darts.set k (d0 + td) }) := by rw [hw4]; exact HLb.out.setD k _ HKR.out
   have R4 : Aside (w4.heap[R]? = some (.cells #[.int .i64 tl, .int .i64 ts, .int .i64 td, .bool ti, .bool tb, .bool tw] 30 (0, 0))) := by rw [hw4]; exact (Below.heap_setCell _ _ _ _ rx2).trans Rb.out
   have O4 : Aside (Outs [V, gl, gd, gi, M] w w4) := by rw [hw4]; exact Ob.out.trans (Outs.set (by simp) _ _ _)
   rw [← hw4]
   clear hw4 HLb Rb Ob kd fd e3
   have k5 : w4.cell? ⟨R, 5, none⟩ = some (.bool tw) := blk_cell R4.out rfl
   cases tw with
   | false =>
    have HL5 : Aside (LegW w4 V gl gd gi M cl cd ci nn (.slice (some ⟨b, off, none⟩) r.counts.length cp) vw D r (hitG g k ⟨tl, ts, td, ti, tb, false⟩)) := by
     have := HL4.out
     unfold hitG
     rw [HDK.out]
     exact this
    have x5 := FIN.out w4 nn D HL5.out (by omega) O4.out
    clear HL4 O4 R4 FIN
    go_wp2_with fail
    refine x5.mono ?_
    rintro e w5 ⟨⟨v5, rfl⟩, ht5⟩
    have HF5 : Aside _ := ht5
    go_wp2_with fail
    refine bodyPost_ret (v := .tuple #[.int .i64 (-1), .int .i64 0]) (by simp [results, Try.results53, go_sem]) rfl HF5.out
   | true =>
    have k2 : w4.cell? ⟨R, 2, none⟩ = some (.int .i64 td) := blk_cell R4.out rfl
    have k11 : w4.cell? ⟨V, 11, none⟩ = some (.map (some M)) := blk_cell HL4.out.blk rfl
    have MC : Aside (∀ w', Below w4.heap.size w4 w' → (Below w4.heap.size w4 w' ∧ w'.cell? ⟨V, 11, none⟩ = some (.map (some M)) ∧ w'.cell? ⟨R, 2, none⟩ = some (.int .i64 td))) := fun w' hB => ⟨hB, keepc hB k11, keepc hB k2⟩
    clear k2 k11
    go_wp2_with fail
    refine region_tail 7 (fun w' => Below w4.heap.size w4 w' ∧ w'.cell? ⟨V, 11, none⟩ = some (.map (some M)) ∧ w'.cell? ⟨R, 2, none⟩ = some (.int .i64 td)) 14 (by kernel_rfl) (by decide +kernel) (MC.out _ ((Below.refl _ _).drew)) ?_
    simp only [List.take_succ_cons, List.take_zero]
    iterate 7 (first | go_big_quiet_skip | (go_big_quiet_want; unfold Oper.quiet; apply Exists.intro; refine ⟨fun W hW => ?_, ?_⟩; (go_split_ands; unfold Oper.quietAt; go_simp; first | rfl | exact ⟨rfl, rfl⟩ | fail); go_big_quiet_on; (try simp only [Act.put, List.setIfInBounds_toArray, List.set_cons_zero, List.set_cons_succ])))
    refine wpQuiet_nil ?_
    intro wc hwc
    have bc : Below w4.heap.size w4 wc := hwc.1
    clear hwc MC
    have HLc : Aside (LegW wc V gl gd gi M cl cd ci nn (.slice (some ⟨b, off, none⟩) r.counts.length cp) vw D r { g with left := g.left.set k tl, inn := g.inn.set k ti, darts := g.darts.set k (d0 + td) }) := HL4.out.below bc
    have Oc : Aside (Outs [V, gl, gd, gi, M] w wc) := O4.out.bel bc
    clear bc HL4 O4 R4 k5
    refine wpAny_one (i := 7) (by decide +kernel) rfl rfl ?_
    have hwf : (Lit.int .i64 td).wf = true := WalkArith.wf_i64 HTD.out
    have hkey : keyOf Try.prog 3 (.int .i64 (k : Int)) = some (.int .i64 (k : Int)) := Maps.keyOf_int_mk Try.underlying3 (WalkArith.wf_i64 (by omega))
    refine wp_mapUpdate_own wc _ _ _ 116 rfl 3 3 int_k Try.underlying116 (plainElem (H := Unit) Try.prog 3) M nn D rfl HLc.out.own (by have := HNN.out; unfold maxLen; omega) (.int .i64 (k : Int)) (.int .i64 td) (.int .i64 (k : Int)) rfl rfl hkey (.lit (.int .i64 td)) [] (plainElem_int Try.underlying3 hwf) ?_
    intro w5 hown5 hgrow5
    have HL5 : Aside (LegW w5 V gl gd gi M cl cd ci (nn + 1) (.slice (some ⟨b, off, none⟩) r.counts.length cp) vw (D.put (.int .i64 (k : Int)) (.lit (.int .i64 td))) r (hitG g k ⟨tl, ts, td, ti, tb, true⟩)) := by
     have := HLc.out.setM hgrow5 hown5 (HLc.out.rep.putA (k : Int) td)
     unfold hitG
     rw [HDK.out]
     exact this
    have O5 : Aside (Outs [V, gl, gd, gi, M] w w5) := Oc.out.trans (Outs.grown hgrow5 (by simp))
    have x5 := FIN.out w5 (nn + 1) _ HL5.out (by omega) O5.out
    clear HLc Oc hown5 hgrow5 FIN HL5 O5
    refine wpAny_done (by decide +kernel) ?_ _
    simp only [Act.put]
    go_wp2_with fail
    refine x5.mono ?_
    rintro e w6 ⟨⟨v5, rfl⟩, ht5⟩
    have HF5 : Aside _ := ht5
    go_wp2_with fail
    refine bodyPost_ret (v := .tuple #[.int .i64 (-1), .int .i64 0]) (by simp [results, Try.results53, go_sem]) rfl HF5.out
  ·have HE : Aside (¬ er = 0) := he
   go_wp2_with fail
   refine bodyPost_ret (v := .tuple #[.int .i64 dt, .int .i64 er]) (by simp [results, Try.results53, go_sem]) rfl ?_
   have ht := HTK.out
   rw [if_neg HE.out] at ht
   exact takeG_same HL.out B2.out ht
end
end Go.Proofs.Ytnhjoebdmmelaaa
