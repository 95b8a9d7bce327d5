/- Leg: parts Ee, Hi, Bh, Bj, Bk. -/
import Derived.BigQuiet
import Derived.Deep.DeepCutAuto
import Derived.Test.YtgmlcgifagbjmaaRows
import Derived.WalkKit
import Derived.ProofKit
import Derived.OpenShut
import Derived.ShutString
import Derived.ChangeOld
import Derived.Below
import Derived.Lib.SmallJoins
import Derived.Deep.SlicePairs
import Derived.Deep.Slices
import Derived.Test.YtgmlcgifagbjmaaPbc
import Derived.Test.YtgmlcgifagbjmaaPba
import Derived.Test.YtgmlcgifagbjmaaPaa
import Derived.Test.YtgmlcgifagbjmaaPai
import Derived.Test.YtgmlcgifagbjmaaPao
set_option linter.unusedVariables false
set_option linter.unusedSimpArgs false
namespace Go.Proofs.Ytgmlcgifagbjmaa
section
open Go.RowKit Go.Maps Go.Sort Go.Shelf Go.Deep
set_option maxRecDepth 100000 in
set_option maxHeartbeats 4000000 in
theorem unch_any (lv lq : List (Int × Value × List Int)) (v u : Value) (w : World) (hv : Sl w 2 encV v lv) (hu : Sl w 2 encV u lq) (hbv : ∀ x ∈ lv, Sl w 1 eI x.2.1 x.2.2) (hbu : ∀ x ∈ lq, Sl w 1 eI x.2.1 x.2.2) (he : lv.map prV = lq.map prV) :
  Calls Try.prog 23 #[v, u] w (Ret (.bool true) w) := by
 obtain ⟨a, cp, rfl, hl, hs⟩ := hv
 obtain ⟨a2, cp2, rfl, hl2, hs2⟩ := hu
 obtain ⟨m, hm⟩ : ∃ m, lv.length = m := ⟨_, rfl⟩
 have hm2 : lq.length = m := by have := congrArg List.length he; rw [List.length_map, List.length_map] at this; omega
 have HN : Aside (lv.length = m) := hm
 have HF : Aside (∀ k, k < m → ∃ B off B2 off2 p n a3 c3 a4 c4, ∃ bs : List Int, a = some ⟨B, off, none⟩ ∧ a2 = some ⟨B2, off2, none⟩ ∧ bs.length = n ∧ n ≤ 9223372036854775807 ∧ w.cell? ⟨B, off + k * 2, none⟩ = some (.int .i64 p) ∧ w.cell? ⟨B2, off2 + k * 2, none⟩ = some (.int .i64 p) ∧ w.cell? ⟨B, off + k * 2 + 1, none⟩ = some (.slice a3 n c3) ∧ w.cell? ⟨B2, off2 + k * 2 + 1, none⟩ = some (.slice a4 n c4) ∧ ∀ j, j < n → ∃ b3 o3 b4 o4 x, a3 = some ⟨b3, o3, none⟩ ∧ a4 = some ⟨b4, o4, none⟩ ∧ w.cell? ⟨b3, o3 + j, none⟩ = some (.int .i64 x) ∧ w.cell? ⟨b4, o4 + j, none⟩ = some (.int .i64 x)) := by
  intro k hk
  obtain ⟨x, hx⟩ : ∃ x, lv[k]? = some x := ⟨_, List.getElem?_eq_getElem (by omega)⟩
  obtain ⟨y, hy⟩ : ∃ x, lq[k]? = some x := ⟨_, List.getElem?_eq_getElem (by omega)⟩
  have hxy : prV x = prV y := by
   have h1 : (lv.map prV)[k]? = some (prV x) := by rw [List.getElem?_map, hx]; rfl
   rw [he, List.getElem?_map, hy] at h1
   exact (Option.some.inj h1).symm
  obtain ⟨p, v1, bs⟩ := x
  obtain ⟨p', v2, bs'⟩ := y
  unfold prV at hxy
  simp only [Prod.mk.injEq] at hxy
  obtain ⟨rfl, rfl⟩ := hxy
  obtain ⟨B, off, e1, _, hc⟩ := hs (by intro e; rw [e] at hx; simp at hx)
  obtain ⟨B2, off2, e2, _, hc2⟩ := hs2 (by intro e; rw [e] at hy; simp at hy)
  obtain ⟨a3, c3, e3, hl3, h3⟩ := hbv _ (List.mem_of_getElem? hx)
  obtain ⟨a4, c4, e4, hl4, h4⟩ := hbu _ (List.mem_of_getElem? hy)
  simp only [] at e3 e4 h3 h4 hl3
  refine ⟨B, off, B2, off2, p, bs.length, a3, c3, a4, c4, bs, e1, e2, rfl, hl3, ?_, ?_, ?_, ?_, ?_⟩
  ·have := hc k _ hx 0 (.int .i64 p) rfl; simpa using this
  ·have := hc2 k _ hy 0 (.int .i64 p) rfl; simpa using this
  ·have := hc k _ hx 1 v1 rfl; rw [← e3]; simpa using this
  ·have := hc2 k _ hy 1 v2 rfl; rw [← e4]; simpa using this
  ·intro j hj
   obtain ⟨z, hz⟩ : ∃ x, bs[j]? = some x := ⟨_, List.getElem?_eq_getElem hj⟩
   have hne : bs ≠ [] := by intro e; rw [e] at hz; simp at hz
   obtain ⟨b3, o3, f3, _, g3⟩ := h3 hne
   obtain ⟨b4, o4, f4, _, g4⟩ := h4 hne
   refine ⟨b3, o3, b4, o4, z, f3, f4, ?_, ?_⟩
   ·have := g3 j z hz 0 _ rfl; simpa using this
   ·have := g4 j z hz 0 _ rfl; simpa using this
 rw [hm] at hl ⊢
 rw [hm2] at hl2 ⊢
 clear hs hs2 hm hm2 hbv hbu he HN
 go_enter Try.func23, Try.ntmps23
 go_wp2_with fail
 go_loopg [5, 6] m (fun gg i i6 wr => ∃ k : Nat, k ≤ m ∧ m - k ≤ gg ∧ i = .int .i64 k ∧ Aside (Below w.heap.size w wr))
 case atStart => exact ⟨0, Nat.zero_le _, by omega, rfl, Below.refl _ _⟩
 case round =>
  obtain ⟨k, hk, hg, rfl, HB⟩ := hrel
  by_cases hlt : k < m
  ·have hltz : (k : Int) < (m : Int) := by omega
   obtain ⟨B, off, B2, off2, p, n, a3, c3, a4, c4, bs, rfl, rfl, hbn, hn63, k0, k1, k2, k3, hin⟩ := HF.out k hlt
   have HIN : Aside (∀ j, j < n → ∃ b3 o3 b4 o4 x, a3 = some ⟨b3, o3, none⟩ ∧ a4 = some ⟨b4, o4, none⟩ ∧ w.cell? ⟨b3, o3 + j, none⟩ = some (.int .i64 x) ∧ w.cell? ⟨b4, o4 + j, none⟩ = some (.int .i64 x)) := hin
   clear hin hbn bs
   have KW : Aside (w.cell? ⟨B, off + k * 2 + 1, none⟩ = some (.slice a3 n c3) ∧ w.cell? ⟨B2, off2 + k * 2 + 1, none⟩ = some (.slice a4 n c4)) := ⟨k2, k3⟩
   have MC : Aside (∀ w', Below wr.heap.size wr w' → (Below wr.heap.size wr w' ∧ w'.cell? ⟨B, off + k * 2, none⟩ = some (.int .i64 p) ∧ w'.cell? ⟨B2, off2 + k * 2, none⟩ = some (.int .i64 p) ∧ w'.cell? ⟨B, off + k * 2 + 1, none⟩ = some (.slice a3 n c3) ∧ w'.cell? ⟨B2, off2 + k * 2 + 1, none⟩ = some (.slice a4 n c4))) := fun w' hB => ⟨hB, keepc hB (keepc HB.out k0), keepc hB (keepc HB.out k1), keepc hB (keepc HB.out k2), keepc hB (keepc HB.out k3)⟩
   clear k0 k1 k2 k3
   go_wp2_with fail
   refine region_class (fun w' => Below wr.heap.size wr w' ∧ w'.cell? ⟨B, off + k * 2, none⟩ = some (.int .i64 p) ∧ w'.cell? ⟨B2, off2 + k * 2, none⟩ = some (.int .i64 p) ∧ w'.cell? ⟨B, off + k * 2 + 1, none⟩ = some (.slice a3 n c3) ∧ w'.cell? ⟨B2, off2 + k * 2 + 1, none⟩ = some (.slice a4 n c4)) (by kernel_rfl) (by kernel_rfl) (MC.out _ ((Below.refl _ _).drew)) ?_
   iterate 26 (first | go_big_quiet_skip | (go_big_quiet_want; unfold Oper.quiet; apply Exists.intro; refine ⟨fun W hW => ?_, ?_⟩; (go_split_ands; unfold Oper.quietAt; go_simp; first | rfl | exact ⟨rfl, rfl⟩ | fail); go_big_quiet_on; (try simp only [Act.put, List.setIfInBounds_toArray, List.set_cons_zero, List.set_cons_succ])))
   refine wpQuiet_nil ?_
   intro wb hwb
   have HBB : Aside (Below w.heap.size w wb) := HB.out.trans (hwb.1.mono HB.out.size)
   clear hwb MC HB
   go_wp2_with fail
   go_loopg [6] n (fun gg i ws => ∃ j : Nat, j ≤ n ∧ n - j ≤ gg ∧ i = .int .i64 j ∧ Aside (Below w.heap.size w ws))
   case atStart => exact ⟨0, Nat.zero_le _, by omega, rfl, HBB.out⟩
   case round =>
    clear HBB
    obtain ⟨j, hj, hgj, rfl, HJ⟩ := hrel
    have s2 := keepc HJ.out KW.out.1
    have s3 := keepc HJ.out KW.out.2
    by_cases hltj : j < n
    ·have hltzj : (j : Int) < (n : Int) := by omega
     obtain ⟨b3, o3, b4, o4, x, rfl, rfl, c0, c1⟩ := HIN.out j hltj
     have M2 : Aside (∀ w', Below w.heap.size w w' → (Below w.heap.size w w' ∧ w'.cell? ⟨B, off + k * 2 + 1, none⟩ = some (.slice (some ⟨b3, o3, none⟩) n c3) ∧ w'.cell? ⟨B2, off2 + k * 2 + 1, none⟩ = some (.slice (some ⟨b4, o4, none⟩) n c4) ∧ w'.cell? ⟨b3, o3 + j, none⟩ = some (.int .i64 x) ∧ w'.cell? ⟨b4, o4 + j, none⟩ = some (.int .i64 x))) := fun w' hB => ⟨hB, keepc hB KW.out.1, keepc hB KW.out.2, keepc hB c0, keepc hB c1⟩
     clear c0 c1
     go_wp2_with fail
     clear s2 s3
     refine region_class (fun w' => Below w.heap.size w w' ∧ w'.cell? ⟨B, off + k * 2 + 1, none⟩ = some (.slice (some ⟨b3, o3, none⟩) n c3) ∧ w'.cell? ⟨B2, off2 + k * 2 + 1, none⟩ = some (.slice (some ⟨b4, o4, none⟩) n c4) ∧ w'.cell? ⟨b3, o3 + j, none⟩ = some (.int .i64 x) ∧ w'.cell? ⟨b4, o4 + j, none⟩ = some (.int .i64 x)) (by kernel_rfl) (by kernel_rfl) (M2.out _ HJ.out.drew) ?_
     iterate 17 (first | go_big_quiet_skip | (go_big_quiet_want; unfold Oper.quiet; apply Exists.intro; refine ⟨fun W hW => ?_, ?_⟩; (go_split_ands; unfold Oper.quietAt; go_simp; first | rfl | exact ⟨rfl, rfl⟩ | fail); go_big_quiet_on; (try simp only [Act.put, List.setIfInBounds_toArray, List.set_cons_zero, List.set_cons_succ])))
     refine wpQuiet_nil ?_
     intro wc hwc
     have HC : Aside (Below w.heap.size w wc) := hwc.1
     clear hwc M2 HJ
     go_wp2_with fail
     go_roundg (n - (j + 1))
     case measure => omega
     case rel => exact ⟨j + 1, by omega, by omega, by go_num, HC.out⟩
    ·have hltzj : ¬ (j : Int) < (n : Int) := by omega
     have hje : j = n := by omega
     subst hje
     go_wp2_with fail
     go_roundg (m - (k + 1))
     case measure => omega
     case rel => exact ⟨k + 1, by omega, by omega, by go_num, HJ.out⟩
  ·have hltz : ¬ (k : Int) < (m : Int) := by omega
   go_wp2
   go_ret
   exact ⟨rfl, HB.out⟩
end
section
open Go.RowKit Go.Maps Go.Sort Go.Shelf Go.Deep
theorem play_ok {r : LegR} {l : List (Int × List Int)} {w w' : World} {e : Ending} (h : PlayOk r l w e w') : RPlayOk r l w e w' := by
 obtain ⟨hB, vs, he, h⟩ := h
 refine ⟨hB, vs, he, ?_⟩
 unfold playS
 cases hp : playG r l with
 | none => rw [hp] at h; simp only [] at h; rw [h]; exact sameZ_at _
 | some g =>
  rw [hp] at h
  obtain ⟨vl, vd, vi, vw, e, h1, h2, h3, h4, _⟩ := h
  exact ⟨vl, vd, vi, vw, e, h1, h2, h3, h4⟩
theorem SameAt.below {w w' : World} {v : Value} {g : SameL} (h : SameAt w v g) (hB : Below w.heap.size w w') : SameAt w' v g := by
 obtain ⟨vl, vd, vi, vw, e, h1, h2, h3, h4⟩ := h
 exact ⟨vl, vd, vi, vw, e, h1.below hB, h2.below hB, h3.below hB, h4.below hB⟩
set_option maxRecDepth 100000 in
set_option maxHeartbeats 16000000 in
theorem plays_law (r : LegR) (vc : Value) (lv : List (Int × Value × List Int)) (v : Value) (w : World) (hc : Sl w 3 encC vc r.counts) (hv : Sl w 2 encV v lv)
  (hb : ∀ x ∈ lv, Sl w 1 eI x.2.1 x.2.2 ∧ ∀ b ∈ x.2.2, -9223372036854775808 ≤ b ∧ b ≤ 9223372036854775807) :
  Calls Try.prog 4 #[legRV r vc, v] w (Ret (.bool true) w) := by
 have HK : Aside (∀ W, Calls Try.prog 13 #[] W (Ret (.bool true) W)) := fun W => known_any W
 have HV : Aside (Sl w 2 encV v lv) := hv
 have HC : Aside (Sl w 3 encC vc r.counts) := hc
 have HX : Aside (∀ x ∈ lv, Sl w 1 eI x.2.1 x.2.2) := fun x hx => (hb x hx).1
 have HXB : Aside (∀ x ∈ lv, ∀ b ∈ x.2.2, -9223372036854775808 ≤ b ∧ b ≤ 9223372036854775807) := fun x hx => (hb x hx).2
 have XL : Aside (∀ W, Below w.heap.size w W → Calls Try.prog 18 #[legRV r vc, v] W (Ret (.bool (longF r.counts.length (lv.map fun x => x.2.2.length))) W)) := fun W hB => long_any r vc lv v W (hc.below hB) (hv.below hB) (fun x hx => (hb x hx).1.below hB)
 have XR : Aside (r.counts.length ≤ 10 → ∀ W, Below w.heap.size w W → Calls Try.prog 19 #[legRV r vc] W (RulesOk r W)) := fun h W hB => rules_any r vc W (hc.below hB) h
 have XC : Aside (∀ W vc', Sl W 3 encC vc' r.counts → Calls Try.prog 21 #[legRV r vc'] W (Ret (.int .i64 (if vleg r = true then 0 else 2)) W)) := fun W vc' h => Check_any r vc' W h
 have XV : Aside (lv.length ≤ 2010 → (∀ x ∈ lv, x.2.2.length ≤ 6) → ∀ W, Below w.heap.size w W → Calls Try.prog 20 #[v] W (VisitsOk lv W)) := fun h1 h2 W hB => visits_any lv v W (hv.below hB) (fun x hx => (hb x hx).1.below hB) h1 h2
 have XQ : Aside (∀ W, Below w.heap.size w W → Calls Try.prog 24 #[legRV r vc] W (Ret (.bool (vleg r)) W)) := fun W hB => rrules_any r vc W (hc.below hB)
 have XP : Aside (∀ W, Below w.heap.size w W → Calls Try.prog 25 #[legRV r vc, v] W (RPlayOk r (lv.map prV) W)) := fun W hB => rplay_any r vc lv v W (hc.below hB) (hv.below hB) (fun x hx => ⟨(hb x hx).1.below hB, (hb x hx).2⟩)
 have XU : Aside (∀ W v' lv', Below w.heap.size w W → Sl W 2 encV v' lv' → (∀ x ∈ lv', Sl W 1 eI x.2.1 x.2.2) → lv'.map prV = lv.map prV → Calls Try.prog 23 #[v', v] W (Ret (.bool true) W)) := fun W v' lv' hB h1 h2 h3 => unch_any lv' lv v' v W h1 (hv.below hB) h2 (fun x hx => (hb x hx).1.below hB) h3
 have HPB : Aside (∀ lv' : List (Int × Value × List Int), lv'.map prV = lv.map prV → ∀ x ∈ lv', ∀ b ∈ x.2.2, -9223372036854775808 ≤ b ∧ b ≤ 9223372036854775807) := by
  intro lv' h x hx b hbm
  have hm : prV x ∈ lv.map prV := by rw [← h]; exact List.mem_map.2 ⟨x, hx, rfl⟩
  obtain ⟨y, hy, e⟩ := List.mem_map.1 hm
  have e2 : y.2.2 = x.2.2 := by have e3 := congrArg Prod.snd e; exact e3
  exact (hb y hy).2 b (by rw [e2]; exact hbm)
 obtain ⟨a2, cp2, rfl, hl2, hs2⟩ := hv
 obtain ⟨m, hm⟩ : ∃ m, lv.length = m := ⟨_, rfl⟩
 have HN : Aside (lv.length = m) := hm
 have HL : Aside ((lv.map fun x => x.2.2.length).length = m) := by show _ = _; rw [List.length_map]; exact hm
 rw [hm] at HV XL XV XP XU hl2 ⊢
 obtain ⟨ac, cpc, rfl, hlc, hsc⟩ := hc
 obtain ⟨n, hn⟩ : ∃ n, r.counts.length = n := ⟨_, rfl⟩
 have HCN : Aside (r.counts.length = n) := hn
 have HCC : Aside (∀ q c, r.counts[q]? = some c → ∃ b off, ac = some ⟨b, off, none⟩ ∧ w.cell? ⟨b, off + q * 3, none⟩ = some (.int .i64 c.1) ∧ w.cell? ⟨b, off + q * 3 + 1, none⟩ = some (.int .i64 c.2.1) ∧ w.cell? ⟨b, off + q * 3 + 2, none⟩ = some (.int .i64 c.2.2)) := by
  intro q c hq
  obtain ⟨b, off, h1, _, h2⟩ := hsc (fun e => by rw [e] at hq; simp at hq)
  have q0 := h2 q _ hq 0 (.int .i64 c.1) rfl
  have q1 := h2 q _ hq 1 (.int .i64 c.2.1) rfl
  have q2 := h2 q _ hq 2 (.int .i64 c.2.2) rfl
  exact ⟨b, off, h1, by simpa using q0, by simpa using q1, by simpa using q2⟩
 rw [hn] at XL XR XQ XP HC hlc ⊢
 clear hs2 hb hm hn hsc
 have hrv : ∀ x : Value, legRV r x = .agg #[x, .int .i64 r.first, .int .i64 r.rounds, .bool r.equal] := fun _ => rfl
 rw [hrv] at *
 obtain ⟨vc, hvc⟩ : ∃ x : Value, .slice ac n cpc = x := ⟨_, rfl⟩
 have HVC : Aside (.slice ac n cpc = vc) := hvc
 rw [hvc] at XL XR XQ XP HC ⊢
 clear hvc
 go_enter Try.func4, Try.ntmps4
 go_wp2_with fail
 obtain ⟨wa, hwa⟩ : ∃ u, u = w.alloc (.cells #[vc, .int .i64 r.first, .int .i64 r.rounds, .bool r.equal] 42) := ⟨_, rfl⟩
 have BX : Aside (wa.heap[w.heap.size]? = some (.cells #[vc, .int .i64 r.first, .int .i64 r.rounds, .bool r.equal] 42 (0, 0))) := by rw [hwa]; exact World.alloc_heap_new _ _
 have BB : Aside (Below w.heap.size w wa ∧ w.heap.size ≤ wa.heap.size) := by rw [hwa]; exact ⟨(Below.refl _ _).alloc (Nat.le_refl _) _, by simp⟩
 rw [← hwa]
 clear hwa
 refine (XL.out _ BB.out.1).mono ?_
 rintro e w1 ⟨rfl, hb1⟩
 replace BX : Aside (w1.heap[w.heap.size]? = some (.cells #[vc, .int .i64 r.first, .int .i64 r.rounds, .bool r.equal] 42 (0, 0))) := (hb1.block _ (Array.getElem?_eq_some_iff.1 BX.out).1).trans BX.out
 replace BB : Aside (Below w.heap.size w w1 ∧ w.heap.size ≤ w1.heap.size) := ⟨BB.out.1.trans (hb1.mono BB.out.2), Nat.le_trans BB.out.2 hb1.size⟩
 clear hb1
 cases hlong : longF n (lv.map fun x => x.2.2.length) with
 | true =>
  clear hlong
  go_wp2_with fail
  refine (HK.out _).mono ?_
  rintro e w9 ⟨rfl, hb9⟩
  go_wp2
  go_ret
  exact ⟨rfl, BB.out.1.trans (hb9.mono BB.out.2)⟩
 | false =>
  have HLN : Aside ((∀ x ∈ lv, x.2.2.length ≤ 6) ∧ n ≤ 10 ∧ m ≤ 2010) := by
   obtain ⟨h1, h2, h3⟩ := long_no hlong
   exact ⟨fun x hx => h1 _ (List.mem_map.2 ⟨x, hx, rfl⟩), h2, by rw [HL.out] at h3; exact h3⟩
  clear hlong XL HL
  have XR2 : Aside (∀ W, Below w.heap.size w W → Calls Try.prog 19 #[.agg #[vc, .int .i64 r.first, .int .i64 r.rounds, .bool r.equal]] W (RulesOk r W)) := XR.out HLN.out.2.1
  have XV2 : Aside (∀ W, Below w.heap.size w W → Calls Try.prog 20 #[.slice a2 m cp2] W (VisitsOk lv W)) := XV.out HLN.out.2.2 HLN.out.1
  clear XR XV
  have q0 : w1.cell? ⟨w.heap.size, 0, none⟩ = some (vc) := blk_cell BX.out rfl
  have q1 : w1.cell? ⟨w.heap.size, 1, none⟩ = some (.int .i64 r.first) := blk_cell BX.out rfl
  have q2 : w1.cell? ⟨w.heap.size, 2, none⟩ = some (.int .i64 r.rounds) := blk_cell BX.out rfl
  have q3 : w1.cell? ⟨w.heap.size, 3, none⟩ = some (.bool r.equal) := blk_cell BX.out rfl
  have qlt : w.heap.size < w1.heap.size := (Array.getElem?_eq_some_iff.1 BX.out).1
  go_wp2_with fail
  refine (XR2.out _ BB.out.1).mono ?_
  rintro e w2 ⟨hbx, vc2, rfl, hsvc2⟩
  (try clear q0)
  (try clear q1)
  (try clear q2)
  (try clear q3)
  (try clear q4)
  (try clear q5)
  (try clear q6)
  replace BX : Aside (w2.heap[w.heap.size]? = some (.cells #[vc, .int .i64 r.first, .int .i64 r.rounds, .bool r.equal] 42 (0, 0))) := (hbx.block _ (Array.getElem?_eq_some_iff.1 BX.out).1).trans BX.out
  replace BB : Aside (Below w.heap.size w w2 ∧ w.heap.size ≤ w2.heap.size) := ⟨BB.out.1.trans (hbx.mono BB.out.2), Nat.le_trans BB.out.2 hbx.size⟩
  have Hvc2 : Aside (Sl w2 3 encC vc2 r.counts) := hsvc2
  clear hbx hsvc2 qlt XR2
  go_wp2_with fail
  refine (XV2.out _ BB.out.1).mono ?_
  rintro e w3 ⟨hbx, v3, lv3, rfl, hv3, hv3b, hv3m⟩
  replace BX : Aside (w3.heap[w.heap.size]? = some (.cells #[vc, .int .i64 r.first, .int .i64 r.rounds, .bool r.equal] 42 (0, 0))) := (hbx.block _ (Array.getElem?_eq_some_iff.1 BX.out).1).trans BX.out
  replace BB : Aside (Below w.heap.size w w3 ∧ w.heap.size ≤ w3.heap.size) := ⟨BB.out.1.trans (hbx.mono BB.out.2), Nat.le_trans BB.out.2 hbx.size⟩
  replace Hvc2 : Aside (Sl w3 3 encC vc2 r.counts) := Hvc2.out.below hbx
  have HV3 : Aside (Sl w3 2 encV v3 lv3 ∧ (∀ x ∈ lv3, Sl w3 1 eI x.2.1 x.2.2) ∧ lv3.map prV = lv.map prV) := ⟨hv3, hv3b, hv3m⟩
  clear hbx hv3 hv3b hv3m XV2
  obtain ⟨ac2, cp3, hvc2, hcl2, hcs2⟩ := id Hvc2.out
  rw [HCN.out] at hvc2
  have HCD : Aside (∀ q c, r.counts[q]? = some c → ∃ b off, ac2 = some ⟨b, off, none⟩ ∧ w3.cell? ⟨b, off + q * 3, none⟩ = some (.int .i64 c.1) ∧ w3.cell? ⟨b, off + q * 3 + 1, none⟩ = some (.int .i64 c.2.1) ∧ w3.cell? ⟨b, off + q * 3 + 2, none⟩ = some (.int .i64 c.2.2)) := by
   intro q c hq
   obtain ⟨b, off, h1, _, h2⟩ := hcs2 (fun e => by rw [e] at hq; simp at hq)
   have q0 := h2 q _ hq 0 (.int .i64 c.1) rfl
   have q1 := h2 q _ hq 1 (.int .i64 c.2.1) rfl
   have q2 := h2 q _ hq 2 (.int .i64 c.2.2) rfl
   exact ⟨b, off, h1, by simpa using q0, by simpa using q1, by simpa using q2⟩
  subst hvc2
  clear hcl2 hcs2
  go_wp2_with fail
  obtain ⟨X5, hX5⟩ : ∃ X, X = w3.heap.size := ⟨_, rfl⟩
  obtain ⟨w4, hw4⟩ : ∃ u, u = w3.alloc (.cells #[(.slice ac2 n cp3), .int .i64 r.first, .int .i64 r.rounds, .bool r.equal] 42) := ⟨_, rfl⟩
  have hb4 : Below w3.heap.size w3 w4 := by rw [hw4]; exact (Below.refl _ _).alloc (Nat.le_refl _) _
  have B5 : Aside (w4.heap[X5]? = some (.cells #[.slice ac2 n cp3, .int .i64 r.first, .int .i64 r.rounds, .bool r.equal] 42 (0, 0))) := by rw [hw4, hX5]; exact World.alloc_heap_new _ _
  rw [← hw4, ← hX5]
  clear hw4 hX5
  replace BX : Aside (w4.heap[w.heap.size]? = some (.cells #[vc, .int .i64 r.first, .int .i64 r.rounds, .bool r.equal] 42 (0, 0))) := (hb4.block _ (Array.getElem?_eq_some_iff.1 BX.out).1).trans BX.out
  replace BB : Aside (Below w.heap.size w w4 ∧ w.heap.size ≤ w4.heap.size) := ⟨BB.out.1.trans (hb4.mono BB.out.2), Nat.le_trans BB.out.2 hb4.size⟩
  replace Hvc2 : Aside (Sl w4 3 encC (.slice ac2 n cp3) r.counts) := Hvc2.out.below hb4
  replace HV3 : Aside (Sl w4 2 encV v3 lv3 ∧ (∀ x ∈ lv3, Sl w4 1 eI x.2.1 x.2.2) ∧ lv3.map prV = lv.map prV) := ⟨HV3.out.1.below hb4, fun x hx => (HV3.out.2.1 x hx).below hb4, HV3.out.2.2⟩
  replace HCD : Aside (∀ q c, r.counts[q]? = some c → ∃ b off, ac2 = some ⟨b, off, none⟩ ∧ w4.cell? ⟨b, off + q * 3, none⟩ = some (.int .i64 c.1) ∧ w4.cell? ⟨b, off + q * 3 + 1, none⟩ = some (.int .i64 c.2.1) ∧ w4.cell? ⟨b, off + q * 3 + 2, none⟩ = some (.int .i64 c.2.2)) := fun q c hq => by
   obtain ⟨b, off, h1, h2, h3, h4⟩ := HCD.out q c hq
   exact ⟨b, off, h1, keepc hb4 h2, keepc hb4 h3, keepc hb4 h4⟩
  clear hb4
  refine (XC.out _ _ Hvc2.out).mono ?_
  rintro e w5 ⟨rfl, hb5⟩
  replace BX : Aside (w5.heap[w.heap.size]? = some (.cells #[vc, .int .i64 r.first, .int .i64 r.rounds, .bool r.equal] 42 (0, 0))) := (hb5.block _ (Array.getElem?_eq_some_iff.1 BX.out).1).trans BX.out
  replace BB : Aside (Below w.heap.size w w5 ∧ w.heap.size ≤ w5.heap.size) := ⟨BB.out.1.trans (hb5.mono BB.out.2), Nat.le_trans BB.out.2 hb5.size⟩
  replace B5 : Aside (w5.heap[X5]? = some (.cells #[(.slice ac2 n cp3), .int .i64 r.first, .int .i64 r.rounds, .bool r.equal] 42 (0, 0))) := (hb5.block _ (Array.getElem?_eq_some_iff.1 B5.out).1).trans B5.out
  replace Hvc2 : Aside (Sl w5 3 encC (.slice ac2 n cp3) r.counts) := Hvc2.out.below hb5
  replace HV3 : Aside (Sl w5 2 encV v3 lv3 ∧ (∀ x ∈ lv3, Sl w5 1 eI x.2.1 x.2.2) ∧ lv3.map prV = lv.map prV) := ⟨HV3.out.1.below hb5, fun x hx => (HV3.out.2.1 x hx).below hb5, HV3.out.2.2⟩
  replace HCD : Aside (∀ q c, r.counts[q]? = some c → ∃ b off, ac2 = some ⟨b, off, none⟩ ∧ w5.cell? ⟨b, off + q * 3, none⟩ = some (.int .i64 c.1) ∧ w5.cell? ⟨b, off + q * 3 + 1, none⟩ = some (.int .i64 c.2.1) ∧ w5.cell? ⟨b, off + q * 3 + 2, none⟩ = some (.int .i64 c.2.2)) := fun q c hq => by
   obtain ⟨b, off, h1, h2, h3, h4⟩ := HCD.out q c hq
   exact ⟨b, off, h1, keepc hb5 h2, keepc hb5 h3, keepc hb5 h4⟩
  clear hb5 XC
  obtain ⟨er, her⟩ : ∃ er, (if vleg r = true then (0 : Int) else 2) = er := ⟨_, rfl⟩
  have HER : Aside ((if vleg r = true then (0 : Int) else 2) = er) := her
  rw [her]
  clear her
  have p0 : w5.cell? ⟨X5, 0, none⟩ = some (.slice ac2 n cp3) := blk_cell B5.out rfl
  have p1 : w5.cell? ⟨X5, 1, none⟩ = some (.int .i64 r.first) := blk_cell B5.out rfl
  have p2 : w5.cell? ⟨X5, 2, none⟩ = some (.int .i64 r.rounds) := blk_cell B5.out rfl
  have p3 : w5.cell? ⟨X5, 3, none⟩ = some (.bool r.equal) := blk_cell B5.out rfl
  have plt : X5 < w5.heap.size := (Array.getElem?_eq_some_iff.1 B5.out).1
  go_wp2_with fail
  refine (Play_any r (.slice ac2 n cp3) lv3 v3 _ Hvc2.out HV3.out.1 (fun x hx => ⟨HV3.out.2.1 x hx, HPB.out lv3 HV3.out.2.2 x hx⟩)).mono ?_
  intro e w6 h6
  have e6 : lv3.map (fun x => (x.1, x.2.2)) = lv.map prV := HV3.out.2.2
  rw [e6] at h6
  obtain ⟨hb6, vs, rfl, hs6⟩ := play_ok h6
  have HS6 : Aside (SameAt w6 vs (playS r (lv.map prV))) := hs6
  clear h6 hs6 e6
  (try clear p0)
  (try clear p1)
  (try clear p2)
  (try clear p3)
  (try clear p4)
  (try clear p5)
  (try clear p6)
  clear plt
  replace BX : Aside (w6.heap[w.heap.size]? = some (.cells #[vc, .int .i64 r.first, .int .i64 r.rounds, .bool r.equal] 42 (0, 0))) := (hb6.block _ (Array.getElem?_eq_some_iff.1 BX.out).1).trans BX.out
  replace BB : Aside (Below w.heap.size w w6 ∧ w.heap.size ≤ w6.heap.size) := ⟨BB.out.1.trans (hb6.mono BB.out.2), Nat.le_trans BB.out.2 hb6.size⟩
  replace B5 : Aside (w6.heap[X5]? = some (.cells #[(.slice ac2 n cp3), .int .i64 r.first, .int .i64 r.rounds, .bool r.equal] 42 (0, 0))) := (hb6.block _ (Array.getElem?_eq_some_iff.1 B5.out).1).trans B5.out
  replace Hvc2 : Aside (Sl w6 3 encC (.slice ac2 n cp3) r.counts) := Hvc2.out.below hb6
  replace HV3 : Aside (Sl w6 2 encV v3 lv3 ∧ (∀ x ∈ lv3, Sl w6 1 eI x.2.1 x.2.2) ∧ lv3.map prV = lv.map prV) := ⟨HV3.out.1.below hb6, fun x hx => (HV3.out.2.1 x hx).below hb6, HV3.out.2.2⟩
  replace HCD : Aside (∀ q c, r.counts[q]? = some c → ∃ b off, ac2 = some ⟨b, off, none⟩ ∧ w6.cell? ⟨b, off + q * 3, none⟩ = some (.int .i64 c.1) ∧ w6.cell? ⟨b, off + q * 3 + 1, none⟩ = some (.int .i64 c.2.1) ∧ w6.cell? ⟨b, off + q * 3 + 2, none⟩ = some (.int .i64 c.2.2)) := fun q c hq => by
   obtain ⟨b, off, h1, h2, h3, h4⟩ := HCD.out q c hq
   exact ⟨b, off, h1, keepc hb6 h2, keepc hb6 h3, keepc hb6 h4⟩
  clear hb6 Hvc2
  obtain ⟨pa, hpa⟩ : ∃ x, (playE r (lv.map prV)).1 = x := ⟨_, rfl⟩
  obtain ⟨pe, hpe⟩ : ∃ x, (playE r (lv.map prV)).2 = x := ⟨_, rfl⟩
  have HPE : Aside ((playE r (lv.map prV)).1 = pa ∧ (playE r (lv.map prV)).2 = pe) := ⟨hpa, hpe⟩
  rw [hpa, hpe]
  clear hpa hpe
  obtain ⟨sg, hsg⟩ : ∃ x, playS r (lv.map prV) = x := ⟨_, rfl⟩
  have HSG : Aside (playS r (lv.map prV) = sg) := hsg
  rw [hsg] at HS6
  clear hsg
  have HS7 := HS6
  obtain ⟨vl, vd, vi, vw, rfl, hsl, hsd, hsi, hsw⟩ := HS6.out
  obtain ⟨A1, C1, rfl, -, -⟩ := hsl
  obtain ⟨A2, C2, rfl, -, -⟩ := hsd
  obtain ⟨A3, C3, rfl, -, -⟩ := hsi
  obtain ⟨A4, C4, rfl, -, -⟩ := hsw
  clear HS6
  obtain ⟨nl, hnl⟩ : ∃ n, sg.left.length = n := ⟨_, rfl⟩
  obtain ⟨nd, hnd⟩ : ∃ n, sg.darts.length = n := ⟨_, rfl⟩
  obtain ⟨ni, hni⟩ : ∃ n, sg.inn.length = n := ⟨_, rfl⟩
  obtain ⟨nw, hnw⟩ : ∃ n, sg.wins.length = n := ⟨_, rfl⟩
  obtain ⟨gn, hgn⟩ : ∃ x, sg.next = x := ⟨_, rfl⟩
  obtain ⟨gr, hgr⟩ : ∃ x, sg.round = x := ⟨_, rfl⟩
  obtain ⟨go, hgo⟩ : ∃ x, sg.over = x := ⟨_, rfl⟩
  rw [hnl, hnd, hni, hnw, hgn, hgr, hgo] at HS7 ⊢
  have HGG : Aside (sg.next = gn ∧ sg.round = gr ∧ sg.over = go) := ⟨hgn, hgr, hgo⟩
  clear hnl hnd hni hnw hgn hgr hgo
  go_wp2_with fail
  obtain ⟨X8, hX8⟩ : ∃ X, X = w6.heap.size := ⟨_, rfl⟩
  obtain ⟨w7, hw7⟩ : ∃ u, u = w6.alloc (.cells #[.slice A1 nl C1, .slice A2 nd C2, .slice A3 ni C3, .int .i64 gn, .int .i64 gr, .bool go, .slice A4 nw C4] 51) := ⟨_, rfl⟩
  have hb7 : Below w6.heap.size w6 w7 := by rw [hw7]; exact (Below.refl _ _).alloc (Nat.le_refl _) _
  have B8 : Aside (w7.heap[X8]? = some (.cells #[.slice A1 nl C1, .slice A2 nd C2, .slice A3 ni C3, .int .i64 gn, .int .i64 gr, .bool go, .slice A4 nw C4] 51 (0, 0))) := by rw [hw7, hX8]; exact World.alloc_heap_new _ _
  rw [← hw7, ← hX8]
  clear hw7 hX8
  replace HS7 : Aside (SameAt w7 (.agg #[.slice A1 nl C1, .slice A2 nd C2, .slice A3 ni C3, .int .i64 gn, .int .i64 gr, .bool go, .slice A4 nw C4]) sg) := HS7.out.below hb7
  replace BX : Aside (w7.heap[w.heap.size]? = some (.cells #[vc, .int .i64 r.first, .int .i64 r.rounds, .bool r.equal] 42 (0, 0))) := (hb7.block _ (Array.getElem?_eq_some_iff.1 BX.out).1).trans BX.out
  replace BB : Aside (Below w.heap.size w w7 ∧ w.heap.size ≤ w7.heap.size) := ⟨BB.out.1.trans (hb7.mono BB.out.2), Nat.le_trans BB.out.2 hb7.size⟩
  replace B5 : Aside (w7.heap[X5]? = some (.cells #[(.slice ac2 n cp3), .int .i64 r.first, .int .i64 r.rounds, .bool r.equal] 42 (0, 0))) := (hb7.block _ (Array.getElem?_eq_some_iff.1 B5.out).1).trans B5.out
  replace HV3 : Aside (Sl w7 2 encV v3 lv3 ∧ (∀ x ∈ lv3, Sl w7 1 eI x.2.1 x.2.2) ∧ lv3.map prV = lv.map prV) := ⟨HV3.out.1.below hb7, fun x hx => (HV3.out.2.1 x hx).below hb7, HV3.out.2.2⟩
  replace HCD : Aside (∀ q c, r.counts[q]? = some c → ∃ b off, ac2 = some ⟨b, off, none⟩ ∧ w7.cell? ⟨b, off + q * 3, none⟩ = some (.int .i64 c.1) ∧ w7.cell? ⟨b, off + q * 3 + 1, none⟩ = some (.int .i64 c.2.1) ∧ w7.cell? ⟨b, off + q * 3 + 2, none⟩ = some (.int .i64 c.2.2)) := fun q c hq => by
   obtain ⟨b, off, h1, h2, h3, h4⟩ := HCD.out q c hq
   exact ⟨b, off, h1, keepc hb7 h2, keepc hb7 h3, keepc hb7 h4⟩
  clear hb7
  go_loopg [11] n (fun gg i wr => ∃ q : Nat, q ≤ n ∧ n - q ≤ gg ∧ i = .int .i64 q ∧ Aside (Below w7.heap.size w7 wr))
  case atStart => exact ⟨0, Nat.zero_le _, by omega, rfl, Below.refl _ _⟩
  case round =>
   obtain ⟨q, hq, hgq, rfl, HB⟩ := hrel
   have bx0 : wr.cell? ⟨w.heap.size, 0, none⟩ = some (.slice ac n cpc) := by rw [HVC.out]; exact keepc HB.out (blk_cell BX.out rfl)
   by_cases hltq : q < n
   ·have hltz : (q : Int) < (n : Int) := by omega
    obtain ⟨c, hqc⟩ : ∃ c, r.counts[q]? = some c := ⟨_, List.getElem?_eq_getElem (by rw [HCN.out]; exact hltq)⟩
    obtain ⟨cb, co, rfl, c0, c1, c2⟩ := HCC.out q c hqc
    obtain ⟨cb2, co2, rfl, d0, d1, d2⟩ := HCD.out q c hqc
    replace c0 := keepc HB.out (keepc BB.out.1 c0)
    replace c1 := keepc HB.out (keepc BB.out.1 c1)
    replace c2 := keepc HB.out (keepc BB.out.1 c2)
    replace d0 := keepc HB.out d0
    replace d1 := keepc HB.out d1
    replace d2 := keepc HB.out d2
    have bx5 : wr.cell? ⟨X5, 0, none⟩ = some (.slice (some ⟨cb2, co2, none⟩) n cp3) := keepc HB.out (blk_cell B5.out rfl)
    obtain ⟨u1, u2, u3⟩ := c
    simp only [] at c0 c1 c2 d0 d1 d2
    have MC : Aside (∀ w', Below wr.heap.size wr w' → (Below wr.heap.size wr w' ∧ w'.cell? ⟨w.heap.size, 0, none⟩ = some (.slice (some ⟨cb, co, none⟩) n cpc) ∧ w'.cell? ⟨X5, 0, none⟩ = some (.slice (some ⟨cb2, co2, none⟩) n cp3) ∧ w'.cell? ⟨cb, co + q * 3, none⟩ = some (.int .i64 u1) ∧ w'.cell? ⟨cb, co + q * 3 + 1, none⟩ = some (.int .i64 u2) ∧ w'.cell? ⟨cb, co + q * 3 + 2, none⟩ = some (.int .i64 u3) ∧ w'.cell? ⟨cb2, co2 + q * 3, none⟩ = some (.int .i64 u1) ∧ w'.cell? ⟨cb2, co2 + q * 3 + 1, none⟩ = some (.int .i64 u2) ∧ w'.cell? ⟨cb2, co2 + q * 3 + 2, none⟩ = some (.int .i64 u3))) := fun w' hB => ⟨hB, keepc hB bx0, keepc hB bx5, keepc hB c0, keepc hB c1, keepc hB c2, keepc hB d0, keepc hB d1, keepc hB d2⟩
    clear hqc
    go_wp2_with fail
    clear bx0 bx5 c0 c1 c2 d0 d1 d2
    refine region_class (fun w' => Below wr.heap.size wr w' ∧ w'.cell? ⟨w.heap.size, 0, none⟩ = some (.slice (some ⟨cb, co, none⟩) n cpc) ∧ w'.cell? ⟨X5, 0, none⟩ = some (.slice (some ⟨cb2, co2, none⟩) n cp3) ∧ w'.cell? ⟨cb, co + q * 3, none⟩ = some (.int .i64 u1) ∧ w'.cell? ⟨cb, co + q * 3 + 1, none⟩ = some (.int .i64 u2) ∧ w'.cell? ⟨cb, co + q * 3 + 2, none⟩ = some (.int .i64 u3) ∧ w'.cell? ⟨cb2, co2 + q * 3, none⟩ = some (.int .i64 u1) ∧ w'.cell? ⟨cb2, co2 + q * 3 + 1, none⟩ = some (.int .i64 u2) ∧ w'.cell? ⟨cb2, co2 + q * 3 + 2, none⟩ = some (.int .i64 u3)) (by kernel_rfl) (by kernel_rfl) (MC.out _ ((Below.refl _ _).drew)) ?_
    iterate 11 (first | go_big_quiet_skip | (go_big_quiet_want; unfold Oper.quiet; apply Exists.intro; refine ⟨fun W hW => ?_, ?_⟩; (go_split_ands; unfold Oper.quietAt; go_simp; first | rfl | exact ⟨rfl, rfl⟩ | fail); go_big_quiet_on; (try simp only [Act.put, List.setIfInBounds_toArray, List.set_cons_zero, List.set_cons_succ])))
    refine wpQuiet_nil ?_
    intro wb hwb
    have HBB : Aside (Below w7.heap.size w7 wb) := HB.out.trans (hwb.1.mono HB.out.size)
    clear hwb MC HB
    have e1 : IntKind.i64.wrap ((q : Int) + 1) = (q : Int) + 1 := IntWalk.i64_in _ (by have := HLN.out.2.1; omega)
    go_wp2_with fail
    go_roundg (n - (q + 1))
    case measure => omega
    case rel => exact ⟨q + 1, by omega, by omega, by go_num, HBB.out⟩
   ·have hltz : ¬ (q : Int) < (n : Int) := by omega
    have hqe : q = n := by omega
    subst hqe
    replace BX : Aside (wr.heap[w.heap.size]? = some (.cells #[vc, .int .i64 r.first, .int .i64 r.rounds, .bool r.equal] 42 (0, 0))) := (HB.out.block _ (Array.getElem?_eq_some_iff.1 BX.out).1).trans BX.out
    replace BB : Aside (Below w.heap.size w wr ∧ w.heap.size ≤ wr.heap.size) := ⟨BB.out.1.trans (HB.out.mono BB.out.2), Nat.le_trans BB.out.2 HB.out.size⟩
    replace B5 : Aside (wr.heap[X5]? = some (.cells #[(.slice ac2 q cp3), .int .i64 r.first, .int .i64 r.rounds, .bool r.equal] 42 (0, 0))) := (HB.out.block _ (Array.getElem?_eq_some_iff.1 B5.out).1).trans B5.out
    replace B8 : Aside (wr.heap[X8]? = some (.cells #[.slice A1 nl C1, .slice A2 nd C2, .slice A3 ni C3, .int .i64 gn, .int .i64 gr, .bool go, .slice A4 nw C4] 51 (0, 0))) := (HB.out.block _ (Array.getElem?_eq_some_iff.1 B8.out).1).trans B8.out
    replace HS7 : Aside (SameAt wr (.agg #[.slice A1 nl C1, .slice A2 nd C2, .slice A3 ni C3, .int .i64 gn, .int .i64 gr, .bool go, .slice A4 nw C4]) sg) := HS7.out.below HB.out
    replace HV3 : Aside (Sl wr 2 encV v3 lv3 ∧ (∀ x ∈ lv3, Sl wr 1 eI x.2.1 x.2.2) ∧ lv3.map prV = lv.map prV) := ⟨HV3.out.1.below HB.out, fun x hx => (HV3.out.2.1 x hx).below HB.out, HV3.out.2.2⟩
    clear HB HCD HCC HVC
    go_wp2_with fail
    refine (XU.out _ _ _ BB.out.1 HV3.out.1 HV3.out.2.1 HV3.out.2.2).mono ?_
    rintro e w8 ⟨rfl, hb8⟩
    replace BX : Aside (w8.heap[w.heap.size]? = some (.cells #[vc, .int .i64 r.first, .int .i64 r.rounds, .bool r.equal] 42 (0, 0))) := (hb8.block _ (Array.getElem?_eq_some_iff.1 BX.out).1).trans BX.out
    replace BB : Aside (Below w.heap.size w w8 ∧ w.heap.size ≤ w8.heap.size) := ⟨BB.out.1.trans (hb8.mono BB.out.2), Nat.le_trans BB.out.2 hb8.size⟩
    replace B5 : Aside (w8.heap[X5]? = some (.cells #[(.slice ac2 q cp3), .int .i64 r.first, .int .i64 r.rounds, .bool r.equal] 42 (0, 0))) := (hb8.block _ (Array.getElem?_eq_some_iff.1 B5.out).1).trans B5.out
    replace B8 : Aside (w8.heap[X8]? = some (.cells #[.slice A1 nl C1, .slice A2 nd C2, .slice A3 ni C3, .int .i64 gn, .int .i64 gr, .bool go, .slice A4 nw C4] 51 (0, 0))) := (hb8.block _ (Array.getElem?_eq_some_iff.1 B8.out).1).trans B8.out
    replace HS7 : Aside (SameAt w8 (.agg #[.slice A1 nl C1, .slice A2 nd C2, .slice A3 ni C3, .int .i64 gn, .int .i64 gr, .bool go, .slice A4 nw C4]) sg) := HS7.out.below hb8
    clear hb8 HV3 XU
    (try clear bx0)
    have q0 : w8.cell? ⟨w.heap.size, 0, none⟩ = some (vc) := blk_cell BX.out rfl
    have q1 : w8.cell? ⟨w.heap.size, 1, none⟩ = some (.int .i64 r.first) := blk_cell BX.out rfl
    have q2 : w8.cell? ⟨w.heap.size, 2, none⟩ = some (.int .i64 r.rounds) := blk_cell BX.out rfl
    have q3 : w8.cell? ⟨w.heap.size, 3, none⟩ = some (.bool r.equal) := blk_cell BX.out rfl
    have qlt : w.heap.size < w8.heap.size := (Array.getElem?_eq_some_iff.1 BX.out).1
    cases hvl : vleg r with
    | false =>
     have hev : er = 2 := by have := HER.out; rw [hvl] at this; simp at this; exact this.symm
     subst hev
     have HQ : Aside (∀ W, Below w.heap.size w W → Calls Try.prog 24 #[.agg #[vc, .int .i64 r.first, .int .i64 r.rounds, .bool r.equal]] W (Ret (.bool false) W)) := by have := XQ.out; rw [hvl] at this; exact this
     clear hvl
     go_wp2_with fail
     refine (HQ.out _ BB.out.1).mono ?_
     rintro e w9 ⟨rfl, hb9⟩
     replace BX : Aside (w9.heap[w.heap.size]? = some (.cells #[vc, .int .i64 r.first, .int .i64 r.rounds, .bool r.equal] 42 (0, 0))) := (hb9.block _ (Array.getElem?_eq_some_iff.1 BX.out).1).trans BX.out
     replace BB : Aside (Below w.heap.size w w9 ∧ w.heap.size ≤ w9.heap.size) := ⟨BB.out.1.trans (hb9.mono BB.out.2), Nat.le_trans BB.out.2 hb9.size⟩
     replace B8 : Aside (w9.heap[X8]? = some (.cells #[.slice A1 nl C1, .slice A2 nd C2, .slice A3 ni C3, .int .i64 gn, .int .i64 gr, .bool go, .slice A4 nw C4] 51 (0, 0))) := (hb9.block _ (Array.getElem?_eq_some_iff.1 B8.out).1).trans B8.out
     replace HS7 : Aside (SameAt w9 (.agg #[.slice A1 nl C1, .slice A2 nd C2, .slice A3 ni C3, .int .i64 gn, .int .i64 gr, .bool go, .slice A4 nw C4]) sg) := HS7.out.below hb9
     clear hb9 qlt B5
     (try clear q0)
     (try clear q1)
     (try clear q2)
     (try clear q3)
     (try clear q4)
     (try clear q5)
     (try clear q6)
     have q0 : w9.cell? ⟨w.heap.size, 0, none⟩ = some (vc) := blk_cell BX.out rfl
     have q1 : w9.cell? ⟨w.heap.size, 1, none⟩ = some (.int .i64 r.first) := blk_cell BX.out rfl
     have q2 : w9.cell? ⟨w.heap.size, 2, none⟩ = some (.int .i64 r.rounds) := blk_cell BX.out rfl
     have q3 : w9.cell? ⟨w.heap.size, 3, none⟩ = some (.bool r.equal) := blk_cell BX.out rfl
     have qlt : w.heap.size < w9.heap.size := (Array.getElem?_eq_some_iff.1 BX.out).1
     go_wp2_with fail
     refine (XP.out _ BB.out.1).mono ?_
     rintro e wc ⟨hbc, vs2, rfl, hs2⟩
     rw [HPE.out.1, HPE.out.2]
     have HS2 : Aside (SameAt wc vs2 sg) := by rw [HSG.out] at hs2; exact hs2
     clear hs2
     replace BX : Aside (wc.heap[w.heap.size]? = some (.cells #[vc, .int .i64 r.first, .int .i64 r.rounds, .bool r.equal] 42 (0, 0))) := (hbc.block _ (Array.getElem?_eq_some_iff.1 BX.out).1).trans BX.out
     replace BB : Aside (Below w.heap.size w wc ∧ w.heap.size ≤ wc.heap.size) := ⟨BB.out.1.trans (hbc.mono BB.out.2), Nat.le_trans BB.out.2 hbc.size⟩
     replace B8 : Aside (wc.heap[X8]? = some (.cells #[.slice A1 nl C1, .slice A2 nd C2, .slice A3 ni C3, .int .i64 gn, .int .i64 gr, .bool go, .slice A4 nw C4] 51 (0, 0))) := (hbc.block _ (Array.getElem?_eq_some_iff.1 B8.out).1).trans B8.out
     replace HS7 : Aside (SameAt wc (.agg #[.slice A1 nl C1, .slice A2 nd C2, .slice A3 ni C3, .int .i64 gn, .int .i64 gr, .bool go, .slice A4 nw C4]) sg) := HS7.out.below hbc
     clear hbc qlt
     (try clear q0)
     (try clear q1)
     (try clear q2)
     (try clear q3)
     (try clear q4)
     (try clear q5)
     (try clear q6)
     have HT2 := HS2
     obtain ⟨vl, vd, vi, vw, rfl, hsl, hsd, hsi, hsw⟩ := HS2.out
     obtain ⟨D1, E1, rfl, -, -⟩ := hsl
     obtain ⟨D2, E2, rfl, -, -⟩ := hsd
     obtain ⟨D3, E3, rfl, -, -⟩ := hsi
     obtain ⟨D4, E4, rfl, -, -⟩ := hsw
     clear HS2
     obtain ⟨ml, hml⟩ : ∃ n, sg.left.length = n := ⟨_, rfl⟩
     obtain ⟨md, hmd⟩ : ∃ n, sg.darts.length = n := ⟨_, rfl⟩
     obtain ⟨mi, hmi⟩ : ∃ n, sg.inn.length = n := ⟨_, rfl⟩
     obtain ⟨mw, hmw⟩ : ∃ n, sg.wins.length = n := ⟨_, rfl⟩
     rw [hml, hmd, hmi, hmw, HGG.out.1, HGG.out.2.1, HGG.out.2.2] at HT2 ⊢
     clear hml hmd hmi hmw
     have t0 : wc.cell? ⟨X8, 0, none⟩ = some (.slice A1 nl C1) := blk_cell B8.out rfl
     have t1 : wc.cell? ⟨X8, 1, none⟩ = some (.slice A2 nd C2) := blk_cell B8.out rfl
     have t2 : wc.cell? ⟨X8, 2, none⟩ = some (.slice A3 ni C3) := blk_cell B8.out rfl
     have t3 : wc.cell? ⟨X8, 3, none⟩ = some (.int .i64 gn) := blk_cell B8.out rfl
     have t4 : wc.cell? ⟨X8, 4, none⟩ = some (.int .i64 gr) := blk_cell B8.out rfl
     have t5 : wc.cell? ⟨X8, 5, none⟩ = some (.bool go) := blk_cell B8.out rfl
     have t6 : wc.cell? ⟨X8, 6, none⟩ = some (.slice A4 nw C4) := blk_cell B8.out rfl
     have tlt : X8 < wc.heap.size := (Array.getElem?_eq_some_iff.1 B8.out).1
     have HWX : Aside (∀ W, Below wc.heap.size wc W → Calls Try.prog 26 #[.agg #[.slice A1 nl C1, .slice A2 nd C2, .slice A3 ni C3, .int .i64 gn, .int .i64 gr, .bool go, .slice A4 nw C4], .agg #[.slice D1 ml E1, .slice D2 md E2, .slice D3 mi E3, .int .i64 gn, .int .i64 gr, .bool go, .slice D4 mw E4]] W (Ret (.bool true) W)) := fun W hB => by
      have := rsame_any sg sg (.agg #[.slice A1 nl C1, .slice A2 nd C2, .slice A3 ni C3, .int .i64 gn, .int .i64 gr, .bool go, .slice A4 nw C4]) (.agg #[.slice D1 ml E1, .slice D2 md E2, .slice D3 mi E3, .int .i64 gn, .int .i64 gr, .bool go, .slice D4 mw E4]) W (HS7.out.below hB) (HT2.out.below hB)
      rw [sameF_eq, decide_eq_true rfl] at this
      exact this
     have hlx : ∀ i, wc.heap.size ≠ i → i = i := fun _ _ => rfl
     clear hlx
     go_upto_region 14 with (fail)
     obtain ⟨XC, hXC⟩ : ∃ X, X = wc.heap.size := ⟨_, rfl⟩
     obtain ⟨wd, hwd⟩ : ∃ u, u = wc.alloc (.cells #[.slice D1 ml E1, .slice D2 md E2, .slice D3 mi E3, .int .i64 gn, .int .i64 gr, .bool go, .slice D4 mw E4] 51) := ⟨_, rfl⟩
     have hbd : Below wc.heap.size wc wd := by rw [hwd]; exact (Below.refl _ _).alloc (Nat.le_refl _) _
     have BC : Aside (wd.heap[XC]? = some (.cells #[.slice D1 ml E1, .slice D2 md E2, .slice D3 mi E3, .int .i64 gn, .int .i64 gr, .bool go, .slice D4 mw E4] 51 (0, 0))) := by rw [hwd, hXC]; exact World.alloc_heap_new _ _
     rw [← hwd, ← hXC]
     clear hwd hXC
     replace t0 := keepc hbd t0
     replace t1 := keepc hbd t1
     replace t2 := keepc hbd t2
     replace t3 := keepc hbd t3
     replace t4 := keepc hbd t4
     replace t5 := keepc hbd t5
     replace t6 := keepc hbd t6
     have s0 : wd.cell? ⟨XC, 0, none⟩ = some (.slice D1 ml E1) := blk_cell BC.out rfl
     have s1 : wd.cell? ⟨XC, 1, none⟩ = some (.slice D2 md E2) := blk_cell BC.out rfl
     have s2 : wd.cell? ⟨XC, 2, none⟩ = some (.slice D3 mi E3) := blk_cell BC.out rfl
     have s3 : wd.cell? ⟨XC, 3, none⟩ = some (.int .i64 gn) := blk_cell BC.out rfl
     have s4 : wd.cell? ⟨XC, 4, none⟩ = some (.int .i64 gr) := blk_cell BC.out rfl
     have s5 : wd.cell? ⟨XC, 5, none⟩ = some (.bool go) := blk_cell BC.out rfl
     have s6 : wd.cell? ⟨XC, 6, none⟩ = some (.slice D4 mw E4) := blk_cell BC.out rfl
     replace tlt : X8 < wd.heap.size := Nat.lt_of_lt_of_le tlt hbd.size
     have slt : XC < wd.heap.size := (Array.getElem?_eq_some_iff.1 BC.out).1
     replace BB : Aside (Below w.heap.size w wd ∧ w.heap.size ≤ wd.heap.size) := ⟨BB.out.1.trans (hbd.mono BB.out.2), Nat.le_trans BB.out.2 hbd.size⟩
     have HBD : Aside (Below wc.heap.size wc wd) := hbd
     clear hbd
     go_wp2_with fail
     refine (HWX.out _ HBD.out).mono ?_
     rintro e we ⟨rfl, hbe⟩
     replace BB : Aside (Below w.heap.size w we ∧ w.heap.size ≤ we.heap.size) := ⟨BB.out.1.trans (hbe.mono BB.out.2), Nat.le_trans BB.out.2 hbe.size⟩
     clear hbe slt tlt
     (try clear s0)
     (try clear s1)
     (try clear s2)
     (try clear s3)
     (try clear s4)
     (try clear s5)
     (try clear s6)
     (try clear t0)
     (try clear t1)
     (try clear t2)
     (try clear t3)
     (try clear t4)
     (try clear t5)
     (try clear t6)
     go_wp2_with fail
     refine (HK.out _).mono ?_
     rintro e wf ⟨rfl, hbf⟩
     go_wp2
     go_ret
     exact ⟨rfl, BB.out.1.trans (hbf.mono BB.out.2)⟩
    | true =>
     have hev : er = 0 := by have := HER.out; rw [hvl] at this; simp at this; exact this.symm
     subst hev
     have HQ : Aside (∀ W, Below w.heap.size w W → Calls Try.prog 24 #[.agg #[vc, .int .i64 r.first, .int .i64 r.rounds, .bool r.equal]] W (Ret (.bool true) W)) := by have := XQ.out; rw [hvl] at this; exact this
     clear hvl
     go_wp2_with fail
     refine (HQ.out _ BB.out.1).mono ?_
     rintro e w9 ⟨rfl, hb9⟩
     replace BX : Aside (w9.heap[w.heap.size]? = some (.cells #[vc, .int .i64 r.first, .int .i64 r.rounds, .bool r.equal] 42 (0, 0))) := (hb9.block _ (Array.getElem?_eq_some_iff.1 BX.out).1).trans BX.out
     replace BB : Aside (Below w.heap.size w w9 ∧ w.heap.size ≤ w9.heap.size) := ⟨BB.out.1.trans (hb9.mono BB.out.2), Nat.le_trans BB.out.2 hb9.size⟩
     replace B8 : Aside (w9.heap[X8]? = some (.cells #[.slice A1 nl C1, .slice A2 nd C2, .slice A3 ni C3, .int .i64 gn, .int .i64 gr, .bool go, .slice A4 nw C4] 51 (0, 0))) := (hb9.block _ (Array.getElem?_eq_some_iff.1 B8.out).1).trans B8.out
     replace HS7 : Aside (SameAt w9 (.agg #[.slice A1 nl C1, .slice A2 nd C2, .slice A3 ni C3, .int .i64 gn, .int .i64 gr, .bool go, .slice A4 nw C4]) sg) := HS7.out.below hb9
     clear hb9 qlt B5
     (try clear q0)
     (try clear q1)
     (try clear q2)
     (try clear q3)
     (try clear q4)
     (try clear q5)
     (try clear q6)
     have q0 : w9.cell? ⟨w.heap.size, 0, none⟩ = some (vc) := blk_cell BX.out rfl
     have q1 : w9.cell? ⟨w.heap.size, 1, none⟩ = some (.int .i64 r.first) := blk_cell BX.out rfl
     have q2 : w9.cell? ⟨w.heap.size, 2, none⟩ = some (.int .i64 r.rounds) := blk_cell BX.out rfl
     have q3 : w9.cell? ⟨w.heap.size, 3, none⟩ = some (.bool r.equal) := blk_cell BX.out rfl
     have qlt : w.heap.size < w9.heap.size := (Array.getElem?_eq_some_iff.1 BX.out).1
     go_wp2_with fail
     refine (XP.out _ BB.out.1).mono ?_
     rintro e wc ⟨hbc, vs2, rfl, hs2⟩
     rw [HPE.out.1, HPE.out.2]
     have HS2 : Aside (SameAt wc vs2 sg) := by rw [HSG.out] at hs2; exact hs2
     clear hs2
     replace BX : Aside (wc.heap[w.heap.size]? = some (.cells #[vc, .int .i64 r.first, .int .i64 r.rounds, .bool r.equal] 42 (0, 0))) := (hbc.block _ (Array.getElem?_eq_some_iff.1 BX.out).1).trans BX.out
     replace BB : Aside (Below w.heap.size w wc ∧ w.heap.size ≤ wc.heap.size) := ⟨BB.out.1.trans (hbc.mono BB.out.2), Nat.le_trans BB.out.2 hbc.size⟩
     replace B8 : Aside (wc.heap[X8]? = some (.cells #[.slice A1 nl C1, .slice A2 nd C2, .slice A3 ni C3, .int .i64 gn, .int .i64 gr, .bool go, .slice A4 nw C4] 51 (0, 0))) := (hbc.block _ (Array.getElem?_eq_some_iff.1 B8.out).1).trans B8.out
     replace HS7 : Aside (SameAt wc (.agg #[.slice A1 nl C1, .slice A2 nd C2, .slice A3 ni C3, .int .i64 gn, .int .i64 gr, .bool go, .slice A4 nw C4]) sg) := HS7.out.below hbc
     clear hbc qlt
     (try clear q0)
     (try clear q1)
     (try clear q2)
     (try clear q3)
     (try clear q4)
     (try clear q5)
     (try clear q6)
     have HT2 := HS2
     obtain ⟨vl, vd, vi, vw, rfl, hsl, hsd, hsi, hsw⟩ := HS2.out
     obtain ⟨D1, E1, rfl, -, -⟩ := hsl
     obtain ⟨D2, E2, rfl, -, -⟩ := hsd
     obtain ⟨D3, E3, rfl, -, -⟩ := hsi
     obtain ⟨D4, E4, rfl, -, -⟩ := hsw
     clear HS2
     obtain ⟨ml, hml⟩ : ∃ n, sg.left.length = n := ⟨_, rfl⟩
     obtain ⟨md, hmd⟩ : ∃ n, sg.darts.length = n := ⟨_, rfl⟩
     obtain ⟨mi, hmi⟩ : ∃ n, sg.inn.length = n := ⟨_, rfl⟩
     obtain ⟨mw, hmw⟩ : ∃ n, sg.wins.length = n := ⟨_, rfl⟩
     rw [hml, hmd, hmi, hmw, HGG.out.1, HGG.out.2.1, HGG.out.2.2] at HT2 ⊢
     clear hml hmd hmi hmw
     have t0 : wc.cell? ⟨X8, 0, none⟩ = some (.slice A1 nl C1) := blk_cell B8.out rfl
     have t1 : wc.cell? ⟨X8, 1, none⟩ = some (.slice A2 nd C2) := blk_cell B8.out rfl
     have t2 : wc.cell? ⟨X8, 2, none⟩ = some (.slice A3 ni C3) := blk_cell B8.out rfl
     have t3 : wc.cell? ⟨X8, 3, none⟩ = some (.int .i64 gn) := blk_cell B8.out rfl
     have t4 : wc.cell? ⟨X8, 4, none⟩ = some (.int .i64 gr) := blk_cell B8.out rfl
     have t5 : wc.cell? ⟨X8, 5, none⟩ = some (.bool go) := blk_cell B8.out rfl
     have t6 : wc.cell? ⟨X8, 6, none⟩ = some (.slice A4 nw C4) := blk_cell B8.out rfl
     have tlt : X8 < wc.heap.size := (Array.getElem?_eq_some_iff.1 B8.out).1
     have HWX : Aside (∀ W, Below wc.heap.size wc W → Calls Try.prog 26 #[.agg #[.slice A1 nl C1, .slice A2 nd C2, .slice A3 ni C3, .int .i64 gn, .int .i64 gr, .bool go, .slice A4 nw C4], .agg #[.slice D1 ml E1, .slice D2 md E2, .slice D3 mi E3, .int .i64 gn, .int .i64 gr, .bool go, .slice D4 mw E4]] W (Ret (.bool true) W)) := fun W hB => by
      have := rsame_any sg sg (.agg #[.slice A1 nl C1, .slice A2 nd C2, .slice A3 ni C3, .int .i64 gn, .int .i64 gr, .bool go, .slice A4 nw C4]) (.agg #[.slice D1 ml E1, .slice D2 md E2, .slice D3 mi E3, .int .i64 gn, .int .i64 gr, .bool go, .slice D4 mw E4]) W (HS7.out.below hB) (HT2.out.below hB)
      rw [sameF_eq, decide_eq_true rfl] at this
      exact this
     have hlx : ∀ i, wc.heap.size ≠ i → i = i := fun _ _ => rfl
     clear hlx
     go_upto_region 14 with (fail)
     obtain ⟨XC, hXC⟩ : ∃ X, X = wc.heap.size := ⟨_, rfl⟩
     obtain ⟨wd, hwd⟩ : ∃ u, u = wc.alloc (.cells #[.slice D1 ml E1, .slice D2 md E2, .slice D3 mi E3, .int .i64 gn, .int .i64 gr, .bool go, .slice D4 mw E4] 51) := ⟨_, rfl⟩
     have hbd : Below wc.heap.size wc wd := by rw [hwd]; exact (Below.refl _ _).alloc (Nat.le_refl _) _
     have BC : Aside (wd.heap[XC]? = some (.cells #[.slice D1 ml E1, .slice D2 md E2, .slice D3 mi E3, .int .i64 gn, .int .i64 gr, .bool go, .slice D4 mw E4] 51 (0, 0))) := by rw [hwd, hXC]; exact World.alloc_heap_new _ _
     rw [← hwd, ← hXC]
     clear hwd hXC
     replace t0 := keepc hbd t0
     replace t1 := keepc hbd t1
     replace t2 := keepc hbd t2
     replace t3 := keepc hbd t3
     replace t4 := keepc hbd t4
     replace t5 := keepc hbd t5
     replace t6 := keepc hbd t6
     have s0 : wd.cell? ⟨XC, 0, none⟩ = some (.slice D1 ml E1) := blk_cell BC.out rfl
     have s1 : wd.cell? ⟨XC, 1, none⟩ = some (.slice D2 md E2) := blk_cell BC.out rfl
     have s2 : wd.cell? ⟨XC, 2, none⟩ = some (.slice D3 mi E3) := blk_cell BC.out rfl
     have s3 : wd.cell? ⟨XC, 3, none⟩ = some (.int .i64 gn) := blk_cell BC.out rfl
     have s4 : wd.cell? ⟨XC, 4, none⟩ = some (.int .i64 gr) := blk_cell BC.out rfl
     have s5 : wd.cell? ⟨XC, 5, none⟩ = some (.bool go) := blk_cell BC.out rfl
     have s6 : wd.cell? ⟨XC, 6, none⟩ = some (.slice D4 mw E4) := blk_cell BC.out rfl
     replace tlt : X8 < wd.heap.size := Nat.lt_of_lt_of_le tlt hbd.size
     have slt : XC < wd.heap.size := (Array.getElem?_eq_some_iff.1 BC.out).1
     replace BB : Aside (Below w.heap.size w wd ∧ w.heap.size ≤ wd.heap.size) := ⟨BB.out.1.trans (hbd.mono BB.out.2), Nat.le_trans BB.out.2 hbd.size⟩
     have HBD : Aside (Below wc.heap.size wc wd) := hbd
     clear hbd
     go_wp2_with fail
     refine (HWX.out _ HBD.out).mono ?_
     rintro e we ⟨rfl, hbe⟩
     replace BB : Aside (Below w.heap.size w we ∧ w.heap.size ≤ we.heap.size) := ⟨BB.out.1.trans (hbe.mono BB.out.2), Nat.le_trans BB.out.2 hbe.size⟩
     clear hbe slt tlt
     (try clear s0)
     (try clear s1)
     (try clear s2)
     (try clear s3)
     (try clear s4)
     (try clear s5)
     (try clear s6)
     (try clear t0)
     (try clear t1)
     (try clear t2)
     (try clear t3)
     (try clear t4)
     (try clear t5)
     (try clear t6)
     go_wp2_with fail
     refine (HK.out _).mono ?_
     rintro e wf ⟨rfl, hbf⟩
     go_wp2
     go_ret
     exact ⟨rfl, BB.out.1.trans (hbf.mono BB.out.2)⟩
end
section
open Go.ChangeShapes Go.WideShapes Go.ChangeAt Go.RowKit Go.Joins
theorem fr_own : ownKnob Try.prog.godebug = none := by kernel_rfl
theorem fr_laid : laidOutB Try.prog = true := by kernel_rfl
theorem fs_get {α : Type} {xs : List α} {n i : Nat} (h : xs.length = n) (hi : i < n) : ∃ y, xs[i]? = some y := ⟨_, List.getElem?_eq_getElem (by omega)⟩
theorem fs_list2 {α : Type} {cs : List α} (h : cs.length = 2) : ∃ a b, cs = [a, b] := by
 match cs, h with
 | [a, b], _ => exact ⟨a, b, rfl⟩
theorem fs_list3 {α : Type} {cs : List α} (h : cs.length = 3) : ∃ a b c, cs = [a, b, c] := by
 match cs, h with
 | [a, b, c], _ => exact ⟨a, b, c, rfl⟩
/-- What an int can be. -/
def I64 (n : Int) : Prop := -9223372036854775808 ≤ n ∧ n ≤ 9223372036854775807
section
variable {H : Type} {enc : TypeId × Value → H} {w : World} {base : Nat} {spare : Nat → Bool} {held : Bool} {fuel : Nat} {cs : List Value} {y : DataW H × List MemPlace}
theorem b_open (h : DataW.trod enc Try.prog w base spare held fuel 4 cs = some y) : ∃ b, cs = [.bool b] := by
 obtain ⟨b, e0, _⟩ := DataW.trod_bool Try.underlying4 h
 exact ⟨b, e0⟩
theorem z_open (h : DataW.trod enc Try.prog w base spare held fuel 3 cs = some y) : ∃ a, cs = [.int .i64 a] ∧ I64 a := by
 obtain ⟨a, e0, _, wa⟩ := DataW.trod_int Try.underlying3 h
 exact ⟨a, e0, bounds_i64 wa⟩
theorem gate_open (h : DataW.trod enc Try.prog w base spare held fuel 22 cs = some y) : ∃ a, cs = [.int .i64 a] ∧ I64 a := by
 obtain ⟨a, e0, _, wa⟩ := DataW.trod_int Try.underlying22 h
 exact ⟨a, e0, bounds_i64 wa⟩
theorem beds_open (h : DataW.trod enc Try.prog w base spare held fuel 27 cs = some y) : ∃ v xs, cs = [v] ∧ Sl w 1 (fun x => [Value.int .i64 x]) v xs ∧ ∀ x ∈ xs, I64 x := by
 rcases open_ints Try.underlying27 Try.underlying34 (by kernel_rfl) h with ⟨hcs, _⟩ | ⟨a, len, cap, zs, hcs, _, hl, hm, hz, _, hcell, hwz⟩
 ·exact ⟨_, [], hcs, ⟨none, 0, rfl, by simp, fun h => absurd rfl h⟩, by simp⟩
 ·have hll : len ≤ zs.length := by rw [hz]; split <;> omega
  have hle : (zs.take len).length = len := by rw [List.length_take]; omega
  refine ⟨_, zs.take len, hcs, ⟨some a, cap, by rw [hle], ?_, ?_⟩, fun x hx => bounds_i64 (hwz x (List.mem_of_mem_take hx))⟩
  ·rw [hle]; unfold maxLen at hm; omega
  ·intro hne
   have hp : 0 < zs.length := by
    rcases Nat.eq_zero_or_pos zs.length with h0 | h0
    ·rw [List.eq_nil_of_length_eq_zero h0] at hne; simp at hne
    ·exact h0
   obtain ⟨b, off, rfl, hc⟩ := ints_at hcell hp
   refine ⟨b, off, rfl, World.block_lt_of_cell? w _ (hc 0 hp), ?_⟩
   intro j x hx i u hu
   match i, hu with
   | 0, hu =>
    simp at hu; subst hu
    have hj : j < zs.length := by
     have := (List.getElem?_eq_some_iff.1 hx).1
     rw [hle] at this; omega
    have hjl : j < len := by have := (List.getElem?_eq_some_iff.1 hx).1; rwa [hle] at this
    rw [Nat.mul_one, Nat.add_zero, hc j hj, List.getD_eq_getElem?_getD]
    rw [List.getElem?_take_of_lt hjl] at hx
    rw [hx]; rfl
   | i + 1, hu => simp at hu
/-- oche/api.Count -/
theorem count_open (h : DataW.trod enc Try.prog w base spare held fuel 24 cs = some y) : ∃ a b c, cs = [.int .i64 a, .int .i64 b, .int .i64 c] ∧ (I64 a) ∧ (I64 b) ∧ (I64 c) := by
 obtain ⟨xs, m, rfl, _, hl, hx, hf⟩ := DataW.trod_struct Try.underlying24 h
 obtain ⟨c0, c1, c2, rfl⟩ := fs_list3 (hl.trans (by kernel_rfl))
 have e0 : Try.prog.cellsOf 3 = 1 := by kernel_rfl
 have e1 : Try.prog.cellsOf 22 = 1 := by kernel_rfl
 have f0 := hf 0 _ rfl
 have f1 := hf 1 _ rfl
 have f2 := hf 2 _ rfl
 have hxm : xs.length = 3 := hx
 obtain ⟨y0, g0⟩ := fs_get hxm (show 0 < 3 by omega)
 rw [g0] at f0
 obtain ⟨y1, g1⟩ := fs_get hxm (show 1 < 3 by omega)
 rw [g1] at f1
 obtain ⟨y2, g2⟩ := fs_get hxm (show 2 < 3 by omega)
 rw [g2] at f2
 simp [e0, e1] at f0 f1 f2
 obtain ⟨a, h0, b0⟩ := z_open f0
 obtain ⟨b, h1, b1⟩ := gate_open f1
 obtain ⟨c, h2, b2⟩ := gate_open f2
 simp at h0
 subst h0
 simp at h1
 subst h1
 simp at h2
 subst h2
 exact ⟨_, _, _, rfl, b0, b1, b2⟩
end
end
section
open Go.ChangeShapes Go.WideShapes Go.ChangeAt Go.RowKit Go.Joins
theorem add_flat (b off i : Nat) : (⟨b, off, none⟩ : Addr).add i = ⟨b, off + i, none⟩ := by
 unfold Addr.add
 split
 ·rename_i h; subst h; rfl
 ·rfl
section
variable {H : Type} {enc : TypeId × Value → H} {w : World} {base : Nat} {spare : Nat → Bool} {held : Bool} {fuel : Nat} {cs : List Value} {y : DataW H × List MemPlace}
/-- A slice, its elements opened by a word of their own. -/
theorem slice_open {α : Type} [Inhabited α] {t e : TypeId} {k : Nat} {encA : α → List Value} (Good : α → Prop) (ht : Try.prog.underlying t = some (.slice e)) (ce : Try.prog.cellsOf e = k) (hk : 0 < k)
  (hel : ∀ fuel cs y, DataW.trod enc Try.prog w base spare held fuel e cs = some y → ∃ x, cs = encA x ∧ Good x) (h : DataW.trod enc Try.prog w base spare held fuel t cs = some y) :
  ∃ v xs, cs = [v] ∧ Sl w k encA v xs ∧ ∀ x ∈ xs, Good x := by
 rcases Go.Deep.open_slice ht h with ⟨hcs, _⟩ | ⟨a, len, cap, m, n, D, Pl, hcs, _, hl, hm, hmm, _, hc⟩
 ·exact ⟨_, [], hcs, ⟨none, 0, rfl, by simp, fun h => absurd rfl h⟩, by simp⟩
 ·have hll : len ≤ m := by rw [hmm]; split <;> omega
  rw [ce] at hc
  have each : ∀ i, i < len → ∃ x : α, (∀ j u, (encA x)[j]? = some u → j < k ∧ w.cell? ((a.add (i * k)).add j) = some u) ∧ (encA x).length = k ∧ Good x := by
   intro i hi
   obtain ⟨cs', h1, h2⟩ := hc i (by omega)
   obtain ⟨x, rfl, hg⟩ := hel _ _ _ h2
   obtain ⟨_, hlen, hcell⟩ := World.cells?_some h1
   refine ⟨x, fun j u hu => ?_, hlen, hg⟩
   have hj := (List.getElem?_eq_some_iff.1 hu).1
   exact ⟨by omega, by rw [hcell j (by omega)]; exact hu⟩
  obtain ⟨f, hf⟩ := Go.Deep.choose_lt each
  refine ⟨_, (List.range len).map f, hcs, ⟨some a, cap, by simp, ?_, ?_⟩, ?_⟩
  ·simp; unfold maxLen at hm; omega
  ·intro hne
   have hp : 0 < len := by
    rcases Nat.eq_zero_or_pos len with h0 | h0
    ·subst h0; simp at hne
    ·exact h0
   obtain ⟨u0, hu0⟩ : ∃ u, (encA (f 0))[0]? = some u := ⟨_, List.getElem?_eq_getElem (by have := (hf 0 hp).2.1; omega)⟩
   have h00 := ((hf 0 hp).1 0 u0 hu0).2
   obtain ⟨b, off, spot⟩ := a
   have hspot : spot = none := by simpa [Addr.add] using World.cell?_spot h00
   subst hspot
   refine ⟨b, off, rfl, ?_, ?_⟩
   ·have := World.block_lt_of_cell? w _ h00
    rw [add_flat, add_flat] at this
    exact this
   ·intro j x hx i u hu
    rw [List.getElem?_map] at hx
    have hj : j < len := by
     rcases Nat.lt_or_ge j len with h | h
     ·exact h
     ·rw [List.getElem?_eq_none (by simpa using h)] at hx; cases hx
    rw [List.getElem?_range hj] at hx
    simp at hx; subst hx
    have g0 := ((hf j hj).1 i u hu).2
    rw [add_flat, add_flat] at g0
    exact g0
  ·intro x hx
   obtain ⟨i, hi, rfl⟩ := List.mem_map.1 hx
   exact (hf i (List.mem_range.1 hi)).2.2
end
end
section
open Go.ChangeShapes Go.WideShapes Go.ChangeAt Go.RowKit Go.Joins
theorem fs_list4 {α : Type} {cs : List α} (h : cs.length = 4) : ∃ a b c d, cs = [a, b, c, d] := by
 match cs, h with
 | [a, b, c, d], _ => exact ⟨a, b, c, d, rfl⟩
section
variable {H : Type} {enc : TypeId × Value → H} {w : World} {base : Nat} {spare : Nat → Bool} {held : Bool} {fuel : Nat} {cs : List Value} {y : DataW H × List MemPlace}
theorem counts_open (h : DataW.trod enc Try.prog w base spare held fuel 40 cs = some y) : ∃ v, ∃ xs : List Cnt, cs = [v] ∧ Sl w 3 encC v xs ∧ ∀ x ∈ xs, True :=
 slice_open (fun x : Cnt => True) Try.underlying40 (by kernel_rfl) (by omega) (fun _ _ _ h => by obtain ⟨a, b, c, rfl, _⟩ := count_open h; exact ⟨(a, b, c), rfl, trivial⟩) h
/-- oche/api.LegRules -/
theorem rules_open (h : DataW.trod enc Try.prog w base spare held fuel 42 cs = some y) : ∃ v xs a b d, cs = [v, .int .i64 a, .int .i64 b, .bool d] ∧ (Sl w 3 encC v xs ∧ ∀ x ∈ xs, True) ∧ (I64 a) ∧ (I64 b) := by
 obtain ⟨xs, m, rfl, _, hl, hx, hf⟩ := DataW.trod_struct Try.underlying42 h
 obtain ⟨c0, c1, c2, c3, rfl⟩ := fs_list4 (hl.trans (by kernel_rfl))
 have e0 : Try.prog.cellsOf 40 = 1 := by kernel_rfl
 have e1 : Try.prog.cellsOf 4 = 1 := by kernel_rfl
 have e2 : Try.prog.cellsOf 3 = 1 := by kernel_rfl
 have f0 := hf 0 _ rfl
 have f1 := hf 1 _ rfl
 have f2 := hf 2 _ rfl
 have f3 := hf 3 _ rfl
 have hxm : xs.length = 4 := hx
 obtain ⟨y0, g0⟩ := fs_get hxm (show 0 < 4 by omega)
 rw [g0] at f0
 obtain ⟨y1, g1⟩ := fs_get hxm (show 1 < 4 by omega)
 rw [g1] at f1
 obtain ⟨y2, g2⟩ := fs_get hxm (show 2 < 4 by omega)
 rw [g2] at f2
 obtain ⟨y3, g3⟩ := fs_get hxm (show 3 < 4 by omega)
 rw [g3] at f3
 simp [e0, e1, e2] at f0 f1 f2 f3
 obtain ⟨v, xs, h0, b0⟩ := counts_open f0
 obtain ⟨a, h1, b1⟩ := z_open f1
 obtain ⟨b, h2, b2⟩ := z_open f2
 obtain ⟨d, h3⟩ := b_open f3
 simp at h0
 subst h0
 simp at h1
 subst h1
 simp at h2
 subst h2
 simp at h3
 subst h3
 exact ⟨_, _, _, _, _, rfl, b0, b1, b2⟩
/-- oche/api.LegVisit -/
theorem visit_open (h : DataW.trod enc Try.prog w base spare held fuel 84 cs = some y) : ∃ p v xs, cs = [.int .i64 p, v] ∧ (I64 p) ∧ (Sl w 1 (fun x => [Value.int .i64 x]) v xs ∧ ∀ x ∈ xs, I64 x) := by
 obtain ⟨xs, m, rfl, _, hl, hx, hf⟩ := DataW.trod_struct Try.underlying84 h
 obtain ⟨c0, c1, rfl⟩ := fs_list2 (hl.trans (by kernel_rfl))
 have e0 : Try.prog.cellsOf 27 = 1 := by kernel_rfl
 have e1 : Try.prog.cellsOf 3 = 1 := by kernel_rfl
 have f0 := hf 0 _ rfl
 have f1 := hf 1 _ rfl
 have hxm : xs.length = 2 := hx
 obtain ⟨y0, g0⟩ := fs_get hxm (show 0 < 2 by omega)
 rw [g0] at f0
 obtain ⟨y1, g1⟩ := fs_get hxm (show 1 < 2 by omega)
 rw [g1] at f1
 simp [e0, e1] at f0 f1
 obtain ⟨p, h0, b0⟩ := z_open f0
 obtain ⟨v, xs, h1, b1⟩ := beds_open f1
 simp at h0
 subst h0
 simp at h1
 subst h1
 exact ⟨_, _, _, rfl, b0, b1⟩
theorem visits_open (h : DataW.trod enc Try.prog w base spare held fuel 43 cs = some y) :
  ∃ v, ∃ lv : List (Int × Value × List Int), cs = [v] ∧ Sl w 2 encV v lv ∧ ∀ x ∈ lv, Sl w 1 eI x.2.1 x.2.2 ∧ ∀ b ∈ x.2.2, I64 b :=
 slice_open (fun x : Int × Value × List Int => Sl w 1 eI x.2.1 x.2.2 ∧ ∀ b ∈ x.2.2, I64 b) Try.underlying43 (by kernel_rfl) (by omega)
  (fun _ _ _ h => by obtain ⟨p, v, xs, rfl, _, h1⟩ := visit_open h; exact ⟨(p, v, xs), rfl, h1⟩) h
end
end
end Go.Proofs.Ytgmlcgifagbjmaa
