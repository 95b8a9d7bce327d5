/- Leg: parts Hb, Hc. -/
import Derived.Deep.DeepCutAuto
import Derived.Test.YtgmlcgifagbjmaaPay
import Derived.Test.YtgmlcgifagbjmaaPau
set_option linter.unusedVariables false
set_option linter.unusedSimpArgs false
namespace Go.Proofs.Ytgmlcgifagbjmaa
section
open Go.RowKit Go.Maps Go.Sort Go.Shelf Go.Deep
/-- The types of the rows, what lies in them after p players, and what is put behind. -/
def bgT : Nat → TypeId
 | 0 => 3
 | 1 => 3
 | _ => 4
def bgx (c : Cnt) : Nat → Value
 | 0 => .int .i64 c.1
 | 1 => .int .i64 0
 | _ => .bool (c.2.1 == 0)
def bgX (r : LegR) (p : Nat) (j : Nat) : List Value := (r.counts.take p).map fun c => bgx c j
theorem bgX_step {r : LegR} {p : Nat} {c : Cnt} (h : r.counts[p]? = some c) (j : Nat) : bgX r (p + 1) j = bgX r p j ++ [bgx c j] := by
 unfold bgX; rw [List.take_add_one, h, List.map_append]; rfl
/-- What holds at the head of a round. -/
structure BI (w : World) (r : LegR) (vc : Value) (p : Nat) (wr : World) (v : Nat → Value) : Prop where
 bel : Below w.heap.size w wr
 siz : w.heap.size + 1 + 1 + 1 ≤ wr.heap.size
 rul : wr.heap[w.heap.size]? = some (.cells #[vc, .int .i64 r.first, .int .i64 r.rounds, .bool r.equal] 42 (0, 0))
 zero : RgB wr (w.heap.size + 1) zeroC
 leg : RgB wr (w.heap.size + 1 + 1) (rgC (rg0 r) (v 0) (v 1) (v 2) (.slice none 0 0) (.slice none 0 0))
 row : ∀ j, j < 3 → wr.ownsRow (w.heap.size + 1 + 1 + 1) (bgT j) 1 (v j) p (bgX r p j)
 dis : ∀ i, i < 3 → ∀ j, j < 3 → i ≠ j → ∀ g, (v i).ownBlock = some g → (v j).ownBlock ≠ some g
theorem BI.start {w wr : World} {r : LegR} {vc : Value} {p : Nat} {v : Nat → Value} (h : BI w r vc p wr v) (c : Cnt) (m : Nat) (a : Act) : Gr w (w.heap.size + 1 + 1 + 1) (w.heap.size + 1 + 1) (fun j => (⟨bgT j, v j, p, bgX r p j, bgx c j⟩ : GD)) (rg0 r) wr (Array.replicate m false) a (fun j => v j) wr.drew :=
 Gr.start (G := fun j => (⟨bgT j, v j, p, bgX r p j, bgx c j⟩ : GD)) h.bel h.siz h.leg h.row h.dis m a
theorem Gr.cell {w base W : World} {Z L' : Nat} {G : Nat → GD} {R : RG} {listed : Array Bool} {a : Act} {r : Nat → Value} (h : Gr w Z L' G R base listed a r W) (j : Nat) (hj : j < 3) (hl : listed.getD (bgN j).is false = false) : W.cell? ⟨L', j, none⟩ = some (G j).v := by
 have e : grV G listed r j = (G j).v := by unfold grV; rw [if_neg (by rw [hl]; simp)]
 match j, hj with
 | 0, _ => rw [← e]; exact blk_cell h.leg rfl
 | 1, _ => rw [← e]; exact blk_cell h.leg rfl
 | 2, _ => rw [← e]; exact blk_cell h.leg rfl
theorem BI.next {w wr W : World} {r : LegR} {vc : Value} {p : Nat} {v : Nat → Value} {c : Cnt} {listed : Array Bool} {a : Act} {rr : Nat → Value} (h : BI w r vc p wr v) (hc : r.counts[p]? = some c) (hG : Gr w (w.heap.size + 1 + 1 + 1) (w.heap.size + 1 + 1) (fun j => (⟨bgT j, v j, p, bgX r p j, bgx c j⟩ : GD)) (rg0 r) wr listed a rr W) (hl : ∀ j, j < 3 → listed.getD (bgN j).ia false = true ∧ listed.getD (bgN j).is false = true) : BI w r vc (p + 1) W rr := by
 refine ⟨hG.bel, hG.siz, (hG.fix _ (by omega) (by omega)).trans h.rul, (hG.fix _ (by omega) (by omega)).trans h.zero, ?_, fun j hj => ?_, hG.dis⟩
 ·have := hG.leg
  unfold grV at this
  rw [if_pos (hl 0 (by decide)).2, if_pos (hl 1 (by decide)).2, if_pos (hl 2 (by decide)).2] at this
  exact this
 ·rw [bgX_step hc j]; exact ((hG.row j hj).2 (hl j hj).1).2
section
variable {w wr w5 : World} {r : LegR} {n p cp b off : Nat} {c1 c2 c3 : Int} {v : Nat → Value}
set_option maxRecDepth 100000 in
set_option maxHeartbeats 16000000 in
theorem beg5 {ops : List Oper} {Q : Exit → Act → World → Prop} {a0 : Act} (HBI : Aside (BI w r (.slice (some ⟨b, off, none⟩) n cp) p wr v)) (h1 : w.cell? ⟨b, off + p * 3, none⟩ = some (.int .i64 c1)) (h2 : w.cell? ⟨b, off + p * 3 + 1, none⟩ = some (.int .i64 c2)) (hltp : p < n) (hltz : (p : Int) < (n : Int)) (h8 : n ≤ 8) (hpl : p ≤ r.counts.length) (hops : regOps 5 Try.f49 = some ops) (hsz0 : a0.tmps.size = 51) (hs1 : a0.tmps.getD 1 undef = .pointer (some ⟨w.heap.size, 0, none⟩)) (hs3 : a0.tmps.getD 3 undef = .pointer (some ⟨(w.heap.size + 1 + 1), 0, none⟩)) (hs4 : a0.tmps.getD 4 undef = .int .i64 (p : Int))
  (hrest : ∀ (ac : Act) (w5 : World), LaidG ops.toArray a0 (fun (i : Nat) (x : Value) (ww : World) => (match i with | 0 => x = .pointer (some ⟨(w.heap.size + 1 + 1), 0, none⟩) | 1 => x = .pointer (some ⟨(w.heap.size + 1 + 1), 0, none⟩) | 2 => x = v 0 | 3 => x = .pointer (some ⟨w.heap.size, 0, none⟩) | 4 => x = .slice (some ⟨b, off, none⟩) n cp | 5 => x = .int .i64 (p : Int) | 6 => x = .pointer (some ⟨b, off + p * 3, none⟩) | 7 => x = .pointer (some ⟨b, off + p * 3, none⟩) | 8 => x = .int .i64 c1 | 9 => True | 10 => True | 11 => x = .pointer (some ⟨(w.heap.size + 1 + 1), 0, none⟩) | 12 => x = .pointer (some ⟨(w.heap.size + 1 + 1), 1, none⟩) | 13 => x = v 1 | 14 => True | 15 => True | 16 => x = .pointer (some ⟨(w.heap.size + 1 + 1), 0, none⟩) | 17 => x = .pointer (some ⟨(w.heap.size + 1 + 1), 2, none⟩) | 18 => x = v 2 | 19 => x = .pointer (some ⟨w.heap.size, 0, none⟩) | 20 => x = .slice (some ⟨b, off, none⟩) n cp | 21 => x = .int .i64 (p : Int) | 22 => x = .pointer (some ⟨b, off + p * 3, none⟩) | 23 => x = .pointer (some ⟨b, off + p * 3 + 1, none⟩) | 24 => x = .int .i64 c2 | 25 => x = .bool (c2 == 0) | 26 => True | 27 => True | 28 => x = .pointer (some ⟨(w.heap.size + 1 + 1), 0, none⟩) | 29 => x = .pointer (some ⟨(w.heap.size + 1 + 1), 0, none⟩) | 30 => True | 31 => x = .pointer (some ⟨(w.heap.size + 1 + 1), 0, none⟩) | 32 => x = .pointer (some ⟨(w.heap.size + 1 + 1), 1, none⟩) | 33 => True | 34 => x = .pointer (some ⟨(w.heap.size + 1 + 1), 0, none⟩) | 35 => x = .pointer (some ⟨(w.heap.size + 1 + 1), 2, none⟩) | 36 => True | _ => True : Prop)) (fun listed a W => ∃ rr, Gr w (w.heap.size + 1 + 1 + 1) (w.heap.size + 1 + 1) (fun j => (⟨bgT j, v j, p, bgX r p j, bgx (c1, c2, c3) j⟩ : GD)) (rg0 r) wr listed a rr W) #[true, true, true, true, true, true, true, true, true, true, true, true, true, true, true, true, true, true, true, true, true, true, true, true, true, true, true, true, true, true, true, true, true, true, true, true, true] ac w5 → wpAny Try.prog .any ops.toArray Q 0 #[true, true, true, true, true, true, true, true, true, true, true, true, true, true, true, true, true, true, true, true, true, true, true, true, true, true, true, true, true, true, true, true, true, true, true, true, true] ac w5) : (Code.region 5 ops.toArray true).wp Try.prog Q a0 wr := by
 (conv at hops => lhs; whnf)
 obtain rfl := Option.some.inj hops
 clear hops
 obtain ⟨i0, hi0, hz0, hz1, hz2⟩ := info_parts info_int
 obtain ⟨j0, hj0, jz0, jz1, jz2⟩ := info_parts info_bool
 refine region_laidK (fun _ _ => True) (fl := 16) [true, true, true, true, true, true, true, true, true, true, true, true, true, true, true, true, true, true, true, true, true, true, true, true, true, true, true, true, true, true, true, true, true, true, true, true, true] 0 (fun (i : Nat) (x : Value) (ww : World) => (match i with | 0 => x = .pointer (some ⟨(w.heap.size + 1 + 1), 0, none⟩) | 1 => x = .pointer (some ⟨(w.heap.size + 1 + 1), 0, none⟩) | 2 => x = v 0 | 3 => x = .pointer (some ⟨w.heap.size, 0, none⟩) | 4 => x = .slice (some ⟨b, off, none⟩) n cp | 5 => x = .int .i64 (p : Int) | 6 => x = .pointer (some ⟨b, off + p * 3, none⟩) | 7 => x = .pointer (some ⟨b, off + p * 3, none⟩) | 8 => x = .int .i64 c1 | 9 => True | 10 => True | 11 => x = .pointer (some ⟨(w.heap.size + 1 + 1), 0, none⟩) | 12 => x = .pointer (some ⟨(w.heap.size + 1 + 1), 1, none⟩) | 13 => x = v 1 | 14 => True | 15 => True | 16 => x = .pointer (some ⟨(w.heap.size + 1 + 1), 0, none⟩) | 17 => x = .pointer (some ⟨(w.heap.size + 1 + 1), 2, none⟩) | 18 => x = v 2 | 19 => x = .pointer (some ⟨w.heap.size, 0, none⟩) | 20 => x = .slice (some ⟨b, off, none⟩) n cp | 21 => x = .int .i64 (p : Int) | 22 => x = .pointer (some ⟨b, off + p * 3, none⟩) | 23 => x = .pointer (some ⟨b, off + p * 3 + 1, none⟩) | 24 => x = .int .i64 c2 | 25 => x = .bool (c2 == 0) | 26 => True | 27 => True | 28 => x = .pointer (some ⟨(w.heap.size + 1 + 1), 0, none⟩) | 29 => x = .pointer (some ⟨(w.heap.size + 1 + 1), 0, none⟩) | 30 => True | 31 => x = .pointer (some ⟨(w.heap.size + 1 + 1), 0, none⟩) | 32 => x = .pointer (some ⟨(w.heap.size + 1 + 1), 1, none⟩) | 33 => True | 34 => x = .pointer (some ⟨(w.heap.size + 1 + 1), 0, none⟩) | 35 => x = .pointer (some ⟨(w.heap.size + 1 + 1), 2, none⟩) | 36 => True | _ => True : Prop)) (fun listed a W => ∃ rr, Gr w (w.heap.size + 1 + 1 + 1) (w.heap.size + 1 + 1) (fun j => (⟨bgT j, v j, p, bgX r p j, bgx (c1, c2, c3) j⟩ : GD)) (rg0 r) wr listed a rr W) (by kernel_rfl) rfl (by rw [hsz0]; decide +kernel) rfl ⟨_, HBI.out.start (c1, c2, c3) _ _⟩ ?mono ?step hrest
 case mono =>
  intro i x ww ww' hB h
  match i, h with
  | 0, h => exact h
  | 1, h => exact h
  | 2, h => exact h
  | 3, h => exact h
  | 4, h => exact h
  | 5, h => exact h
  | 6, h => exact h
  | 7, h => exact h
  | 8, h => exact h
  | 9, h => exact h
  | 10, h => exact h
  | 11, h => exact h
  | 12, h => exact h
  | 13, h => exact h
  | 14, h => exact h
  | 15, h => exact h
  | 16, h => exact h
  | 17, h => exact h
  | 18, h => exact h
  | 19, h => exact h
  | 20, h => exact h
  | 21, h => exact h
  | 22, h => exact h
  | 23, h => exact h
  | 24, h => exact h
  | 25, h => exact h
  | 26, h => exact h
  | 27, h => exact h
  | 28, h => exact h
  | 29, h => exact h
  | 30, h => exact h
  | 31, h => exact h
  | 32, h => exact h
  | 33, h => exact h
  | 34, h => exact h
  | 35, h => exact h
  | 36, h => exact h
  | n + 37, h => exact h
 case step =>
  intro i o_ listed ac W hA ho hL he hcl hli hsz
  have hk1 : ac.tmps.getD 1 undef = .pointer (some ⟨w.heap.size, 0, none⟩) := (hL.kept 1 (by decide +kernel)).trans hs1
  have hk3 : ac.tmps.getD 3 undef = .pointer (some ⟨(w.heap.size + 1 + 1), 0, none⟩) := (hL.kept 3 (by decide +kernel)).trans hs3
  have hk4 : ac.tmps.getD 4 undef = .int .i64 (p : Int) := (hL.kept 4 (by decide +kernel)).trans hs4
  obtain ⟨rr, hG⟩ := hL.cls
  have kb := blk_cell ((hG.fix w.heap.size (by omega) (by omega)).trans HBI.out.rul) (i := 0) rfl
  have kc1 := keepc hG.bel h1
  have kc2 := keepc hG.bel h2
  match i, hA, ho with
  | 0, _, ho =>
   cases ho
   refine wpOp_plain rfl rfl ?_
   unfold Oper.wp
   go_simp
   first | exact ⟨_, rfl, trivial, ⟨rr, hG.other rfl⟩, rfl⟩ | exact ⟨trivial, ⟨rr, hG.other rfl⟩⟩ | exact ⟨rr, hG.other rfl⟩
  | 1, _, ho =>
   cases ho
   have d0 : ac.tmps.getD 16 undef = .pointer (some ⟨(w.heap.size + 1 + 1), 0, none⟩) := hL.new 0 _ 16 rfl (he ⟨0, .data⟩ (by simp) rfl) rfl
   refine wpOp_plain rfl rfl ?_
   unfold Oper.wp
   go_simp
   first | exact ⟨_, rfl, trivial, ⟨rr, hG.other rfl⟩, rfl⟩ | exact ⟨trivial, ⟨rr, hG.other rfl⟩⟩ | exact ⟨rr, hG.other rfl⟩
  | 2, _, ho =>
   cases ho
   have d1 : ac.tmps.getD 17 undef = .pointer (some ⟨(w.heap.size + 1 + 1), 0, none⟩) := hL.new 1 _ 17 rfl (he ⟨1, .data⟩ (by simp) rfl) rfl
   have la : listed.getD 10 false = false := by
    cases hx : listed.getD 10 false with
    | false => rfl
    | true =>
     have h8 := hcl 10 _ rfl hx ⟨2, .data⟩ (by simp) rfl
     simp only [Array.getD_eq_getD_getElem?] at h8 hli
     rw [Array.getElem?_eq_getElem (show 2 < listed.size by rw [hsz]; decide)] at h8 hli
     rw [Option.getD_some] at h8 hli
     rw [h8] at hli
     exact absurd hli (by simp)
   have lx : listed.getD 30 false = false := by
    cases hx : listed.getD 30 false with
    | false => rfl
    | true =>
     have h8 := hcl 30 _ rfl hx ⟨10, .data⟩ (by simp) rfl
     rw [la] at h8; cases h8
   have kl : W.cell? ⟨(w.heap.size + 1 + 1), 0, none⟩ = some (v 0) := hG.cell 0 (by decide) lx
   refine wpOp_plain rfl rfl ?_
   unfold Oper.wp
   go_simp
   first | exact ⟨_, rfl, trivial, ⟨rr, hG.other rfl⟩, rfl⟩ | exact ⟨trivial, ⟨rr, hG.other rfl⟩⟩ | exact ⟨rr, hG.other rfl⟩
  | 3, _, ho =>
   cases ho
   refine wpOp_plain rfl rfl ?_
   unfold Oper.wp
   go_simp
   first | exact ⟨_, rfl, trivial, ⟨rr, hG.other rfl⟩, rfl⟩ | exact ⟨trivial, ⟨rr, hG.other rfl⟩⟩ | exact ⟨rr, hG.other rfl⟩
  | 4, _, ho =>
   cases ho
   have d3 : ac.tmps.getD 19 undef = .pointer (some ⟨w.heap.size, 0, none⟩) := hL.new 3 _ 19 rfl (he ⟨3, .data⟩ (by simp) rfl) rfl
   refine wpOp_plain rfl rfl ?_
   unfold Oper.wp
   go_simp
   first | exact ⟨_, rfl, trivial, ⟨rr, hG.other rfl⟩, rfl⟩ | exact ⟨trivial, ⟨rr, hG.other rfl⟩⟩ | exact ⟨rr, hG.other rfl⟩
  | 5, _, ho =>
   cases ho
   refine wpOp_plain rfl rfl ?_
   unfold Oper.wp
   go_simp
   first | exact ⟨_, rfl, trivial, ⟨rr, hG.other rfl⟩, rfl⟩ | exact ⟨trivial, ⟨rr, hG.other rfl⟩⟩ | exact ⟨rr, hG.other rfl⟩
  | 6, _, ho =>
   cases ho
   have d4 : ac.tmps.getD 20 undef = .slice (some ⟨b, off, none⟩) n cp := hL.new 4 _ 20 rfl (he ⟨4, .data⟩ (by simp) rfl) rfl
   have d5 : ac.tmps.getD 21 undef = .int .i64 (p : Int) := hL.new 5 _ 21 rfl (he ⟨5, .data⟩ (by simp) rfl) rfl
   refine wpOp_plain rfl rfl ?_
   unfold Oper.wp
   go_simp
   first | exact ⟨_, rfl, trivial, ⟨rr, hG.other rfl⟩, rfl⟩ | exact ⟨trivial, ⟨rr, hG.other rfl⟩⟩ | exact ⟨rr, hG.other rfl⟩
  | 7, _, ho =>
   cases ho
   have d6 : ac.tmps.getD 22 undef = .pointer (some ⟨b, off + p * 3, none⟩) := hL.new 6 _ 22 rfl (he ⟨6, .data⟩ (by simp) rfl) rfl
   refine wpOp_plain rfl rfl ?_
   unfold Oper.wp
   go_simp
   first | exact ⟨_, rfl, trivial, ⟨rr, hG.other rfl⟩, rfl⟩ | exact ⟨trivial, ⟨rr, hG.other rfl⟩⟩ | exact ⟨rr, hG.other rfl⟩
  | 8, _, ho =>
   cases ho
   have d7 : ac.tmps.getD 23 undef = .pointer (some ⟨b, off + p * 3, none⟩) := hL.new 7 _ 23 rfl (he ⟨7, .data⟩ (by simp) rfl) rfl
   refine wpOp_plain rfl rfl ?_
   unfold Oper.wp
   go_simp
   first | exact ⟨_, rfl, trivial, ⟨rr, hG.other rfl⟩, rfl⟩ | exact ⟨trivial, ⟨rr, hG.other rfl⟩⟩ | exact ⟨rr, hG.other rfl⟩
  | 9, _, ho =>
   cases ho
   have d8 : ac.tmps.getD 24 undef = .int .i64 c1 := hL.new 8 _ 24 rfl (he ⟨8, .data⟩ (by simp) rfl) rfl
   simp only [Array.getD_eq_getD_getElem?] at d8
   refine wpOp_plain rfl rfl ?_
   unfold Oper.wp
   go_simp
   first | exact ⟨_, rfl, rr, hG.build 0 (by decide) (by rw [hL.size, hsz0]; exact (by decide : (25 : Nat) < 51)) (by omega)⟩ | exact ⟨_, rfl, trivial, ⟨rr, hG.build 0 (by decide) (by rw [hL.size, hsz0]; exact (by decide : (25 : Nat) < 51)) (by omega)⟩, trivial⟩
  | 10, _, ho =>
   cases ho
   have d2 : ac.tmps.getD 18 undef = v 0 := hL.new 2 _ 18 rfl (he ⟨2, .data⟩ (by simp) rfl) rfl
   have lb : listed.getD 9 false = true := he ⟨9, .data⟩ (by simp) rfl
   have ls : listed.getD 10 false = false := by
    simp only [Array.getD_eq_getD_getElem?] at hli ⊢
    rw [Array.getElem?_eq_getElem (show 10 < listed.size by rw [hsz]; decide)] at hli ⊢
    simpa using hli
   have lx : listed.getD 30 false = false := by
    cases hx : listed.getD 30 false with
    | false => rfl
    | true =>
     have h8 := hcl 30 _ rfl hx ⟨10, .data⟩ (by simp) rfl
     rw [ls] at h8; cases h8
   obtain ⟨g, g1, g2, g3, g4⟩ := hG.one 0 (by decide) lb
   obtain ⟨hr0, hown⟩ := (hG.row 0 (by decide)).1 ls
   have hown2 : W.ownsRow (w.heap.size + 1 + 1 + 1) 3 1 (ac.tmps.getD 18 undef) p (bgX r p 0) := by rw [d2]; rw [hr0] at hown; exact hown
   refine wpOp_plain rfl rfl ?_
   refine wp_append_own_at (.tmp 18) (.tmp 25) 48 rfl (w.heap.size + 1 + 1 + 1) 3 i0 (.int .i64 0) 1 8 Try.underlying48 hi0 hz0 hz1 hz2 rfl (by decide) _ _ _ rfl hown2 ⟨g, 0, none⟩ 1 1 [.int .i64 c1] (by exact g1) rfl (by intro j u hu; cases j with | zero => (simp at hu; subst hu; exact blk_cell g3 rfl) | succ j => simp at hu) (ints_oneCell .i64 [c1]) (by unfold maxLen; omega) (by omega) hG.siz ?_
   intro v' W' hown' hg' hat'
   change W.grownBy W' (ac.tmps.getD 18 undef).ownBlock at hg'
   change v'.ownBlock = (ac.tmps.getD 18 undef).ownBlock ∨ _ at hat'
   rw [d2] at hg' hat'
   have hrv : rr 0 = v 0 := hr0
   rw [← hrv] at hg' hat'
   exact ⟨_, rfl, trivial, ⟨_, hG.app 0 (by decide) (by rw [hsz]; decide) (by rw [hL.size, hsz0]; exact (by decide : (26 : Nat) < 51)) (by omega) (by omega) lx hown' hg' hat'⟩, trivial⟩
  | 11, _, ho =>
   cases ho
   refine wpOp_plain rfl rfl ?_
   unfold Oper.wp
   go_simp
   first | exact ⟨_, rfl, trivial, ⟨rr, hG.other rfl⟩, rfl⟩ | exact ⟨trivial, ⟨rr, hG.other rfl⟩⟩ | exact ⟨rr, hG.other rfl⟩
  | 12, _, ho =>
   cases ho
   have d11 : ac.tmps.getD 27 undef = .pointer (some ⟨(w.heap.size + 1 + 1), 0, none⟩) := hL.new 11 _ 27 rfl (he ⟨11, .data⟩ (by simp) rfl) rfl
   refine wpOp_plain rfl rfl ?_
   unfold Oper.wp
   go_simp
   first | exact ⟨_, rfl, trivial, ⟨rr, hG.other rfl⟩, rfl⟩ | exact ⟨trivial, ⟨rr, hG.other rfl⟩⟩ | exact ⟨rr, hG.other rfl⟩
  | 13, _, ho =>
   cases ho
   have d12 : ac.tmps.getD 28 undef = .pointer (some ⟨(w.heap.size + 1 + 1), 1, none⟩) := hL.new 12 _ 28 rfl (he ⟨12, .data⟩ (by simp) rfl) rfl
   have la : listed.getD 15 false = false := by
    cases hx : listed.getD 15 false with
    | false => rfl
    | true =>
     have h8 := hcl 15 _ rfl hx ⟨13, .data⟩ (by simp) rfl
     simp only [Array.getD_eq_getD_getElem?] at h8 hli
     rw [Array.getElem?_eq_getElem (show 13 < listed.size by rw [hsz]; decide)] at h8 hli
     rw [Option.getD_some] at h8 hli
     rw [h8] at hli
     exact absurd hli (by simp)
   have lx : listed.getD 33 false = false := by
    cases hx : listed.getD 33 false with
    | false => rfl
    | true =>
     have h8 := hcl 33 _ rfl hx ⟨15, .data⟩ (by simp) rfl
     rw [la] at h8; cases h8
   have kl : W.cell? ⟨(w.heap.size + 1 + 1), 1, none⟩ = some (v 1) := hG.cell 1 (by decide) lx
   refine wpOp_plain rfl rfl ?_
   unfold Oper.wp
   go_simp
   first | exact ⟨_, rfl, trivial, ⟨rr, hG.other rfl⟩, rfl⟩ | exact ⟨trivial, ⟨rr, hG.other rfl⟩⟩ | exact ⟨rr, hG.other rfl⟩
  | 14, _, ho =>
   cases ho
   refine wpOp_plain rfl rfl ?_
   unfold Oper.wp
   go_simp
   first | exact ⟨_, rfl, rr, hG.build 1 (by decide) (by rw [hL.size, hsz0]; exact (by decide : (30 : Nat) < 51)) (by omega)⟩ | exact ⟨_, rfl, trivial, ⟨rr, hG.build 1 (by decide) (by rw [hL.size, hsz0]; exact (by decide : (30 : Nat) < 51)) (by omega)⟩, trivial⟩
  | 15, _, ho =>
   cases ho
   have d13 : ac.tmps.getD 29 undef = v 1 := hL.new 13 _ 29 rfl (he ⟨13, .data⟩ (by simp) rfl) rfl
   have lb : listed.getD 14 false = true := he ⟨14, .data⟩ (by simp) rfl
   have ls : listed.getD 15 false = false := by
    simp only [Array.getD_eq_getD_getElem?] at hli ⊢
    rw [Array.getElem?_eq_getElem (show 15 < listed.size by rw [hsz]; decide)] at hli ⊢
    simpa using hli
   have lx : listed.getD 33 false = false := by
    cases hx : listed.getD 33 false with
    | false => rfl
    | true =>
     have h8 := hcl 33 _ rfl hx ⟨15, .data⟩ (by simp) rfl
     rw [ls] at h8; cases h8
   obtain ⟨g, g1, g2, g3, g4⟩ := hG.one 1 (by decide) lb
   obtain ⟨hr0, hown⟩ := (hG.row 1 (by decide)).1 ls
   have hown2 : W.ownsRow (w.heap.size + 1 + 1 + 1) 3 1 (ac.tmps.getD 29 undef) p (bgX r p 1) := by rw [d13]; rw [hr0] at hown; exact hown
   refine wpOp_plain rfl rfl ?_
   refine wp_append_own_at (.tmp 29) (.tmp 30) 48 rfl (w.heap.size + 1 + 1 + 1) 3 i0 (.int .i64 0) 1 8 Try.underlying48 hi0 hz0 hz1 hz2 rfl (by decide) _ _ _ rfl hown2 ⟨g, 0, none⟩ 1 1 [.int .i64 0] (by exact g1) rfl (by intro j u hu; cases j with | zero => (simp at hu; subst hu; exact blk_cell g3 rfl) | succ j => simp at hu) (ints_oneCell .i64 [0]) (by unfold maxLen; omega) (by omega) hG.siz ?_
   intro v' W' hown' hg' hat'
   change W.grownBy W' (ac.tmps.getD 29 undef).ownBlock at hg'
   change v'.ownBlock = (ac.tmps.getD 29 undef).ownBlock ∨ _ at hat'
   rw [d13] at hg' hat'
   have hrv : rr 1 = v 1 := hr0
   rw [← hrv] at hg' hat'
   exact ⟨_, rfl, trivial, ⟨_, hG.app 1 (by decide) (by rw [hsz]; decide) (by rw [hL.size, hsz0]; exact (by decide : (31 : Nat) < 51)) (by omega) (by omega) lx hown' hg' hat'⟩, trivial⟩
  | 16, _, ho =>
   cases ho
   refine wpOp_plain rfl rfl ?_
   unfold Oper.wp
   go_simp
   first | exact ⟨_, rfl, trivial, ⟨rr, hG.other rfl⟩, rfl⟩ | exact ⟨trivial, ⟨rr, hG.other rfl⟩⟩ | exact ⟨rr, hG.other rfl⟩
  | 17, _, ho =>
   cases ho
   have d16 : ac.tmps.getD 32 undef = .pointer (some ⟨(w.heap.size + 1 + 1), 0, none⟩) := hL.new 16 _ 32 rfl (he ⟨16, .data⟩ (by simp) rfl) rfl
   refine wpOp_plain rfl rfl ?_
   unfold Oper.wp
   go_simp
   first | exact ⟨_, rfl, trivial, ⟨rr, hG.other rfl⟩, rfl⟩ | exact ⟨trivial, ⟨rr, hG.other rfl⟩⟩ | exact ⟨rr, hG.other rfl⟩
  | 18, _, ho =>
   cases ho
   have d17 : ac.tmps.getD 33 undef = .pointer (some ⟨(w.heap.size + 1 + 1), 2, none⟩) := hL.new 17 _ 33 rfl (he ⟨17, .data⟩ (by simp) rfl) rfl
   have la : listed.getD 27 false = false := by
    cases hx : listed.getD 27 false with
    | false => rfl
    | true =>
     have h8 := hcl 27 _ rfl hx ⟨18, .data⟩ (by simp) rfl
     simp only [Array.getD_eq_getD_getElem?] at h8 hli
     rw [Array.getElem?_eq_getElem (show 18 < listed.size by rw [hsz]; decide)] at h8 hli
     rw [Option.getD_some] at h8 hli
     rw [h8] at hli
     exact absurd hli (by simp)
   have lx : listed.getD 36 false = false := by
    cases hx : listed.getD 36 false with
    | false => rfl
    | true =>
     have h8 := hcl 36 _ rfl hx ⟨27, .data⟩ (by simp) rfl
     rw [la] at h8; cases h8
   have kl : W.cell? ⟨(w.heap.size + 1 + 1), 2, none⟩ = some (v 2) := hG.cell 2 (by decide) lx
   refine wpOp_plain rfl rfl ?_
   unfold Oper.wp
   go_simp
   first | exact ⟨_, rfl, trivial, ⟨rr, hG.other rfl⟩, rfl⟩ | exact ⟨trivial, ⟨rr, hG.other rfl⟩⟩ | exact ⟨rr, hG.other rfl⟩
  | 19, _, ho =>
   cases ho
   refine wpOp_plain rfl rfl ?_
   unfold Oper.wp
   go_simp
   first | exact ⟨_, rfl, trivial, ⟨rr, hG.other rfl⟩, rfl⟩ | exact ⟨trivial, ⟨rr, hG.other rfl⟩⟩ | exact ⟨rr, hG.other rfl⟩
  | 20, _, ho =>
   cases ho
   have d19 : ac.tmps.getD 35 undef = .pointer (some ⟨w.heap.size, 0, none⟩) := hL.new 19 _ 35 rfl (he ⟨19, .data⟩ (by simp) rfl) rfl
   refine wpOp_plain rfl rfl ?_
   unfold Oper.wp
   go_simp
   first | exact ⟨_, rfl, trivial, ⟨rr, hG.other rfl⟩, rfl⟩ | exact ⟨trivial, ⟨rr, hG.other rfl⟩⟩ | exact ⟨rr, hG.other rfl⟩
  | 21, _, ho =>
   cases ho
   refine wpOp_plain rfl rfl ?_
   unfold Oper.wp
   go_simp
   first | exact ⟨_, rfl, trivial, ⟨rr, hG.other rfl⟩, rfl⟩ | exact ⟨trivial, ⟨rr, hG.other rfl⟩⟩ | exact ⟨rr, hG.other rfl⟩
  | 22, _, ho =>
   cases ho
   have d20 : ac.tmps.getD 36 undef = .slice (some ⟨b, off, none⟩) n cp := hL.new 20 _ 36 rfl (he ⟨20, .data⟩ (by simp) rfl) rfl
   have d21 : ac.tmps.getD 37 undef = .int .i64 (p : Int) := hL.new 21 _ 37 rfl (he ⟨21, .data⟩ (by simp) rfl) rfl
   refine wpOp_plain rfl rfl ?_
   unfold Oper.wp
   go_simp
   first | exact ⟨_, rfl, trivial, ⟨rr, hG.other rfl⟩, rfl⟩ | exact ⟨trivial, ⟨rr, hG.other rfl⟩⟩ | exact ⟨rr, hG.other rfl⟩
  | 23, _, ho =>
   cases ho
   have d22 : ac.tmps.getD 38 undef = .pointer (some ⟨b, off + p * 3, none⟩) := hL.new 22 _ 38 rfl (he ⟨22, .data⟩ (by simp) rfl) rfl
   refine wpOp_plain rfl rfl ?_
   unfold Oper.wp
   go_simp
   first | exact ⟨_, rfl, trivial, ⟨rr, hG.other rfl⟩, rfl⟩ | exact ⟨trivial, ⟨rr, hG.other rfl⟩⟩ | exact ⟨rr, hG.other rfl⟩
  | 24, _, ho =>
   cases ho
   have d23 : ac.tmps.getD 39 undef = .pointer (some ⟨b, off + p * 3 + 1, none⟩) := hL.new 23 _ 39 rfl (he ⟨23, .data⟩ (by simp) rfl) rfl
   refine wpOp_plain rfl rfl ?_
   unfold Oper.wp
   go_simp
   first | exact ⟨_, rfl, trivial, ⟨rr, hG.other rfl⟩, rfl⟩ | exact ⟨trivial, ⟨rr, hG.other rfl⟩⟩ | exact ⟨rr, hG.other rfl⟩
  | 25, _, ho =>
   cases ho
   have d24 : ac.tmps.getD 40 undef = .int .i64 c2 := hL.new 24 _ 40 rfl (he ⟨24, .data⟩ (by simp) rfl) rfl
   refine wpOp_plain rfl rfl ?_
   unfold Oper.wp
   go_simp
   first | exact ⟨_, rfl, trivial, ⟨rr, hG.other rfl⟩, rfl⟩ | exact ⟨trivial, ⟨rr, hG.other rfl⟩⟩ | exact ⟨rr, hG.other rfl⟩
  | 26, _, ho =>
   cases ho
   have d25 : ac.tmps.getD 41 undef = .bool (c2 == 0) := hL.new 25 _ 41 rfl (he ⟨25, .data⟩ (by simp) rfl) rfl
   simp only [Array.getD_eq_getD_getElem?] at d25
   refine wpOp_plain rfl rfl ?_
   unfold Oper.wp
   go_simp
   first | exact ⟨_, rfl, rr, hG.build 2 (by decide) (by rw [hL.size, hsz0]; exact (by decide : (42 : Nat) < 51)) (by omega)⟩ | exact ⟨_, rfl, trivial, ⟨rr, hG.build 2 (by decide) (by rw [hL.size, hsz0]; exact (by decide : (42 : Nat) < 51)) (by omega)⟩, trivial⟩
  | 27, _, ho =>
   cases ho
   have d18 : ac.tmps.getD 34 undef = v 2 := hL.new 18 _ 34 rfl (he ⟨18, .data⟩ (by simp) rfl) rfl
   have lb : listed.getD 26 false = true := he ⟨26, .data⟩ (by simp) rfl
   have ls : listed.getD 27 false = false := by
    simp only [Array.getD_eq_getD_getElem?] at hli ⊢
    rw [Array.getElem?_eq_getElem (show 27 < listed.size by rw [hsz]; decide)] at hli ⊢
    simpa using hli
   have lx : listed.getD 36 false = false := by
    cases hx : listed.getD 36 false with
    | false => rfl
    | true =>
     have h8 := hcl 36 _ rfl hx ⟨27, .data⟩ (by simp) rfl
     rw [ls] at h8; cases h8
   obtain ⟨g, g1, g2, g3, g4⟩ := hG.one 2 (by decide) lb
   obtain ⟨hr0, hown⟩ := (hG.row 2 (by decide)).1 ls
   have hown2 : W.ownsRow (w.heap.size + 1 + 1 + 1) 4 1 (ac.tmps.getD 34 undef) p (bgX r p 2) := by rw [d18]; rw [hr0] at hown; exact hown
   refine wpOp_plain rfl rfl ?_
   refine wp_append_own_at (.tmp 34) (.tmp 42) 49 rfl (w.heap.size + 1 + 1 + 1) 4 j0 (.bool false) 1 1 Try.underlying49 hj0 jz0 jz1 jz2 rfl (by decide) _ _ _ rfl hown2 ⟨g, 0, none⟩ 1 1 [.bool (c2 == 0)] (by exact g1) rfl (by intro j u hu; cases j with | zero => (simp at hu; subst hu; exact blk_cell g3 rfl) | succ j => simp at hu) (by intro u hu; simp at hu; subst hu; rfl) (by unfold maxLen; omega) (by omega) hG.siz ?_
   intro v' W' hown' hg' hat'
   change W.grownBy W' (ac.tmps.getD 34 undef).ownBlock at hg'
   change v'.ownBlock = (ac.tmps.getD 34 undef).ownBlock ∨ _ at hat'
   rw [d18] at hg' hat'
   have hrv : rr 2 = v 2 := hr0
   rw [← hrv] at hg' hat'
   exact ⟨_, rfl, trivial, ⟨_, hG.app 2 (by decide) (by rw [hsz]; decide) (by rw [hL.size, hsz0]; exact (by decide : (43 : Nat) < 51)) (by omega) (by omega) lx hown' hg' hat'⟩, trivial⟩
  | 28, _, ho =>
   cases ho
   refine wpOp_plain rfl rfl ?_
   unfold Oper.wp
   go_simp
   first | exact ⟨_, rfl, trivial, ⟨rr, hG.other rfl⟩, rfl⟩ | exact ⟨trivial, ⟨rr, hG.other rfl⟩⟩ | exact ⟨rr, hG.other rfl⟩
  | 29, _, ho =>
   cases ho
   have d28 : ac.tmps.getD 44 undef = .pointer (some ⟨(w.heap.size + 1 + 1), 0, none⟩) := hL.new 28 _ 44 rfl (he ⟨28, .data⟩ (by simp) rfl) rfl
   refine wpOp_plain rfl rfl ?_
   unfold Oper.wp
   go_simp
   first | exact ⟨_, rfl, trivial, ⟨rr, hG.other rfl⟩, rfl⟩ | exact ⟨trivial, ⟨rr, hG.other rfl⟩⟩ | exact ⟨rr, hG.other rfl⟩
  | 30, _, ho =>
   cases ho
   have d29 : ac.tmps.getD 45 undef = .pointer (some ⟨(w.heap.size + 1 + 1), 0, none⟩) := hL.new 29 _ 45 rfl (he ⟨29, .data⟩ (by simp) rfl) rfl
   have la : listed.getD 10 false = true := he ⟨10, .data⟩ (by simp) rfl
   obtain ⟨e9, hown⟩ := (hG.row 0 (by decide)).2 la
   have HPU : Aside (Gr w (w.heap.size + 1 + 1 + 1) (w.heap.size + 1 + 1) (fun j => (⟨bgT j, v j, p, bgX r p j, bgx (c1, c2, c3) j⟩ : GD)) (rg0 r) wr (listed.setIfInBounds 30 true) ac rr (W.setCell ⟨(w.heap.size + 1 + 1), 0, none⟩ (rr 0))) := hG.st 0 (by decide) (by rw [hsz]; decide) (by omega) (by omega) la ac rfl
   have zc0 := blk_cell hG.leg (i := 0) rfl
   have zf := blk_free hG.leg
   obtain ⟨va, vcc, hva⟩ := owns_sl hown
   rw [hva] at e9 HPU
   change ac.tmps.getD 26 undef = _ at e9
   simp only [Array.getD_eq_getD_getElem?] at e9
   refine wpOp_plain rfl rfl ?_
   unfold Oper.wp
   go_simp
   exact ⟨rr, HPU.out⟩
  | 31, _, ho =>
   cases ho
   refine wpOp_plain rfl rfl ?_
   unfold Oper.wp
   go_simp
   first | exact ⟨_, rfl, trivial, ⟨rr, hG.other rfl⟩, rfl⟩ | exact ⟨trivial, ⟨rr, hG.other rfl⟩⟩ | exact ⟨rr, hG.other rfl⟩
  | 32, _, ho =>
   cases ho
   have d31 : ac.tmps.getD 46 undef = .pointer (some ⟨(w.heap.size + 1 + 1), 0, none⟩) := hL.new 31 _ 46 rfl (he ⟨31, .data⟩ (by simp) rfl) rfl
   refine wpOp_plain rfl rfl ?_
   unfold Oper.wp
   go_simp
   first | exact ⟨_, rfl, trivial, ⟨rr, hG.other rfl⟩, rfl⟩ | exact ⟨trivial, ⟨rr, hG.other rfl⟩⟩ | exact ⟨rr, hG.other rfl⟩
  | 33, _, ho =>
   cases ho
   have d32 : ac.tmps.getD 47 undef = .pointer (some ⟨(w.heap.size + 1 + 1), 1, none⟩) := hL.new 32 _ 47 rfl (he ⟨32, .data⟩ (by simp) rfl) rfl
   have la : listed.getD 15 false = true := he ⟨15, .data⟩ (by simp) rfl
   obtain ⟨e9, hown⟩ := (hG.row 1 (by decide)).2 la
   have HPU : Aside (Gr w (w.heap.size + 1 + 1 + 1) (w.heap.size + 1 + 1) (fun j => (⟨bgT j, v j, p, bgX r p j, bgx (c1, c2, c3) j⟩ : GD)) (rg0 r) wr (listed.setIfInBounds 33 true) ac rr (W.setCell ⟨(w.heap.size + 1 + 1), 1, none⟩ (rr 1))) := hG.st 1 (by decide) (by rw [hsz]; decide) (by omega) (by omega) la ac rfl
   have zc0 := blk_cell hG.leg (i := 1) rfl
   have zf := blk_free hG.leg
   obtain ⟨va, vcc, hva⟩ := owns_sl hown
   rw [hva] at e9 HPU
   change ac.tmps.getD 31 undef = _ at e9
   simp only [Array.getD_eq_getD_getElem?] at e9
   refine wpOp_plain rfl rfl ?_
   unfold Oper.wp
   go_simp
   exact ⟨rr, HPU.out⟩
  | 34, _, ho =>
   cases ho
   refine wpOp_plain rfl rfl ?_
   unfold Oper.wp
   go_simp
   first | exact ⟨_, rfl, trivial, ⟨rr, hG.other rfl⟩, rfl⟩ | exact ⟨trivial, ⟨rr, hG.other rfl⟩⟩ | exact ⟨rr, hG.other rfl⟩
  | 35, _, ho =>
   cases ho
   have d34 : ac.tmps.getD 48 undef = .pointer (some ⟨(w.heap.size + 1 + 1), 0, none⟩) := hL.new 34 _ 48 rfl (he ⟨34, .data⟩ (by simp) rfl) rfl
   refine wpOp_plain rfl rfl ?_
   unfold Oper.wp
   go_simp
   first | exact ⟨_, rfl, trivial, ⟨rr, hG.other rfl⟩, rfl⟩ | exact ⟨trivial, ⟨rr, hG.other rfl⟩⟩ | exact ⟨rr, hG.other rfl⟩
  | 36, _, ho =>
   cases ho
   have d35 : ac.tmps.getD 49 undef = .pointer (some ⟨(w.heap.size + 1 + 1), 2, none⟩) := hL.new 35 _ 49 rfl (he ⟨35, .data⟩ (by simp) rfl) rfl
   have la : listed.getD 27 false = true := he ⟨27, .data⟩ (by simp) rfl
   obtain ⟨e9, hown⟩ := (hG.row 2 (by decide)).2 la
   have HPU : Aside (Gr w (w.heap.size + 1 + 1 + 1) (w.heap.size + 1 + 1) (fun j => (⟨bgT j, v j, p, bgX r p j, bgx (c1, c2, c3) j⟩ : GD)) (rg0 r) wr (listed.setIfInBounds 36 true) ac rr (W.setCell ⟨(w.heap.size + 1 + 1), 2, none⟩ (rr 2))) := hG.st 2 (by decide) (by rw [hsz]; decide) (by omega) (by omega) la ac rfl
   have zc0 := blk_cell hG.leg (i := 2) rfl
   have zf := blk_free hG.leg
   obtain ⟨va, vcc, hva⟩ := owns_sl hown
   rw [hva] at e9 HPU
   change ac.tmps.getD 43 undef = _ at e9
   simp only [Array.getD_eq_getD_getElem?] at e9
   refine wpOp_plain rfl rfl ?_
   unfold Oper.wp
   go_simp
   exact ⟨rr, HPU.out⟩
  | n + 37, hA, _ => simp at hA
end
end
section
open Go.RowKit Go.Maps Go.Sort Go.Shelf Go.Deep
theorem ret17b {K : Ending → World → Prop} {a : Act} {wz : World} {R : Nat} {x0 x1 x2 x3 x4 x5 x6 x7 x8 x9 x10 x11 x12 x13 x14 x15 x16 : Value} (ha : a.tmps.getD 2 undef = .pointer (some ⟨R, 0, none⟩)) (hd : a.defers = []) (hz : RgB wz R #[x0, x1, x2, x3, x4, x5, x6, x7, x8, x9, x10, x11, x12, x13, x14, x15, x16]) (h : K (.returned (.agg #[x0, x1, x2, x3, x4, x5, x6, x7, x8, x9, x10, x11, x12, x13, x14, x15, x16])) wz) :
  bodyPost Try.prog Try.f49 K Exit.ret a wz := by
 have ha' : a.tmps[2]?.getD undef = .pointer (some ⟨R, 0, none⟩) := by simpa using ha
 have r0 : wz.cell? ⟨R, 0, none⟩ = some x0 := blk_cell hz rfl
 have r1 : wz.cell? ⟨R, 1, none⟩ = some x1 := blk_cell hz rfl
 have r2 : wz.cell? ⟨R, 2, none⟩ = some x2 := blk_cell hz rfl
 have r3 : wz.cell? ⟨R, 3, none⟩ = some x3 := blk_cell hz rfl
 have r4 : wz.cell? ⟨R, 4, none⟩ = some x4 := blk_cell hz rfl
 have r5 : wz.cell? ⟨R, 5, none⟩ = some x5 := blk_cell hz rfl
 have r6 : wz.cell? ⟨R, 6, none⟩ = some x6 := blk_cell hz rfl
 have r7 : wz.cell? ⟨R, 7, none⟩ = some x7 := blk_cell hz rfl
 have r8 : wz.cell? ⟨R, 8, none⟩ = some x8 := blk_cell hz rfl
 have r9 : wz.cell? ⟨R, 9, none⟩ = some x9 := blk_cell hz rfl
 have r10 : wz.cell? ⟨R, 10, none⟩ = some x10 := blk_cell hz rfl
 have r11 : wz.cell? ⟨R, 11, none⟩ = some x11 := blk_cell hz rfl
 have r12 : wz.cell? ⟨R, 12, none⟩ = some x12 := blk_cell hz rfl
 have r13 : wz.cell? ⟨R, 13, none⟩ = some x13 := blk_cell hz rfl
 have r14 : wz.cell? ⟨R, 14, none⟩ = some x14 := blk_cell hz rfl
 have r15 : wz.cell? ⟨R, 15, none⟩ = some x15 := blk_cell hz rfl
 have r16 : wz.cell? ⟨R, 16, none⟩ = some x16 := blk_cell hz rfl
 exact bodyPost_ret (v := .agg #[x0, x1, x2, x3, x4, x5, x6, x7, x8, x9, x10, x11, x12, x13, x14, x15, x16]) (by simp [results, Try.results49, go_sem, ha, ha', r0, r1, r2, r3, r4, r5, r6, r7, r8, r9, r10, r11, r12, r13, r14, r15, r16]) hd h
def RBeginOk (r : LegR) (w : World) (e : Ending) (w' : World) : Prop :=
 ∃ vl vd vi vw ve, e = .returned (.agg (rgC (rg0 r) vl vd vi vw ve)) ∧ RfSl w' vl vd vi vw ve (beginG r) [] ∧ Below w.heap.size w w'
theorem bi_zero {w : World} {r : LegR} {vc : Value} : BI w r vc 0 (set17 (((w.alloc (.cells #[vc, .int .i64 r.first, .int .i64 r.rounds, .bool r.equal] 42)).alloc (.cells zeroC 108)).alloc (.cells zeroC 108)) (w.heap.size + 1 + 1) (.slice none 0 0) (.slice none 0 0) (.slice none 0 0) (.int .i64 r.first) (.int .i64 0) (.bool false) (.slice none 0 0) (.slice none 0 0) (.int .i64 0) (.int .i64 0) (.int .i64 0) (.int .i64 0) (.int .i64 0) (.int .i64 0) (.int .i64 0) (.int .i64 0) (.int .i64 0)) (fun _ => .slice none 0 0) := by
 obtain ⟨W, hW⟩ : ∃ u, u = (((w.alloc (.cells #[vc, .int .i64 r.first, .int .i64 r.rounds, .bool r.equal] 42)).alloc (.cells zeroC 108)).alloc (.cells zeroC 108)) := ⟨_, rfl⟩
 rw [← hW]
 have hb : Below w.heap.size w W := by rw [hW]; (repeat' (first | exact Below.refl _ _ | assumption | (with_reducible refine Below.drew ?_) | (with_reducible refine Below.setCell ?_ (by (first | (simp; done) | (simp; omega))) _) | (with_reducible refine below_drewN' ?_ _) | (refine Below.alloc ?_ (by (try simp only [World.size_alloc, World.size_drew, World.size_setCell]); omega) _) | (refine Below.trans ?_ (Below.mono (by assumption) (by (try simp only [World.size_alloc, World.size_drew, World.size_setCell]); omega)))))
 have hs : W.heap.size = w.heap.size + 1 + 1 + 1 := by rw [hW]; simp
 have h0 : W.heap[w.heap.size]? = some (.cells #[vc, .int .i64 r.first, .int .i64 r.rounds, .bool r.equal] 42 (0, 0)) := by
  rw [hW]; exact (Below.heap_alloc _ _ _ (by simp; try omega)).trans ((Below.heap_alloc _ _ _ (by simp; try omega)).trans (World.alloc_heap_new _ _))
 have h1 : RgB W (w.heap.size + 1) zeroC := by
  rw [hW]; exact (Below.heap_alloc _ _ _ (by simp; try omega)).trans (World.alloc_heap_new' _ _ _ (by simp))
 have h2 : RgB W (w.heap.size + 1 + 1) zeroC := by rw [hW]; exact World.alloc_heap_new' _ _ _ (by simp)
 clear hW
 have hO := outs17 W (w.heap.size + 1 + 1) (.slice none 0 0) (.slice none 0 0) (.slice none 0 0) (.int .i64 r.first) (.int .i64 0) (.bool false) (.slice none 0 0) (.slice none 0 0) (.int .i64 0) (.int .i64 0) (.int .i64 0) (.int .i64 0) (.int .i64 0) (.int .i64 0) (.int .i64 0) (.int .i64 0) (.int .i64 0)
 refine ⟨below17 hb (by omega) (.slice none 0 0) (.slice none 0 0) (.slice none 0 0) (.int .i64 r.first) (.int .i64 0) (.bool false) (.slice none 0 0) (.slice none 0 0) (.int .i64 0) (.int .i64 0) (.int .i64 0) (.int .i64 0) (.int .i64 0) (.int .i64 0) (.int .i64 0) (.int .i64 0) (.int .i64 0), by have := hO.size; omega, (hO.block _ (by simp only [List.mem_singleton]; omega) (by omega)).trans h0, (hO.block _ (by simp only [List.mem_singleton]; omega) (by omega)).trans h1, rg17 (.slice none 0 0) (.slice none 0 0) (.slice none 0 0) (.int .i64 r.first) (.int .i64 0) (.bool false) (.slice none 0 0) (.slice none 0 0) (.int .i64 0) (.int .i64 0) (.int .i64 0) (.int .i64 0) (.int .i64 0) (.int .i64 0) (.int .i64 0) (.int .i64 0) (.int .i64 0) h2, fun j hj => ⟨by simp [bgX], .inl ⟨rfl, rfl⟩⟩, fun i _ j _ _ g e => by cases e⟩
theorem flat_one {α : Type} (f : α → Value) (enc : α → List Value) (h : ∀ x, enc x = [f x]) (l : List α) : (l.map enc).flatten = l.map f := by
 induction l with
 | nil => rfl
 | cons a l ih => simp only [List.map_cons, List.flatten_cons, ih, h]; rfl
theorem ownsRow_outsB {w w' : World} {S : List Nat} {b k n : Nat} {e : TypeId} {v : Value} {xs : List Value} (h : w.ownsRow b e k v n xs) (hO : Outs S w w') (hS : ∀ s ∈ S, s < b) : w'.ownsRow b e k v n xs := by
 obtain ⟨h1, h2⟩ := h
 refine ⟨h1, ?_⟩
 rcases h2 with h2 | ⟨g, cap, cur, h3, h4, h5, h6⟩
 ·exact .inl h2
 ·exact .inr ⟨g, cap, cur, h3, h4, (hO.block g (fun hm => by have := hS g hm; omega) (Array.getElem?_eq_some_iff.1 h5).1).trans h5, h6⟩
theorem RBeginOk.of {w w1 wr : World} {r : LegR} {vc : Value} {v : Nat → Value} (h8 : r.counts.length ≤ 8) (h' : BI w r vc r.counts.length w1 v) (hO : Outs [w.heap.size + 1] w1 wr) : RfSl wr (v 0) (v 1) (v 2) (.slice none 0 0) (.slice none 0 0) (beginG r) [] := by
 have h : ∀ j, j < 3 → wr.ownsRow (w.heap.size + 1 + 1 + 1) (bgT j) 1 (v j) r.counts.length (bgX r r.counts.length j) := fun j hj => ownsRow_outsB (h'.row j hj) hO (by intro s hs; simp at hs; omega)
 have h0 := h 0 (by decide)
 have h1 := h 1 (by decide)
 have h2 := h 2 (by decide)
 unfold bgX at h0 h1 h2
 rw [List.take_length] at h0 h1 h2
 refine ⟨⟨sl_owns (base := w.heap.size + 1 + 1 + 1) (e := 3) (fun _ => rfl) ?_ ?_, Ty.own h0 (by unfold beginG; simp)⟩, ⟨sl_owns (base := w.heap.size + 1 + 1 + 1) (e := 3) (fun _ => rfl) ?_ ?_, Ty.own h1 (by unfold beginG; simp)⟩, ⟨sl_owns (base := w.heap.size + 1 + 1 + 1) (e := 4) (fun _ => rfl) ?_ ?_, Ty.own h2 (by unfold beginG; simp)⟩, SlT.nil, SlT.nil⟩
 ·unfold beginG; simp; omega
 ·have e1 : (((beginG r).left.map eI).flatten) = r.counts.map fun c => bgx c 0 := by unfold beginG; simp only [List.map_map]; exact flat_one _ _ (fun _ => rfl) _
  rw [e1, show (beginG r).left.length = r.counts.length by unfold beginG; simp]; exact h0
 ·unfold beginG; simp; omega
 ·have e1 : (((beginG r).darts.map eI).flatten) = r.counts.map fun c => bgx c 1 := by unfold beginG; simp only [List.map_map]; exact flat_one _ _ (fun _ => rfl) _
  rw [e1, show (beginG r).darts.length = r.counts.length by unfold beginG; simp]; exact h1
 ·unfold beginG; simp; omega
 ·have e1 : (((beginG r).inn.map eB).flatten) = r.counts.map fun c => bgx c 2 := by unfold beginG; simp only [List.map_map]; exact flat_one _ _ (fun _ => rfl) _
  rw [e1, show (beginG r).inn.length = r.counts.length by unfold beginG; simp]; exact h2
set_option maxRecDepth 100000 in
set_option maxHeartbeats 16000000 in
theorem rbegin_any (r : LegR) (vc : Value) (w : World) (hr : r.Ok) (hc : Sl w 3 encC vc r.counts) : Calls Try.prog 49 #[legRV r vc] w (RBeginOk r w) := by
 have h8 : r.counts.length ≤ 8 := hr.n8
 obtain ⟨n, hn⟩ : ∃ n, r.counts.length = n := ⟨_, rfl⟩
 obtain ⟨a', cp, rfl, hlc, hcs⟩ := hc
 obtain ⟨b, off, rfl, hblt, hcl⟩ := hcs hr.ne
 have HCL0 : Aside (∀ p c, r.counts[p]? = some c → w.cell? ⟨b, off + p * 3, none⟩ = some (.int .i64 c.1) ∧ w.cell? ⟨b, off + p * 3 + 1, none⟩ = some (.int .i64 c.2.1)) := fun p c hp => by
  have q0 := hcl p _ hp 0 (.int .i64 c.1) rfl
  have q1 := hcl p _ hp 1 (.int .i64 c.2.1) rfl
  exact ⟨by simpa using q0, by simpa using q1⟩
 have HN : Aside (r.counts.length = n) := hn
 rw [hn] at h8 ⊢
 clear hlc hcs hcl hn hblt
 unfold legRV
 go_enter Try.func49, Try.ntmps49
 go_upto_region 1 with (fail)
 refine wp_region_lit ?_
 have kb : (((w.alloc (.cells #[.slice (some ⟨b, off, none⟩) n cp, .int .i64 r.first, .int .i64 r.rounds, .bool r.equal] 42)).alloc (.cells zeroC 108))).cell? ⟨w.heap.size, 1, none⟩ = some (.int .i64 r.first) := blk_cell (cs := #[.slice (some ⟨b, off, none⟩) n cp, .int .i64 r.first, .int .i64 r.rounds, .bool r.equal]) ((Below.heap_alloc _ _ _ (by simp; try omega)).trans (World.alloc_heap_new _ _)) rfl
 unfold zeroC at kb
 refine wpList_plain rfl (fun KK hK => ?_)
 unfold Oper.wp
 go_simp
 refine hK _ _ ?_
 clear hK KK
 (try simp only [Act.put, List.setIfInBounds_toArray, List.set_cons_zero, List.set_cons_succ])
 refine wpList_plain rfl (fun KK hK => ?_)
 unfold Oper.wp
 go_simp
 refine hK _ _ ?_
 clear hK KK
 (try simp only [Act.put, List.setIfInBounds_toArray, List.set_cons_zero, List.set_cons_succ])
 refine wpList_plain rfl (fun KK hK => ?_)
 unfold Oper.wp
 go_simp
 refine hK _ _ ?_
 clear hK KK
 (try simp only [Act.put, List.setIfInBounds_toArray, List.set_cons_zero, List.set_cons_succ])
 refine wpList_plain rfl (fun KK hK => ?_)
 unfold Oper.wp
 go_simp
 refine hK _ _ ?_
 clear hK KK
 (try simp only [Act.put, List.setIfInBounds_toArray, List.set_cons_zero, List.set_cons_succ])
 refine wpList_plain rfl (fun KK hK => ?_)
 unfold Oper.wp
 go_simp
 refine hK _ _ ?_
 clear hK KK
 (try simp only [Act.put, List.setIfInBounds_toArray, List.set_cons_zero, List.set_cons_succ])
 refine wpList_plain rfl (fun KK hK => ?_)
 refine wp_store17 (B := w.heap.size + 1 + 1) (by rfl) (by rfl) (World.alloc_heap_new' _ _ _ (by simp)) ?_
 refine hK _ _ ?_
 clear hK KK
 have HB0 : Aside _ := bi_zero (w := w) (r := r) (vc := .slice (some ⟨b, off, none⟩) n cp)
 unfold zeroC at HB0
 obtain ⟨w1, hw1⟩ : ∃ u, u = set17 (((((w.alloc (.cells #[.slice (some ⟨b, off, none⟩) n cp, .int .i64 r.first, .int .i64 r.rounds, .bool r.equal] 42)).alloc (.cells zeroC 108)))).alloc (.cells #[.slice none 0 0, .slice none 0 0, .slice none 0 0, .int .i64 0, .int .i64 0, .bool false, .slice none 0 0, .slice none 0 0, .int .i64 0, .int .i64 0, .int .i64 0, .int .i64 0, .int .i64 0, .int .i64 0, .int .i64 0, .int .i64 0, .int .i64 0] 108)) (w.heap.size + 1 + 1) (.slice none 0 0) (.slice none 0 0) (.slice none 0 0) (.int .i64 r.first) (.int .i64 0) (.bool false) (.slice none 0 0) (.slice none 0 0) (.int .i64 0) (.int .i64 0) (.int .i64 0) (.int .i64 0) (.int .i64 0) (.int .i64 0) (.int .i64 0) (.int .i64 0) (.int .i64 0) := ⟨_, rfl⟩
 unfold zeroC at hw1
 rw [← hw1] at HB0 ⊢
 clear hw1
 simp only [Act.put, List.setIfInBounds_toArray, List.set_cons_zero, List.set_cons_succ]
 go_wp2_with fail
 go_loopg [4] n (fun gg i wr => ∃ (p : Nat) (v : Nat → Value), p ≤ n ∧ n - p ≤ gg ∧ i = .int .i64 p ∧ Aside (BI w r (.slice (some ⟨b, off, none⟩) n cp) p wr v))
 case atStart => exact ⟨0, _, Nat.zero_le _, by omega, rfl, HB0⟩
 case round =>
  obtain ⟨p, v, hp, hg, rfl, HBI⟩ := hrel
  clear HB0 kb
  have kb := blk_cell HBI.out.rul (i := 0) rfl
  by_cases hltp : p < n
  ·have hltz : (p : Int) < (n : Int) := by omega
   obtain ⟨c, hpc⟩ : ∃ c, r.counts[p]? = some c := ⟨_, List.getElem?_eq_getElem (by rw [HN.out]; exact hltp)⟩
   obtain ⟨h1, h2⟩ := HCL0.out p c hpc
   obtain ⟨c1, c2, c3⟩ := c
   simp only [] at h1 h2
   have HPC : Aside (r.counts[p]? = some (c1, c2, c3)) := hpc
   have hpl : p ≤ r.counts.length := by rw [HN.out]; exact hp
   clear hpc
   go_wp2_with fail
   refine beg5 (c3 := c3) HBI h1 h2 hltp hltz h8 hpl (by kernel_rfl) (by rfl) (by rfl) (by rfl) (by rfl) ?rest5
   case rest5 =>
    intro ac w5 hL
    have e16 : ac.tmps.getD 16 undef = .pointer (some ⟨(w.heap.size + 1 + 1), 0, none⟩) := hL.new 0 _ 16 rfl rfl rfl
    have e17 : ac.tmps.getD 17 undef = .pointer (some ⟨(w.heap.size + 1 + 1), 0, none⟩) := hL.new 1 _ 17 rfl rfl rfl
    have e18 : ac.tmps.getD 18 undef = v 0 := hL.new 2 _ 18 rfl rfl rfl
    have e19 : ac.tmps.getD 19 undef = .pointer (some ⟨w.heap.size, 0, none⟩) := hL.new 3 _ 19 rfl rfl rfl
    have e20 : ac.tmps.getD 20 undef = .slice (some ⟨b, off, none⟩) n cp := hL.new 4 _ 20 rfl rfl rfl
    have e21 : ac.tmps.getD 21 undef = .int .i64 (p : Int) := hL.new 5 _ 21 rfl rfl rfl
    have e22 : ac.tmps.getD 22 undef = .pointer (some ⟨b, off + p * 3, none⟩) := hL.new 6 _ 22 rfl rfl rfl
    have e23 : ac.tmps.getD 23 undef = .pointer (some ⟨b, off + p * 3, none⟩) := hL.new 7 _ 23 rfl rfl rfl
    have e24 : ac.tmps.getD 24 undef = .int .i64 c1 := hL.new 8 _ 24 rfl rfl rfl
    obtain ⟨y25, e25⟩ : ∃ x, ac.tmps.getD 25 undef = x := ⟨_, rfl⟩
    obtain ⟨y26, e26⟩ : ∃ x, ac.tmps.getD 26 undef = x := ⟨_, rfl⟩
    have e27 : ac.tmps.getD 27 undef = .pointer (some ⟨(w.heap.size + 1 + 1), 0, none⟩) := hL.new 11 _ 27 rfl rfl rfl
    have e28 : ac.tmps.getD 28 undef = .pointer (some ⟨(w.heap.size + 1 + 1), 1, none⟩) := hL.new 12 _ 28 rfl rfl rfl
    have e29 : ac.tmps.getD 29 undef = v 1 := hL.new 13 _ 29 rfl rfl rfl
    obtain ⟨y30, e30⟩ : ∃ x, ac.tmps.getD 30 undef = x := ⟨_, rfl⟩
    obtain ⟨y31, e31⟩ : ∃ x, ac.tmps.getD 31 undef = x := ⟨_, rfl⟩
    have e32 : ac.tmps.getD 32 undef = .pointer (some ⟨(w.heap.size + 1 + 1), 0, none⟩) := hL.new 16 _ 32 rfl rfl rfl
    have e33 : ac.tmps.getD 33 undef = .pointer (some ⟨(w.heap.size + 1 + 1), 2, none⟩) := hL.new 17 _ 33 rfl rfl rfl
    have e34 : ac.tmps.getD 34 undef = v 2 := hL.new 18 _ 34 rfl rfl rfl
    have e35 : ac.tmps.getD 35 undef = .pointer (some ⟨w.heap.size, 0, none⟩) := hL.new 19 _ 35 rfl rfl rfl
    have e36 : ac.tmps.getD 36 undef = .slice (some ⟨b, off, none⟩) n cp := hL.new 20 _ 36 rfl rfl rfl
    have e37 : ac.tmps.getD 37 undef = .int .i64 (p : Int) := hL.new 21 _ 37 rfl rfl rfl
    have e38 : ac.tmps.getD 38 undef = .pointer (some ⟨b, off + p * 3, none⟩) := hL.new 22 _ 38 rfl rfl rfl
    have e39 : ac.tmps.getD 39 undef = .pointer (some ⟨b, off + p * 3 + 1, none⟩) := hL.new 23 _ 39 rfl rfl rfl
    have e40 : ac.tmps.getD 40 undef = .int .i64 c2 := hL.new 24 _ 40 rfl rfl rfl
    have e41 : ac.tmps.getD 41 undef = .bool (c2 == 0) := hL.new 25 _ 41 rfl rfl rfl
    obtain ⟨y42, e42⟩ : ∃ x, ac.tmps.getD 42 undef = x := ⟨_, rfl⟩
    obtain ⟨y43, e43⟩ : ∃ x, ac.tmps.getD 43 undef = x := ⟨_, rfl⟩
    have e44 : ac.tmps.getD 44 undef = .pointer (some ⟨(w.heap.size + 1 + 1), 0, none⟩) := hL.new 28 _ 44 rfl rfl rfl
    have e45 : ac.tmps.getD 45 undef = .pointer (some ⟨(w.heap.size + 1 + 1), 0, none⟩) := hL.new 29 _ 45 rfl rfl rfl
    have e46 : ac.tmps.getD 46 undef = .pointer (some ⟨(w.heap.size + 1 + 1), 0, none⟩) := hL.new 31 _ 46 rfl rfl rfl
    have e47 : ac.tmps.getD 47 undef = .pointer (some ⟨(w.heap.size + 1 + 1), 1, none⟩) := hL.new 32 _ 47 rfl rfl rfl
    have e48 : ac.tmps.getD 48 undef = .pointer (some ⟨(w.heap.size + 1 + 1), 0, none⟩) := hL.new 34 _ 48 rfl rfl rfl
    have e49 : ac.tmps.getD 49 undef = .pointer (some ⟨(w.heap.size + 1 + 1), 2, none⟩) := hL.new 35 _ 49 rfl rfl rfl
    obtain ⟨rr, hG⟩ := hL.cls
    have HNX : Aside (BI w r (.slice (some ⟨b, off, none⟩) n cp) (p + 1) w5 rr) := HBI.out.next HPC.out hG (by decide)
    have es_ := hL.sets [16, 17, 18, 19, 20, 21, 22, 23, 24, 25, 26, 27, 28, 29, 30, 31, 32, 33, 34, 35, 36, 37, 38, 39, 40, 41, 42, 43, 44, 45, 46, 47, 48, 49] (by decide +kernel)
    rw [List.foldl_cons, List.foldl_cons, List.foldl_cons, List.foldl_cons, List.foldl_cons, List.foldl_cons, List.foldl_cons, List.foldl_cons, List.foldl_cons, List.foldl_cons, List.foldl_cons, List.foldl_cons, List.foldl_cons, List.foldl_cons, List.foldl_cons, List.foldl_cons, List.foldl_cons, List.foldl_cons, List.foldl_cons, List.foldl_cons, List.foldl_cons, List.foldl_cons, List.foldl_cons, List.foldl_cons, List.foldl_cons, List.foldl_cons, List.foldl_cons, List.foldl_cons, List.foldl_cons, List.foldl_cons, List.foldl_cons, List.foldl_cons, List.foldl_cons, List.foldl_cons, List.foldl_nil, e16, e17, e18, e19, e20, e21, e22, e23, e24, e25, e26, e27, e28, e29, e30, e31, e32, e33, e34, e35, e36, e37, e38, e39, e40, e41, e42, e43, e44, e45, e46, e47, e48, e49] at es_
    rw [es_]
    clear es_ hL hG e16 e17 e18 e19 e20 e21 e22 e23 e24 e25 e26 e27 e28 e29 e30 e31 e32 e33 e34 e35 e36 e37 e38 e39 e40 e41 e42 e43 e44 e45 e46 e47 e48 e49
    refine wpAny_done (by decide +kernel) ?_ _
    simp only [List.setIfInBounds_toArray, List.set_cons_zero, List.set_cons_succ]
    clear kb h1 h2 hpl
    have e1 : IntKind.i64.wrap ((p : Int) + 1) = (p : Int) + 1 := IntWalk.i64_in _ (by omega)
    go_wp2_with fail
    go_roundg (n - (p + 1))
    case measure => omega
    case rel => exact ⟨p + 1, rr, by omega, by omega, by go_num, HNX⟩
  ·have hltz : ¬ (p : Int) < (n : Int) := by omega
   have hpe : p = n := by omega
   have HOK : Aside (∀ wz, Outs [w.heap.size + 1] wr wz → RfSl wz (v 0) (v 1) (v 2) (.slice none 0 0) (.slice none 0 0) (beginG r) []) := fun wz hO => RBeginOk.of (by rw [HN.out]; exact h8) (by rw [HN.out, ← hpe]; exact HBI.out) hO
   subst hpe
   obtain ⟨b1, f1, hv1⟩ := owns_sl (HBI.out.row 0 (by decide))
   obtain ⟨b2, f2, hv2⟩ := owns_sl (HBI.out.row 1 (by decide))
   obtain ⟨b3, f3, hv3⟩ := owns_sl (HBI.out.row 2 (by decide))
   have HL2 : Aside (RgB wr (w.heap.size + 1 + 1) (rgC (rg0 r) (v 0) (v 1) (v 2) (.slice none 0 0) (.slice none 0 0)) ∧ RgB wr (w.heap.size + 1) zeroC ∧ Below w.heap.size w wr) := ⟨HBI.out.leg, HBI.out.zero, HBI.out.bel⟩
   rw [hv1, hv2, hv3] at HL2 HOK
   clear hv1 hv2 hv3 HBI
   go_upto_region 6 with (fail)
   refine wp_region_lit ?_
   refine wpList_plain rfl fun KK hK => wp_load17 rfl HL2.out.1 (hK _ _ ?_)
   refine wpList_plain rfl fun KK hK => wp_store17 rfl rfl HL2.out.2.1 (hK _ _ ?_)
   obtain ⟨wz, hwz⟩ : ∃ u, u = set17 wr (w.heap.size + 1) (.slice b1 p f1) (.slice b2 p f2) (.slice b3 p f3) (.int .i64 (rg0 r).next) (.int .i64 (rg0 r).round) (.bool (rg0 r).over) (.slice none 0 0) (.slice none 0 0) (.int .i64 ((rg0 r).last 0)) (.int .i64 ((rg0 r).last 1)) (.int .i64 ((rg0 r).last 2)) (.int .i64 ((rg0 r).last 3)) (.int .i64 ((rg0 r).last 4)) (.int .i64 ((rg0 r).last 5)) (.int .i64 ((rg0 r).last 6)) (.int .i64 ((rg0 r).last 7)) (.int .i64 (rg0 r).done) := ⟨_, rfl⟩
   rw [← hwz]
   simp only [Act.put, List.setIfInBounds_toArray, List.set_cons_zero, List.set_cons_succ]
   go_wp2_with fail
   subst hwz
   refine ret17b (wz := set17 wr (w.heap.size + 1) (.slice b1 p f1) (.slice b2 p f2) (.slice b3 p f3) (.int .i64 (rg0 r).next) (.int .i64 (rg0 r).round) (.bool (rg0 r).over) (.slice none 0 0) (.slice none 0 0) (.int .i64 ((rg0 r).last 0)) (.int .i64 ((rg0 r).last 1)) (.int .i64 ((rg0 r).last 2)) (.int .i64 ((rg0 r).last 3)) (.int .i64 ((rg0 r).last 4)) (.int .i64 ((rg0 r).last 5)) (.int .i64 ((rg0 r).last 6)) (.int .i64 ((rg0 r).last 7)) (.int .i64 (rg0 r).done)) rfl rfl (rg17 (.slice b1 p f1) (.slice b2 p f2) (.slice b3 p f3) (.int .i64 (rg0 r).next) (.int .i64 (rg0 r).round) (.bool (rg0 r).over) (.slice none 0 0) (.slice none 0 0) (.int .i64 ((rg0 r).last 0)) (.int .i64 ((rg0 r).last 1)) (.int .i64 ((rg0 r).last 2)) (.int .i64 ((rg0 r).last 3)) (.int .i64 ((rg0 r).last 4)) (.int .i64 ((rg0 r).last 5)) (.int .i64 ((rg0 r).last 6)) (.int .i64 ((rg0 r).last 7)) (.int .i64 (rg0 r).done) HL2.out.2.1) ?_
   refine ⟨_, _, _, _, _, rfl, ?_, below17 HL2.out.2.2 (R := w.heap.size + 1) (by omega) (.slice b1 p f1) (.slice b2 p f2) (.slice b3 p f3) (.int .i64 (rg0 r).next) (.int .i64 (rg0 r).round) (.bool (rg0 r).over) (.slice none 0 0) (.slice none 0 0) (.int .i64 ((rg0 r).last 0)) (.int .i64 ((rg0 r).last 1)) (.int .i64 ((rg0 r).last 2)) (.int .i64 ((rg0 r).last 3)) (.int .i64 ((rg0 r).last 4)) (.int .i64 ((rg0 r).last 5)) (.int .i64 ((rg0 r).last 6)) (.int .i64 ((rg0 r).last 7)) (.int .i64 (rg0 r).done)⟩
   exact HOK.out _ (outs17 wr (w.heap.size + 1) (.slice b1 p f1) (.slice b2 p f2) (.slice b3 p f3) (.int .i64 (rg0 r).next) (.int .i64 (rg0 r).round) (.bool (rg0 r).over) (.slice none 0 0) (.slice none 0 0) (.int .i64 ((rg0 r).last 0)) (.int .i64 ((rg0 r).last 1)) (.int .i64 ((rg0 r).last 2)) (.int .i64 ((rg0 r).last 3)) (.int .i64 ((rg0 r).last 4)) (.int .i64 ((rg0 r).last 5)) (.int .i64 ((rg0 r).last 6)) (.int .i64 ((rg0 r).last 7)) (.int .i64 (rg0 r).done))
end
end Go.Proofs.Ytgmlcgifagbjmaa
