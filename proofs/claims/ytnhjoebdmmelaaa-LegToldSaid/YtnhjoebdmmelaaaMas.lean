/- Leg: parts Id. -/
import Derived.Test.YtnhjoebdmmelaaaMaq
import Derived.Test.YtnhjoebdmmelaaaMar
set_option linter.unusedVariables false
set_option linter.unusedSimpArgs false
namespace Go.Proofs.Ytnhjoebdmmelaaa
section
open Go.RowKit Go.Maps Go.Sort Go.Shelf Go.Deep
def tlT : Nat → TypeId
 | 2 => 4
 | 5 => 84
 | _ => 3
def tlS : Nat → Nat
 | 5 => 2
 | _ => 1
def tlD (v : Nat → Value) (n : Nat → Nat) (xs : Nat → List Value) : Nat → RD := fun i => ⟨tlT i, tlS i, v i, n i, xs i⟩
def tlC (v : Nat → Value) (rn : Int) (ov : Bool) : Array Value := #[v 5, v 0, v 1, v 2, v 3, v 4, .int .i64 rn, .bool ov]
def tlN6 : Nat → GN
 | 0 => ⟨8, 9, 26, 35, 36⟩
 | 1 => ⟨12, 13, 28, 39, 40⟩
 | _ => ⟨23, 24, 30, 50, 51⟩
def tlN20 : Nat → GN
 | 0 => ⟨3, 4, 12, 137, 138⟩
 | _ => ⟨9, 10, 14, 143, 144⟩
def tlP6 (m : Nat) (c1 c2 : Int) : RwP := ⟨3, m, fun j => j, fun j => j + 1, fun j => match j with | 0 => .int .i64 c1 | 1 => .int .i64 0 | _ => .bool (c2 == 0)⟩
def tlP20 (m : Nat) (p k : Int) : RwP := ⟨2, m, fun j => j + 3, fun j => j + 4, fun j => match j with | 0 => .int .i64 p | _ => .int .i64 (k + 1)⟩
theorem tlN6_ok' : ∀ i : Fin 3, ∀ j : Fin 3, (tlN6 i).ia ≠ (tlN6 j).ib ∧ (tlN6 i).is ≠ (tlN6 j).ib ∧ (tlN6 i).is ≠ (tlN6 j).ia ∧ (tlN6 i).ta ≠ (tlN6 j).tb ∧ (i ≠ j → (tlN6 i).ib ≠ (tlN6 j).ib ∧ (tlN6 i).ia ≠ (tlN6 j).ia ∧ (tlN6 i).is ≠ (tlN6 j).is ∧ (tlN6 i).tb ≠ (tlN6 j).tb ∧ (tlN6 i).ta ≠ (tlN6 j).ta) := by decide
theorem tlN20_ok' : ∀ i : Fin 2, ∀ j : Fin 2, (tlN20 i).ia ≠ (tlN20 j).ib ∧ (tlN20 i).is ≠ (tlN20 j).ib ∧ (tlN20 i).is ≠ (tlN20 j).ia ∧ (tlN20 i).ta ≠ (tlN20 j).tb ∧ (i ≠ j → (tlN20 i).ib ≠ (tlN20 j).ib ∧ (tlN20 i).ia ≠ (tlN20 j).ia ∧ (tlN20 i).is ≠ (tlN20 j).is ∧ (tlN20 i).tb ≠ (tlN20 j).tb ∧ (tlN20 i).ta ≠ (tlN20 j).ta) := by decide
theorem tlN6_ok : NOk tlN6 3 := fun i hi j hj => by
 have h := tlN6_ok' ⟨i, hi⟩ ⟨j, hj⟩
 exact ⟨h.1, h.2.1, h.2.2.1, h.2.2.2.1, fun e => h.2.2.2.2 (fun e' => e (congrArg Fin.val e'))⟩
theorem tlN20_ok : NOk tlN20 2 := fun i hi j hj => by
 have h := tlN20_ok' ⟨i, hi⟩ ⟨j, hj⟩
 exact ⟨h.1, h.2.1, h.2.2.1, h.2.2.2.1, fun e => h.2.2.2.2 (fun e' => e (congrArg Fin.val e'))⟩
theorem tlP6_ok {m : Nat} {c1 c2 : Int} (hm : m = 6) : (tlP6 m c1 c2).Ok := ⟨fun j hj => by show j < m; have : j < 3 := hj; omega, fun i _ j _ e => e⟩
theorem tlP20_ok {m : Nat} {p k : Int} (hm : m = 6) : (tlP20 m p k).Ok := ⟨fun j hj => by show j + 3 < m; have : j < 2 := hj; omega, fun i _ j _ e => by have e' : i + 3 = j + 3 := e; omega⟩
theorem tlP6_inj {m : Nat} {c1 c2 : Int} : ∀ i, i < (tlP6 m c1 c2).q → ∀ j, j < (tlP6 m c1 c2).q → (tlP6 m c1 c2).f i = (tlP6 m c1 c2).f j → i = j := fun i _ j _ e => by have e' : i + 1 = j + 1 := e; omega
theorem tlP20_inj {m : Nat} {p k : Int} : ∀ i, i < (tlP20 m p k).q → ∀ j, j < (tlP20 m p k).q → (tlP20 m p k).f i = (tlP20 m p k).f j → i = j := fun i _ j _ e => by have e' : i + 4 = j + 4 := e; omega
theorem tlF6 {m : Nat} {c1 c2 rn : Int} {ov : Bool} {v : Nat → Value} {n : Nat → Nat} {xs : Nat → List Value} : ∀ j, j < (tlP6 m c1 c2).q → (tlC v rn ov)[(tlP6 m c1 c2).f j]? = some (tlD v n xs ((tlP6 m c1 c2).p j)).v := fun j hj => by
 have h3 : j < 3 := hj
 match j, h3 with
 | 0, _ => rfl
 | 1, _ => rfl
 | 2, _ => rfl
theorem tlF20 {m : Nat} {p k rn : Int} {ov : Bool} {v : Nat → Value} {n : Nat → Nat} {xs : Nat → List Value} : ∀ j, j < (tlP20 m p k).q → (tlC v rn ov)[(tlP20 m p k).f j]? = some (tlD v n xs ((tlP20 m p k).p j)).v := fun j hj => by
 have h3 : j < 2 := hj
 match j, h3 with
 | 0, _ => rfl
 | 1, _ => rfl
theorem own_slG {w : World} {b k n : Nat} {e : TypeId} {v : Value} {xs : List Value} (h : w.ownsRow b e k v n xs) : ∃ a c, v = .slice a n c := by
 rcases h.2 with ⟨e1, h0⟩ | ⟨g, cap, cur, e1, _⟩
 ·exact ⟨none, 0, by rw [e1, h0]⟩
 ·exact ⟨_, _, e1⟩
section
variable {w wr w5 : World} {Z L3 L4 m nc cc cb co p k : Nat} {c1 c2 rn f0 rd0 : Int} {ov eq0 : Bool} {v : Nat → Value} {n : Nat → Nat} {xs : Nat → List Value}
set_option maxRecDepth 100000 in
set_option maxHeartbeats 16000000 in
theorem tal6 {ops : List Oper} {Q : Exit → Act → World → Prop} {a0 : Act} (HRS : Aside (Rws Z 6 (tlD v n xs) wr)) (hl4 : wr.heap[L4]? = some (.cells (tlC v rn ov) 81 (0, 0))) (HBW : Aside (Below w.heap.size w wr)) (hZ : Z ≤ wr.heap.size) (hL4 : L4 < Z) (hwL : w.heap.size ≤ L4) (hnn : ∀ i, n i ≤ 1000) (hru : wr.heap[L3]? = some (.cells #[.slice (some ⟨cb, co, none⟩) nc cc, .int .i64 f0, .int .i64 rd0, .bool eq0] 42 (0, 0))) (h1 : wr.cell? ⟨cb, co + p * 3, none⟩ = some (.int .i64 c1)) (h2 : wr.cell? ⟨cb, co + p * 3 + 1, none⟩ = some (.int .i64 c2)) (HCB : Aside (∀ W, Below w.heap.size w W → (∀ j, j < Z → j ≠ L4 → W.heap[j]? = wr.heap[j]?) → W.cell? ⟨cb, co + p * 3, none⟩ = some (.int .i64 c1) ∧ W.cell? ⟨cb, co + p * 3 + 1, none⟩ = some (.int .i64 c2))) (hL3 : L3 < Z ∧ L3 ≠ L4) (hltp : p < nc) (hltz : (p : Int) < (nc : Int)) (hops : regOps 6 Try.f34 = some ops) (hsz0 : a0.tmps.size = 238) (hs3 : a0.tmps.getD 3 undef = .pointer (some ⟨L3, 0, none⟩)) (hs4 : a0.tmps.getD 4 undef = .pointer (some ⟨L4, 0, none⟩)) (hs7 : a0.tmps.getD 7 undef = .int .i64 (p : Int))
  (hrest : ∀ (ac : Act) (w5 : World), LaidG ops.toArray a0 (fun (i : Nat) (x : Value) (ww : World) => (match i with | 0 => x = .pointer (some ⟨L4, 1, none⟩) | 1 => x = v 0 | 2 => x = .pointer (some ⟨L3, 0, none⟩) | 3 => x = .slice (some ⟨cb, co, none⟩) nc cc | 4 => x = .int .i64 (p : Int) | 5 => x = .pointer (some ⟨cb, co + p * 3, none⟩) | 6 => x = .pointer (some ⟨cb, co + p * 3, none⟩) | 7 => x = .int .i64 c1 | 8 => True | 9 => True | 10 => x = .pointer (some ⟨L4, 2, none⟩) | 11 => x = v 1 | 12 => True | 13 => True | 14 => x = .pointer (some ⟨L4, 3, none⟩) | 15 => x = v 2 | 16 => x = .pointer (some ⟨L3, 0, none⟩) | 17 => x = .slice (some ⟨cb, co, none⟩) nc cc | 18 => x = .int .i64 (p : Int) | 19 => x = .pointer (some ⟨cb, co + p * 3, none⟩) | 20 => x = .pointer (some ⟨cb, co + p * 3 + 1, none⟩) | 21 => x = .int .i64 c2 | 22 => x = .bool (c2 == 0) | 23 => True | 24 => True | 25 => x = .pointer (some ⟨L4, 1, none⟩) | 26 => True | 27 => x = .pointer (some ⟨L4, 2, none⟩) | 28 => True | 29 => x = .pointer (some ⟨L4, 3, none⟩) | 30 => True | _ => True : Prop)) (fun listed a W => ∃ E, RwC w Z L4 tlN6 (tlP6 6 c1 c2) (tlD v n xs) 81 (tlC v rn ov) wr listed a E W) #[true, true, true, true, true, true, true, true, true, true, true, true, true, true, true, true, true, true, true, true, true, true, true, true, true, true, true, true, true, true, true] ac w5 → wpAny Try.prog .any ops.toArray Q 0 #[true, true, true, true, true, true, true, true, true, true, true, true, true, true, true, true, true, true, true, true, true, true, true, true, true, true, true, true, true, true, true] ac w5) : (Code.region 6 ops.toArray true).wp Try.prog Q a0 wr := by
 (conv at hops => lhs; whnf)
 obtain rfl := Option.some.inj hops
 clear hops
 obtain ⟨i0, hi0, hz0, hz1, hz2⟩ := info_parts info_int
 obtain ⟨j0, hj0, jz0, jz1, jz2⟩ := info_parts info_bool
 refine region_laidK (fun _ _ => True) (fl := 16) [true, true, true, true, true, true, true, true, true, true, true, true, true, true, true, true, true, true, true, true, true, true, true, true, true, true, true, true, true, true, true] 0 (fun (i : Nat) (x : Value) (ww : World) => (match i with | 0 => x = .pointer (some ⟨L4, 1, none⟩) | 1 => x = v 0 | 2 => x = .pointer (some ⟨L3, 0, none⟩) | 3 => x = .slice (some ⟨cb, co, none⟩) nc cc | 4 => x = .int .i64 (p : Int) | 5 => x = .pointer (some ⟨cb, co + p * 3, none⟩) | 6 => x = .pointer (some ⟨cb, co + p * 3, none⟩) | 7 => x = .int .i64 c1 | 8 => True | 9 => True | 10 => x = .pointer (some ⟨L4, 2, none⟩) | 11 => x = v 1 | 12 => True | 13 => True | 14 => x = .pointer (some ⟨L4, 3, none⟩) | 15 => x = v 2 | 16 => x = .pointer (some ⟨L3, 0, none⟩) | 17 => x = .slice (some ⟨cb, co, none⟩) nc cc | 18 => x = .int .i64 (p : Int) | 19 => x = .pointer (some ⟨cb, co + p * 3, none⟩) | 20 => x = .pointer (some ⟨cb, co + p * 3 + 1, none⟩) | 21 => x = .int .i64 c2 | 22 => x = .bool (c2 == 0) | 23 => True | 24 => True | 25 => x = .pointer (some ⟨L4, 1, none⟩) | 26 => True | 27 => x = .pointer (some ⟨L4, 2, none⟩) | 28 => True | 29 => x = .pointer (some ⟨L4, 3, none⟩) | 30 => True | _ => True : Prop)) (fun listed a W => ∃ E, RwC w Z L4 tlN6 (tlP6 6 c1 c2) (tlD v n xs) 81 (tlC v rn ov) wr listed a E W) (by kernel_rfl) rfl (by rw [hsz0]; decide +kernel) rfl ⟨_, RwC.start HBW.out hZ hl4 (tlF6 (v := v) (rn := rn) (ov := ov)) HRS.out _ _⟩ ?mono ?step hrest
 case mono =>
  intro i x ww ww' hB h
  match i, h with
  | 0, h => exact h
  | 1, h => exact h
  | 2, h => exact h
  | 3, h => exact h
  | 4, h => exact h
  | 5, h => exact h
  | 6, h => exact h
  | 7, h => exact h
  | 8, h => exact h
  | 9, h => exact h
  | 10, h => exact h
  | 11, h => exact h
  | 12, h => exact h
  | 13, h => exact h
  | 14, h => exact h
  | 15, h => exact h
  | 16, h => exact h
  | 17, h => exact h
  | 18, h => exact h
  | 19, h => exact h
  | 20, h => exact h
  | 21, h => exact h
  | 22, h => exact h
  | 23, h => exact h
  | 24, h => exact h
  | 25, h => exact h
  | 26, h => exact h
  | 27, h => exact h
  | 28, h => exact h
  | 29, h => exact h
  | 30, h => exact h
  | n + 31, h => exact h
 case step =>
  intro i o_ listed ac W hA ho hL he hcl hli hsz
  have hk3 : ac.tmps.getD 3 undef = .pointer (some ⟨L3, 0, none⟩) := (hL.kept 3 (by decide +kernel)).trans hs3
  have hk4 : ac.tmps.getD 4 undef = .pointer (some ⟨L4, 0, none⟩) := (hL.kept 4 (by decide +kernel)).trans hs4
  have hk7 : ac.tmps.getD 7 undef = .int .i64 (p : Int) := (hL.kept 7 (by decide +kernel)).trans hs7
  obtain ⟨E, hG⟩ := hL.cls
  have kb := blk_cell ((hG.fix L3 hL3.1 hL3.2).trans hru) (i := 0) rfl
  obtain ⟨kc1, kc2⟩ := HCB.out W hG.bel hG.fix
  match i, hA, ho with
  | 0, _, ho =>
   cases ho
   refine wpOp_plain rfl rfl ?_
   unfold Oper.wp
   go_simp
   first | exact ⟨_, rfl, trivial, ⟨E, hG.other rfl⟩, rfl⟩ | exact ⟨trivial, ⟨E, hG.other rfl⟩⟩ | exact ⟨E, hG.other rfl⟩
  | 1, _, ho =>
   cases ho
   have d0 : ac.tmps.getD 27 undef = .pointer (some ⟨L4, 1, none⟩) := hL.new 0 _ 27 rfl (he ⟨0, .data⟩ (by simp) rfl) rfl
   have la : listed.getD 9 false = false := by
    cases hx : listed.getD 9 false with
    | false => rfl
    | true =>
     have h8 := hcl 9 _ rfl hx ⟨1, .data⟩ (by simp) rfl
     simp only [Array.getD_eq_getD_getElem?] at h8 hli
     rw [Array.getElem?_eq_getElem (show 1 < listed.size by rw [hsz]; decide)] at h8 hli
     rw [Option.getD_some] at h8 hli
     rw [h8] at hli
     exact absurd hli (by simp)
   have lx : listed.getD 26 false = false := by
    cases hx : listed.getD 26 false with
    | false => rfl
    | true =>
     have h8 := hcl 26 _ rfl hx ⟨9, .data⟩ (by simp) rfl
     rw [la] at h8; cases h8
   have kl : W.cell? ⟨L4, 1, none⟩ = some (v 0) := hG.cell 0 (show 0 < 3 by decide) lx
   refine wpOp_plain rfl rfl ?_
   unfold Oper.wp
   go_simp
   first | exact ⟨_, rfl, trivial, ⟨E, hG.other rfl⟩, rfl⟩ | exact ⟨trivial, ⟨E, hG.other rfl⟩⟩ | exact ⟨E, hG.other rfl⟩
  | 2, _, ho =>
   cases ho
   refine wpOp_plain rfl rfl ?_
   unfold Oper.wp
   go_simp
   first | exact ⟨_, rfl, trivial, ⟨E, hG.other rfl⟩, rfl⟩ | exact ⟨trivial, ⟨E, hG.other rfl⟩⟩ | exact ⟨E, hG.other rfl⟩
  | 3, _, ho =>
   cases ho
   have d2 : ac.tmps.getD 29 undef = .pointer (some ⟨L3, 0, none⟩) := hL.new 2 _ 29 rfl (he ⟨2, .data⟩ (by simp) rfl) rfl
   refine wpOp_plain rfl rfl ?_
   unfold Oper.wp
   go_simp
   first | exact ⟨_, rfl, trivial, ⟨E, hG.other rfl⟩, rfl⟩ | exact ⟨trivial, ⟨E, hG.other rfl⟩⟩ | exact ⟨E, hG.other rfl⟩
  | 4, _, ho =>
   cases ho
   refine wpOp_plain rfl rfl ?_
   unfold Oper.wp
   go_simp
   first | exact ⟨_, rfl, trivial, ⟨E, hG.other rfl⟩, rfl⟩ | exact ⟨trivial, ⟨E, hG.other rfl⟩⟩ | exact ⟨E, hG.other rfl⟩
  | 5, _, ho =>
   cases ho
   have d3 : ac.tmps.getD 30 undef = .slice (some ⟨cb, co, none⟩) nc cc := hL.new 3 _ 30 rfl (he ⟨3, .data⟩ (by simp) rfl) rfl
   have d4 : ac.tmps.getD 31 undef = .int .i64 (p : Int) := hL.new 4 _ 31 rfl (he ⟨4, .data⟩ (by simp) rfl) rfl
   refine wpOp_plain rfl rfl ?_
   unfold Oper.wp
   go_simp
   first | exact ⟨_, rfl, trivial, ⟨E, hG.other rfl⟩, rfl⟩ | exact ⟨trivial, ⟨E, hG.other rfl⟩⟩ | exact ⟨E, hG.other rfl⟩
  | 6, _, ho =>
   cases ho
   have d5 : ac.tmps.getD 32 undef = .pointer (some ⟨cb, co + p * 3, none⟩) := hL.new 5 _ 32 rfl (he ⟨5, .data⟩ (by simp) rfl) rfl
   refine wpOp_plain rfl rfl ?_
   unfold Oper.wp
   go_simp
   first | exact ⟨_, rfl, trivial, ⟨E, hG.other rfl⟩, rfl⟩ | exact ⟨trivial, ⟨E, hG.other rfl⟩⟩ | exact ⟨E, hG.other rfl⟩
  | 7, _, ho =>
   cases ho
   have d6 : ac.tmps.getD 33 undef = .pointer (some ⟨cb, co + p * 3, none⟩) := hL.new 6 _ 33 rfl (he ⟨6, .data⟩ (by simp) rfl) rfl
   refine wpOp_plain rfl rfl ?_
   unfold Oper.wp
   go_simp
   first | exact ⟨_, rfl, trivial, ⟨E, hG.other rfl⟩, rfl⟩ | exact ⟨trivial, ⟨E, hG.other rfl⟩⟩ | exact ⟨E, hG.other rfl⟩
  | 8, _, ho =>
   cases ho
   have d7 : ac.tmps.getD 34 undef = .int .i64 c1 := hL.new 7 _ 34 rfl (he ⟨7, .data⟩ (by simp) rfl) rfl
   simp only [Array.getD_eq_getD_getElem?] at d7
   refine wpOp_plain rfl rfl ?_
   unfold Oper.wp
   go_simp
   have hC := hG.build tlN6_ok 0 (show 0 < 3 by decide) (by rw [hL.size, hsz0]; exact (by decide : (35 : Nat) < 238)) (by omega)
   first | exact ⟨_, rfl, E, hC⟩ | exact ⟨_, rfl, trivial, ⟨E, hC⟩, trivial⟩
  | 9, _, ho =>
   cases ho
   have d1 : ac.tmps.getD 28 undef = v 0 := hL.new 1 _ 28 rfl (he ⟨1, .data⟩ (by simp) rfl) rfl
   have lb : listed.getD 8 false = true := he ⟨8, .data⟩ (by simp) rfl
   have ls : listed.getD 9 false = false := by
    simp only [Array.getD_eq_getD_getElem?] at hli ⊢
    rw [Array.getElem?_eq_getElem (show 9 < listed.size by rw [hsz]; decide)] at hli ⊢
    simpa using hli
   have lx : listed.getD 26 false = false := by
    cases hx : listed.getD 26 false with
    | false => rfl
    | true =>
     have h8 := hcl 26 _ rfl hx ⟨9, .data⟩ (by simp) rfl
     rw [ls] at h8; cases h8
   obtain ⟨g, g1, g2, g3, g4⟩ := hG.one 0 (show 0 < 3 by decide) lb
   have hr0 : E 0 = (tlD v n xs) 0 := (hG.row 0 (show 0 < 3 by decide)).1 ls
   have hown : W.ownsRow Z ((tlD v n xs) 0).T ((tlD v n xs) 0).sz ((tlD v n xs) 0).v ((tlD v n xs) 0).n ((tlD v n xs) 0).xs := by have := hG.rows.own 0 (show 0 < 6 by decide); rw [hr0] at this; exact this
   have hown2 : W.ownsRow Z 3 1 (ac.tmps.getD 28 undef) (n 0) (xs 0) := by rw [d1]; exact hown
   have hnr := hnn 0
   refine wpOp_plain rfl rfl ?_
   refine wp_append_own_at (.tmp 28) (.tmp 35) 48 rfl Z 3 i0 (.int .i64 0) 1 8 Try.underlying48 hi0 hz0 hz1 hz2 rfl (by decide) _ _ _ rfl hown2 ⟨g, 0, none⟩ 1 1 [.int .i64 c1] (by exact g1) rfl (by intro j u hu; cases j with | zero => (simp at hu; subst hu; exact blk_cell g3 rfl) | succ j => simp at hu) (ints_oneCell .i64 [c1]) (by unfold maxLen; omega) (by omega) hG.siz ?_
   intro v' W' hown' hg' hat'
   change W.grownBy W' (ac.tmps.getD 28 undef).ownBlock at hg'
   change v'.ownBlock = (ac.tmps.getD 28 undef).ownBlock ∨ _ at hat'
   rw [d1] at hg' hat'
   obtain ⟨E', hC⟩ := hG.app tlN6_ok (tlP6_ok rfl) 0 (show 0 < 3 by decide) (by rw [hsz]; decide) (by rw [hL.size, hsz0]; exact (by decide : (36 : Nat) < 238)) (by omega) (by omega) ls lx (v' := v') hown' hg' hat'
   exact ⟨_, rfl, trivial, ⟨E', hC⟩, trivial⟩
  | 10, _, ho =>
   cases ho
   refine wpOp_plain rfl rfl ?_
   unfold Oper.wp
   go_simp
   first | exact ⟨_, rfl, trivial, ⟨E, hG.other rfl⟩, rfl⟩ | exact ⟨trivial, ⟨E, hG.other rfl⟩⟩ | exact ⟨E, hG.other rfl⟩
  | 11, _, ho =>
   cases ho
   have d10 : ac.tmps.getD 37 undef = .pointer (some ⟨L4, 2, none⟩) := hL.new 10 _ 37 rfl (he ⟨10, .data⟩ (by simp) rfl) rfl
   have la : listed.getD 13 false = false := by
    cases hx : listed.getD 13 false with
    | false => rfl
    | true =>
     have h8 := hcl 13 _ rfl hx ⟨11, .data⟩ (by simp) rfl
     simp only [Array.getD_eq_getD_getElem?] at h8 hli
     rw [Array.getElem?_eq_getElem (show 11 < listed.size by rw [hsz]; decide)] at h8 hli
     rw [Option.getD_some] at h8 hli
     rw [h8] at hli
     exact absurd hli (by simp)
   have lx : listed.getD 28 false = false := by
    cases hx : listed.getD 28 false with
    | false => rfl
    | true =>
     have h8 := hcl 28 _ rfl hx ⟨13, .data⟩ (by simp) rfl
     rw [la] at h8; cases h8
   have kl : W.cell? ⟨L4, 2, none⟩ = some (v 1) := hG.cell 1 (show 1 < 3 by decide) lx
   refine wpOp_plain rfl rfl ?_
   unfold Oper.wp
   go_simp
   first | exact ⟨_, rfl, trivial, ⟨E, hG.other rfl⟩, rfl⟩ | exact ⟨trivial, ⟨E, hG.other rfl⟩⟩ | exact ⟨E, hG.other rfl⟩
  | 12, _, ho =>
   cases ho
   refine wpOp_plain rfl rfl ?_
   unfold Oper.wp
   go_simp
   have hC := hG.build tlN6_ok 1 (show 1 < 3 by decide) (by rw [hL.size, hsz0]; exact (by decide : (39 : Nat) < 238)) (by omega)
   first | exact ⟨_, rfl, E, hC⟩ | exact ⟨_, rfl, trivial, ⟨E, hC⟩, trivial⟩
  | 13, _, ho =>
   cases ho
   have d11 : ac.tmps.getD 38 undef = v 1 := hL.new 11 _ 38 rfl (he ⟨11, .data⟩ (by simp) rfl) rfl
   have lb : listed.getD 12 false = true := he ⟨12, .data⟩ (by simp) rfl
   have ls : listed.getD 13 false = false := by
    simp only [Array.getD_eq_getD_getElem?] at hli ⊢
    rw [Array.getElem?_eq_getElem (show 13 < listed.size by rw [hsz]; decide)] at hli ⊢
    simpa using hli
   have lx : listed.getD 28 false = false := by
    cases hx : listed.getD 28 false with
    | false => rfl
    | true =>
     have h8 := hcl 28 _ rfl hx ⟨13, .data⟩ (by simp) rfl
     rw [ls] at h8; cases h8
   obtain ⟨g, g1, g2, g3, g4⟩ := hG.one 1 (show 1 < 3 by decide) lb
   have hr0 : E 1 = (tlD v n xs) 1 := (hG.row 1 (show 1 < 3 by decide)).1 ls
   have hown : W.ownsRow Z ((tlD v n xs) 1).T ((tlD v n xs) 1).sz ((tlD v n xs) 1).v ((tlD v n xs) 1).n ((tlD v n xs) 1).xs := by have := hG.rows.own 1 (show 1 < 6 by decide); rw [hr0] at this; exact this
   have hown2 : W.ownsRow Z 3 1 (ac.tmps.getD 38 undef) (n 1) (xs 1) := by rw [d11]; exact hown
   have hnr := hnn 1
   refine wpOp_plain rfl rfl ?_
   refine wp_append_own_at (.tmp 38) (.tmp 39) 48 rfl Z 3 i0 (.int .i64 0) 1 8 Try.underlying48 hi0 hz0 hz1 hz2 rfl (by decide) _ _ _ rfl hown2 ⟨g, 0, none⟩ 1 1 [.int .i64 0] (by exact g1) rfl (by intro j u hu; cases j with | zero => (simp at hu; subst hu; exact blk_cell g3 rfl) | succ j => simp at hu) (ints_oneCell .i64 [0]) (by unfold maxLen; omega) (by omega) hG.siz ?_
   intro v' W' hown' hg' hat'
   change W.grownBy W' (ac.tmps.getD 38 undef).ownBlock at hg'
   change v'.ownBlock = (ac.tmps.getD 38 undef).ownBlock ∨ _ at hat'
   rw [d11] at hg' hat'
   obtain ⟨E', hC⟩ := hG.app tlN6_ok (tlP6_ok rfl) 1 (show 1 < 3 by decide) (by rw [hsz]; decide) (by rw [hL.size, hsz0]; exact (by decide : (40 : Nat) < 238)) (by omega) (by omega) ls lx (v' := v') hown' hg' hat'
   exact ⟨_, rfl, trivial, ⟨E', hC⟩, trivial⟩
  | 14, _, ho =>
   cases ho
   refine wpOp_plain rfl rfl ?_
   unfold Oper.wp
   go_simp
   first | exact ⟨_, rfl, trivial, ⟨E, hG.other rfl⟩, rfl⟩ | exact ⟨trivial, ⟨E, hG.other rfl⟩⟩ | exact ⟨E, hG.other rfl⟩
  | 15, _, ho =>
   cases ho
   have d14 : ac.tmps.getD 41 undef = .pointer (some ⟨L4, 3, none⟩) := hL.new 14 _ 41 rfl (he ⟨14, .data⟩ (by simp) rfl) rfl
   have la : listed.getD 24 false = false := by
    cases hx : listed.getD 24 false with
    | false => rfl
    | true =>
     have h8 := hcl 24 _ rfl hx ⟨15, .data⟩ (by simp) rfl
     simp only [Array.getD_eq_getD_getElem?] at h8 hli
     rw [Array.getElem?_eq_getElem (show 15 < listed.size by rw [hsz]; decide)] at h8 hli
     rw [Option.getD_some] at h8 hli
     rw [h8] at hli
     exact absurd hli (by simp)
   have lx : listed.getD 30 false = false := by
    cases hx : listed.getD 30 false with
    | false => rfl
    | true =>
     have h8 := hcl 30 _ rfl hx ⟨24, .data⟩ (by simp) rfl
     rw [la] at h8; cases h8
   have kl : W.cell? ⟨L4, 3, none⟩ = some (v 2) := hG.cell 2 (show 2 < 3 by decide) lx
   refine wpOp_plain rfl rfl ?_
   unfold Oper.wp
   go_simp
   first | exact ⟨_, rfl, trivial, ⟨E, hG.other rfl⟩, rfl⟩ | exact ⟨trivial, ⟨E, hG.other rfl⟩⟩ | exact ⟨E, hG.other rfl⟩
  | 16, _, ho =>
   cases ho
   refine wpOp_plain rfl rfl ?_
   unfold Oper.wp
   go_simp
   first | exact ⟨_, rfl, trivial, ⟨E, hG.other rfl⟩, rfl⟩ | exact ⟨trivial, ⟨E, hG.other rfl⟩⟩ | exact ⟨E, hG.other rfl⟩
  | 17, _, ho =>
   cases ho
   have d16 : ac.tmps.getD 43 undef = .pointer (some ⟨L3, 0, none⟩) := hL.new 16 _ 43 rfl (he ⟨16, .data⟩ (by simp) rfl) rfl
   refine wpOp_plain rfl rfl ?_
   unfold Oper.wp
   go_simp
   first | exact ⟨_, rfl, trivial, ⟨E, hG.other rfl⟩, rfl⟩ | exact ⟨trivial, ⟨E, hG.other rfl⟩⟩ | exact ⟨E, hG.other rfl⟩
  | 18, _, ho =>
   cases ho
   refine wpOp_plain rfl rfl ?_
   unfold Oper.wp
   go_simp
   first | exact ⟨_, rfl, trivial, ⟨E, hG.other rfl⟩, rfl⟩ | exact ⟨trivial, ⟨E, hG.other rfl⟩⟩ | exact ⟨E, hG.other rfl⟩
  | 19, _, ho =>
   cases ho
   have d17 : ac.tmps.getD 44 undef = .slice (some ⟨cb, co, none⟩) nc cc := hL.new 17 _ 44 rfl (he ⟨17, .data⟩ (by simp) rfl) rfl
   have d18 : ac.tmps.getD 45 undef = .int .i64 (p : Int) := hL.new 18 _ 45 rfl (he ⟨18, .data⟩ (by simp) rfl) rfl
   refine wpOp_plain rfl rfl ?_
   unfold Oper.wp
   go_simp
   first | exact ⟨_, rfl, trivial, ⟨E, hG.other rfl⟩, rfl⟩ | exact ⟨trivial, ⟨E, hG.other rfl⟩⟩ | exact ⟨E, hG.other rfl⟩
  | 20, _, ho =>
   cases ho
   have d19 : ac.tmps.getD 46 undef = .pointer (some ⟨cb, co + p * 3, none⟩) := hL.new 19 _ 46 rfl (he ⟨19, .data⟩ (by simp) rfl) rfl
   refine wpOp_plain rfl rfl ?_
   unfold Oper.wp
   go_simp
   first | exact ⟨_, rfl, trivial, ⟨E, hG.other rfl⟩, rfl⟩ | exact ⟨trivial, ⟨E, hG.other rfl⟩⟩ | exact ⟨E, hG.other rfl⟩
  | 21, _, ho =>
   cases ho
   have d20 : ac.tmps.getD 47 undef = .pointer (some ⟨cb, co + p * 3 + 1, none⟩) := hL.new 20 _ 47 rfl (he ⟨20, .data⟩ (by simp) rfl) rfl
   refine wpOp_plain rfl rfl ?_
   unfold Oper.wp
   go_simp
   first | exact ⟨_, rfl, trivial, ⟨E, hG.other rfl⟩, rfl⟩ | exact ⟨trivial, ⟨E, hG.other rfl⟩⟩ | exact ⟨E, hG.other rfl⟩
  | 22, _, ho =>
   cases ho
   have d21 : ac.tmps.getD 48 undef = .int .i64 c2 := hL.new 21 _ 48 rfl (he ⟨21, .data⟩ (by simp) rfl) rfl
   refine wpOp_plain rfl rfl ?_
   unfold Oper.wp
   go_simp
   first | exact ⟨_, rfl, trivial, ⟨E, hG.other rfl⟩, rfl⟩ | exact ⟨trivial, ⟨E, hG.other rfl⟩⟩ | exact ⟨E, hG.other rfl⟩
  | 23, _, ho =>
   cases ho
   have d22 : ac.tmps.getD 49 undef = .bool (c2 == 0) := hL.new 22 _ 49 rfl (he ⟨22, .data⟩ (by simp) rfl) rfl
   simp only [Array.getD_eq_getD_getElem?] at d22
   refine wpOp_plain rfl rfl ?_
   unfold Oper.wp
   go_simp
   have hC := hG.build tlN6_ok 2 (show 2 < 3 by decide) (by rw [hL.size, hsz0]; exact (by decide : (50 : Nat) < 238)) (by omega)
   first | exact ⟨_, rfl, E, hC⟩ | exact ⟨_, rfl, trivial, ⟨E, hC⟩, trivial⟩
  | 24, _, ho =>
   cases ho
   have d15 : ac.tmps.getD 42 undef = v 2 := hL.new 15 _ 42 rfl (he ⟨15, .data⟩ (by simp) rfl) rfl
   have lb : listed.getD 23 false = true := he ⟨23, .data⟩ (by simp) rfl
   have ls : listed.getD 24 false = false := by
    simp only [Array.getD_eq_getD_getElem?] at hli ⊢
    rw [Array.getElem?_eq_getElem (show 24 < listed.size by rw [hsz]; decide)] at hli ⊢
    simpa using hli
   have lx : listed.getD 30 false = false := by
    cases hx : listed.getD 30 false with
    | false => rfl
    | true =>
     have h8 := hcl 30 _ rfl hx ⟨24, .data⟩ (by simp) rfl
     rw [ls] at h8; cases h8
   obtain ⟨g, g1, g2, g3, g4⟩ := hG.one 2 (show 2 < 3 by decide) lb
   have hr0 : E 2 = (tlD v n xs) 2 := (hG.row 2 (show 2 < 3 by decide)).1 ls
   have hown : W.ownsRow Z ((tlD v n xs) 2).T ((tlD v n xs) 2).sz ((tlD v n xs) 2).v ((tlD v n xs) 2).n ((tlD v n xs) 2).xs := by have := hG.rows.own 2 (show 2 < 6 by decide); rw [hr0] at this; exact this
   have hown2 : W.ownsRow Z 4 1 (ac.tmps.getD 42 undef) (n 2) (xs 2) := by rw [d15]; exact hown
   have hnr := hnn 2
   refine wpOp_plain rfl rfl ?_
   refine wp_append_own_at (.tmp 42) (.tmp 50) 49 rfl Z 4 j0 (.bool false) 1 1 Try.underlying49 hj0 jz0 jz1 jz2 rfl (by decide) _ _ _ rfl hown2 ⟨g, 0, none⟩ 1 1 [.bool (c2 == 0)] (by exact g1) rfl (by intro j u hu; cases j with | zero => (simp at hu; subst hu; exact blk_cell g3 rfl) | succ j => simp at hu) (by intro u hu; simp at hu; subst hu; rfl) (by unfold maxLen; omega) (by omega) hG.siz ?_
   intro v' W' hown' hg' hat'
   change W.grownBy W' (ac.tmps.getD 42 undef).ownBlock at hg'
   change v'.ownBlock = (ac.tmps.getD 42 undef).ownBlock ∨ _ at hat'
   rw [d15] at hg' hat'
   obtain ⟨E', hC⟩ := hG.app tlN6_ok (tlP6_ok rfl) 2 (show 2 < 3 by decide) (by rw [hsz]; decide) (by rw [hL.size, hsz0]; exact (by decide : (51 : Nat) < 238)) (by omega) (by omega) ls lx (v' := v') hown' hg' hat'
   exact ⟨_, rfl, trivial, ⟨E', hC⟩, trivial⟩
  | 25, _, ho =>
   cases ho
   refine wpOp_plain rfl rfl ?_
   unfold Oper.wp
   go_simp
   first | exact ⟨_, rfl, trivial, ⟨E, hG.other rfl⟩, rfl⟩ | exact ⟨trivial, ⟨E, hG.other rfl⟩⟩ | exact ⟨E, hG.other rfl⟩
  | 26, _, ho =>
   cases ho
   have d25 : ac.tmps.getD 52 undef = .pointer (some ⟨L4, 1, none⟩) := hL.new 25 _ 52 rfl (he ⟨25, .data⟩ (by simp) rfl) rfl
   have la : listed.getD 9 false = true := he ⟨9, .data⟩ (by simp) rfl
   obtain ⟨e9, -⟩ := (hG.row 0 (show 0 < 3 by decide)).2 la
   have e9' : ac.tmps.getD 36 undef = (E 0).v := e9
   have hown := hG.rows.own 0 (show 0 < 6 by decide)
   have HPU : Aside (∃ E, RwC w Z L4 tlN6 (tlP6 6 c1 c2) (tlD v n xs) 81 (tlC v rn ov) wr (listed.setIfInBounds 26 true) ac E (W.setCell ⟨L4, 1, none⟩ (ac.tmps.getD 36 undef))) := by show Exists _; rw [e9']; exact ⟨E, hG.st tlN6_ok tlP6_inj 0 (show 0 < 3 by decide) (by rw [hsz]; decide) (by omega) (by omega) ac rfl⟩
   obtain ⟨xo, kl, -⟩ : ∃ x, W.cell? ⟨L4, 1, none⟩ = some x ∧ True := by obtain ⟨ds, m1, m2, m3, m4⟩ := hG.leg; exact ⟨_, blk_cell m1 (m3 0 (show 0 < 3 by decide)), trivial⟩
   have zf : ∀ i, W.frozen? ⟨L4, i, none⟩ = false := by obtain ⟨ds, m1, m2, m3, m4⟩ := hG.leg; exact fun i => blk_free m1 i
   obtain ⟨va, vcc, hva⟩ := own_slG hown
   rw [hva] at e9'
   rw [e9'] at HPU
   simp only [Array.getD_eq_getD_getElem?] at e9'
   refine wpOp_plain rfl rfl ?_
   unfold Oper.wp
   go_simp
   exact HPU.out
  | 27, _, ho =>
   cases ho
   refine wpOp_plain rfl rfl ?_
   unfold Oper.wp
   go_simp
   first | exact ⟨_, rfl, trivial, ⟨E, hG.other rfl⟩, rfl⟩ | exact ⟨trivial, ⟨E, hG.other rfl⟩⟩ | exact ⟨E, hG.other rfl⟩
  | 28, _, ho =>
   cases ho
   have d27 : ac.tmps.getD 53 undef = .pointer (some ⟨L4, 2, none⟩) := hL.new 27 _ 53 rfl (he ⟨27, .data⟩ (by simp) rfl) rfl
   have la : listed.getD 13 false = true := he ⟨13, .data⟩ (by simp) rfl
   obtain ⟨e9, -⟩ := (hG.row 1 (show 1 < 3 by decide)).2 la
   have e9' : ac.tmps.getD 40 undef = (E 1).v := e9
   have hown := hG.rows.own 1 (show 1 < 6 by decide)
   have HPU : Aside (∃ E, RwC w Z L4 tlN6 (tlP6 6 c1 c2) (tlD v n xs) 81 (tlC v rn ov) wr (listed.setIfInBounds 28 true) ac E (W.setCell ⟨L4, 2, none⟩ (ac.tmps.getD 40 undef))) := by show Exists _; rw [e9']; exact ⟨E, hG.st tlN6_ok tlP6_inj 1 (show 1 < 3 by decide) (by rw [hsz]; decide) (by omega) (by omega) ac rfl⟩
   obtain ⟨xo, kl, -⟩ : ∃ x, W.cell? ⟨L4, 2, none⟩ = some x ∧ True := by obtain ⟨ds, m1, m2, m3, m4⟩ := hG.leg; exact ⟨_, blk_cell m1 (m3 1 (show 1 < 3 by decide)), trivial⟩
   have zf : ∀ i, W.frozen? ⟨L4, i, none⟩ = false := by obtain ⟨ds, m1, m2, m3, m4⟩ := hG.leg; exact fun i => blk_free m1 i
   obtain ⟨va, vcc, hva⟩ := own_slG hown
   rw [hva] at e9'
   rw [e9'] at HPU
   simp only [Array.getD_eq_getD_getElem?] at e9'
   refine wpOp_plain rfl rfl ?_
   unfold Oper.wp
   go_simp
   exact HPU.out
  | 29, _, ho =>
   cases ho
   refine wpOp_plain rfl rfl ?_
   unfold Oper.wp
   go_simp
   first | exact ⟨_, rfl, trivial, ⟨E, hG.other rfl⟩, rfl⟩ | exact ⟨trivial, ⟨E, hG.other rfl⟩⟩ | exact ⟨E, hG.other rfl⟩
  | 30, _, ho =>
   cases ho
   have d29 : ac.tmps.getD 54 undef = .pointer (some ⟨L4, 3, none⟩) := hL.new 29 _ 54 rfl (he ⟨29, .data⟩ (by simp) rfl) rfl
   have la : listed.getD 24 false = true := he ⟨24, .data⟩ (by simp) rfl
   obtain ⟨e9, -⟩ := (hG.row 2 (show 2 < 3 by decide)).2 la
   have e9' : ac.tmps.getD 51 undef = (E 2).v := e9
   have hown := hG.rows.own 2 (show 2 < 6 by decide)
   have HPU : Aside (∃ E, RwC w Z L4 tlN6 (tlP6 6 c1 c2) (tlD v n xs) 81 (tlC v rn ov) wr (listed.setIfInBounds 30 true) ac E (W.setCell ⟨L4, 3, none⟩ (ac.tmps.getD 51 undef))) := by show Exists _; rw [e9']; exact ⟨E, hG.st tlN6_ok tlP6_inj 2 (show 2 < 3 by decide) (by rw [hsz]; decide) (by omega) (by omega) ac rfl⟩
   obtain ⟨xo, kl, -⟩ : ∃ x, W.cell? ⟨L4, 3, none⟩ = some x ∧ True := by obtain ⟨ds, m1, m2, m3, m4⟩ := hG.leg; exact ⟨_, blk_cell m1 (m3 2 (show 2 < 3 by decide)), trivial⟩
   have zf : ∀ i, W.frozen? ⟨L4, i, none⟩ = false := by obtain ⟨ds, m1, m2, m3, m4⟩ := hG.leg; exact fun i => blk_free m1 i
   obtain ⟨va, vcc, hva⟩ := own_slG hown
   rw [hva] at e9'
   rw [e9'] at HPU
   simp only [Array.getD_eq_getD_getElem?] at e9'
   refine wpOp_plain rfl rfl ?_
   unfold Oper.wp
   go_simp
   exact HPU.out
  | n + 31, hA, _ => simp at hA
set_option maxRecDepth 100000 in
set_option maxHeartbeats 16000000 in
theorem tal20 {ops : List Oper} {Q : Exit → Act → World → Prop} {a0 : Act} (HRS : Aside (Rws Z 6 (tlD v n xs) wr)) (hl4 : wr.heap[L4]? = some (.cells (tlC v rn ov) 81 (0, 0))) (HBW : Aside (Below w.heap.size w wr)) (hZ : Z ≤ wr.heap.size) (hL4 : L4 < Z) (hwL : w.heap.size ≤ L4) (hnn : ∀ i, n i ≤ 1000) (ek : IntKind.i64.wrap ((k : Int) + 1) = (k : Int) + 1) (hops : regOps 20 Try.f34 = some ops) (hsz0 : a0.tmps.size = 238) (hs4 : a0.tmps.getD 4 undef = .pointer (some ⟨L4, 0, none⟩)) (hs9 : a0.tmps.getD 9 undef = .int .i64 (p : Int)) (hs14 : a0.tmps.getD 14 undef = .int .i64 (k : Int))
  (hrest : ∀ (ac : Act) (w5 : World), LaidG ops.toArray a0 (fun (i : Nat) (x : Value) (ww : World) => (match i with | 0 => x = .pointer (some ⟨L4, 4, none⟩) | 1 => x = v 3 | 2 => x = .int .i64 (p : Int) | 3 => True | 4 => True | 5 => x = .pointer (some ⟨L4, 5, none⟩) | 6 => x = v 4 | 7 => x = .int .i64 (k : Int) | 8 => x = .int .i64 ((k : Int) + 1) | 9 => True | 10 => True | 11 => x = .pointer (some ⟨L4, 4, none⟩) | 12 => True | 13 => x = .pointer (some ⟨L4, 5, none⟩) | 14 => True | _ => True : Prop)) (fun listed a W => ∃ E, RwC w Z L4 tlN20 (tlP20 6 (p : Int) (k : Int)) (tlD v n xs) 81 (tlC v rn ov) wr listed a E W) #[true, true, true, true, true, true, true, true, true, true, true, true, true, true, true] ac w5 → wpAny Try.prog .any ops.toArray Q 0 #[true, true, true, true, true, true, true, true, true, true, true, true, true, true, true] ac w5) : (Code.region 20 ops.toArray true).wp Try.prog Q a0 wr := by
 (conv at hops => lhs; whnf)
 obtain rfl := Option.some.inj hops
 clear hops
 obtain ⟨i0, hi0, hz0, hz1, hz2⟩ := info_parts info_int
 refine region_laidK (fun _ _ => True) (fl := 16) [true, true, true, true, true, true, true, true, true, true, true, true, true, true, true] 0 (fun (i : Nat) (x : Value) (ww : World) => (match i with | 0 => x = .pointer (some ⟨L4, 4, none⟩) | 1 => x = v 3 | 2 => x = .int .i64 (p : Int) | 3 => True | 4 => True | 5 => x = .pointer (some ⟨L4, 5, none⟩) | 6 => x = v 4 | 7 => x = .int .i64 (k : Int) | 8 => x = .int .i64 ((k : Int) + 1) | 9 => True | 10 => True | 11 => x = .pointer (some ⟨L4, 4, none⟩) | 12 => True | 13 => x = .pointer (some ⟨L4, 5, none⟩) | 14 => True | _ => True : Prop)) (fun listed a W => ∃ E, RwC w Z L4 tlN20 (tlP20 6 (p : Int) (k : Int)) (tlD v n xs) 81 (tlC v rn ov) wr listed a E W) (by kernel_rfl) rfl (by rw [hsz0]; decide +kernel) rfl ⟨_, RwC.start HBW.out hZ hl4 (tlF20 (v := v) (rn := rn) (ov := ov)) HRS.out _ _⟩ ?mono ?step hrest
 case mono =>
  intro i x ww ww' hB h
  match i, h with
  | 0, h => exact h
  | 1, h => exact h
  | 2, h => exact h
  | 3, h => exact h
  | 4, h => exact h
  | 5, h => exact h
  | 6, h => exact h
  | 7, h => exact h
  | 8, h => exact h
  | 9, h => exact h
  | 10, h => exact h
  | 11, h => exact h
  | 12, h => exact h
  | 13, h => exact h
  | 14, h => exact h
  | n + 15, h => exact h
 case step =>
  intro i o_ listed ac W hA ho hL he hcl hli hsz
  have hk4 : ac.tmps.getD 4 undef = .pointer (some ⟨L4, 0, none⟩) := (hL.kept 4 (by decide +kernel)).trans hs4
  have hk9 : ac.tmps.getD 9 undef = .int .i64 (p : Int) := (hL.kept 9 (by decide +kernel)).trans hs9
  have hk14 : ac.tmps.getD 14 undef = .int .i64 (k : Int) := (hL.kept 14 (by decide +kernel)).trans hs14
  obtain ⟨E, hG⟩ := hL.cls
  match i, hA, ho with
  | 0, _, ho =>
   cases ho
   refine wpOp_plain rfl rfl ?_
   unfold Oper.wp
   go_simp
   first | exact ⟨_, rfl, trivial, ⟨E, hG.other rfl⟩, rfl⟩ | exact ⟨trivial, ⟨E, hG.other rfl⟩⟩ | exact ⟨E, hG.other rfl⟩
  | 1, _, ho =>
   cases ho
   have d0 : ac.tmps.getD 134 undef = .pointer (some ⟨L4, 4, none⟩) := hL.new 0 _ 134 rfl (he ⟨0, .data⟩ (by simp) rfl) rfl
   have la : listed.getD 4 false = false := by
    cases hx : listed.getD 4 false with
    | false => rfl
    | true =>
     have h8 := hcl 4 _ rfl hx ⟨1, .data⟩ (by simp) rfl
     simp only [Array.getD_eq_getD_getElem?] at h8 hli
     rw [Array.getElem?_eq_getElem (show 1 < listed.size by rw [hsz]; decide)] at h8 hli
     rw [Option.getD_some] at h8 hli
     rw [h8] at hli
     exact absurd hli (by simp)
   have lx : listed.getD 12 false = false := by
    cases hx : listed.getD 12 false with
    | false => rfl
    | true =>
     have h8 := hcl 12 _ rfl hx ⟨4, .data⟩ (by simp) rfl
     rw [la] at h8; cases h8
   have kl : W.cell? ⟨L4, 4, none⟩ = some (v 3) := hG.cell 0 (show 0 < 2 by decide) lx
   refine wpOp_plain rfl rfl ?_
   unfold Oper.wp
   go_simp
   first | exact ⟨_, rfl, trivial, ⟨E, hG.other rfl⟩, rfl⟩ | exact ⟨trivial, ⟨E, hG.other rfl⟩⟩ | exact ⟨E, hG.other rfl⟩
  | 2, _, ho =>
   cases ho
   refine wpOp_plain rfl rfl ?_
   unfold Oper.wp
   go_simp
   first | exact ⟨_, rfl, trivial, ⟨E, hG.other rfl⟩, rfl⟩ | exact ⟨trivial, ⟨E, hG.other rfl⟩⟩ | exact ⟨E, hG.other rfl⟩
  | 3, _, ho =>
   cases ho
   have d2 : ac.tmps.getD 136 undef = .int .i64 (p : Int) := hL.new 2 _ 136 rfl (he ⟨2, .data⟩ (by simp) rfl) rfl
   simp only [Array.getD_eq_getD_getElem?] at d2
   refine wpOp_plain rfl rfl ?_
   unfold Oper.wp
   go_simp
   have hC := hG.build tlN20_ok 0 (show 0 < 2 by decide) (by rw [hL.size, hsz0]; exact (by decide : (137 : Nat) < 238)) (by omega)
   first | exact ⟨_, rfl, E, hC⟩ | exact ⟨_, rfl, trivial, ⟨E, hC⟩, trivial⟩
  | 4, _, ho =>
   cases ho
   have d1 : ac.tmps.getD 135 undef = v 3 := hL.new 1 _ 135 rfl (he ⟨1, .data⟩ (by simp) rfl) rfl
   have lb : listed.getD 3 false = true := he ⟨3, .data⟩ (by simp) rfl
   have ls : listed.getD 4 false = false := by
    simp only [Array.getD_eq_getD_getElem?] at hli ⊢
    rw [Array.getElem?_eq_getElem (show 4 < listed.size by rw [hsz]; decide)] at hli ⊢
    simpa using hli
   have lx : listed.getD 12 false = false := by
    cases hx : listed.getD 12 false with
    | false => rfl
    | true =>
     have h8 := hcl 12 _ rfl hx ⟨4, .data⟩ (by simp) rfl
     rw [ls] at h8; cases h8
   obtain ⟨g, g1, g2, g3, g4⟩ := hG.one 0 (show 0 < 2 by decide) lb
   have hr0 : E 3 = (tlD v n xs) 3 := (hG.row 0 (show 0 < 2 by decide)).1 ls
   have hown : W.ownsRow Z ((tlD v n xs) 3).T ((tlD v n xs) 3).sz ((tlD v n xs) 3).v ((tlD v n xs) 3).n ((tlD v n xs) 3).xs := by have := hG.rows.own 3 (show 3 < 6 by decide); rw [hr0] at this; exact this
   have hown2 : W.ownsRow Z 3 1 (ac.tmps.getD 135 undef) (n 3) (xs 3) := by rw [d1]; exact hown
   have hnr := hnn 3
   refine wpOp_plain rfl rfl ?_
   refine wp_append_own_at (.tmp 135) (.tmp 137) 48 rfl Z 3 i0 (.int .i64 0) 1 8 Try.underlying48 hi0 hz0 hz1 hz2 rfl (by decide) _ _ _ rfl hown2 ⟨g, 0, none⟩ 1 1 [.int .i64 (p : Int)] (by exact g1) rfl (by intro j u hu; cases j with | zero => (simp at hu; subst hu; exact blk_cell g3 rfl) | succ j => simp at hu) (ints_oneCell .i64 [(p : Int)]) (by unfold maxLen; omega) (by omega) hG.siz ?_
   intro v' W' hown' hg' hat'
   change W.grownBy W' (ac.tmps.getD 135 undef).ownBlock at hg'
   change v'.ownBlock = (ac.tmps.getD 135 undef).ownBlock ∨ _ at hat'
   rw [d1] at hg' hat'
   obtain ⟨E', hC⟩ := hG.app tlN20_ok (tlP20_ok rfl) 0 (show 0 < 2 by decide) (by rw [hsz]; decide) (by rw [hL.size, hsz0]; exact (by decide : (138 : Nat) < 238)) (by omega) (by omega) ls lx (v' := v') hown' hg' hat'
   exact ⟨_, rfl, trivial, ⟨E', hC⟩, trivial⟩
  | 5, _, ho =>
   cases ho
   refine wpOp_plain rfl rfl ?_
   unfold Oper.wp
   go_simp
   first | exact ⟨_, rfl, trivial, ⟨E, hG.other rfl⟩, rfl⟩ | exact ⟨trivial, ⟨E, hG.other rfl⟩⟩ | exact ⟨E, hG.other rfl⟩
  | 6, _, ho =>
   cases ho
   have d5 : ac.tmps.getD 139 undef = .pointer (some ⟨L4, 5, none⟩) := hL.new 5 _ 139 rfl (he ⟨5, .data⟩ (by simp) rfl) rfl
   have la : listed.getD 10 false = false := by
    cases hx : listed.getD 10 false with
    | false => rfl
    | true =>
     have h8 := hcl 10 _ rfl hx ⟨6, .data⟩ (by simp) rfl
     simp only [Array.getD_eq_getD_getElem?] at h8 hli
     rw [Array.getElem?_eq_getElem (show 6 < listed.size by rw [hsz]; decide)] at h8 hli
     rw [Option.getD_some] at h8 hli
     rw [h8] at hli
     exact absurd hli (by simp)
   have lx : listed.getD 14 false = false := by
    cases hx : listed.getD 14 false with
    | false => rfl
    | true =>
     have h8 := hcl 14 _ rfl hx ⟨10, .data⟩ (by simp) rfl
     rw [la] at h8; cases h8
   have kl : W.cell? ⟨L4, 5, none⟩ = some (v 4) := hG.cell 1 (show 1 < 2 by decide) lx
   refine wpOp_plain rfl rfl ?_
   unfold Oper.wp
   go_simp
   first | exact ⟨_, rfl, trivial, ⟨E, hG.other rfl⟩, rfl⟩ | exact ⟨trivial, ⟨E, hG.other rfl⟩⟩ | exact ⟨E, hG.other rfl⟩
  | 7, _, ho =>
   cases ho
   refine wpOp_plain rfl rfl ?_
   unfold Oper.wp
   go_simp
   first | exact ⟨_, rfl, trivial, ⟨E, hG.other rfl⟩, rfl⟩ | exact ⟨trivial, ⟨E, hG.other rfl⟩⟩ | exact ⟨E, hG.other rfl⟩
  | 8, _, ho =>
   cases ho
   have d7 : ac.tmps.getD 141 undef = .int .i64 (k : Int) := hL.new 7 _ 141 rfl (he ⟨7, .data⟩ (by simp) rfl) rfl
   refine wpOp_plain rfl rfl ?_
   unfold Oper.wp
   go_simp
   first | exact ⟨_, rfl, trivial, ⟨E, hG.other rfl⟩, rfl⟩ | exact ⟨trivial, ⟨E, hG.other rfl⟩⟩ | exact ⟨E, hG.other rfl⟩
  | 9, _, ho =>
   cases ho
   have d8 : ac.tmps.getD 142 undef = .int .i64 ((k : Int) + 1) := hL.new 8 _ 142 rfl (he ⟨8, .data⟩ (by simp) rfl) rfl
   simp only [Array.getD_eq_getD_getElem?] at d8
   refine wpOp_plain rfl rfl ?_
   unfold Oper.wp
   go_simp
   have hC := hG.build tlN20_ok 1 (show 1 < 2 by decide) (by rw [hL.size, hsz0]; exact (by decide : (143 : Nat) < 238)) (by omega)
   first | exact ⟨_, rfl, E, hC⟩ | exact ⟨_, rfl, trivial, ⟨E, hC⟩, trivial⟩
  | 10, _, ho =>
   cases ho
   have d6 : ac.tmps.getD 140 undef = v 4 := hL.new 6 _ 140 rfl (he ⟨6, .data⟩ (by simp) rfl) rfl
   have lb : listed.getD 9 false = true := he ⟨9, .data⟩ (by simp) rfl
   have ls : listed.getD 10 false = false := by
    simp only [Array.getD_eq_getD_getElem?] at hli ⊢
    rw [Array.getElem?_eq_getElem (show 10 < listed.size by rw [hsz]; decide)] at hli ⊢
    simpa using hli
   have lx : listed.getD 14 false = false := by
    cases hx : listed.getD 14 false with
    | false => rfl
    | true =>
     have h8 := hcl 14 _ rfl hx ⟨10, .data⟩ (by simp) rfl
     rw [ls] at h8; cases h8
   obtain ⟨g, g1, g2, g3, g4⟩ := hG.one 1 (show 1 < 2 by decide) lb
   have hr0 : E 4 = (tlD v n xs) 4 := (hG.row 1 (show 1 < 2 by decide)).1 ls
   have hown : W.ownsRow Z ((tlD v n xs) 4).T ((tlD v n xs) 4).sz ((tlD v n xs) 4).v ((tlD v n xs) 4).n ((tlD v n xs) 4).xs := by have := hG.rows.own 4 (show 4 < 6 by decide); rw [hr0] at this; exact this
   have hown2 : W.ownsRow Z 3 1 (ac.tmps.getD 140 undef) (n 4) (xs 4) := by rw [d6]; exact hown
   have hnr := hnn 4
   refine wpOp_plain rfl rfl ?_
   refine wp_append_own_at (.tmp 140) (.tmp 143) 48 rfl Z 3 i0 (.int .i64 0) 1 8 Try.underlying48 hi0 hz0 hz1 hz2 rfl (by decide) _ _ _ rfl hown2 ⟨g, 0, none⟩ 1 1 [.int .i64 ((k : Int) + 1)] (by exact g1) rfl (by intro j u hu; cases j with | zero => (simp at hu; subst hu; exact blk_cell g3 rfl) | succ j => simp at hu) (ints_oneCell .i64 [((k : Int) + 1)]) (by unfold maxLen; omega) (by omega) hG.siz ?_
   intro v' W' hown' hg' hat'
   change W.grownBy W' (ac.tmps.getD 140 undef).ownBlock at hg'
   change v'.ownBlock = (ac.tmps.getD 140 undef).ownBlock ∨ _ at hat'
   rw [d6] at hg' hat'
   obtain ⟨E', hC⟩ := hG.app tlN20_ok (tlP20_ok rfl) 1 (show 1 < 2 by decide) (by rw [hsz]; decide) (by rw [hL.size, hsz0]; exact (by decide : (144 : Nat) < 238)) (by omega) (by omega) ls lx (v' := v') hown' hg' hat'
   exact ⟨_, rfl, trivial, ⟨E', hC⟩, trivial⟩
  | 11, _, ho =>
   cases ho
   refine wpOp_plain rfl rfl ?_
   unfold Oper.wp
   go_simp
   first | exact ⟨_, rfl, trivial, ⟨E, hG.other rfl⟩, rfl⟩ | exact ⟨trivial, ⟨E, hG.other rfl⟩⟩ | exact ⟨E, hG.other rfl⟩
  | 12, _, ho =>
   cases ho
   have d11 : ac.tmps.getD 145 undef = .pointer (some ⟨L4, 4, none⟩) := hL.new 11 _ 145 rfl (he ⟨11, .data⟩ (by simp) rfl) rfl
   have la : listed.getD 4 false = true := he ⟨4, .data⟩ (by simp) rfl
   obtain ⟨e9, -⟩ := (hG.row 0 (show 0 < 2 by decide)).2 la
   have e9' : ac.tmps.getD 138 undef = (E 3).v := e9
   have hown := hG.rows.own 3 (show 3 < 6 by decide)
   have HPU : Aside (∃ E, RwC w Z L4 tlN20 (tlP20 6 (p : Int) (k : Int)) (tlD v n xs) 81 (tlC v rn ov) wr (listed.setIfInBounds 12 true) ac E (W.setCell ⟨L4, 4, none⟩ (ac.tmps.getD 138 undef))) := by show Exists _; rw [e9']; exact ⟨E, hG.st tlN20_ok tlP20_inj 0 (show 0 < 2 by decide) (by rw [hsz]; decide) (by omega) (by omega) ac rfl⟩
   obtain ⟨xo, kl, -⟩ : ∃ x, W.cell? ⟨L4, 4, none⟩ = some x ∧ True := by obtain ⟨ds, m1, m2, m3, m4⟩ := hG.leg; exact ⟨_, blk_cell m1 (m3 0 (show 0 < 2 by decide)), trivial⟩
   have zf : ∀ i, W.frozen? ⟨L4, i, none⟩ = false := by obtain ⟨ds, m1, m2, m3, m4⟩ := hG.leg; exact fun i => blk_free m1 i
   obtain ⟨va, vcc, hva⟩ := own_slG hown
   rw [hva] at e9'
   rw [e9'] at HPU
   simp only [Array.getD_eq_getD_getElem?] at e9'
   refine wpOp_plain rfl rfl ?_
   unfold Oper.wp
   go_simp
   exact HPU.out
  | 13, _, ho =>
   cases ho
   refine wpOp_plain rfl rfl ?_
   unfold Oper.wp
   go_simp
   first | exact ⟨_, rfl, trivial, ⟨E, hG.other rfl⟩, rfl⟩ | exact ⟨trivial, ⟨E, hG.other rfl⟩⟩ | exact ⟨E, hG.other rfl⟩
  | 14, _, ho =>
   cases ho
   have d13 : ac.tmps.getD 146 undef = .pointer (some ⟨L4, 5, none⟩) := hL.new 13 _ 146 rfl (he ⟨13, .data⟩ (by simp) rfl) rfl
   have la : listed.getD 10 false = true := he ⟨10, .data⟩ (by simp) rfl
   obtain ⟨e9, -⟩ := (hG.row 1 (show 1 < 2 by decide)).2 la
   have e9' : ac.tmps.getD 144 undef = (E 4).v := e9
   have hown := hG.rows.own 4 (show 4 < 6 by decide)
   have HPU : Aside (∃ E, RwC w Z L4 tlN20 (tlP20 6 (p : Int) (k : Int)) (tlD v n xs) 81 (tlC v rn ov) wr (listed.setIfInBounds 14 true) ac E (W.setCell ⟨L4, 5, none⟩ (ac.tmps.getD 144 undef))) := by show Exists _; rw [e9']; exact ⟨E, hG.st tlN20_ok tlP20_inj 1 (show 1 < 2 by decide) (by rw [hsz]; decide) (by omega) (by omega) ac rfl⟩
   obtain ⟨xo, kl, -⟩ : ∃ x, W.cell? ⟨L4, 5, none⟩ = some x ∧ True := by obtain ⟨ds, m1, m2, m3, m4⟩ := hG.leg; exact ⟨_, blk_cell m1 (m3 1 (show 1 < 2 by decide)), trivial⟩
   have zf : ∀ i, W.frozen? ⟨L4, i, none⟩ = false := by obtain ⟨ds, m1, m2, m3, m4⟩ := hG.leg; exact fun i => blk_free m1 i
   obtain ⟨va, vcc, hva⟩ := own_slG hown
   rw [hva] at e9'
   rw [e9'] at HPU
   simp only [Array.getD_eq_getD_getElem?] at e9'
   refine wpOp_plain rfl rfl ?_
   unfold Oper.wp
   go_simp
   exact HPU.out
  | n + 15, hA, _ => simp at hA
end
end
end Go.Proofs.Ytnhjoebdmmelaaa
