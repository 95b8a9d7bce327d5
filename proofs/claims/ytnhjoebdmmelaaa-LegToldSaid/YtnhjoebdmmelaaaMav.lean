/- Leg: parts Ir, Ka, Na, Kb, Ge, Gl. -/
import Derived.Deep.DeepCutAuto
import Derived.Deep.CutBlock
import Derived.Test.YtnhjoebdmmelaaaMau
import Derived.Test.YtnhjoebdmmelaaaMar
import Derived.Test.YtnhjoebdmmelaaaMao
import Derived.Test.YtnhjoebdmmelaaaMap
import Derived.Test.YtnhjoebdmmelaaaMaq
set_option linter.unusedVariables false
set_option linter.unusedSimpArgs false
namespace Go.Proofs.Ytnhjoebdmmelaaa
section
open Go.RowKit Go.Maps Go.Sort Go.Shelf Go.Deep
structure TlR (w : World) (Z : Nat) (g : LegG) (vs : List (Int × List Int)) (vv : Nat → Value) (nn : Nat → Nat) (xx : Nat → List Value) (W : World) : Prop where
 bel : Below w.heap.size w W
 siz : Z ≤ W.heap.size
 zge : w.heap.size ≤ Z
 rows : Rws Z 6 (tlD vv nn xx) W
 x0 : xx 0 = g.left.map (Value.int .i64)
 x1 : xx 1 = g.darts.map (Value.int .i64)
 x2 : xx 2 = g.inn.map Value.bool
 x3 : xx 3 = g.ended.map (fun q => Value.int .i64 q.1)
 x4 : xx 4 = g.ended.map (fun q => Value.int .i64 q.2)
 vis : ∃ bv, xx 5 = tlVs vs bv ∧ TlV Z vs vv bv W
theorem TlAt.res {w0 w W : World} {Z L4 : Nat} {g : LegG} {vs : List (Int × List Int)} {vv : Nat → Value} {nn : Nat → Nat} {xx : Nat → List Value} (h : TlAt w Z L4 g vs vv nn xx W) (hB : Below w0.heap.size w0 w) : TlR w0 Z g vs vv nn xx W := by
 have h1 := hB.size
 have h2 := h.new
 have h3 := h.lt
 exact ⟨hB.trans (h.bel.mono h1), h.siz, by omega, h.rows, h.x0, h.x1, h.x2, h.x3, h.x4, h.vis⟩
theorem TlR.setc {w W : World} {Z b i : Nat} {g : LegG} {vs : List (Int × List Int)} {vv : Nat → Value} {nn : Nat → Nat} {xx : Nat → List Value} (h : TlR w Z g vs vv nn xx W) (hb : b < Z) (hw : w.heap.size ≤ b) (x : Value) : TlR w Z g vs vv nn xx (W.setCell ⟨b, i, none⟩ x) := by
 obtain ⟨bv, h1, h2⟩ := h.vis
 exact ⟨h.bel.setCell (p := ⟨b, i, none⟩) hw _, by simp only [World.size_setCell]; exact h.siz, h.zge, h.rows.set (a := ⟨b, i, none⟩) hb _, h.x0, h.x1, h.x2, h.x3, h.x4, bv, h1, h2.keep (fun j hj q hq => Below.heap_setCell _ _ _ _ (fun e => by have a := ((h2.own j hj).lt q hq).1; have e' : q = b := e; omega))⟩
def talF (h : Hnd) : TalK := if hcnt h = [] then talK (hrulesF h) h.beds 0 else talK (hrulesF h) h.beds 60
def TaleOk (h : Hnd) (w : World) (e : Ending) (w' : World) : Prop :=
 ∃ Z vv nn xx, e = .returned (.agg (tlC vv (talF h).g.round (talF h).g.over)) ∧ TlR w Z (talF h).g (talF h).vs vv nn xx w'
theorem hr_ok {h : Hnd} (h16 : ∀ x ∈ h.starts, 0 ≤ x ∧ x ≤ 65535) (hg8 : 0 ≤ h.gates ∧ h.gates ≤ 255) (hf8 : 0 ≤ h.first ∧ h.first ≤ 255) (hne : hcnt h ≠ []) : (hrulesF h).Ok := by
 have hl : (0 : Int) < ((hcnt h).length : Int) := by have := List.length_pos_iff.2 hne; omega
 refine ⟨hne, ?_, fun c hc => ?_, ?_, ?_⟩
 ·show (hcnt h).length ≤ 8; rw [hcnt_len]; omega
 ·obtain ⟨s, hs, rfl⟩ := List.mem_map.1 (show c ∈ (h.starts.take 5).map (fun s => (2 + s % 300, h.gates % 3, h.gates / 3 % 3)) from hc)
  have := h16 s (List.mem_of_mem_take hs)
  unfold vcnt inb
  simp only [Bool.and_eq_true, decide_eq_true_eq]
  omega
 ·show 0 ≤ (if hcnt h = [] then 0 else h.first % ((hcnt h).length : Int)); rw [if_neg hne]; exact Int.emod_nonneg _ (by omega)
 ·show (if hcnt h = [] then 0 else h.first % ((hcnt h).length : Int)) < _; rw [if_neg hne]; exact Int.emod_lt_of_pos _ hl
def bgK (r : LegR) (k : Nat) : LegG := ⟨(r.counts.take k).map (·.1), (r.counts.take k).map (fun _ => 0), (r.counts.take k).map (fun c => c.2.1 == 0), r.first, 0, false, [], []⟩
theorem bgK_all (r : LegR) : bgK r r.counts.length = beginG r := by unfold bgK beginG; rw [List.take_length]
def nilV : Nat → Value := fun _ => .slice none 0 0
theorem tl_start {r : LegR} {w W : World} {L4 : Nat} (hB : Below w.heap.size w W) (hn : w.heap.size ≤ L4) (hl : W.heap[L4]? = some (.cells #[.slice none 0 0, .slice none 0 0, .slice none 0 0, .slice none 0 0, .slice none 0 0, .slice none 0 0, .int .i64 0, .bool false] 81 (0, 0))) :
  TlAt w (L4 + 1) L4 (bgK r 0) [] nilV (fun _ => 0) (fun _ => []) W :=
 ⟨hB, (Array.getElem?_eq_some_iff.1 hl).1, Nat.lt_succ_self _, hn, hl, ⟨fun i hi => World.ownsRow_nil _ _ _ _, fun i _ j _ _ g e => by cases e⟩, rfl, rfl, rfl, rfl, rfl, nilV, rfl, ⟨fun i hi => absurd hi (Nat.not_lt_zero _), fun i hi => absurd hi (Nat.not_lt_zero _)⟩⟩
theorem c6_tl {r : LegR} {w wr W : World} {Z L4 k : Nat} {c1 c2 c3 : Int} {vv : Nat → Value} {nn : Nat → Nat} {xx : Nat → List Value} {listed : Array Bool} {a : Act} {E : Nat → RD} (h : TlAt w Z L4 (bgK r k) [] vv nn xx wr) (hC : RwC w Z L4 tlN6 (tlP6 6 c1 c2) (tlD vv nn xx) 81 (tlC vv 0 false) wr listed a E W) (da : ∀ j, j < 3 → listed.getD (tlN6 j).ia false = true) (ds : ∀ j, j < 3 → listed.getD (tlN6 j).is false = true) (hx : r.counts[k]? = some (c1, c2, c3)) :
  ∃ vv' nn' xx', TlAt w Z L4 (bgK r (k + 1)) [] vv' nn' xx' W ∧ (∀ i, 6 ≤ i → nn' i = nn i) := by
 obtain ⟨cs, l1, l2, l3, l4⟩ := hC.leg
 have hs : ∀ i, i < 6 → 3 ≤ i → E i = tlD vv nn xx i := fun i hi h3 => hC.same i hi (fun j hj => by have hj2 : j < 3 := hj; show i ≠ j; omega)
 have hr : ∀ j, j < 3 → E j = ⟨tlT j, tlS j, (E j).v, nn j + 1, xx j ++ [(tlP6 6 c1 c2).X j]⟩ := fun j hj => ((hC.row j hj).2 (da j hj)).2
 have hE : ∀ i, i < 6 → E i = ⟨tlT i, tlS i, (E i).v, (E i).n, (E i).xs⟩ := by
  intro i hi
  by_cases h3 : i < 3
  ·rw [hr i h3]
  ·rw [hs i hi (by omega)]; rfl
 have hcs : cs = tlC (fun i => (E i).v) 0 false := by
  apply Array.ext_getElem?
  intro i
  by_cases hi : 1 ≤ i ∧ i ≤ 3
  ·have := l3 (i - 1) (show i - 1 < 3 by omega)
   have e1 : (tlP6 6 c1 c2).f (i - 1) = i := by show i - 1 + 1 = i; omega
   rw [e1] at this
   rw [this]
   unfold rwV
   rw [if_pos (ds (i - 1) (by omega))]
   rcases (by omega : i = 1 ∨ i = 2 ∨ i = 3) with rfl | rfl | rfl <;> rfl
  ·rw [l4 i (fun j hj => by have hj2 : j < 3 := hj; show i ≠ j + 1; omega)]
   rcases (by omega : i = 0 ∨ i = 4 ∨ i = 5 ∨ i = 6 ∨ i = 7 ∨ 8 ≤ i) with rfl | rfl | rfl | rfl | rfl | h8
   ·show some (vv 5) = some (E 5).v; rw [hs 5 (by omega) (by omega)]; rfl
   ·show some (vv 3) = some (E 3).v; rw [hs 3 (by omega) (by omega)]; rfl
   ·show some (vv 4) = some (E 4).v; rw [hs 4 (by omega) (by omega)]; rfl
   ·rfl
   ·rfl
   ·rw [Array.getElem?_eq_none (show (tlC vv 0 false).size ≤ i from h8), Array.getElem?_eq_none (show (tlC (fun i => (E i).v) 0 false).size ≤ i from h8)]
 have ht := take_snoc' hx
 obtain ⟨bv, v1, v2⟩ := h.vis
 refine ⟨fun i => if i < 6 then (E i).v else vv i, fun i => if i < 6 then (E i).n else nn i, fun i => if i < 6 then (E i).xs else xx i, ⟨hC.bel, hC.siz, h.lt, h.new, ?_, hC.rows.congr (fun i (hi : i < 6) => ?_), ?_, ?_, ?_, ?_, ?_, bv, ?_, ⟨fun i hi => absurd hi (Nat.not_lt_zero _), fun i hi => absurd hi (Nat.not_lt_zero _)⟩⟩, fun i hi => ?_⟩
 ·rw [l1, hcs]; exact congrArg (fun x => some (Obj.cells x _ (0, 0))) (tlC_congr (fun i hi => (if_pos hi).symm) _ _)
 ·rw [hE i hi]; show (⟨_, _, (if i < 6 then (E i).v else vv i), (if i < 6 then (E i).n else nn i), (if i < 6 then (E i).xs else xx i)⟩ : RD) = _; rw [if_pos hi, if_pos hi, if_pos hi]
 ·show (if (0 : Nat) < 6 then (E 0).xs else _) = _; rw [if_pos (by omega), hr 0 (by omega)]
  show xx 0 ++ [.int .i64 c1] = ((r.counts.take (k + 1)).map (·.1)).map _
  rw [h.x0, ht, List.map_append, List.map_append]; rfl
 ·show (if (1 : Nat) < 6 then (E 1).xs else _) = _; rw [if_pos (by omega), hr 1 (by omega)]
  show xx 1 ++ [.int .i64 0] = ((r.counts.take (k + 1)).map (fun _ => (0 : Int))).map _
  rw [h.x1, ht, List.map_append, List.map_append]; rfl
 ·show (if (2 : Nat) < 6 then (E 2).xs else _) = _; rw [if_pos (by omega), hr 2 (by omega)]
  show xx 2 ++ [.bool (c2 == 0)] = ((r.counts.take (k + 1)).map (fun c => c.2.1 == 0)).map _
  rw [h.x2, ht, List.map_append, List.map_append]; rfl
 ·show (if (3 : Nat) < 6 then (E 3).xs else _) = _; rw [if_pos (by omega), hs 3 (by omega) (by omega)]; exact h.x3
 ·show (if (4 : Nat) < 6 then (E 4).xs else _) = _; rw [if_pos (by omega), hs 4 (by omega) (by omega)]; exact h.x4
 ·show (if (5 : Nat) < 6 then (E 5).xs else _) = _; rw [if_pos (by omega), hs 5 (by omega) (by omega)]; exact v1
 ·show (if i < 6 then (E i).n else nn i) = _; rw [if_neg (by omega)]
theorem tal_stop {r : LegR} {bs : List Int} {v : Nat} (ho : (talK r bs v).g.over = true) : ∀ d, talK r bs (v + d) = talK r bs v
 | 0 => rfl
 | d + 1 => by
  have ih := tal_stop ho d
  show talK r bs ((v + d) + 1) = _
  rw [talK, if_pos (by rw [ih]; exact ho), ih]
theorem tal_at {r : LegR} {bs : List Int} {v n : Nat} (ho : (talK r bs v).g.over = true) (hv : v ≤ n) : talK r bs n = talK r bs v := by
 have := tal_stop ho (n - v)
 rw [show v + (n - v) = n by omega] at this
 exact this
theorem cnt_cells {w : World} {b n : Nat} {vc : Value} {cs : List Cnt} (h : w.ownsRow b 24 3 vc n ((cs.map encC).flatten)) (hn : n = cs.length) (h0 : 0 < n) : ∃ cb cc, vc = .slice (some ⟨cb, 0, none⟩) n cc ∧ cb < w.heap.size ∧ ∀ k c, cs[k]? = some c → w.cell? ⟨cb, 0 + k * 3, none⟩ = some (.int .i64 c.1) ∧ w.cell? ⟨cb, 0 + k * 3 + 1, none⟩ = some (.int .i64 c.2.1) ∧ w.cell? ⟨cb, 0 + k * 3 + 2, none⟩ = some (.int .i64 c.2.2) := by
 obtain ⟨g, cc, rfl⟩ : ∃ g cc, vc = .slice (some ⟨g, 0, none⟩) n cc := by
  rcases h.2 with ⟨_, e⟩ | ⟨g, cap, cur, e, _⟩
  ·omega
  ·exact ⟨g, cap, e⟩
 refine ⟨g, cc, rfl, (h.lt g rfl).2, fun k c hk => ?_⟩
 have hc := World.ownsRow.cells h (g := g) rfl
 have hget : ∀ (cs : List Cnt) (k : Nat) (c : Cnt), cs[k]? = some c → ∀ i u, (encC c)[i]? = some u → ((cs.map encC).flatten)[k * 3 + i]? = some u := by
  intro cs
  induction cs with
  | nil => intro k c hk; cases hk
  | cons x xs ih =>
   intro k c hk i u hu
   have hi : i < 3 := by
    rcases Nat.lt_or_ge i 3 with h | h
    ·exact h
    ·rw [List.getElem?_eq_none (show (encC c).length ≤ i from h)] at hu; cases hu
   rw [List.map_cons, List.flatten_cons]
   cases k with
   | zero =>
    simp only [List.getElem?_cons_zero, Option.some.injEq] at hk
    subst hk
    rw [Nat.zero_mul, Nat.zero_add, List.getElem?_append_left (show i < (encC x).length from hi)]
    exact hu
   | succ k =>
    simp only [List.getElem?_cons_succ] at hk
    rw [List.getElem?_append_right (show (encC x).length ≤ (k + 1) * 3 + i by show 3 ≤ _; omega)]
    have := ih k c hk i u hu
    rw [show (k + 1) * 3 + i - (encC x).length = k * 3 + i by show (k + 1) * 3 + i - 3 = _; omega]
    exact this
 refine ⟨?_, ?_, ?_⟩
 ·have := hc _ _ (hget cs k c hk 0 _ rfl)
  by_cases hk0 : k = 0
  ·subst hk0; simpa [Addr.add] using this
  ·simpa [Addr.add, show ¬ k * 3 = 0 by omega] using this
 ·have := hc _ _ (hget cs k c hk 1 _ rfl)
  simpa [Addr.add] using this
 ·have := hc _ _ (hget cs k c hk 2 _ rfl)
  simpa [Addr.add] using this
end
section
open Go.RowKit Go.Maps Go.Sort Go.Shelf Go.Deep
theorem hr_leg {h : Hnd} (h16 : ∀ x ∈ h.starts, 0 ≤ x ∧ x ≤ 65535) (hg8 : 0 ≤ h.gates ∧ h.gates ≤ 255) (hr8 : 0 ≤ h.rounds ∧ h.rounds ≤ 255) (hf8 : 0 ≤ h.first ∧ h.first ≤ 255) (hne : hcnt h ≠ []) : vleg (hrulesF h) = true := by
 have ho := hr_ok h16 hg8 hf8 hne
 have h1 := List.length_pos_iff.2 ho.ne
 have h8 := ho.n8
 have h0 := ho.f0
 have hf := ho.f1
 have hr0 : (hrulesF h).rounds = h.rounds % 20 := rfl
 unfold vleg
 rw [hr0]
 have ha : ((hrulesF h).counts.any fun c => !vcnt c) = false := by
  rw [List.any_eq_false]
  intro c hc
  rw [ho.cnt c hc]; simp
 rw [ha]
 unfold inb
 simp only [Bool.not_false, Bool.and_eq_true, decide_eq_true_eq, true_and]
 omega
theorem tal_pre {r : LegR} (hr : r.Ok) {bs : List Int} (hb : ∀ x ∈ bs, 0 ≤ x ∧ x ≤ 255) : ∀ N i, i < (talK r bs N).vs.length → (talK r bs i).g.over = false ∧ i < N ∧ (talK r bs N).vs[i]? = some ((talP r i : Int), (talT r bs (talK r bs i) i).1) ∧ (talK r bs i).vs = (talK r bs N).vs.take i
 | 0, i, hi => absurd hi (Nat.not_lt_zero _)
 | N + 1, i, hi => by
  by_cases ho : (talK r bs N).g.over = true
  ·have he : talK r bs (N + 1) = talK r bs N := by rw [talK, if_pos ho]
   rw [he] at hi ⊢
   obtain ⟨h1, h2, h3, h4⟩ := tal_pre hr hb N i hi
   exact ⟨h1, by omega, h3, h4⟩
  ·have hof : (talK r bs N).g.over = false := by simpa using ho
   have hlen := (tal_inv hr hb N).len hof
   have he : (talK r bs (N + 1)).vs = (talK r bs N).vs ++ [((talP r N : Int), (talT r bs (talK r bs N) N).1)] := by rw [talK, if_neg ho]
   rw [he, List.length_append, List.length_singleton, hlen] at hi
   rw [he]
   by_cases hiN : i < N
   ·obtain ⟨h1, h2, h3, h4⟩ := tal_pre hr hb N i (by rw [hlen]; exact hiN)
    exact ⟨h1, by omega, by rw [List.getElem?_append_left (by rw [hlen]; exact hiN)]; exact h3, by rw [List.take_append_of_le_length (by rw [hlen]; omega)]; exact h4⟩
   ·have hie : i = N := by omega
    subst hie
    refine ⟨hof, by omega, ?_, ?_⟩
    ·rw [List.getElem?_append_right (by rw [hlen]; exact Nat.le_refl _), hlen, Nat.sub_self]; rfl
    ·rw [List.take_append_of_le_length (by rw [hlen]; exact Nat.le_refl _), List.take_of_length_le (by rw [hlen]; exact Nat.le_refl _)]
theorem tal_len_eq {r : LegR} (hr : r.Ok) {bs : List Int} (hb : ∀ x ∈ bs, 0 ≤ x ∧ x ≤ 255) : ∀ N, talK r bs (talK r bs N).vs.length = talK r bs N
 | 0 => rfl
 | N + 1 => by
  by_cases ho : (talK r bs N).g.over = true
  ·have he : talK r bs (N + 1) = talK r bs N := by rw [talK, if_pos ho]
   rw [he]; exact tal_len_eq hr hb N
  ·have hlen := (tal_inv hr hb N).len (by simpa using ho)
   have he : (talK r bs (N + 1)).vs.length = N + 1 := by rw [talK, if_neg ho]; simp [hlen]
   rw [he]
theorem tal_judge {r : LegR} (hr : r.Ok) {bs : List Int} (hb : ∀ x ∈ bs, 0 ≤ x ∧ x ≤ 255) (N : Nat) : judgeK r (talK r bs N).vs (talK r bs N).vs.length = ((talK r bs N).g, []) := by
 have := (tal_inv hr hb N).jud []
 rw [List.append_nil] at this; exact this
theorem nam_next {r : LegR} (hr : r.Ok) {bs : List Int} (hb : ∀ x ∈ bs, 0 ≤ x ∧ x ≤ 255) {i : Nat} (ho : (talK r bs i).g.over = false) : (talK r bs i).g.next = (talP r i : Int) := by
 obtain ⟨R, es, hR, hd⟩ := (tal_inv hr hb i).rf
 rw [(hR.done ho).2.2, hd ho, (talP_lt hr i).2, Int.add_emod_emod]
theorem nam_beds {r : LegR} {bs : List Int} (hb : ∀ x ∈ bs, 0 ≤ x ∧ x ≤ 255) (i : Nat) : 0 < (talT r bs (talK r bs i) i).1.length ∧ (talT r bs (talK r bs i) i).1.length ≤ 3 ∧ ∀ b ∈ (talT r bs (talK r bs i) i).1, vbed b = true := by
 refine ⟨?_, (tv_len bs _ i 3 _ _).1, ?_⟩
 ·show 0 < (tvB bs _ i 3 ⟨_, 0, 0, _, false, false⟩ _).1.length
  rw [tvB, if_neg (by unfold Thr.ended; simp)]
  exact Nat.succ_pos _
 ·have : ∀ (c : Cnt) (f : Nat) (t : Thr) (a : Nat), ∀ b ∈ (tvB bs c i f t a).1, vbed b = true := by
   intro c f
   induction f with
   | zero => intro t a b hx; exact absurd hx (by unfold tvB; simp)
   | succ f ih =>
    intro t a b hx
    unfold tvB at hx
    by_cases he : t.ended = true
    ·rw [if_pos he] at hx; exact absurd hx (by simp)
    ·rw [if_neg he] at hx
     rcases List.mem_cons.1 hx with h | h
     ·rw [h]; exact hbed_ok hb a
     ·exact ih _ _ _ h
  exact this _ _ _ _
theorem nam_facts {h : Hnd} {r : LegR} {m : Nat} (hy : (∀ x ∈ h.starts, 0 ≤ x ∧ x ≤ 65535) ∧ (0 ≤ h.gates ∧ h.gates ≤ 255) ∧ (0 ≤ h.rounds ∧ h.rounds ≤ 255) ∧ (0 ≤ h.first ∧ h.first ≤ 255) ∧ (∀ x ∈ h.beds, 0 ≤ x ∧ x ≤ 255)) (hr : hrulesF h = r) (hm : (talF h).vs.length = m) : (hcnt h ≠ [] → r.Ok ∧ vleg r = true ∧ talF h = talK r h.beds 60) ∧ (talF h).vs.length = m ∧ m ≤ 60 ∧ ∀ x ∈ (talF h).vs, x.2.length ≤ 3 := by
 obtain ⟨h16, hg8, hr8, hf8, hb8⟩ := hy
 subst hr
 have h0 : hcnt h = [] → talF h = talK (hrulesF h) h.beds 0 := fun e => by unfold talF; rw [if_pos e]
 have h1 : hcnt h ≠ [] → (hrulesF h).Ok ∧ vleg (hrulesF h) = true ∧ talF h = talK (hrulesF h) h.beds 60 := fun e => ⟨hr_ok h16 hg8 hf8 e, hr_leg h16 hg8 hr8 hf8 e, by unfold talF; rw [if_neg e]⟩
 refine ⟨h1, hm, ?_, fun x hx => ?_⟩
 ·by_cases e : hcnt h = []
  ·rw [← hm, h0 e]; exact Nat.zero_le _
  ·obtain ⟨a, _, c⟩ := h1 e
   rw [← hm, c]; exact (tal_inv a hb8 60).le
 ·by_cases e : hcnt h = []
  ·rw [h0 e] at hx; cases hx
  ·obtain ⟨a, _, c⟩ := h1 e
   rw [c] at hx
   obtain ⟨i, hi⟩ := List.getElem?_of_mem hx
   have hlt := (List.getElem?_eq_some_iff.1 hi).1
   rw [(tal_pre a hb8 60 i hlt).2.2.1] at hi
   cases hi
   exact (nam_beds hb8 i).2.1
end
section
open Go.RowKit Go.Maps Go.Sort Go.Shelf Go.Deep
structure VisF (l : Int) (m : Nat) (t : Thr) : Prop where
 s0 : 0 ≤ t.score
 s1 : t.score = l - t.left
 b : t.bust = true → t.score = 0
 w : t.won = decide (t.left = 0)
 d : t.darts = (m : Int)
 l0 : 0 ≤ t.left
theorem step_left {c : Cnt} {t : Thr} {b : Int} (hb : vbed b = true) : (t.step c b).left ≤ t.left := by
 have hs := (sc_bd (vbed_bd hb).1 (vbed_bd hb).2).1
 unfold Thr.step
 split
 ·split
  ·exact Int.le_refl _
  ·show t.left - sc b ≤ t.left; omega
 ·exact Int.le_refl _
theorem tv_mono {bs : List Int} (hb : ∀ x ∈ bs, 0 ≤ x ∧ x ≤ 255) (c : Cnt) (v : Nat) : ∀ (f : Nat) (t : Thr) (a : Nat), (tvB bs c v f t a).2.2.left ≤ t.left
 | 0, t, a => by unfold tvB; exact Int.le_refl _
 | f + 1, t, a => by
  unfold tvB
  by_cases he : t.ended = true
  ·rw [if_pos he]; exact Int.le_refl _
  ·rw [if_neg he]; exact Int.le_trans (tv_mono hb c v f _ _) (step_left (hbed_ok hb a))
theorem tv_fin {bs : List Int} (hb : ∀ x ∈ bs, 0 ≤ x ∧ x ≤ 255) {c : Cnt} {v : Nat} {l : Int} (hl : Lft c l) (i : Bool) (a : Nat) : VisF l (tvB bs c v 3 ⟨l, 0, 0, i, false, false⟩ a).1.length ((tvB bs c v 3 ⟨l, 0, 0, i, false, false⟩ a).2.2.fin l i) := by
 have hd := (tv_len bs c v 3 ⟨l, 0, 0, i, false, false⟩ a).2.1
 have hm := tv_mono hb c v 3 ⟨l, 0, 0, i, false, false⟩ a
 have he := tv_end hb (c := c) (v := v) 3 0 ⟨l, 0, 0, i, false, false⟩ a rfl (hl.mid i)
 obtain ⟨T, hT⟩ : ∃ T, tvB bs c v 3 ⟨l, 0, 0, i, false, false⟩ a = T := ⟨_, rfl⟩
 rw [hT] at hd hm he ⊢
 obtain ⟨xs, a', t⟩ := T
 change t.darts = 0 + (xs.length : Int) at hd
 change t.left ≤ l at hm
 change (t.bust = true ∧ t.won = false) ∨ (t.bust = false ∧ t.won = true ∧ t.left = 0) ∨ Mid c 3 t at he
 show VisF l xs.length (t.fin l i)
 have h1 := hl.1
 have hd' : t.darts = (xs.length : Int) := by omega
 unfold Thr.fin
 by_cases hbu : t.bust = true
 ·rw [if_pos hbu]
  have hw : t.won = false := by
   rcases he with h | h | h
   ·exact h.2
   ·rw [h.1] at hbu; cases hbu
   ·exact h.won
  exact ⟨by show 0 ≤ l - l; omega, rfl, fun _ => by show l - l = 0; omega, by show t.won = decide (l = 0); rw [hw, decide_eq_false (by omega)], hd', by show 0 ≤ l; omega⟩
 ·rw [if_neg hbu]
  refine ⟨by show 0 ≤ l - t.left; omega, rfl, (fun h => by cases h), ?_, hd', ?_⟩
  ·show t.won = decide (t.left = 0)
   rcases he with h | h | h
   ·exact absurd h.1 hbu
   ·rw [h.2.1, h.2.2]; rfl
   ·have := h.lft.1
    rw [h.won, decide_eq_false (by omega)]
  ·show 0 ≤ t.left
   rcases he with h | h | h
   ·exact absurd h.1 hbu
   ·rw [h.2.2]; exact Int.le_refl _
   ·have := h.lft.1; omega
theorem told_play {r : LegR} (hr : r.Ok) (hv : vleg r = true) {bs : List Int} (hb : ∀ x ∈ bs, 0 ≤ x ∧ x ≤ 255) (N : Nat) (hN : N ≤ 2000) : playE r (talK r bs N).vs = (0, 0) ∧ playG r (talK r bs N).vs = some (talK r bs N).g := by
 have hJ := tal_judge hr hb N
 have hle := (tal_inv hr hb N).le
 have hE : judgeE r (talK r bs N).vs = 0 := by unfold judgeE; rw [if_pos hv, if_neg (by omega)]
 constructor
 ·unfold playE; rw [if_pos hE, hJ]
 ·unfold playG; rw [if_pos hE, hJ]
structure VisI (r : LegR) (g g' : LegG) (p : Nat) (xs : List Int) (t : Thr) : Prop where
 lt : p < r.counts.length
 vis : visitF (cntAt r p) (g.inn.getD p false) (g.left.getD p 0) xs = (t, 0)
 fin : VisF (g.left.getD p 0) xs.length t
 left : g'.left = g.left.set p t.left
 inn : g'.inn = g.inn.set p t.inn
theorem told_visit {r : LegR} (hr : r.Ok) {bs : List Int} (hb : ∀ x ∈ bs, 0 ≤ x ∧ x ≤ 255) {i : Nat} (ho : (talK r bs i).g.over = false) : ∃ t, VisI r (talK r bs i).g (talK r bs (i + 1)).g (talP r i) (talT r bs (talK r bs i) i).1 t := by
 have hT := tal_inv hr hb i
 obtain ⟨hp1, hp2⟩ := talP_lt hr i
 have hnx := nam_next hr hb ho
 obtain ⟨h1, h2⟩ := tal_take hr hb ho hnx
 have hl := tal_lft hr hT ho
 have hc : vcnt (cntAt r (talP r i)) = true := by
  unfold cntAt
  rw [List.getD_eq_getElem?_getD, List.getElem?_eq_getElem hp1]
  exact hr.cnt _ (List.getElem_mem hp1)
 obtain ⟨R, es, hR, hd⟩ := hT.rf
 have hst := hR.stand ho _ hp1 (rf_fresh hR ho hnx.symm)
 change vstand (cntAt r (talP r i)) _ _ = true at hst
 have hg : (talK r bs (i + 1)).g = passG r (hitG (talK r bs i).g (talP r i) ((talT r bs (talK r bs i) i).2.2.fin ((talK r bs i).g.left.getD (talP r i) 0) ((talK r bs i).g.inn.getD (talP r i) false))) := by
  rw [talK, if_neg (by rw [ho]; simp), h2]
 refine ⟨(talT r bs (talK r bs i) i).2.2.fin ((talK r bs i).g.left.getD (talP r i) 0) ((talK r bs i).g.inn.getD (talP r i) false), hp1, ?_, tv_fin hb hl _ _, ?_, ?_⟩
 ·unfold visitF
  rw [if_pos hc, if_pos hst]
  change thr (cntAt r (talP r i)) _ _ _ = _ at h1
  rw [h1]
 ·rw [hg]; unfold passG; split <;> rfl
 ·rw [hg]; unfold passG; split <;> rfl
structure TalW (g : LegG) : Prop where
 no : g.over = false → g.wins = []
 yes : g.over = true → g.next = -1 ∧ g.wins = winL g
theorem tal_w {r : LegR} (hr : r.Ok) {bs : List Int} (hb : ∀ x ∈ bs, 0 ≤ x ∧ x ≤ 255) : ∀ v, TalW (talK r bs v).g
 | 0 => ⟨fun _ => rfl, fun h => by cases h⟩
 | v + 1 => by
  have ih := tal_w hr hb v
  by_cases ho : (talK r bs v).g.over = true
  ·have he : talK r bs (v + 1) = talK r bs v := by rw [talK, if_pos ho]
   rw [he]; exact ih
  ·have hof : (talK r bs v).g.over = false := by simpa using ho
   have h2 := (tal_take hr hb hof (nam_next hr hb hof)).2
   have he : (talK r bs (v + 1)).g = passG r (hitG (talK r bs v).g (talP r v) ((talT r bs (talK r bs v) v).2.2.fin ((talK r bs v).g.left.getD (talP r v) 0) ((talK r bs v).g.inn.getD (talP r v) false))) := by
    rw [talK, if_neg ho, h2]
   rw [he]
   generalize (talT r bs (talK r bs v) v).2.2.fin ((talK r bs v).g.left.getD (talP r v) 0) ((talK r bs v).g.inn.getD (talP r v) false) = t
   unfold passG
   split
   ·exact ⟨(fun h => by cases h), fun _ => ⟨rfl, rfl⟩⟩
   ·exact ⟨fun _ => ih.no hof, fun h => by
     have h' : (talK r bs v).g.over = true := h
     rw [hof] at h'; cases h'⟩
def bestL (left : List Int) (p : Nat) (b0 : Bool) (k : Nat) : Bool := b0 && (List.range k).all (fun j => decide (left.getD p 0 ≤ left.getD j 0))
def bestQ (ov : Bool) (es : List (Int × Int)) (x : Int) (k : Nat) : Bool := ov && (es.take k).all (fun q => decide (x ≤ q.2))
def bestE (ov : Bool) (es : List (Int × Int)) (b0 : Bool) (p : Nat) : Nat → Bool
 | 0 => b0
 | i + 1 => if (es.getD i (0, 0)).1 = (p : Int) then bestQ ov es (es.getD i (0, 0)).2 es.length else bestE ov es b0 p i
def bestF (g : LegG) (p : Nat) : Bool := bestE g.over g.ended (bestL g.left p (g.over && g.ended.isEmpty) g.left.length) p g.ended.length
def bestW (g : LegG) (k : Nat) : List Int := cI ((List.range k).filter (bestF g))
theorem bestW_step (g : LegG) (k : Nat) : bestW g (k + 1) = bestW g k ++ (if bestF g k = true then [(k : Int)] else []) := by
 unfold bestW cI
 rw [List.range_succ, List.filter_append, List.map_append, List.filter_cons]
 split <;> rfl
theorem bestW_len (g : LegG) (k : Nat) : (bestW g k).length ≤ k := by
 unfold bestW
 rw [cI_len]
 have := List.length_filter_le (bestF g) (List.range k)
 rw [List.length_range] at this
 exact this
theorem bestL_step (left : List Int) (p : Nat) (b0 : Bool) (k : Nat) : bestL left p b0 (k + 1) = (bestL left p b0 k && decide (left.getD p 0 ≤ left.getD k 0)) := by
 unfold bestL
 rw [List.range_succ, List.all_append, Bool.and_assoc]
 simp
theorem bestL_no {left : List Int} {p : Nat} {b0 : Bool} {k : Nat} (h : bestL left p b0 k = false) : ∀ d, bestL left p b0 (k + d) = false
 | 0 => h
 | d + 1 => by rw [← Nat.add_assoc, bestL_step, bestL_no h d]; rfl
theorem bestQ_step {ov : Bool} {es : List (Int × Int)} {x : Int} {k : Nat} {q : Int × Int} (h : es[k]? = some q) : bestQ ov es x (k + 1) = (bestQ ov es x k && decide (x ≤ q.2)) := by
 unfold bestQ
 rw [List.take_add_one, h, List.all_append, Bool.and_assoc]
 simp
theorem bestE_off {es : List (Int × Int)} {p : Nat} : ∀ m, bestE false es false p m = false
 | 0 => rfl
 | m + 1 => by
  unfold bestE
  split
  ·rfl
  ·exact bestE_off m
theorem bestE_in {es : List (Int × Int)} {p : Nat} {L : Int} (hL : ∀ q ∈ es, q.1 = (p : Int) → q.2 = L) : ∀ m, m ≤ es.length → bestE true es false p m = (decide ((p : Int) ∈ (es.take m).map (·.1)) && bestQ true es L es.length)
 | 0, _ => by simp [bestE]
 | m + 1, hm => by
  obtain ⟨q, hq⟩ : ∃ q, es[m]? = some q := ⟨_, List.getElem?_eq_getElem (by omega)⟩
  have hg : es.getD m (0, 0) = q := by rw [List.getD_eq_getElem?_getD, hq]; rfl
  have ht : es.take (m + 1) = es.take m ++ [q] := by rw [List.take_add_one, hq]; rfl
  unfold bestE
  rw [hg, ht, bestE_in hL m (by omega), List.map_append]
  by_cases he : q.1 = (p : Int)
  ·rw [if_pos he, hL q (List.mem_of_getElem? hq) he, decide_eq_true (by rw [List.mem_append]; right; simp [he]), Bool.true_and]
  ·rw [if_neg he]
   congr 1
   apply decide_eq_decide.2
   rw [List.mem_append]
   constructor
   ·exact fun h => .inl h
   ·rintro (h | h)
    ·exact h
    ·simp at h; exact absurd h.symm he
theorem mn_all {xs : List Int} {x : Int} (hx : x ∈ xs) : (∀ y ∈ xs, x ≤ y) ↔ x = mn xs := by
 obtain ⟨h1, h2⟩ := mn_spec xs (fun e => by rw [e] at hx; cases hx)
 constructor
 ·intro h
  have := h _ h1
  have := h2 _ hx
  omega
 ·intro e y hy
  rw [e]; exact h2 y hy
theorem told_wins {r : LegR} {g : LegG} {R : RG} {es : List Nat} (hR : RfOk r g R es) (hW : TalW g) (hne : g.left ≠ []) : g.wins = bestW g g.left.length := by
 cases ho : g.over with
 | false =>
  rw [hW.no ho]
  unfold bestW
  rw [List.filter_eq_nil_iff.2 (fun p hp => by
   unfold bestF
   rw [ho]
   have : bestL g.left p (false && g.ended.isEmpty) g.left.length = false := by unfold bestL; rfl
   rw [this, bestE_off]; simp)]
  rfl
 | true =>
  rw [(hW.yes ho).2]
  unfold winL bestW
  by_cases he : g.ended = []
  ·rw [if_pos he, over_all hne]
   unfold overW ovK
   congr 1
   apply List.filter_congr
   intro p hp
   have hp' := List.mem_range.1 hp
   have hrn : List.range g.left.length ≠ [] := fun e => by rw [e] at hp; cases hp
   rw [loW_mn hrn, decide_eq_true hp, Bool.true_and]
   unfold bestF
   rw [he]
   show _ = bestL g.left p (g.over && true) g.left.length
   rw [ho]
   unfold bestL
   rw [Bool.true_and, Bool.true_and]
   have hm : g.left.getD p 0 ∈ (List.range g.left.length).map (fun p => g.left.getD p 0) := List.mem_map.2 ⟨p, hp, rfl⟩
   have := mn_all hm
   rw [Bool.eq_iff_iff, decide_eq_true_iff, ← this, List.all_eq_true]
   constructor
   ·intro h j hj
    exact decide_eq_true (h _ (List.mem_map.2 ⟨j, hj, rfl⟩))
   ·intro h y hy
    obtain ⟨j, hj, rfl⟩ := List.mem_map.1 hy
    exact of_decide_eq_true (h j hj)
  ·rw [if_neg he]
   have hesn : es ≠ [] := fun e => he ((cI_nil hR.keys).1 e)
   have hv : ∀ q ∈ g.ended, ((List.range g.left.length).map (fun k => R.last k)).getD q.1.toNat 0 = q.2 := by
    intro q hq
    have h1 : q.1 ∈ cI es := by rw [hR.keys]; exact List.mem_map_of_mem hq
    obtain ⟨e, he2, hee⟩ := List.mem_map.1 h1
    have h2 := hR.lt e he2
    have h3 : q.1.toNat = e := by rw [← hee]; simp
    rw [List.getD_eq_getElem?_getD, List.getElem?_map, h3, List.getElem?_range (by rw [hR.l1]; exact h2)]
    show R.last e = q.2
    rw [← h3]; exact hR.last q hq
   rw [least_over (ns := (List.range g.left.length).map (fun k => R.last k)) hR.keys hR.nodup hv (fun e h => by rw [List.length_map, List.length_range, hR.l1]; exact hR.lt e h) hesn]
   unfold overW ovK
   rw [List.length_map, List.length_range]
   congr 1
   apply List.filter_congr
   intro p hp
   have hp' := List.mem_range.1 hp
   have hns : ((List.range g.left.length).map (fun k => R.last k)).getD p 0 = R.last p := by
    rw [List.getD_eq_getElem?_getD, List.getElem?_map, List.getElem?_range hp']; rfl
   have hlo : loW es ((List.range g.left.length).map (fun k => R.last k)) es.length = mn (g.ended.map (·.2)) := by
    rw [loW_mn hesn]
    congr 1
    have e1 : g.ended.map (·.2) = (g.ended.map (·.1)).map (fun x => ((List.range g.left.length).map (fun k => R.last k)).getD x.toNat 0) := by
     rw [List.map_map]
     exact List.map_congr_left (fun q hq => (hv q hq).symm)
    rw [e1, ← hR.keys]
    unfold cI
    rw [List.map_map]
    rfl
   rw [hns, hlo]
   unfold bestF
   have hie : g.ended.isEmpty = false := by
    cases hx : g.ended with
    | nil => exact absurd hx he
    | cons a l => rfl
   have hb0 : bestL g.left p (g.over && g.ended.isEmpty) g.left.length = false := by
    rw [hie, Bool.and_false]; unfold bestL; rfl
   rw [hb0, ho, bestE_in (L := R.last p) (fun q hq e => by rw [← hR.last q hq, e]; simp) _ (Nat.le_refl _), List.take_length]
   have hmem : decide ((p : Int) ∈ g.ended.map (·.1)) = decide (p ∈ es) := by
    apply decide_eq_decide.2
    rw [← hR.keys, mem_cI]
   rw [hmem]
   by_cases hpe : p ∈ es
   ·congr 1
    have h1 : (p : Int) ∈ g.ended.map (·.1) := by rw [← hR.keys, mem_cI]; exact hpe
    obtain ⟨q, hq, hqe⟩ := List.mem_map.1 h1
    have hm : R.last p ∈ g.ended.map (·.2) := List.mem_map.2 ⟨q, hq, by rw [← hR.last q hq, hqe]; simp⟩
    have := mn_all hm
    unfold bestQ
    rw [List.take_length, Bool.true_and, Bool.eq_iff_iff, decide_eq_true_iff, ← this, List.all_eq_true]
    constructor
    ·intro h q hq
     exact decide_eq_true (h _ (List.mem_map_of_mem hq))
    ·intro h y hy
     obtain ⟨q, hq, rfl⟩ := List.mem_map.1 hy
     exact of_decide_eq_true (h q hq)
   ·rw [decide_eq_false hpe, Bool.false_and, Bool.false_and]
structure ToldG (r : LegR) (g : LegG) : Prop where
 l1 : g.left.length = r.counts.length
 l2 : g.darts.length = r.counts.length
 l3 : g.inn.length = r.counts.length
 next : g.next = -1 ↔ g.over = true
 wins : g.wins = bestW g r.counts.length
 wne : g.wins = [] ↔ g.over = false
 left : ∀ x ∈ g.left, 0 ≤ x ∧ x ≤ 1001
 ended : ∀ q ∈ g.ended, 0 ≤ q.1 ∧ q.1 < (r.counts.length : Int)
theorem told_end {r : LegR} (hr : r.Ok) {bs : List Int} (hb : ∀ x ∈ bs, 0 ≤ x ∧ x ≤ 255) (v : Nat) : ToldG r (talK r bs v).g := by
 have hT := tal_inv hr hb v
 have hW := tal_w hr hb v
 obtain ⟨R, es, hR, hd⟩ := hT.rf
 have hne : (talK r bs v).g.left ≠ [] := fun e => by
  have := hR.l1; rw [e] at this
  exact hr.ne (List.eq_nil_of_length_eq_zero this.symm)
 refine ⟨hR.l1, hR.l2, hR.l3, ⟨fun e => ?_, fun e => (hW.yes e).1⟩, by rw [told_wins hR hW hne, hR.l1], ⟨fun e => ?_, fun e => hW.no e⟩, hT.ok.left, hT.ok.ended⟩
 ·cases ho : (talK r bs v).g.over with
  | true => rfl
  | false => have := hT.ok.next ho; omega
 ·cases ho : (talK r bs v).g.over with
  | false => rfl
  | true => rw [(hW.yes ho).2] at e; exact absurd e (winL_ne hne)
def sumT (r : LegR) (g : LegG) : List Int := (List.range r.counts.length).map (fun k => (cntAt r k).1 - g.left.getD k 0)
theorem sumT_get {r : LegR} {g : LegG} {k : Nat} (h : k < r.counts.length) : (sumT r g)[k]? = some ((cntAt r k).1 - g.left.getD k 0) := by
 unfold sumT
 rw [List.getElem?_map, List.getElem?_range h]; rfl
theorem sumT_len (r : LegR) (g : LegG) : (sumT r g).length = r.counts.length := by unfold sumT; rw [List.length_map, List.length_range]
theorem sumT_begin {r : LegR} : sumT r (beginG r) = List.replicate r.counts.length 0 := by
 apply List.ext_getElem?
 intro k
 by_cases hk : k < r.counts.length
 ·rw [sumT_get hk, List.getElem?_replicate, if_pos hk]
  have : (beginG r).left.getD k 0 = (cntAt r k).1 := by
   show (r.counts.map (·.1)).getD k 0 = (r.counts.getD k (0, 0, 0)).1
   rw [List.getD_eq_getElem?_getD, List.getD_eq_getElem?_getD, List.getElem?_map, List.getElem?_eq_getElem hk]; rfl
  rw [this]; congr 1; omega
 ·rw [List.getElem?_eq_none (by rw [sumT_len]; omega), List.getElem?_eq_none (by rw [List.length_replicate]; omega)]
theorem sumT_step {r : LegR} {g g' : LegG} {p : Nat} {t : Thr} (hl : g.left.length = r.counts.length) (hp : p < r.counts.length) (hg : g'.left = g.left.set p t.left) (hs : t.score = g.left.getD p 0 - t.left) : sumT r g' = (sumT r g).set p (((cntAt r p).1 - g.left.getD p 0) + t.score) := by
 apply List.ext_getElem?
 intro k
 by_cases hk : k < r.counts.length
 ·rw [sumT_get hk]
  by_cases hkp : p = k
  ·subst hkp
   rw [List.getElem?_set_self (by rw [sumT_len]; exact hk), hg, List.getD_eq_getElem?_getD, List.getElem?_set_self (by rw [hl]; exact hk), hs]
   show some ((cntAt r p).1 - t.left) = _
   congr 1; omega
  ·rw [List.getElem?_set_ne hkp, sumT_get hk, hg, List.getD_eq_getElem?_getD, List.getElem?_set_ne hkp, ← List.getD_eq_getElem?_getD]
 ·rw [List.getElem?_eq_none (by rw [sumT_len]; omega), List.getElem?_eq_none (by rw [List.length_set, sumT_len]; omega)]
end
section
open Go.RowKit Go.Maps Go.Sort Go.Shelf Go.Deep
section
variable {w W W' : World} {Z : Nat} {g : LegG} {vs : List (Int × List Int)} {vv : Nat → Value} {nn : Nat → Nat} {xx : Nat → List Value}
theorem TlR.below (h : TlR w Z g vs vv nn xx W) (hB : Below W.heap.size W W') : TlR w Z g vs vv nn xx W' := by
 obtain ⟨bv, h1, h2⟩ := h.vis
 exact ⟨h.bel.trans (hB.mono h.bel.size), Nat.le_trans h.siz hB.size, h.zge, h.rows.below hB, h.x0, h.x1, h.x2, h.x3, h.x4, bv, h1, h2.below hB⟩
theorem TlR.base {w0 : World} (h : TlR w Z g vs vv nn xx W) (hB : Below w0.heap.size w0 w) : TlR w0 Z g vs vv nn xx W :=
 ⟨hB.trans (h.bel.mono hB.size), h.siz, Nat.le_trans hB.size h.zge, h.rows, h.x0, h.x1, h.x2, h.x3, h.x4, h.vis⟩
theorem own_blk {w : World} {B k n g : Nat} {T : TypeId} {v : Value} {xs : List Value} (h : w.ownsRow B T k v n xs) (hg : v.ownBlock = some g) : ∃ cs, w.heap[g]? = some (.cells cs T (0, 0)) := by
 rcases h.2 with ⟨e1, _⟩ | ⟨g', cap, cur, e1, h3, h4, h5⟩
 ·rw [e1] at hg; cases hg
 ·rw [e1] at hg
  have e2 : g' = g := by simpa [Value.ownBlock] using hg
  subst e2
  exact ⟨cur, h4⟩
theorem TlR.keep (h : TlR w Z g vs vv nn xx W) (hb : Below w.heap.size w W') (hz : W.heap.size ≤ W'.heap.size) (hk : ∀ (j : Nat) (cs : Array Value) (T : TypeId), W.heap[j]? = some (Obj.cells cs T (0, 0)) → (T = 3 ∨ T = 4 ∨ T = 84 ∨ T = 34) → W'.heap[j]? = W.heap[j]?) : TlR w Z g vs vv nn xx W' := by
 obtain ⟨bv, h1, h2⟩ := h.vis
 refine ⟨hb, Nat.le_trans h.siz hz, h.zge, ⟨fun i hi => ownsRow_heap (h.rows.own i hi) (fun q hq => ?_), h.rows.dis⟩, h.x0, h.x1, h.x2, h.x3, h.x4, bv, h1, h2.keep (fun i hi q hq => ?_)⟩
 ·obtain ⟨cs, e⟩ := own_blk (h.rows.own i hi) hq
  refine hk q cs _ e ?_
  show tlT i = _ ∨ tlT i = _ ∨ tlT i = _ ∨ tlT i = _
  rcases (by omega : i = 0 ∨ i = 1 ∨ i = 2 ∨ i = 3 ∨ i = 4 ∨ i = 5) with rfl | rfl | rfl | rfl | rfl | rfl
  ·exact .inl rfl
  ·exact .inl rfl
  ·exact .inr (.inl rfl)
  ·exact .inl rfl
  ·exact .inl rfl
  ·exact .inr (.inr (.inl rfl))
 ·obtain ⟨cs, e⟩ := own_blk (h2.own i hi) hq
  exact hk q cs _ e (.inr (.inr (.inr rfl)))
def lvT (vs : List (Int × List Int)) (bv : Nat → Value) : List (Int × Value × List Int) := (List.range vs.length).map (fun i => ((vs.getD i (0, [])).1, bv i, (vs.getD i (0, [])).2))
theorem lvT_len (vs : List (Int × List Int)) (bv : Nat → Value) : (lvT vs bv).length = vs.length := by unfold lvT; rw [List.length_map, List.length_range]
theorem lvT_cells (vs : List (Int × List Int)) (bv : Nat → Value) : ((lvT vs bv).map encV).flatten = tlVs vs bv := by
 unfold lvT tlVs
 rw [List.map_map, List.flatMap]
 rfl
theorem lvT_prV (vs : List (Int × List Int)) (bv : Nat → Value) : (lvT vs bv).map prV = vs := by
 unfold lvT
 rw [List.map_map]
 apply List.ext_getElem?
 intro i
 rw [List.getElem?_map]
 by_cases hi : i < vs.length
 ·rw [List.getElem?_range hi, List.getElem?_eq_getElem hi]
  show some ((vs.getD i (0, [])).1, (vs.getD i (0, [])).2) = _
  rw [List.getD_eq_getElem?_getD, List.getElem?_eq_getElem hi]; rfl
 ·rw [List.getElem?_eq_none (by rw [List.length_range]; omega), List.getElem?_eq_none (by omega)]; rfl
theorem tlr_vis (h : TlR w Z g vs vv nn xx W) (hl : vs.length ≤ 1000) (hbl : ∀ x ∈ vs, x.2.length ≤ 1000) : ∃ lv, Sl W 2 encV (vv 5) lv ∧ (∀ x ∈ lv, Sl W 1 eI x.2.1 x.2.2) ∧ lv.map prV = vs ∧ lv.length = vs.length ∧ (∃ a c, vv 5 = .slice a vs.length c) ∧ (0 < vs.length → ∃ b c, vv 5 = .slice (some ⟨b, 0, none⟩) vs.length c ∧ vs.length ≤ c ∧ b < W.heap.size) := by
 obtain ⟨bv, h1, h2⟩ := h.vis
 have ho := h.rows.own 5 (by decide)
 change W.ownsRow Z 84 2 (vv 5) (nn 5) (xx 5) at ho
 have hn : nn 5 = vs.length := by
  have := ho.1
  rw [h1, tlVs_len] at this
  omega
 rw [hn, h1, ← lvT_cells, ← lvT_len vs bv] at ho
 have hs := sl_owns (enc := encV) (fun _ => rfl) (by rw [lvT_len]; omega) ho
 refine ⟨lvT vs bv, hs, fun x hx => ?_, lvT_prV vs bv, lvT_len vs bv, ?_, fun hpos => ?_⟩
 ·obtain ⟨i, hi, rfl⟩ := List.mem_map.1 hx
  have hi := List.mem_range.1 hi
  have ho := h2.own i hi
  refine sl_owns (base := Z) (e := 34) (enc := eI) (fun _ => rfl) ?_ ?_
  ·show (vs.getD i (0, [])).2.length ≤ _
   have := hbl (vs.getD i (0, [])) (by rw [List.getD_eq_getElem?_getD, List.getElem?_eq_getElem hi]; exact List.getElem_mem hi)
   omega
  ·have e : ((vs.getD i (0, [])).2.map eI).flatten = (vs.getD i (0, [])).2.map (Value.int .i64) := by
    generalize (vs.getD i (0, [])).2 = l
    induction l with
    | nil => rfl
    | cons a l ih => rw [List.map_cons, List.flatten_cons, List.map_cons, ih]; rfl
   rw [e]; exact ho
 ·obtain ⟨a, c, e⟩ := owns_form3 ho
  rw [lvT_len] at e
  exact ⟨a, c, e⟩
 ·rcases ho.2 with ⟨_, e⟩ | ⟨g, cap, cur, e, h3, h4, h5, h6⟩
  ·rw [lvT_len] at e; omega
  ·rw [lvT_len] at e h5
   exact ⟨g, cap, e, by omega, (Array.getElem?_eq_some_iff.1 h4).1⟩
end
def RulV (h : Hnd) (x : Value) (ww : World) : Prop := ∃ vc, x = legRV (hrulesF h) vc ∧ ww.ownsRow 0 24 3 vc (hcnt h).length (((hcnt h).map encC).flatten)
def TalV (h : Hnd) (wr : World) (x : Value) (ww : World) : Prop := ∃ Z vv nn xx, x = .agg (tlC vv (talF h).g.round (talF h).g.over) ∧ TlR wr Z (talF h).g (talF h).vs vv nn xx ww
theorem RulV.below {h : Hnd} {x : Value} {W W' : World} (h1 : RulV h x W) (hB : Below W.heap.size W W') : RulV h x W' := by
 obtain ⟨vc, e, hs⟩ := h1; exact ⟨vc, e, ownsRow_below hs hB⟩
theorem TalV.below {h : Hnd} {wr : World} {x : Value} {W W' : World} (h1 : TalV h wr x W) (hB : Below W.heap.size W W') : TalV h wr x W' := by
 obtain ⟨Z, vv, nn, xx, e, ht⟩ := h1; exact ⟨Z, vv, nn, xx, e, ht.below hB⟩
def NilO (B : Nat) (x : Value) (ww : World) : Prop := ∃ g, x = .slice (some ⟨g, 0, none⟩) 0 0 ∧ B ≤ g ∧ ww.heap[g]? = some (.cells #[] 34 (0, 0))
def OwnB (B : Nat) (bs : List Int) (x : Value) (ww : World) : Prop := ww.ownsRow B 34 1 x bs.length ((bs.map eI).flatten) ∧ RowB ww 1 eI 34 x bs
def AggO (B : Nat) (p : Int) (bs : List Int) (x : Value) (ww : World) : Prop := ∃ u, x = .agg #[.int .i64 p, u] ∧ OwnB B bs u ww
theorem NilO.below {B : Nat} {x : Value} {W W' : World} (h : NilO B x W) (hB : Below W.heap.size W W') : NilO B x W' := by
 obtain ⟨g, e, h1, h2⟩ := h; exact ⟨g, e, h1, (hB.block _ (Array.getElem?_eq_some_iff.1 h2).1).trans h2⟩
theorem OwnB.below {B : Nat} {bs : List Int} {x : Value} {W W' : World} (h : OwnB B bs x W) (hB : Below W.heap.size W W') : OwnB B bs x W' := ⟨ownsRow_below h.1 hB, h.2.below hB⟩
theorem AggO.below {B : Nat} {p : Int} {bs : List Int} {x : Value} {W W' : World} (h : AggO B p bs x W) (hB : Below W.heap.size W W') : AggO B p bs x W' := by
 obtain ⟨u, e, h1⟩ := h; exact ⟨u, e, h1.below hB⟩
def VisO (B : Nat) (l : List (Int × List Int)) (x : Value) (ww : World) : Prop := ∃ lv : List (Int × Value × List Int), ww.ownsRow B 84 2 x lv.length ((lv.map encV).flatten) ∧ (∀ y ∈ lv, RowB ww 1 eI 34 y.2.1 y.2.2) ∧ lv.map prV = l
theorem VisO.below {B : Nat} {l : List (Int × List Int)} {x : Value} {W W' : World} (h : VisO B l x W) (hB : Below W.heap.size W W') : VisO B l x W' := by
 obtain ⟨lv, h1, h2, h3⟩ := h; exact ⟨lv, ownsRow_below h1 hB, fun y hy => (h2 y hy).below hB, h3⟩
theorem VisO.mono {B B' : Nat} {l : List (Int × List Int)} {x : Value} {W : World} (h : VisO B l x W) (hB : B' ≤ B) : VisO B' l x W := by
 obtain ⟨lv, h1, h2, h3⟩ := h; exact ⟨lv, own_mono h1 hB, h2, h3⟩
def OneW (p : Int) (u x : Value) (ww : World) : Prop := ∃ g, x = .slice (some ⟨g, 0, none⟩) 1 1 ∧ ww.heap[g]? = some (.cells #[.int .i64 p, u] 84 (0, 0))
theorem OneW.below {p : Int} {u x : Value} {W W' : World} (h : OneW p u x W) (hB : Below W.heap.size W W') : OneW p u x W' := by
 obtain ⟨g, e, h2⟩ := h; exact ⟨g, e, (hB.block _ (Array.getElem?_eq_some_iff.1 h2).1).trans h2⟩
def StS (g : LegG) (v : Value) (ww : World) : Prop := ∃ vl vd vi vw, v = .agg #[vl, vd, vi, .int .i64 g.next, .int .i64 g.round, .bool g.over, vw] ∧ Sl ww 1 eI vl g.left ∧ Sl ww 1 eI vd g.darts ∧ Sl ww 1 eB vi g.inn ∧ Sl ww 1 eI vw g.wins
theorem StS.below {g : LegG} {v : Value} {W W' : World} (h : StS g v W) (hB : Below W.heap.size W W') : StS g v W' := by
 obtain ⟨vl, vd, vi, vw, e, h1, h2, h3, h4⟩ := h; exact ⟨vl, vd, vi, vw, e, h1.below hB, h2.below hB, h3.below hB, h4.below hB⟩
def JudV (g : LegG) (fs : List (Int × Int × Int)) (x : Value) (ww : World) : Prop := ∃ vs vf, x = .tuple #[vs, vf, .int .i64 0] ∧ StS g vs ww ∧ Sl ww 3 encF vf fs
theorem JudV.below {g : LegG} {fs : List (Int × Int × Int)} {v : Value} {W W' : World} (h : JudV g fs v W) (hB : Below W.heap.size W W') : JudV g fs v W' := by
 obtain ⟨vs, vf, e, h1, h2⟩ := h; exact ⟨vs, vf, e, h1.below hB, h2.below hB⟩
def RulX (r : LegR) (x : Value) (ww : World) : Prop := ∃ vc, x = .agg #[vc, .int .i64 r.first, .int .i64 r.rounds, .bool r.equal] ∧ Sl ww 3 encC vc r.counts
theorem RulX.below {r : LegR} {x : Value} {W W' : World} (h1 : RulX r x W) (hB : Below W.heap.size W W') : RulX r x W' := by
 obtain ⟨vc, e, hs⟩ := h1; exact ⟨vc, e, hs.below hB⟩
def VisS (l : List (Int × List Int)) (x : Value) (ww : World) : Prop := ∃ lv : List (Int × Value × List Int), Sl ww 2 encV x lv ∧ (∀ y ∈ lv, Sl ww 1 eI y.2.1 y.2.2) ∧ lv.map prV = l
theorem VisS.below {l : List (Int × List Int)} {x : Value} {W W' : World} (h : VisS l x W) (hB : Below W.heap.size W W') : VisS l x W' := by
 obtain ⟨lv, h1, h2, h3⟩ := h; exact ⟨lv, h1.below hB, fun y hy => (h2 y hy).below hB, h3⟩
structure CJ (base : World) (A S u v : Nat) (listed : Array Bool) (a : Act) (W : World) : Prop where
 bel : Below base.heap.size base W
 blk : listed.getD A false = true → ∃ g, a.tmps.getD u undef = .pointer (some ⟨g, 0, none⟩) ∧ base.heap.size ≤ g ∧ g < W.heap.size ∧ (listed.getD S false = false → W.heap[g]? = some (.cells #[.slice none 0 0, .slice none 0 0, .slice none 0 0, .int .i64 0, .int .i64 0, .bool false, .slice none 0 0] 51 (0, 0))) ∧ (listed.getD S false = true → ∃ x0 x1 x2 x3 x4 x5 x6, a.tmps.getD v undef = .agg #[x0, x1, x2, x3, x4, x5, x6] ∧ W.heap[g]? = some (.cells #[x0, x1, x2, x3, x4, x5, x6] 51 (0, 0)))
section
variable {base W W' : World} {A S u v : Nat} {listed : Array Bool} {a : Act}
theorem CJ.start (m : Nat) (a : Act) : CJ base A S u v (Array.replicate m false) a base.drew := by
 refine ⟨(Below.refl _ _).drew, fun e => ?_⟩
 rw [rep_false] at e; cases e
theorem CJ.other (h : CJ base A S u v listed a W) {i t : Nat} {x : Value} (hi : (decide (i ≠ A) && decide (i ≠ S) && decide (t ≠ u) && decide (t ≠ v)) = true) (hB : Below W.heap.size W W') : CJ base A S u v (listed.setIfInBounds i true) (a.put (some t) x) W' := by
 simp only [Bool.and_eq_true, decide_eq_true_eq] at hi
 obtain ⟨⟨⟨iA, iS⟩, tu⟩, tv⟩ := hi
 refine ⟨h.bel.trans (hB.mono h.bel.size), fun e => ?_⟩
 rw [getD_set_ne _ _ _ _ (Ne.symm iA)] at e
 obtain ⟨g, g1, g2, g3, g4, g5⟩ := h.blk e
 refine ⟨g, by rw [getD_put (Ne.symm tu)]; exact g1, g2, Nat.lt_of_lt_of_le g3 hB.size, fun e2 => ?_, fun e2 => ?_⟩
 ·rw [getD_set_ne _ _ _ _ (Ne.symm iS)] at e2; exact (hB.block g g3).trans (g4 e2)
 ·rw [getD_set_ne _ _ _ _ (Ne.symm iS)] at e2
  obtain ⟨x0, x1, x2, x3, x4, x5, x6, k1, k2⟩ := g5 e2
  exact ⟨x0, x1, x2, x3, x4, x5, x6, by rw [getD_put (Ne.symm tv)]; exact k1, (hB.block g g3).trans k2⟩
theorem CJ.val (h : CJ base A S u v listed a W) {i : Nat} {x : Value} (hi : (decide (i ≠ A) && decide (i ≠ S) && decide (v ≠ u)) = true) (hS : listed.getD S false = false) : CJ base A S u v (listed.setIfInBounds i true) (a.put (some v) x) W := by
 simp only [Bool.and_eq_true, decide_eq_true_eq] at hi
 obtain ⟨⟨iA, iS⟩, tu⟩ := hi
 refine ⟨h.bel, fun e => ?_⟩
 rw [getD_set_ne _ _ _ _ (Ne.symm iA)] at e
 obtain ⟨g, g1, g2, g3, g4, g5⟩ := h.blk e
 refine ⟨g, by rw [getD_put (Ne.symm tu)]; exact g1, g2, g3, fun _ => g4 hS, fun e2 => ?_⟩
 rw [getD_set_ne _ _ _ _ (Ne.symm iS), hS] at e2; cases e2
theorem CJ.alloc (h : CJ base A S u v listed a W) (ht : u < a.tmps.size) (hS : listed.getD S false = false) (hne : A ≠ S) : CJ base A S u v (listed.setIfInBounds A true) (a.put (some u) (.pointer (some ⟨W.heap.size, 0, none⟩))) (W.alloc (.cells #[.slice none 0 0, .slice none 0 0, .slice none 0 0, .int .i64 0, .int .i64 0, .bool false, .slice none 0 0] 51)) :=
 ⟨h.bel.alloc h.bel.size _, fun _ => ⟨W.heap.size, getDV_set_self _ _ _ _ ht, h.bel.size, by simp, fun _ => World.alloc_heap_new _ _, fun e2 => by rw [getD_set_ne _ _ _ _ (Ne.symm hne), hS] at e2; cases e2⟩⟩
theorem CJ.store (h : CJ base A S u v listed a W) (hA : listed.getD A false = true) (hl : S < listed.size) (hne : A ≠ S) {g : Nat} (hg : a.tmps.getD u undef = .pointer (some ⟨g, 0, none⟩)) (hS : listed.getD S false = false) {x0 x1 x2 x3 x4 x5 x6 : Value} (hv : a.tmps.getD v undef = .agg #[x0, x1, x2, x3, x4, x5, x6]) (a' : Act) (ha : a'.tmps = a.tmps) : CJ base A S u v (listed.setIfInBounds S true) a' (((((((W.setCell ⟨g, 0, none⟩ x0).setCell ⟨g, 1, none⟩ x1).setCell ⟨g, 2, none⟩ x2).setCell ⟨g, 3, none⟩ x3).setCell ⟨g, 4, none⟩ x4).setCell ⟨g, 5, none⟩ x5).setCell ⟨g, 6, none⟩ x6) := by
 obtain ⟨g', g1, g2, g3, g4, g5⟩ := h.blk hA
 rw [hg] at g1
 simp only [Value.pointer.injEq, Option.some.injEq, Addr.mk.injEq, and_true] at g1
 subst g1
 refine ⟨below_set7 h.bel g2 x0 x1 x2 x3 x4 x5 x6, fun _ => ⟨g, by rw [ha]; exact hg, g2, by simp only [World.size_setCell]; exact g3, fun e2 => ?_, fun _ => ⟨x0, x1, x2, x3, x4, x5, x6, by rw [ha]; exact hv, ?_⟩⟩⟩
 ·rw [getD_set_self _ _ _ hl] at e2; cases e2
 ·have z0 := Go.Joins.block_setCell (i := 0) (g4 hS) x0
  have z1 := Go.Joins.block_setCell (i := 1) z0 x1
  have z2 := Go.Joins.block_setCell (i := 2) z1 x2
  have z3 := Go.Joins.block_setCell (i := 3) z2 x3
  have z4 := Go.Joins.block_setCell (i := 4) z3 x4
  have z5 := Go.Joins.block_setCell (i := 5) z4 x5
  exact Go.Joins.block_setCell (i := 6) z5 x6
end
theorem Sl.pre {α : Type} {w : World} {k : Nat} {enc : α → List Value} {a : Option Addr} {n c : Nat} {xs : List α} (h : Sl w k enc (.slice a n c) xs) {i : Nat} (hi : i ≤ xs.length) (c' : Nat) : Sl w k enc (.slice a i c') (xs.take i) := by
 obtain ⟨a', c2, e, hl, hs⟩ := h
 simp only [Value.slice.injEq] at e
 obtain ⟨rfl, -, -⟩ := e
 refine ⟨a, c', by rw [List.length_take, Nat.min_eq_left hi], by rw [List.length_take]; omega, fun hne => ?_⟩
 obtain ⟨b, off, h1, h2, h3⟩ := hs (fun e => hne (by rw [e, List.take_nil]))
 refine ⟨b, off, h1, h2, fun j x hj => h3 j x ?_⟩
 rw [List.getElem?_take] at hj
 by_cases hji : j < i
 ·rw [if_pos hji] at hj; exact hj
 ·rw [if_neg hji] at hj; cases hj
end
section
open Go.RowKit Go.Maps Go.Sort Go.Shelf Go.Deep
end
section
open Go.RowKit Go.Maps Go.Sort Go.Shelf Go.Deep
def blkAt (n : Nat) : Code → Option Code
 | .block id x => match Nat.beq id n with
  | true => some (.block id x)
  | false => blkAt n x
 | .seq x y => match blkAt n x with
  | some l => some l
  | none => blkAt n y
 | .cond _ x y => match blkAt n x with
  | some l => some l
  | none => blkAt n y
 | .loop x => blkAt n x
 | .scope x => blkAt n x
 | .rangeFunc _ _ x y => match blkAt n x with
  | some l => some l
  | none => blkAt n y
 | _ => none
def blkOf (n : Nat) (F : Func) : Option Code := match F.body with
 | some c => blkAt n c
 | none => none
end
end Go.Proofs.Ytnhjoebdmmelaaa
