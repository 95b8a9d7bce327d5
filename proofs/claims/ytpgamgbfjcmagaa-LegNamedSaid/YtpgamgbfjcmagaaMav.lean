/- Leg: parts Ir, Ka, Kb, Ge, Gl. -/
import Derived.Deep.DeepCutAuto
import Derived.Deep.CutBlock
import Derived.Test.YtpgamgbfjcmagaaMau
import Derived.Test.YtpgamgbfjcmagaaMar
import Derived.Test.YtpgamgbfjcmagaaMao
import Derived.Test.YtpgamgbfjcmagaaMap
import Derived.Test.YtpgamgbfjcmagaaMaq
set_option linter.unusedVariables false
set_option linter.unusedSimpArgs false
namespace Go.Proofs.Ytpgamgbfjcmagaa
section
open Go.RowKit Go.Maps Go.Sort Go.Shelf Go.Deep
/-- A tale's rows in memory, wherever its struct is. -/
structure TlR (w : World) (Z : Nat) (g : LegG) (vs : List (Int × List Int)) (vv : Nat → Value) (nn : Nat → Nat) (xx : Nat → List Value) (W : World) : Prop where
 bel : Below w.heap.size w W
 siz : Z ≤ W.heap.size
 zge : w.heap.size ≤ Z
 rows : Rws Z 6 (tlD vv nn xx) W
 x0 : xx 0 = g.left.map (Value.int .i64)
 x1 : xx 1 = g.darts.map (Value.int .i64)
 x2 : xx 2 = g.inn.map Value.bool
 x3 : xx 3 = g.ended.map (fun q => Value.int .i64 q.1)
 x4 : xx 4 = g.ended.map (fun q => Value.int .i64 q.2)
 vis : ∃ bv, xx 5 = tlVs vs bv ∧ TlV Z vs vv bv W
theorem TlAt.res {w0 w W : World} {Z L4 : Nat} {g : LegG} {vs : List (Int × List Int)} {vv : Nat → Value} {nn : Nat → Nat} {xx : Nat → List Value} (h : TlAt w Z L4 g vs vv nn xx W) (hB : Below w0.heap.size w0 w) : TlR w0 Z g vs vv nn xx W := by
 have h1 := hB.size
 have h2 := h.new
 have h3 := h.lt
 exact ⟨hB.trans (h.bel.mono h1), h.siz, by omega, h.rows, h.x0, h.x1, h.x2, h.x3, h.x4, h.vis⟩
theorem TlR.setc {w W : World} {Z b i : Nat} {g : LegG} {vs : List (Int × List Int)} {vv : Nat → Value} {nn : Nat → Nat} {xx : Nat → List Value} (h : TlR w Z g vs vv nn xx W) (hb : b < Z) (hw : w.heap.size ≤ b) (x : Value) : TlR w Z g vs vv nn xx (W.setCell ⟨b, i, none⟩ x) := by
 obtain ⟨bv, h1, h2⟩ := h.vis
 exact ⟨h.bel.setCell (p := ⟨b, i, none⟩) hw _, by simp only [World.size_setCell]; exact h.siz, h.zge, h.rows.set (a := ⟨b, i, none⟩) hb _, h.x0, h.x1, h.x2, h.x3, h.x4, bv, h1, h2.keep (fun j hj q hq => Below.heap_setCell _ _ _ _ (fun e => by have a := ((h2.own j hj).lt q hq).1; have e' : q = b := e; omega))⟩
/-- The state that a tale tells. -/
def talF (h : Hnd) : TalK := if hcnt h = [] then talK (hrulesF h) h.beds 0 else talK (hrulesF h) h.beds 60
def TaleOk (h : Hnd) (w : World) (e : Ending) (w' : World) : Prop :=
 ∃ Z vv nn xx, e = .returned (.agg (tlC vv (talF h).g.round (talF h).g.over)) ∧ TlR w Z (talF h).g (talF h).vs vv nn xx w'
/-- The rules of a hand are right. -/
theorem hr_ok {h : Hnd} (h16 : ∀ x ∈ h.starts, 0 ≤ x ∧ x ≤ 65535) (hg8 : 0 ≤ h.gates ∧ h.gates ≤ 255) (hf8 : 0 ≤ h.first ∧ h.first ≤ 255) (hne : hcnt h ≠ []) : (hrulesF h).Ok := by
 have hl : (0 : Int) < ((hcnt h).length : Int) := by have := List.length_pos_iff.2 hne; omega
 refine ⟨hne, ?_, fun c hc => ?_, ?_, ?_⟩
 ·show (hcnt h).length ≤ 8; rw [hcnt_len]; omega
 ·obtain ⟨s, hs, rfl⟩ := List.mem_map.1 (show c ∈ (h.starts.take 5).map (fun s => (2 + s % 300, h.gates % 3, h.gates / 3 % 3)) from hc)
  have := h16 s (List.mem_of_mem_take hs)
  unfold vcnt inb
  simp only [Bool.and_eq_true, decide_eq_true_eq]
  omega
 ·show 0 ≤ (if hcnt h = [] then 0 else h.first % ((hcnt h).length : Int)); rw [if_neg hne]; exact Int.emod_nonneg _ (by omega)
 ·show (if hcnt h = [] then 0 else h.first % ((hcnt h).length : Int)) < _; rw [if_neg hne]; exact Int.emod_lt_of_pos _ hl
/-- A tale whose first rows have k elements. -/
def bgK (r : LegR) (k : Nat) : LegG := ⟨(r.counts.take k).map (·.1), (r.counts.take k).map (fun _ => 0), (r.counts.take k).map (fun c => c.2.1 == 0), r.first, 0, false, [], []⟩
theorem bgK_all (r : LegR) : bgK r r.counts.length = beginG r := by unfold bgK beginG; rw [List.take_length]
def nilV : Nat → Value := fun _ => .slice none 0 0
theorem tl_start {r : LegR} {w W : World} {L4 : Nat} (hB : Below w.heap.size w W) (hn : w.heap.size ≤ L4) (hl : W.heap[L4]? = some (.cells #[.slice none 0 0, .slice none 0 0, .slice none 0 0, .slice none 0 0, .slice none 0 0, .slice none 0 0, .int .i64 0, .bool false] 81 (0, 0))) :
  TlAt w (L4 + 1) L4 (bgK r 0) [] nilV (fun _ => 0) (fun _ => []) W :=
 ⟨hB, (Array.getElem?_eq_some_iff.1 hl).1, Nat.lt_succ_self _, hn, hl, ⟨fun i hi => World.ownsRow_nil _ _ _ _, fun i _ j _ _ g e => by cases e⟩, rfl, rfl, rfl, rfl, rfl, nilV, rfl, ⟨fun i hi => absurd hi (Nat.not_lt_zero _), fun i hi => absurd hi (Nat.not_lt_zero _)⟩⟩
/-- Behind region 6: a player's first elements. -/
theorem c6_tl {r : LegR} {w wr W : World} {Z L4 k : Nat} {c1 c2 c3 : Int} {vv : Nat → Value} {nn : Nat → Nat} {xx : Nat → List Value} {listed : Array Bool} {a : Act} {E : Nat → RD} (h : TlAt w Z L4 (bgK r k) [] vv nn xx wr) (hC : RwC w Z L4 tlN6 (tlP6 6 c1 c2) (tlD vv nn xx) 81 (tlC vv 0 false) wr listed a E W) (da : ∀ j, j < 3 → listed.getD (tlN6 j).ia false = true) (ds : ∀ j, j < 3 → listed.getD (tlN6 j).is false = true) (hx : r.counts[k]? = some (c1, c2, c3)) :
  ∃ vv' nn' xx', TlAt w Z L4 (bgK r (k + 1)) [] vv' nn' xx' W ∧ (∀ i, 6 ≤ i → nn' i = nn i) := by
 obtain ⟨cs, l1, l2, l3, l4⟩ := hC.leg
 have hs : ∀ i, i < 6 → 3 ≤ i → E i = tlD vv nn xx i := fun i hi h3 => hC.same i hi (fun j hj => by have hj2 : j < 3 := hj; show i ≠ j; omega)
 have hr : ∀ j, j < 3 → E j = ⟨tlT j, tlS j, (E j).v, nn j + 1, xx j ++ [(tlP6 6 c1 c2).X j]⟩ := fun j hj => ((hC.row j hj).2 (da j hj)).2
 have hE : ∀ i, i < 6 → E i = ⟨tlT i, tlS i, (E i).v, (E i).n, (E i).xs⟩ := by
  intro i hi
  by_cases h3 : i < 3
  ·rw [hr i h3]
  ·rw [hs i hi (by omega)]; rfl
 have hcs : cs = tlC (fun i => (E i).v) 0 false := by
  apply Array.ext_getElem?
  intro i
  by_cases hi : 1 ≤ i ∧ i ≤ 3
  ·have := l3 (i - 1) (show i - 1 < 3 by omega)
   have e1 : (tlP6 6 c1 c2).f (i - 1) = i := by show i - 1 + 1 = i; omega
   rw [e1] at this
   rw [this]
   unfold rwV
   rw [if_pos (ds (i - 1) (by omega))]
   rcases (by omega : i = 1 ∨ i = 2 ∨ i = 3) with rfl | rfl | rfl <;> rfl
  ·rw [l4 i (fun j hj => by have hj2 : j < 3 := hj; show i ≠ j + 1; omega)]
   rcases (by omega : i = 0 ∨ i = 4 ∨ i = 5 ∨ i = 6 ∨ i = 7 ∨ 8 ≤ i) with rfl | rfl | rfl | rfl | rfl | h8
   ·show some (vv 5) = some (E 5).v; rw [hs 5 (by omega) (by omega)]; rfl
   ·show some (vv 3) = some (E 3).v; rw [hs 3 (by omega) (by omega)]; rfl
   ·show some (vv 4) = some (E 4).v; rw [hs 4 (by omega) (by omega)]; rfl
   ·rfl
   ·rfl
   ·rw [Array.getElem?_eq_none (show (tlC vv 0 false).size ≤ i from h8), Array.getElem?_eq_none (show (tlC (fun i => (E i).v) 0 false).size ≤ i from h8)]
 have ht := take_snoc' hx
 obtain ⟨bv, v1, v2⟩ := h.vis
 refine ⟨fun i => if i < 6 then (E i).v else vv i, fun i => if i < 6 then (E i).n else nn i, fun i => if i < 6 then (E i).xs else xx i, ⟨hC.bel, hC.siz, h.lt, h.new, ?_, hC.rows.congr (fun i (hi : i < 6) => ?_), ?_, ?_, ?_, ?_, ?_, bv, ?_, ⟨fun i hi => absurd hi (Nat.not_lt_zero _), fun i hi => absurd hi (Nat.not_lt_zero _)⟩⟩, fun i hi => ?_⟩
 ·rw [l1, hcs]; exact congrArg (fun x => some (Obj.cells x _ (0, 0))) (tlC_congr (fun i hi => (if_pos hi).symm) _ _)
 ·rw [hE i hi]; show (⟨_, _, (if i < 6 then (E i).v else vv i), (if i < 6 then (E i).n else nn i), (if i < 6 then (E i).xs else xx i)⟩ : RD) = _; rw [if_pos hi, if_pos hi, if_pos hi]
 ·show (if (0 : Nat) < 6 then (E 0).xs else _) = _; rw [if_pos (by omega), hr 0 (by omega)]
  show xx 0 ++ [.int .i64 c1] = ((r.counts.take (k + 1)).map (·.1)).map _
  rw [h.x0, ht, List.map_append, List.map_append]; rfl
 ·show (if (1 : Nat) < 6 then (E 1).xs else _) = _; rw [if_pos (by omega), hr 1 (by omega)]
  show xx 1 ++ [.int .i64 0] = ((r.counts.take (k + 1)).map (fun _ => (0 : Int))).map _
  rw [h.x1, ht, List.map_append, List.map_append]; rfl
 ·show (if (2 : Nat) < 6 then (E 2).xs else _) = _; rw [if_pos (by omega), hr 2 (by omega)]
  show xx 2 ++ [.bool (c2 == 0)] = ((r.counts.take (k + 1)).map (fun c => c.2.1 == 0)).map _
  rw [h.x2, ht, List.map_append, List.map_append]; rfl
 ·show (if (3 : Nat) < 6 then (E 3).xs else _) = _; rw [if_pos (by omega), hs 3 (by omega) (by omega)]; exact h.x3
 ·show (if (4 : Nat) < 6 then (E 4).xs else _) = _; rw [if_pos (by omega), hs 4 (by omega) (by omega)]; exact h.x4
 ·show (if (5 : Nat) < 6 then (E 5).xs else _) = _; rw [if_pos (by omega), hs 5 (by omega) (by omega)]; exact v1
 ·show (if i < 6 then (E i).n else nn i) = _; rw [if_neg (by omega)]
theorem tal_stop {r : LegR} {bs : List Int} {v : Nat} (ho : (talK r bs v).g.over = true) : ∀ d, talK r bs (v + d) = talK r bs v
 | 0 => rfl
 | d + 1 => by
  have ih := tal_stop ho d
  show talK r bs ((v + d) + 1) = _
  rw [talK, if_pos (by rw [ih]; exact ho), ih]
theorem tal_at {r : LegR} {bs : List Int} {v n : Nat} (ho : (talK r bs v).g.over = true) (hv : v ≤ n) : talK r bs n = talK r bs v := by
 have := tal_stop ho (n - v)
 rw [show v + (n - v) = n by omega] at this
 exact this
/-- The cells of a row of players' laws. -/
theorem cnt_cells {w : World} {b n : Nat} {vc : Value} {cs : List Cnt} (h : w.ownsRow b 24 3 vc n ((cs.map encC).flatten)) (hn : n = cs.length) (h0 : 0 < n) : ∃ cb cc, vc = .slice (some ⟨cb, 0, none⟩) n cc ∧ cb < w.heap.size ∧ ∀ k c, cs[k]? = some c → w.cell? ⟨cb, 0 + k * 3, none⟩ = some (.int .i64 c.1) ∧ w.cell? ⟨cb, 0 + k * 3 + 1, none⟩ = some (.int .i64 c.2.1) ∧ w.cell? ⟨cb, 0 + k * 3 + 2, none⟩ = some (.int .i64 c.2.2) := by
 obtain ⟨g, cc, rfl⟩ : ∃ g cc, vc = .slice (some ⟨g, 0, none⟩) n cc := by
  rcases h.2 with ⟨_, e⟩ | ⟨g, cap, cur, e, _⟩
  ·omega
  ·exact ⟨g, cap, e⟩
 refine ⟨g, cc, rfl, (h.lt g rfl).2, fun k c hk => ?_⟩
 have hc := World.ownsRow.cells h (g := g) rfl
 have hget : ∀ (cs : List Cnt) (k : Nat) (c : Cnt), cs[k]? = some c → ∀ i u, (encC c)[i]? = some u → ((cs.map encC).flatten)[k * 3 + i]? = some u := by
  intro cs
  induction cs with
  | nil => intro k c hk; cases hk
  | cons x xs ih =>
   intro k c hk i u hu
   have hi : i < 3 := by
    rcases Nat.lt_or_ge i 3 with h | h
    ·exact h
    ·rw [List.getElem?_eq_none (show (encC c).length ≤ i from h)] at hu; cases hu
   rw [List.map_cons, List.flatten_cons]
   cases k with
   | zero =>
    simp only [List.getElem?_cons_zero, Option.some.injEq] at hk
    subst hk
    rw [Nat.zero_mul, Nat.zero_add, List.getElem?_append_left (show i < (encC x).length from hi)]
    exact hu
   | succ k =>
    simp only [List.getElem?_cons_succ] at hk
    rw [List.getElem?_append_right (show (encC x).length ≤ (k + 1) * 3 + i by show 3 ≤ _; omega)]
    have := ih k c hk i u hu
    rw [show (k + 1) * 3 + i - (encC x).length = k * 3 + i by show (k + 1) * 3 + i - 3 = _; omega]
    exact this
 refine ⟨?_, ?_, ?_⟩
 ·have := hc _ _ (hget cs k c hk 0 _ rfl)
  by_cases hk0 : k = 0
  ·subst hk0; simpa [Addr.add] using this
  ·simpa [Addr.add, show ¬ k * 3 = 0 by omega] using this
 ·have := hc _ _ (hget cs k c hk 1 _ rfl)
  simpa [Addr.add] using this
 ·have := hc _ _ (hget cs k c hk 2 _ rfl)
  simpa [Addr.add] using this
end
section
open Go.RowKit Go.Maps Go.Sort Go.Shelf Go.Deep
/-- The rules of a hand pass Check. -/
theorem hr_leg {h : Hnd} (h16 : ∀ x ∈ h.starts, 0 ≤ x ∧ x ≤ 65535) (hg8 : 0 ≤ h.gates ∧ h.gates ≤ 255) (hr8 : 0 ≤ h.rounds ∧ h.rounds ≤ 255) (hf8 : 0 ≤ h.first ∧ h.first ≤ 255) (hne : hcnt h ≠ []) : vleg (hrulesF h) = true := by
 have ho := hr_ok h16 hg8 hf8 hne
 have h1 := List.length_pos_iff.2 ho.ne
 have h8 := ho.n8
 have h0 := ho.f0
 have hf := ho.f1
 have hr0 : (hrulesF h).rounds = h.rounds % 20 := rfl
 unfold vleg
 rw [hr0]
 have ha : ((hrulesF h).counts.any fun c => !vcnt c) = false := by
  rw [List.any_eq_false]
  intro c hc
  rw [ho.cnt c hc]; simp
 rw [ha]
 unfold inb
 simp only [Bool.not_false, Bool.and_eq_true, decide_eq_true_eq, true_and]
 omega
theorem tv_more {bs : List Int} (hb : ∀ x ∈ bs, 0 ≤ x ∧ x ≤ 255) (c : Cnt) (v : Nat) (in0 : Bool) (left0 b : Int) (ys : List Int) : ∀ (f : Nat) (t : Thr) (a i : Nat), t.darts + (f : Int) = 3 → thrL c in0 left0 t i ((tvB bs c v f t a).1 ++ b :: ys) = (Thr.zero, ((i + (tvB bs c v f t a).1.length : Nat) : Int), 32)
 | 0, t, a, i, hd => by
  have he : t.ended = true := by unfold Thr.ended; simp; omega
  show thrL c in0 left0 t i (b :: ys) = _
  rw [thrL, if_pos he]; rfl
 | f + 1, t, a, i, hd => by
  unfold tvB
  by_cases he : t.ended = true
  ·rw [if_pos he]
   show thrL c in0 left0 t i (b :: ys) = _
   rw [thrL, if_pos he]; rfl
  ·rw [if_neg he]
   show thrL c in0 left0 t i (hbedF bs a :: ((tvB bs c v f (t.step c (hbedF bs a)) (a + 1 + v % 2)).1 ++ b :: ys)) = _
   rw [thrL, if_neg he, if_pos (hbed_ok hb a), tv_more hb c v in0 left0 b ys f _ _ (i + 1) (by rw [step_darts]; omega), List.length_cons]
   congr 3
   omega
theorem vbed121 : vbed 121 = false := by decide
theorem tv_bad {bs : List Int} (hb : ∀ x ∈ bs, 0 ≤ x ∧ x ≤ 255) (c : Cnt) (v : Nat) (in0 : Bool) (left0 : Int) : ∀ (f : Nat) (t : Thr) (a i j : Nat), j < (tvB bs c v f t a).1.length → thrL c in0 left0 t i ((tvB bs c v f t a).1.set j 121) = (Thr.zero, ((i + j : Nat) : Int), 2)
 | 0, t, a, i, j, hj => by exact absurd hj (Nat.not_lt_zero _)
 | f + 1, t, a, i, j, hj => by
  unfold tvB at hj ⊢
  by_cases he : t.ended = true
  ·rw [if_pos he] at hj; exact absurd hj (Nat.not_lt_zero _)
  ·rw [if_neg he] at hj ⊢
   cases j with
   | zero =>
    show thrL c in0 left0 t i (121 :: _) = _
    rw [thrL, if_neg he, if_neg (by rw [vbed121]; simp)]; rfl
   | succ j =>
    show thrL c in0 left0 t i (hbedF bs a :: ((tvB bs c v f (t.step c (hbedF bs a)) (a + 1 + v % 2)).1.set j 121)) = _
    rw [thrL, if_neg he, if_pos (hbed_ok hb a), tv_bad hb c v in0 left0 f _ _ (i + 1) j (by rw [List.length_cons] at hj; omega)]
    congr 3
    omega
theorem tv_short {bs : List Int} (hb : ∀ x ∈ bs, 0 ≤ x ∧ x ≤ 255) (c : Cnt) (v : Nat) (in0 : Bool) (left0 : Int) : ∀ (f : Nat) (t : Thr) (a i : Nat), (tvB bs c v f t a).1 ≠ [] → thrL c in0 left0 t i (tvB bs c v f t a).1.dropLast = (Thr.zero, -1, 31)
 | 0, t, a, i, hj => by exact absurd rfl hj
 | f + 1, t, a, i, hj => by
  unfold tvB at hj ⊢
  by_cases he : t.ended = true
  ·rw [if_pos he] at hj; exact absurd rfl hj
  ·rw [if_neg he]
   show thrL c in0 left0 t i (hbedF bs a :: (tvB bs c v f (t.step c (hbedF bs a)) (a + 1 + v % 2)).1).dropLast = _
   by_cases hr : (tvB bs c v f (t.step c (hbedF bs a)) (a + 1 + v % 2)).1 = []
   ·rw [hr]
    show thrL c in0 left0 t i [] = _
    rw [thrL, if_neg he]
   ·rw [List.dropLast_cons_of_ne_nil hr, thrL, if_neg he, if_pos (hbed_ok hb a), tv_short hb c v in0 left0 f _ _ (i + 1) hr]
/-- The visits of a tale, one by one. -/
theorem tal_pre {r : LegR} (hr : r.Ok) {bs : List Int} (hb : ∀ x ∈ bs, 0 ≤ x ∧ x ≤ 255) : ∀ N i, i < (talK r bs N).vs.length → (talK r bs i).g.over = false ∧ i < N ∧ (talK r bs N).vs[i]? = some ((talP r i : Int), (talT r bs (talK r bs i) i).1) ∧ (talK r bs i).vs = (talK r bs N).vs.take i
 | 0, i, hi => absurd hi (Nat.not_lt_zero _)
 | N + 1, i, hi => by
  by_cases ho : (talK r bs N).g.over = true
  ·have he : talK r bs (N + 1) = talK r bs N := by rw [talK, if_pos ho]
   rw [he] at hi ⊢
   obtain ⟨h1, h2, h3, h4⟩ := tal_pre hr hb N i hi
   exact ⟨h1, by omega, h3, h4⟩
  ·have hof : (talK r bs N).g.over = false := by simpa using ho
   have hlen := (tal_inv hr hb N).len hof
   have he : (talK r bs (N + 1)).vs = (talK r bs N).vs ++ [((talP r N : Int), (talT r bs (talK r bs N) N).1)] := by rw [talK, if_neg ho]
   rw [he, List.length_append, List.length_singleton, hlen] at hi
   rw [he]
   by_cases hiN : i < N
   ·obtain ⟨h1, h2, h3, h4⟩ := tal_pre hr hb N i (by rw [hlen]; exact hiN)
    exact ⟨h1, by omega, by rw [List.getElem?_append_left (by rw [hlen]; exact hiN)]; exact h3, by rw [List.take_append_of_le_length (by rw [hlen]; omega)]; exact h4⟩
   ·have hie : i = N := by omega
    subst hie
    refine ⟨hof, by omega, ?_, ?_⟩
    ·rw [List.getElem?_append_right (by rw [hlen]; exact Nat.le_refl _), hlen, Nat.sub_self]; rfl
    ·rw [List.take_append_of_le_length (by rw [hlen]; exact Nat.le_refl _), List.take_of_length_le (by rw [hlen]; exact Nat.le_refl _)]
theorem tal_len_eq {r : LegR} (hr : r.Ok) {bs : List Int} (hb : ∀ x ∈ bs, 0 ≤ x ∧ x ≤ 255) : ∀ N, talK r bs (talK r bs N).vs.length = talK r bs N
 | 0 => rfl
 | N + 1 => by
  by_cases ho : (talK r bs N).g.over = true
  ·have he : talK r bs (N + 1) = talK r bs N := by rw [talK, if_pos ho]
   rw [he]; exact tal_len_eq hr hb N
  ·have hlen := (tal_inv hr hb N).len (by simpa using ho)
   have he : (talK r bs (N + 1)).vs.length = N + 1 := by rw [talK, if_neg ho]; simp [hlen]
   rw [he]
theorem tal_lenI {r : LegR} (hr : r.Ok) {bs : List Int} (hb : ∀ x ∈ bs, 0 ≤ x ∧ x ≤ 255) {N i : Nat} (hi : i ≤ (talK r bs N).vs.length) : (talK r bs i).vs.length = i ∧ (talK r bs i).vs = (talK r bs N).vs.take i := by
 by_cases h : i < (talK r bs N).vs.length
 ·have := (tal_pre hr hb N i h).2.2.2
  exact ⟨by rw [this, List.length_take]; omega, this⟩
 ·have hie : i = (talK r bs N).vs.length := by omega
  have := tal_len_eq hr hb N
  rw [← hie] at this
  exact ⟨by rw [this]; exact hie.symm, by rw [this, hie, List.take_length]⟩
/-- The leg as it was, and with a wrong visit in it. -/
theorem nam_judge {r : LegR} (hr : r.Ok) {bs : List Int} (hb : ∀ x ∈ bs, 0 ≤ x ∧ x ≤ 255) {N i : Nat} (hi : i ≤ (talK r bs N).vs.length) {bad : Int × List Int} {d e : Int} (he : e ≠ 0) (ht : takeG r (talK r bs i).g bad.1 bad.2 = ((talK r bs i).g, d, e)) :
  judgeK r ((talK r bs N).vs.take i ++ bad :: (talK r bs N).vs.drop i) ((talK r bs N).vs.take i ++ bad :: (talK r bs N).vs.drop i).length = ((talK r bs N).g, [((i : Int), d, e)]) := by
 obtain ⟨li, lt⟩ := tal_lenI hr hb hi
 have h0 : judgeK r ((talK r bs N).vs.take i ++ bad :: (talK r bs N).vs.drop i) i = ((talK r bs i).g, []) := by
  have := (tal_inv hr hb i).jud (bad :: (talK r bs N).vs.drop i)
  rw [li, lt] at this; exact this
 have hl : ((talK r bs N).vs.take i).length = i := by rw [List.length_take]; omega
 have h1 : judgeK r ((talK r bs N).vs.take i ++ bad :: (talK r bs N).vs.drop i) (i + 1) = ((talK r bs i).g, [((i : Int), d, e)]) := by
  have hx : ((talK r bs N).vs.take i ++ bad :: (talK r bs N).vs.drop i)[i]? = some bad := by
   rw [List.getElem?_append_right (by omega), hl, Nat.sub_self]; rfl
  rw [judgeK_step hx, h0]
  unfold jstep
  simp only [ht]
  rw [if_neg he]; rfl
 have h2 : ∀ j, i + j ≤ (talK r bs N).vs.length → judgeK r ((talK r bs N).vs.take i ++ bad :: (talK r bs N).vs.drop i) (i + 1 + j) = ((talK r bs (i + j)).g, [((i : Int), d, e)]) := by
  intro j
  induction j with
  | zero => intro _; exact h1
  | succ j ih =>
   intro hj
   have ih := ih (by omega)
   obtain ⟨p1, p2, p3, p4⟩ := tal_pre hr hb N (i + j) (by omega)
   have hx : ((talK r bs N).vs.take i ++ bad :: (talK r bs N).vs.drop i)[i + 1 + j]? = some ((talP r (i + j) : Int), (talT r bs (talK r bs (i + j)) (i + j)).1) := by
    rw [List.getElem?_append_right (by omega), hl, show i + 1 + j - i = j + 1 by omega, List.getElem?_cons_succ, List.getElem?_drop]
    exact p3
   obtain ⟨R, es, hR, hd⟩ := (tal_inv hr hb (i + j)).rf
   have hdone := hd p1
   obtain ⟨q1, q2⟩ := talP_lt hr (i + j)
   have hnx : (talK r bs (i + j)).g.next = (talP r (i + j) : Int) := by rw [(hR.done p1).2.2, hdone, q2, Int.add_emod_emod]
   obtain ⟨_, hg⟩ := tal_take hr hb p1 hnx
   rw [show i + 1 + (j + 1) = (i + 1 + j) + 1 by omega, judgeK_step hx, ih]
   unfold jstep
   simp only [hg]
   rw [if_pos trivial, show i + (j + 1) = (i + j) + 1 by omega, talK, if_neg (by rw [p1]; simp), hg]
 have h3 := h2 ((talK r bs N).vs.length - i) (by omega)
 have hlen : ((talK r bs N).vs.take i ++ bad :: (talK r bs N).vs.drop i).length = i + 1 + ((talK r bs N).vs.length - i) := by
  rw [List.length_append, hl, List.length_cons, List.length_drop]; omega
 rw [hlen, h3, show i + ((talK r bs N).vs.length - i) = (talK r bs N).vs.length by omega, tal_len_eq hr hb N]
theorem tal_judge {r : LegR} (hr : r.Ok) {bs : List Int} (hb : ∀ x ∈ bs, 0 ≤ x ∧ x ≤ 255) (N : Nat) : judgeK r (talK r bs N).vs (talK r bs N).vs.length = ((talK r bs N).g, []) := by
 have := (tal_inv hr hb N).jud []
 rw [List.append_nil] at this; exact this
/-- What the leg says of a wrong visit. -/
theorem nam_next {r : LegR} (hr : r.Ok) {bs : List Int} (hb : ∀ x ∈ bs, 0 ≤ x ∧ x ≤ 255) {i : Nat} (ho : (talK r bs i).g.over = false) : (talK r bs i).g.next = (talP r i : Int) := by
 obtain ⟨R, es, hR, hd⟩ := (tal_inv hr hb i).rf
 rw [(hR.done ho).2.2, hd ho, (talP_lt hr i).2, Int.add_emod_emod]
theorem nam_turn {r : LegR} (hr : r.Ok) {bs : List Int} (hb : ∀ x ∈ bs, 0 ≤ x ∧ x ≤ 255) {i : Nat} (ho : (talK r bs i).g.over = false) {p : Int} (h0 : 0 ≤ p) (h1 : p < (r.counts.length : Int)) (hp : p ≠ (talP r i : Int)) (xs : List Int) : takeG r (talK r bs i).g p xs = ((talK r bs i).g, -1, 30) := by
 unfold takeG
 rw [if_neg (by rw [ho]; simp), if_pos (by unfold inb; simp; omega), if_neg (by rw [nam_next hr hb ho]; exact hp)]
theorem nam_arg {r : LegR} {bs : List Int} {i : Nat} (ho : (talK r bs i).g.over = false) (xs : List Int) : takeG r (talK r bs i).g (r.counts.length : Int) xs = ((talK r bs i).g, -1, 2) := by
 unfold takeG
 rw [if_neg (by rw [ho]; simp), if_neg (by unfold inb; simp; omega)]
theorem nam_over {r : LegR} {bs : List Int} {i : Nat} (ho : (talK r bs i).g.over = true) (p : Int) (xs : List Int) : takeG r (talK r bs i).g p xs = ((talK r bs i).g, -1, 33) := by
 unfold takeG
 rw [if_pos ho]
theorem nam_thr {r : LegR} (hr : r.Ok) {bs : List Int} (hb : ∀ x ∈ bs, 0 ≤ x ∧ x ≤ 255) {i : Nat} (ho : (talK r bs i).g.over = false) {xs : List Int} {d e : Int} (he : e ≠ 0) (ht : thrL (cntAt r (talP r i)) ((talK r bs i).g.inn.getD (talP r i) false) ((talK r bs i).g.left.getD (talP r i) 0) ⟨(talK r bs i).g.left.getD (talP r i) 0, 0, 0, (talK r bs i).g.inn.getD (talP r i) false, false, false⟩ 0 xs = (Thr.zero, d, e)) : takeG r (talK r bs i).g (talP r i : Int) xs = ((talK r bs i).g, d, e) := by
 obtain ⟨h1, _⟩ := talP_lt hr i
 have ht2 : takeT r (talK r bs i).g (talP r i) xs = (Thr.zero, d, e) := ht
 unfold takeG
 rw [if_neg (by rw [ho]; simp), if_pos (by unfold inb; simp; omega), if_pos (nam_next hr hb ho).symm, Int.toNat_natCast, ht2, if_neg he]
theorem nam_short {r : LegR} (hr : r.Ok) {bs : List Int} (hb : ∀ x ∈ bs, 0 ≤ x ∧ x ≤ 255) {i : Nat} (ho : (talK r bs i).g.over = false) (hne : (talT r bs (talK r bs i) i).1 ≠ []) : takeG r (talK r bs i).g (talP r i : Int) (talT r bs (talK r bs i) i).1.dropLast = ((talK r bs i).g, -1, 31) :=
 nam_thr hr hb ho (by decide) (tv_short hb _ _ _ _ _ _ _ _ hne)
theorem nam_more {r : LegR} (hr : r.Ok) {bs : List Int} (hb : ∀ x ∈ bs, 0 ≤ x ∧ x ≤ 255) {i : Nat} (ho : (talK r bs i).g.over = false) : takeG r (talK r bs i).g (talP r i : Int) ((talT r bs (talK r bs i) i).1 ++ [0]) = ((talK r bs i).g, ((talT r bs (talK r bs i) i).1.length : Int), 32) := by
 refine nam_thr hr hb ho (by decide) ?_
 have := tv_more hb (cntAt r (talP r i)) i ((talK r bs i).g.inn.getD (talP r i) false) ((talK r bs i).g.left.getD (talP r i) 0) 0 [] 3 ⟨(talK r bs i).g.left.getD (talP r i) 0, 0, 0, (talK r bs i).g.inn.getD (talP r i) false, false, false⟩ (talK r bs i).a 0 rfl
 rw [Nat.zero_add] at this
 exact this
theorem nam_bad {r : LegR} (hr : r.Ok) {bs : List Int} (hb : ∀ x ∈ bs, 0 ≤ x ∧ x ≤ 255) {i j : Nat} (ho : (talK r bs i).g.over = false) (hj : j < (talT r bs (talK r bs i) i).1.length) : takeG r (talK r bs i).g (talP r i : Int) ((talT r bs (talK r bs i) i).1.set j 121) = ((talK r bs i).g, (j : Int), 2) := by
 refine nam_thr hr hb ho (by decide) ?_
 have := tv_bad hb (cntAt r (talP r i)) i ((talK r bs i).g.inn.getD (talP r i) false) ((talK r bs i).g.left.getD (talP r i) 0) 3 ⟨(talK r bs i).g.left.getD (talP r i) 0, 0, 0, (talK r bs i).g.inn.getD (talP r i) false, false, false⟩ (talK r bs i).a 0 j hj
 rw [Nat.zero_add] at this
 exact this
/-- A visit has one to three beds, each of them a bed that there is. -/
theorem nam_beds {r : LegR} {bs : List Int} (hb : ∀ x ∈ bs, 0 ≤ x ∧ x ≤ 255) (i : Nat) : 0 < (talT r bs (talK r bs i) i).1.length ∧ (talT r bs (talK r bs i) i).1.length ≤ 3 ∧ ∀ b ∈ (talT r bs (talK r bs i) i).1, vbed b = true := by
 refine ⟨?_, (tv_len bs _ i 3 _ _).1, ?_⟩
 ·show 0 < (tvB bs _ i 3 ⟨_, 0, 0, _, false, false⟩ _).1.length
  rw [tvB, if_neg (by unfold Thr.ended; simp)]
  exact Nat.succ_pos _
 ·have : ∀ (c : Cnt) (f : Nat) (t : Thr) (a : Nat), ∀ b ∈ (tvB bs c i f t a).1, vbed b = true := by
   intro c f
   induction f with
   | zero => intro t a b hx; exact absurd hx (by unfold tvB; simp)
   | succ f ih =>
    intro t a b hx
    unfold tvB at hx
    by_cases he : t.ended = true
    ·rw [if_pos he] at hx; exact absurd hx (by simp)
    ·rw [if_neg he] at hx
     rcases List.mem_cons.1 hx with h | h
     ·rw [h]; exact hbed_ok hb a
     ·exact ih _ _ _ h
  exact this _ _ _ _
/-- What holds of a hand's tale. -/
theorem nam_facts {h : Hnd} {r : LegR} {m : Nat} (hy : (∀ x ∈ h.starts, 0 ≤ x ∧ x ≤ 65535) ∧ (0 ≤ h.gates ∧ h.gates ≤ 255) ∧ (0 ≤ h.rounds ∧ h.rounds ≤ 255) ∧ (0 ≤ h.first ∧ h.first ≤ 255) ∧ (∀ x ∈ h.beds, 0 ≤ x ∧ x ≤ 255)) (hr : hrulesF h = r) (hm : (talF h).vs.length = m) : (hcnt h ≠ [] → r.Ok ∧ vleg r = true ∧ talF h = talK r h.beds 60) ∧ (talF h).vs.length = m ∧ m ≤ 60 ∧ ∀ x ∈ (talF h).vs, x.2.length ≤ 3 := by
 obtain ⟨h16, hg8, hr8, hf8, hb8⟩ := hy
 subst hr
 have h0 : hcnt h = [] → talF h = talK (hrulesF h) h.beds 0 := fun e => by unfold talF; rw [if_pos e]
 have h1 : hcnt h ≠ [] → (hrulesF h).Ok ∧ vleg (hrulesF h) = true ∧ talF h = talK (hrulesF h) h.beds 60 := fun e => ⟨hr_ok h16 hg8 hf8 e, hr_leg h16 hg8 hr8 hf8 e, by unfold talF; rw [if_neg e]⟩
 refine ⟨h1, hm, ?_, fun x hx => ?_⟩
 ·by_cases e : hcnt h = []
  ·rw [← hm, h0 e]; exact Nat.zero_le _
  ·obtain ⟨a, _, c⟩ := h1 e
   rw [← hm, c]; exact (tal_inv a hb8 60).le
 ·by_cases e : hcnt h = []
  ·rw [h0 e] at hx; cases hx
  ·obtain ⟨a, _, c⟩ := h1 e
   rw [c] at hx
   obtain ⟨i, hi⟩ := List.getElem?_of_mem hx
   have hlt := (List.getElem?_eq_some_iff.1 hi).1
   rw [(tal_pre a hb8 60 i hlt).2.2.1] at hi
   cases hi
   exact (nam_beds hb8 i).2.1
end
section
open Go.RowKit Go.Maps Go.Sort Go.Shelf Go.Deep
section
variable {w W W' : World} {Z : Nat} {g : LegG} {vs : List (Int × List Int)} {vv : Nat → Value} {nn : Nat → Nat} {xx : Nat → List Value}
theorem TlR.below (h : TlR w Z g vs vv nn xx W) (hB : Below W.heap.size W W') : TlR w Z g vs vv nn xx W' := by
 obtain ⟨bv, h1, h2⟩ := h.vis
 exact ⟨h.bel.trans (hB.mono h.bel.size), Nat.le_trans h.siz hB.size, h.zge, h.rows.below hB, h.x0, h.x1, h.x2, h.x3, h.x4, bv, h1, h2.below hB⟩
theorem TlR.base {w0 : World} (h : TlR w Z g vs vv nn xx W) (hB : Below w0.heap.size w0 w) : TlR w0 Z g vs vv nn xx W :=
 ⟨hB.trans (h.bel.mono hB.size), h.siz, Nat.le_trans hB.size h.zge, h.rows, h.x0, h.x1, h.x2, h.x3, h.x4, h.vis⟩
theorem own_blk {w : World} {B k n g : Nat} {T : TypeId} {v : Value} {xs : List Value} (h : w.ownsRow B T k v n xs) (hg : v.ownBlock = some g) : ∃ cs, w.heap[g]? = some (.cells cs T (0, 0)) := by
 rcases h.2 with ⟨e1, _⟩ | ⟨g', cap, cur, e1, h3, h4, h5⟩
 ·rw [e1] at hg; cases hg
 ·rw [e1] at hg
  have e2 : g' = g := by simpa [Value.ownBlock] using hg
  subst e2
  exact ⟨cur, h4⟩
/-- Blocks of other types are written. -/
theorem TlR.keep (h : TlR w Z g vs vv nn xx W) (hb : Below w.heap.size w W') (hz : W.heap.size ≤ W'.heap.size) (hk : ∀ (j : Nat) (cs : Array Value) (T : TypeId), W.heap[j]? = some (Obj.cells cs T (0, 0)) → (T = 3 ∨ T = 4 ∨ T = 84 ∨ T = 34) → W'.heap[j]? = W.heap[j]?) : TlR w Z g vs vv nn xx W' := by
 obtain ⟨bv, h1, h2⟩ := h.vis
 refine ⟨hb, Nat.le_trans h.siz hz, h.zge, ⟨fun i hi => ownsRow_heap (h.rows.own i hi) (fun q hq => ?_), h.rows.dis⟩, h.x0, h.x1, h.x2, h.x3, h.x4, bv, h1, h2.keep (fun i hi q hq => ?_)⟩
 ·obtain ⟨cs, e⟩ := own_blk (h.rows.own i hi) hq
  refine hk q cs _ e ?_
  show tlT i = _ ∨ tlT i = _ ∨ tlT i = _ ∨ tlT i = _
  rcases (by omega : i = 0 ∨ i = 1 ∨ i = 2 ∨ i = 3 ∨ i = 4 ∨ i = 5) with rfl | rfl | rfl | rfl | rfl | rfl
  ·exact .inl rfl
  ·exact .inl rfl
  ·exact .inr (.inl rfl)
  ·exact .inl rfl
  ·exact .inl rfl
  ·exact .inr (.inr (.inl rfl))
 ·obtain ⟨cs, e⟩ := own_blk (h2.own i hi) hq
  exact hk q cs _ e (.inr (.inr (.inr rfl)))
/-- The visits of a tale. -/
def lvT (vs : List (Int × List Int)) (bv : Nat → Value) : List (Int × Value × List Int) := (List.range vs.length).map (fun i => ((vs.getD i (0, [])).1, bv i, (vs.getD i (0, [])).2))
theorem lvT_len (vs : List (Int × List Int)) (bv : Nat → Value) : (lvT vs bv).length = vs.length := by unfold lvT; rw [List.length_map, List.length_range]
theorem lvT_cells (vs : List (Int × List Int)) (bv : Nat → Value) : ((lvT vs bv).map encV).flatten = tlVs vs bv := by
 unfold lvT tlVs
 rw [List.map_map, List.flatMap]
 rfl
theorem lvT_prV (vs : List (Int × List Int)) (bv : Nat → Value) : (lvT vs bv).map prV = vs := by
 unfold lvT
 rw [List.map_map]
 apply List.ext_getElem?
 intro i
 rw [List.getElem?_map]
 by_cases hi : i < vs.length
 ·rw [List.getElem?_range hi, List.getElem?_eq_getElem hi]
  show some ((vs.getD i (0, [])).1, (vs.getD i (0, [])).2) = _
  rw [List.getD_eq_getElem?_getD, List.getElem?_eq_getElem hi]; rfl
 ·rw [List.getElem?_eq_none (by rw [List.length_range]; omega), List.getElem?_eq_none (by omega)]; rfl
theorem tlr_vis (h : TlR w Z g vs vv nn xx W) (hl : vs.length ≤ 1000) (hbl : ∀ x ∈ vs, x.2.length ≤ 1000) : ∃ lv, Sl W 2 encV (vv 5) lv ∧ (∀ x ∈ lv, Sl W 1 eI x.2.1 x.2.2) ∧ lv.map prV = vs ∧ lv.length = vs.length ∧ (∃ a c, vv 5 = .slice a vs.length c) ∧ (0 < vs.length → ∃ b c, vv 5 = .slice (some ⟨b, 0, none⟩) vs.length c ∧ vs.length ≤ c ∧ b < W.heap.size) := by
 obtain ⟨bv, h1, h2⟩ := h.vis
 have ho := h.rows.own 5 (by decide)
 change W.ownsRow Z 84 2 (vv 5) (nn 5) (xx 5) at ho
 have hn : nn 5 = vs.length := by
  have := ho.1
  rw [h1, tlVs_len] at this
  omega
 rw [hn, h1, ← lvT_cells, ← lvT_len vs bv] at ho
 have hs := sl_owns (enc := encV) (fun _ => rfl) (by rw [lvT_len]; omega) ho
 refine ⟨lvT vs bv, hs, fun x hx => ?_, lvT_prV vs bv, lvT_len vs bv, ?_, fun hpos => ?_⟩
 ·obtain ⟨i, hi, rfl⟩ := List.mem_map.1 hx
  have hi := List.mem_range.1 hi
  have ho := h2.own i hi
  refine sl_owns (base := Z) (e := 34) (enc := eI) (fun _ => rfl) ?_ ?_
  ·show (vs.getD i (0, [])).2.length ≤ _
   have := hbl (vs.getD i (0, [])) (by rw [List.getD_eq_getElem?_getD, List.getElem?_eq_getElem hi]; exact List.getElem_mem hi)
   omega
  ·have e : ((vs.getD i (0, [])).2.map eI).flatten = (vs.getD i (0, [])).2.map (Value.int .i64) := by
    generalize (vs.getD i (0, [])).2 = l
    induction l with
    | nil => rfl
    | cons a l ih => rw [List.map_cons, List.flatten_cons, List.map_cons, ih]; rfl
   rw [e]; exact ho
 ·obtain ⟨a, c, e⟩ := owns_form3 ho
  rw [lvT_len] at e
  exact ⟨a, c, e⟩
 ·rcases ho.2 with ⟨_, e⟩ | ⟨g, cap, cur, e, h3, h4, h5, h6⟩
  ·rw [lvT_len] at e; omega
  ·rw [lvT_len] at e h5
   exact ⟨g, cap, e, by omega, (Array.getElem?_eq_some_iff.1 h4).1⟩
end
/-- A hand's rules, a hand's tale, as values. -/
def RulV (h : Hnd) (x : Value) (ww : World) : Prop := ∃ vc, x = legRV (hrulesF h) vc ∧ ww.ownsRow 0 24 3 vc (hcnt h).length (((hcnt h).map encC).flatten)
def TalV (h : Hnd) (wr : World) (x : Value) (ww : World) : Prop := ∃ Z vv nn xx, x = .agg (tlC vv (talF h).g.round (talF h).g.over) ∧ TlR wr Z (talF h).g (talF h).vs vv nn xx ww
theorem RulV.below {h : Hnd} {x : Value} {W W' : World} (h1 : RulV h x W) (hB : Below W.heap.size W W') : RulV h x W' := by
 obtain ⟨vc, e, hs⟩ := h1; exact ⟨vc, e, ownsRow_below hs hB⟩
theorem TalV.below {h : Hnd} {wr : World} {x : Value} {W W' : World} (h1 : TalV h wr x W) (hB : Below W.heap.size W W') : TalV h wr x W' := by
 obtain ⟨Z, vv, nn, xx, e, ht⟩ := h1; exact ⟨Z, vv, nn, xx, e, ht.below hB⟩
/-- A slice without elements; a row of one's own; a visit with such a row; copies of visits. -/
def NilO (B : Nat) (x : Value) (ww : World) : Prop := ∃ g, x = .slice (some ⟨g, 0, none⟩) 0 0 ∧ B ≤ g ∧ ww.heap[g]? = some (.cells #[] 34 (0, 0))
def OwnB (B : Nat) (bs : List Int) (x : Value) (ww : World) : Prop := ww.ownsRow B 34 1 x bs.length ((bs.map eI).flatten) ∧ RowB ww 1 eI 34 x bs
def AggO (B : Nat) (p : Int) (bs : List Int) (x : Value) (ww : World) : Prop := ∃ u, x = .agg #[.int .i64 p, u] ∧ OwnB B bs u ww
theorem NilO.below {B : Nat} {x : Value} {W W' : World} (h : NilO B x W) (hB : Below W.heap.size W W') : NilO B x W' := by
 obtain ⟨g, e, h1, h2⟩ := h; exact ⟨g, e, h1, (hB.block _ (Array.getElem?_eq_some_iff.1 h2).1).trans h2⟩
theorem OwnB.below {B : Nat} {bs : List Int} {x : Value} {W W' : World} (h : OwnB B bs x W) (hB : Below W.heap.size W W') : OwnB B bs x W' := ⟨ownsRow_below h.1 hB, h.2.below hB⟩
theorem AggO.below {B : Nat} {p : Int} {bs : List Int} {x : Value} {W W' : World} (h : AggO B p bs x W) (hB : Below W.heap.size W W') : AggO B p bs x W' := by
 obtain ⟨u, e, h1⟩ := h; exact ⟨u, e, h1.below hB⟩
/-- Copies of visits, in a row of one's own. -/
def VisO (B : Nat) (l : List (Int × List Int)) (x : Value) (ww : World) : Prop := ∃ lv : List (Int × Value × List Int), ww.ownsRow B 84 2 x lv.length ((lv.map encV).flatten) ∧ (∀ y ∈ lv, RowB ww 1 eI 34 y.2.1 y.2.2) ∧ lv.map prV = l
theorem VisO.below {B : Nat} {l : List (Int × List Int)} {x : Value} {W W' : World} (h : VisO B l x W) (hB : Below W.heap.size W W') : VisO B l x W' := by
 obtain ⟨lv, h1, h2, h3⟩ := h; exact ⟨lv, ownsRow_below h1 hB, fun y hy => (h2 y hy).below hB, h3⟩
theorem VisO.mono {B B' : Nat} {l : List (Int × List Int)} {x : Value} {W : World} (h : VisO B l x W) (hB : B' ≤ B) : VisO B' l x W := by
 obtain ⟨lv, h1, h2, h3⟩ := h; exact ⟨lv, own_mono h1 hB, h2, h3⟩
def OneW (p : Int) (u x : Value) (ww : World) : Prop := ∃ g, x = .slice (some ⟨g, 0, none⟩) 1 1 ∧ ww.heap[g]? = some (.cells #[.int .i64 p, u] 84 (0, 0))
theorem OneW.below {p : Int} {u x : Value} {W W' : World} (h : OneW p u x W) (hB : Below W.heap.size W W') : OneW p u x W' := by
 obtain ⟨g, e, h2⟩ := h; exact ⟨g, e, (hB.block _ (Array.getElem?_eq_some_iff.1 h2).1).trans h2⟩
/-- A leg's state, what Judge returns, as values. -/
def StS (g : LegG) (v : Value) (ww : World) : Prop := ∃ vl vd vi vw, v = .agg #[vl, vd, vi, .int .i64 g.next, .int .i64 g.round, .bool g.over, vw] ∧ Sl ww 1 eI vl g.left ∧ Sl ww 1 eI vd g.darts ∧ Sl ww 1 eB vi g.inn ∧ Sl ww 1 eI vw g.wins
theorem StS.below {g : LegG} {v : Value} {W W' : World} (h : StS g v W) (hB : Below W.heap.size W W') : StS g v W' := by
 obtain ⟨vl, vd, vi, vw, e, h1, h2, h3, h4⟩ := h; exact ⟨vl, vd, vi, vw, e, h1.below hB, h2.below hB, h3.below hB, h4.below hB⟩
def JudV (g : LegG) (fs : List (Int × Int × Int)) (x : Value) (ww : World) : Prop := ∃ vs vf, x = .tuple #[vs, vf, .int .i64 0] ∧ StS g vs ww ∧ Sl ww 3 encF vf fs
theorem JudV.below {g : LegG} {fs : List (Int × Int × Int)} {v : Value} {W W' : World} (h : JudV g fs v W) (hB : Below W.heap.size W W') : JudV g fs v W' := by
 obtain ⟨vs, vf, e, h1, h2⟩ := h; exact ⟨vs, vf, e, h1.below hB, h2.below hB⟩
theorem JudgeOk.judV {r : LegR} {l : List (Int × List Int)} {w w' : World} {e : Ending} {g : LegG} {fs : List (Int × Int × Int)} (h : JudgeOk r l w e w') (hE : judgeE r l = 0) (hK : judgeK r l l.length = (g, fs)) : Below w.heap.size w w' ∧ ∃ x, e = .returned x ∧ JudV g fs x w' := by
 obtain ⟨hB, vs, vf, rfl, h1, -⟩ := h
 obtain ⟨⟨vl, vd, vi, vw, e, a1, a2, a3, a4, -⟩, h3, -⟩ := h1 hE
 rw [hK] at e a1 a2 a3 a4 h3
 exact ⟨hB, _, by rw [hE], vs, vf, rfl, ⟨vl, vd, vi, vw, e, a1, a2, a3, a4⟩, h3⟩
def RulX (r : LegR) (x : Value) (ww : World) : Prop := ∃ vc, x = .agg #[vc, .int .i64 r.first, .int .i64 r.rounds, .bool r.equal] ∧ Sl ww 3 encC vc r.counts
theorem RulX.below {r : LegR} {x : Value} {W W' : World} (h1 : RulX r x W) (hB : Below W.heap.size W W') : RulX r x W' := by
 obtain ⟨vc, e, hs⟩ := h1; exact ⟨vc, e, hs.below hB⟩
def VisS (l : List (Int × List Int)) (x : Value) (ww : World) : Prop := ∃ lv : List (Int × Value × List Int), Sl ww 2 encV x lv ∧ (∀ y ∈ lv, Sl ww 1 eI y.2.1 y.2.2) ∧ lv.map prV = l
theorem VisS.below {l : List (Int × List Int)} {x : Value} {W W' : World} (h : VisS l x W) (hB : Below W.heap.size W W') : VisS l x W' := by
 obtain ⟨lv, h1, h2, h3⟩ := h; exact ⟨lv, h1.below hB, fun y hy => (h2 y hy).below hB, h3⟩
/-- While a state is put into a block of its own: A allocates it (slot u), S stores slot v. -/
structure CJ (base : World) (A S u v : Nat) (listed : Array Bool) (a : Act) (W : World) : Prop where
 bel : Below base.heap.size base W
 blk : listed.getD A false = true → ∃ g, a.tmps.getD u undef = .pointer (some ⟨g, 0, none⟩) ∧ base.heap.size ≤ g ∧ g < W.heap.size ∧ (listed.getD S false = false → W.heap[g]? = some (.cells #[.slice none 0 0, .slice none 0 0, .slice none 0 0, .int .i64 0, .int .i64 0, .bool false, .slice none 0 0] 51 (0, 0))) ∧ (listed.getD S false = true → ∃ x0 x1 x2 x3 x4 x5 x6, a.tmps.getD v undef = .agg #[x0, x1, x2, x3, x4, x5, x6] ∧ W.heap[g]? = some (.cells #[x0, x1, x2, x3, x4, x5, x6] 51 (0, 0)))
section
variable {base W W' : World} {A S u v : Nat} {listed : Array Bool} {a : Act}
theorem CJ.start (m : Nat) (a : Act) : CJ base A S u v (Array.replicate m false) a base.drew := by
 refine ⟨(Below.refl _ _).drew, fun e => ?_⟩
 rw [rep_false] at e; cases e
theorem CJ.other (h : CJ base A S u v listed a W) {i t : Nat} {x : Value} (hi : (decide (i ≠ A) && decide (i ≠ S) && decide (t ≠ u) && decide (t ≠ v)) = true) (hB : Below W.heap.size W W') : CJ base A S u v (listed.setIfInBounds i true) (a.put (some t) x) W' := by
 simp only [Bool.and_eq_true, decide_eq_true_eq] at hi
 obtain ⟨⟨⟨iA, iS⟩, tu⟩, tv⟩ := hi
 refine ⟨h.bel.trans (hB.mono h.bel.size), fun e => ?_⟩
 rw [getD_set_ne _ _ _ _ (Ne.symm iA)] at e
 obtain ⟨g, g1, g2, g3, g4, g5⟩ := h.blk e
 refine ⟨g, by rw [getD_put (Ne.symm tu)]; exact g1, g2, Nat.lt_of_lt_of_le g3 hB.size, fun e2 => ?_, fun e2 => ?_⟩
 ·rw [getD_set_ne _ _ _ _ (Ne.symm iS)] at e2; exact (hB.block g g3).trans (g4 e2)
 ·rw [getD_set_ne _ _ _ _ (Ne.symm iS)] at e2
  obtain ⟨x0, x1, x2, x3, x4, x5, x6, k1, k2⟩ := g5 e2
  exact ⟨x0, x1, x2, x3, x4, x5, x6, by rw [getD_put (Ne.symm tv)]; exact k1, (hB.block g g3).trans k2⟩
theorem CJ.val (h : CJ base A S u v listed a W) {i : Nat} {x : Value} (hi : (decide (i ≠ A) && decide (i ≠ S) && decide (v ≠ u)) = true) (hS : listed.getD S false = false) : CJ base A S u v (listed.setIfInBounds i true) (a.put (some v) x) W := by
 simp only [Bool.and_eq_true, decide_eq_true_eq] at hi
 obtain ⟨⟨iA, iS⟩, tu⟩ := hi
 refine ⟨h.bel, fun e => ?_⟩
 rw [getD_set_ne _ _ _ _ (Ne.symm iA)] at e
 obtain ⟨g, g1, g2, g3, g4, g5⟩ := h.blk e
 refine ⟨g, by rw [getD_put (Ne.symm tu)]; exact g1, g2, g3, fun _ => g4 hS, fun e2 => ?_⟩
 rw [getD_set_ne _ _ _ _ (Ne.symm iS), hS] at e2; cases e2
theorem CJ.alloc (h : CJ base A S u v listed a W) (ht : u < a.tmps.size) (hS : listed.getD S false = false) (hne : A ≠ S) : CJ base A S u v (listed.setIfInBounds A true) (a.put (some u) (.pointer (some ⟨W.heap.size, 0, none⟩))) (W.alloc (.cells #[.slice none 0 0, .slice none 0 0, .slice none 0 0, .int .i64 0, .int .i64 0, .bool false, .slice none 0 0] 51)) :=
 ⟨h.bel.alloc h.bel.size _, fun _ => ⟨W.heap.size, getDV_set_self _ _ _ _ ht, h.bel.size, by simp, fun _ => World.alloc_heap_new _ _, fun e2 => by rw [getD_set_ne _ _ _ _ (Ne.symm hne), hS] at e2; cases e2⟩⟩
theorem CJ.store (h : CJ base A S u v listed a W) (hA : listed.getD A false = true) (hl : S < listed.size) (hne : A ≠ S) {g : Nat} (hg : a.tmps.getD u undef = .pointer (some ⟨g, 0, none⟩)) (hS : listed.getD S false = false) {x0 x1 x2 x3 x4 x5 x6 : Value} (hv : a.tmps.getD v undef = .agg #[x0, x1, x2, x3, x4, x5, x6]) (a' : Act) (ha : a'.tmps = a.tmps) : CJ base A S u v (listed.setIfInBounds S true) a' (((((((W.setCell ⟨g, 0, none⟩ x0).setCell ⟨g, 1, none⟩ x1).setCell ⟨g, 2, none⟩ x2).setCell ⟨g, 3, none⟩ x3).setCell ⟨g, 4, none⟩ x4).setCell ⟨g, 5, none⟩ x5).setCell ⟨g, 6, none⟩ x6) := by
 obtain ⟨g', g1, g2, g3, g4, g5⟩ := h.blk hA
 rw [hg] at g1
 simp only [Value.pointer.injEq, Option.some.injEq, Addr.mk.injEq, and_true] at g1
 subst g1
 refine ⟨below_set7 h.bel g2 x0 x1 x2 x3 x4 x5 x6, fun _ => ⟨g, by rw [ha]; exact hg, g2, by simp only [World.size_setCell]; exact g3, fun e2 => ?_, fun _ => ⟨x0, x1, x2, x3, x4, x5, x6, by rw [ha]; exact hv, ?_⟩⟩⟩
 ·rw [getD_set_self _ _ _ hl] at e2; cases e2
 ·have z0 := Go.Joins.block_setCell (i := 0) (g4 hS) x0
  have z1 := Go.Joins.block_setCell (i := 1) z0 x1
  have z2 := Go.Joins.block_setCell (i := 2) z1 x2
  have z3 := Go.Joins.block_setCell (i := 3) z2 x3
  have z4 := Go.Joins.block_setCell (i := 4) z3 x4
  have z5 := Go.Joins.block_setCell (i := 5) z4 x5
  exact Go.Joins.block_setCell (i := 6) z5 x6
end
/-- The first elements of a list, and those behind them. -/
theorem Sl.pre {α : Type} {w : World} {k : Nat} {enc : α → List Value} {a : Option Addr} {n c : Nat} {xs : List α} (h : Sl w k enc (.slice a n c) xs) {i : Nat} (hi : i ≤ xs.length) (c' : Nat) : Sl w k enc (.slice a i c') (xs.take i) := by
 obtain ⟨a', c2, e, hl, hs⟩ := h
 simp only [Value.slice.injEq] at e
 obtain ⟨rfl, -, -⟩ := e
 refine ⟨a, c', by rw [List.length_take, Nat.min_eq_left hi], by rw [List.length_take]; omega, fun hne => ?_⟩
 obtain ⟨b, off, h1, h2, h3⟩ := hs (fun e => hne (by rw [e, List.take_nil]))
 refine ⟨b, off, h1, h2, fun j x hj => h3 j x ?_⟩
 rw [List.getElem?_take] at hj
 by_cases hji : j < i
 ·rw [if_pos hji] at hj; exact hj
 ·rw [if_neg hji] at hj; cases hj
theorem Sl.suf {α : Type} {w : World} {k : Nat} {enc : α → List Value} {b off n c : Nat} {xs : List α} (h : Sl w k enc (.slice (some ⟨b, off, none⟩) n c) xs) {i : Nat} (hi : i ≤ xs.length) (hb : b < w.heap.size) (c' : Nat) : Sl w k enc (.slice (some ⟨b, off + i * k, none⟩) (xs.length - i) c') (xs.drop i) := by
 obtain ⟨a', c2, e, hl, hs⟩ := h
 refine ⟨some ⟨b, off + i * k, none⟩, c', by rw [List.length_drop], by rw [List.length_drop]; omega, fun hne => ?_⟩
 obtain ⟨b', off', h1, h2, h3⟩ := hs (fun e => hne (by rw [e, List.drop_nil]))
 simp only [Value.slice.injEq] at e
 obtain ⟨rfl, -, -⟩ := e
 simp only [Option.some.injEq, Addr.mk.injEq, and_true] at h1
 obtain ⟨rfl, rfl⟩ := h1
 refine ⟨b, off + i * k, rfl, h2, fun j x hj q y hy => ?_⟩
 rw [List.getElem?_drop] at hj
 have := h3 (i + j) x hj q y hy
 rw [show off + i * k + j * k + q = off + (i + j) * k + q by rw [Nat.add_mul]; omega]
 exact this
/-- append([]T{}, v...) with at least one element: a row of one's own. -/
theorem wp_append_fresh_own {α : Type} {P : Program} (w : World) {o : Oper} {a : Act} {K : Act → World → Prop} {Q : Exit → Act → World → Prop} (s x : Operand) (t : TypeId)
  (ho : o.op = .call { callee := .builtin .append, args := #[s, x], argTypes := #[t, t] })
  (e : TypeId) (i : TypeInfo) (z : Value) (size bytes : Nat) (ht : P.underlying t = some (.slice e)) (hi : P.info? e = some i) (hz : i.zero = some z)
  (hsize : i.size = size) (hby : i.bytes = bytes) (hzs : z.cells.size = size) (hsz : 0 < size) (g : Nat) (hg : w.heap[g]? = some (.cells #[] e (0, 0))) (hs : a.eval s = .slice (some ⟨g, 0, none⟩) 0 0)
  {enc : α → List Value} {ys : List α} {vy : Value} (hx : a.eval x = vy) (hy : Sl w size enc vy ys) (henc : ∀ y, (enc y).length = size) (h1 : ∀ y ∈ ys, ∀ u ∈ enc y, u.oneCell' = true)
  (h63 : ys.length ≤ maxLen) (hbytes : ys.length * bytes ≤ 140737488355328) (hne : ys ≠ []) {B : Nat} (hB : B ≤ g)
  (h : ∀ v' w', w'.ownsRow B e size v' ys.length ((ys.map enc).flatten) → RowB w' size enc e v' ys → Below w.heap.size w w' → K (a.put o.dst v') w') : o.wp P a w K Q := by
 obtain ⟨v', w', hr, h2, h3⟩ := run_append_fresh (P := P) w t o.type e i z size bytes ht hi hz hsize hby hzs hsz g hg hy henc h1 h63 hbytes
 have hfl := flat_len enc size henc ys
 have hglt := (Array.getElem?_eq_some_iff.1 hg).1
 obtain ⟨ad, cp, rfl, hl, hc⟩ := hy
 obtain ⟨b, off, rfl, hb, hcl⟩ := hc hne
 have hnews : ∀ j u, ((ys.map enc).flatten)[j]? = some u → w.cell? ((⟨b, off, none⟩ : Addr).add j) = some u := by
  intro j u hu
  obtain ⟨q, y, i', hq, hi', rfl⟩ := flat_inv enc size henc ys j u hu
  have := hcl q y hq i' u hi'
  rw [Nat.add_assoc] at this
  unfold Addr.add
  split
  ·rename_i h0
   rw [h0, Nat.add_zero] at this
   exact this
  ·exact this
 have hown : w.ownsRow B e size (.slice (some ⟨g, 0, none⟩) 0 0) 0 [] := ⟨by simp, .inr ⟨g, 0, #[], rfl, hB, hg, Nat.le_refl _, Nat.zero_le _, by simp, by simp⟩⟩
 have h1' : ∀ u ∈ (ys.map enc).flatten, u.oneCell' = true := by
  intro u hu
  obtain ⟨l, hl, hu⟩ := List.mem_flatten.1 hu
  obtain ⟨y, hy, rfl⟩ := List.mem_map.1 hl
  exact h1 y hy u hu
 obtain ⟨v2, w2, hr2, k2, -, -⟩ := run_append_own (P := P) w B t o.type e i z size bytes ht hi hz hsize hby hzs hsz (.slice (some ⟨g, 0, none⟩) 0 0) 0 [] hown ⟨b, off, none⟩ ys.length cp ((ys.map enc).flatten) (by rw [hfl]) hnews h1' (by omega) (by rw [Nat.zero_add]; exact hbytes) (by omega)
 rw [hr] at hr2
 injection hr2 with e1 e2
 subst e1
 subst e2
 rw [Nat.zero_add, List.nil_append] at k2
 unfold Oper.wp execOp
 simp only [ho, resolve, invoke, builtin, Sem.run_bind, Sem.run_pure, Result.andThen_ok, List.map_toArray, List.map_cons, List.map_nil, hs, hx, hr]
 exact h v' w' k2 h2 h3
end
section
open Go.RowKit Go.Maps Go.Sort Go.Shelf Go.Deep
end
section
open Go.RowKit Go.Maps Go.Sort Go.Shelf Go.Deep
/-- A block, found by its number. -/
def blkAt (n : Nat) : Code → Option Code
 | .block id x => match Nat.beq id n with
  | true => some (.block id x)
  | false => blkAt n x
 | .seq x y => match blkAt n x with
  | some l => some l
  | none => blkAt n y
 | .cond _ x y => match blkAt n x with
  | some l => some l
  | none => blkAt n y
 | .loop x => blkAt n x
 | .scope x => blkAt n x
 | .rangeFunc _ _ x y => match blkAt n x with
  | some l => some l
  | none => blkAt n y
 | _ => none
def blkOf (n : Nat) (F : Func) : Option Code := match F.body with
 | some c => blkAt n c
 | none => none
end
end Go.Proofs.Ytpgamgbfjcmagaa
