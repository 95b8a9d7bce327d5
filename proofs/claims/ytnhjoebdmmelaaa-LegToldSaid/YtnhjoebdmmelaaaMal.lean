/- Leg: parts W, X, Y. -/
import Derived.BigRegion
import Derived.Test.YtnhjoebdmmelaaaMak
import Derived.Test.YtnhjoebdmmelaaaMaf
import Derived.Test.YtnhjoebdmmelaaaMae
set_option linter.unusedVariables false
set_option linter.unusedSimpArgs false
namespace Go.Proofs.Ytnhjoebdmmelaaa
section
open Go.RowKit Go.Maps Go.Sort Go.Shelf Go.Deep
theorem LegW.only {w W : World} {V gl gd gi M cl cd ci nn : Nat} {vc vw vw' : Value} {D : DataW Unit} {r : LegR} {g g' : LegG} (h : LegW w V gl gd gi M cl cd ci nn vc vw D r g) (ho : Only V w W)
  (hb : W.heap[V]? = some (.cells #[vc, .int .i64 r.first, .int .i64 r.rounds, .bool r.equal, rowV gl r.counts.length cl, rowV gd r.counts.length cd, rowV gi r.counts.length ci, .int .i64 g'.next, .int .i64 g'.round, .bool g'.over, vw', .map (some M)] 118 (0, 0)))
  (e1 : g'.left = g.left) (e2 : g'.darts = g.darts) (e3 : g'.inn = g.inn) (e4 : g'.ended = g.ended) (hw : Sl W 1 eI vw' g'.wins) (hwo : ∀ b o n c, vw' = .slice (some ⟨b, o, none⟩) n c → b ∉ [V, gl, gd, gi, M]) : LegW W V gl gd gi M cl cd ci nn vc vw' D r g' := by
 have d1 := h.d1
 simp only [List.mem_cons, List.not_mem_nil, or_false, not_or] at d1
 have hs : ∀ k, k ≠ V → k < w.heap.size → W.heap[k]? = w.heap[k]? := fun k hk hl => ho.block k hk hl
 refine ⟨hb, by rw [e1]; exact h.left.same (hs _ (Ne.symm d1.1) h.left.lt), by rw [e2]; exact h.darts.same (hs _ (Ne.symm d1.2.1) h.darts.lt), by rw [e3]; exact h.inn.same (hs _ (Ne.symm d1.2.2.1) h.inn.lt), ownsMap_same h.own (hs _ (Ne.symm d1.2.2.2) h.own.lt), by rw [e4]; exact h.rep, ?_, hw, by rw [e1]; exact h.l1, by rw [e2]; exact h.l2, by rw [e3]; exact h.l3, h.d1, h.d2, h.d3, h.d4, h.cout, hwo⟩
 exact (ho.outs (S := [V]) (by simp)).sl h.counts (fun b o n c e => by
  have := h.cout b o n c e
  simp only [List.mem_cons, List.not_mem_nil, or_false, not_or] at this ⊢
  exact this.1)
theorem passF_won (r : LegR) (g : LegG) : (passF r g).2.2 = true → (passF r g).1 = -1 := by
 have key : ∀ (c : Bool) (rd nx : Int), (if c = true then ((-1 : Int), rd, true) else (nx, rd, false)).2.2 = true → (if c = true then ((-1 : Int), rd, true) else (nx, rd, false)).1 = -1 := by
  intro c rd nx; cases c <;> simp
 exact key _ _ _
def PassG (V gl gd gi M cl cd ci nn : Nat) (vc vw : Value) (D : DataW Unit) (r : LegR) (g : LegG) (w : World) (e : Ending) (w' : World) : Prop :=
 (∃ v, e = .returned v) ∧ Only V w w' ∧ ∃ vw', ((vw' = vw ∧ (passG r g).wins = g.wins) ∨ ∀ b o n c, vw' = .slice (some ⟨b, o, none⟩) n c → w.heap.size ≤ b) ∧ LegW w' V gl gd gi M cl cd ci nn vc vw' D r (passG r g)
theorem pass_any {V gl gd gi M cl cd ci nn : Nat} {vc vw : Value} {D : DataW Unit} {r : LegR} {g : LegG} (w : World) (h : LegW w V gl gd gi M cl cd ci nn vc vw D r g) (hne : r.counts ≠ []) (hn : r.counts.length ≤ 1000) (he : g.ended.length ≤ 1000) (hl : ∀ x ∈ g.left, -9223372036854775808 ≤ x ∧ x ≤ 9223372036854775807)
  (x0 : 0 ≤ g.next) (x1 : g.next < 1000) (r0 : 0 ≤ g.round) (r1 : g.round ≤ 1000000) :
  Calls Try.prog 76 #[.pointer (some ⟨V, 0, none⟩)] w (PassG V gl gd gi M cl cd ci nn vc vw D r g w) := by
 have n0 : ¬ r.counts.length = 0 := fun e => hne (List.eq_nil_of_length_eq_zero e)
 have hgl : g.left ≠ [] := by intro e; have := h.l1; rw [e] at this; exact n0 (by simpa using this.symm)
 have d1 := h.d1
 simp only [List.mem_cons, List.not_mem_nil, or_false, not_or] at d1
 have hMV : M ≠ V := Ne.symm d1.2.2.2
 obtain ⟨nx, hnx⟩ : ∃ nx, (g.next + 1) % (r.counts.length : Int) = nx := ⟨_, rfl⟩
 have hc := h.counts
 obtain ⟨a, cp, rfl, hlc, _⟩ := hc
 have hwin : ∀ W, Only V w W → W.heap[V]? ≠ none → (∃ rd, W.heap[V]? = some (.cells #[.slice a r.counts.length cp, .int .i64 r.first, .int .i64 r.rounds, .bool r.equal, rowV gl r.counts.length cl, rowV gd r.counts.length cd, rowV gi r.counts.length ci, .int .i64 nx, .int .i64 rd, .bool g.over, vw, .map (some M)] 118 (0, 0))) →
   Calls Try.prog 88 #[.pointer (some ⟨V, 0, none⟩)] W (RetOwn (winL g) W) := by
  intro W hO _ ⟨rd, hb⟩
  have h' : LegW W V gl gd gi M cl cd ci nn (.slice a r.counts.length cp) vw D r { g with next := nx, round := rd } := by
   refine h.only hO hb rfl rfl rfl rfl ?_ h.wout
   exact (hO.outs (S := [V]) (by simp)).sl h.wins (fun b o n c e => by
    have := h.wout b o n c e
    simp only [List.mem_cons, List.not_mem_nil, or_false, not_or] at this ⊢
    exact this.1)
  have hw' := winners_any W h' hne hn he hl
  exact hw'
 have key : ∀ res : Int × Int × Bool, passF r g = res → Calls Try.prog 76 #[.pointer (some ⟨V, 0, none⟩)] w (PassOk V (fun u x y o => .cells #[.slice a r.counts.length cp, .int .i64 r.first, .int .i64 r.rounds, .bool r.equal, rowV gl r.counts.length cl, rowV gd r.counts.length cd, rowV gi r.counts.length ci, .int .i64 x, .int .i64 y, .bool o, u, .map (some M)] 118 (0, 0)) vw g.over res (winL g) w) →
   Calls Try.prog 76 #[.pointer (some ⟨V, 0, none⟩)] w (PassG V gl gd gi M cl cd ci nn (.slice a r.counts.length cp) vw D r g w) := by
  intro res hres hcall
  refine hcall.mono ?_
  rintro e w' ⟨hv, hO, hif⟩
  refine ⟨hv, hO, ?_⟩
  have hwk : ∀ {W : World}, Only V w W → Sl W 1 eI vw g.wins := fun hO => (hO.outs (S := [V]) (by simp)).sl h.wins (fun b o n c e => by
    have := h.wout b o n c e
    simp only [List.mem_cons, List.not_mem_nil, or_false, not_or] at this ⊢
    exact this.1)
  by_cases h3 : res.2.2 = true
  ·rw [if_pos h3] at hif
   obtain ⟨gw, cw, hb, hgw, hsl⟩ := hif
   refine ⟨rowV gw (winL g).length cw, .inr (fun b o n c e => ?_), ?_⟩
   ·simp only [Value.slice.injEq, Option.some.injEq, Addr.mk.injEq, and_true] at e
    omega
   have hp : passG r g = { g with next := -1, round := res.2.1, over := true, wins := winL g } := by unfold passG; rw [hres, if_pos h3]
   have hr1 : res.1 = -1 := by
    rw [← hres] at h3 ⊢
    exact passF_won r g h3
   rw [hp]
   refine h.only hO (by rw [hb, hr1]) rfl rfl rfl rfl hsl (fun b o n c e => ?_)
   simp only [Value.slice.injEq, Option.some.injEq, Addr.mk.injEq, and_true] at e
   have l1 := h.left.lt
   have l2 := h.darts.lt
   have l3 := h.inn.lt
   have l4 := h.own.lt
   have l5 := (Array.getElem?_eq_some_iff.1 h.blk).1
   simp only [List.mem_cons, List.not_mem_nil, or_false, not_or]
   omega
  ·rw [if_neg h3] at hif
   have hp : passG r g = { g with next := res.1, round := res.2.1 } := by unfold passG; rw [hres, if_neg h3]
   refine ⟨vw, .inl ⟨rfl, by rw [hp]⟩, ?_⟩
   rw [hp]
   exact h.only hO hif rfl rfl rfl rfl (hwk hO) h.wout
 have hsz := h.rep.size
 have hV := h.blk
 have ho := h.own
 by_cases hE : g.ended = []
 ·have hE0 : Maps.size D = 0 := by rw [hsz, hE]; rfl
  cases hcomp : (nx == r.first) with
  | true =>
   cases hrr : (g.round + 1 == r.rounds) with
   | true => exact key (-1, g.round + 1, true) (by simp [passF, hnx, hcomp, hE, hrr, bne]) (pass_c_rr V gl gd gi M cl cd ci nn _ a cp vw r.first r.rounds g.next g.round nx r.equal g.over D (winL g) w hV ho n0 hn x0 x1 hnx r0 r1 (winL_ne hgl) hMV hwin hcomp hE0 hrr)
   | false => exact key (nx, g.round + 1, false) (by simp [passF, hnx, hcomp, hE, hrr, bne]) (pass_c_no V gl gd gi M cl cd ci nn _ a cp vw r.first r.rounds g.next g.round nx r.equal g.over D (winL g) w hV ho n0 hn x0 x1 hnx r0 r1 (winL_ne hgl) hMV hwin hcomp hE0 hrr)
  | false => exact key (nx, g.round, false) (by simp [passF, hnx, hcomp, hE, bne]) (pass_n_no V gl gd gi M cl cd ci nn _ a cp vw r.first r.rounds g.next g.round nx r.equal g.over D (winL g) w hV ho n0 hn x0 x1 hnx r0 r1 (winL_ne hgl) hMV hwin hcomp hE0)
 ·have hE1 : (0 : Int) < ((Maps.size D : Nat) : Int) := by rw [hsz]; have := List.length_pos_iff.2 hE; omega
  have hEE : g.ended.isEmpty = false := by simpa using hE
  cases hcomp : (nx == r.first) with
  | true => exact key (-1, g.round + 1, true) (by unfold passF; simp only [hnx, hcomp, hEE]; simp) (pass_c_won V gl gd gi M cl cd ci nn _ a cp vw r.first r.rounds g.next g.round nx r.equal g.over D (winL g) w hV ho n0 hn x0 x1 hnx r0 r1 (winL_ne hgl) hMV hwin hcomp hE1)
  | false =>
   cases heq : r.equal with
   | true =>
    rw [heq] at hV hwin key
    exact key (nx, g.round, false) (by unfold passF; simp only [hnx, hcomp, hEE, heq]; simp) (pass_n_eq V gl gd gi M cl cd ci nn _ a cp vw r.first r.rounds g.next g.round nx g.over D (winL g) w hV ho n0 hn x0 x1 hnx r0 r1 (winL_ne hgl) hMV hwin hcomp hE1)
   | false =>
    rw [heq] at hV hwin key
    exact key (-1, g.round, true) (by unfold passF; simp only [hnx, hcomp, hEE, heq]; simp) (pass_n_won V gl gd gi M cl cd ci nn _ a cp vw r.first r.rounds g.next g.round nx g.over D (winL g) w hV ho n0 hn x0 x1 hnx r0 r1 (winL_ne hgl) hMV hwin hcomp hE1)
def putA (ps : List (Int × Int)) (k v : Int) : List (Int × Int) := if k ∈ ps.map (·.1) then ps.map (fun q => if q.1 = k then (k, v) else q) else ps ++ [(k, v)]
theorem Rep.putA {D : DataW Unit} {ps : List (Int × Int)} (h : Rep D ps) (k v : Int) : Rep (D.put (.int .i64 k) (.lit (.int .i64 v))) (putA ps k v) := by
 unfold Go.Proofs.Ytnhjoebdmmelaaa.putA
 by_cases hk : k ∈ ps.map (·.1)
 ·rw [if_pos hk]
  have hkeys : (ps.map (fun q => if q.1 = k then (k, v) else q)).map (·.1) = ps.map (·.1) := by
   rw [List.map_map]
   refine List.map_congr_left fun q hq => ?_
   simp only [Function.comp]
   split
   ·rename_i e; exact e.symm
   ·rfl
  have hh : Maps.has D (.int .i64 k) = true := (h.mem k).2 hk
  refine ⟨h.tidy.put (show WideAt.IsKeyLit (.int .i64 k) from trivial) _, by rw [hkeys]; exact h.nodup, fun x => ?_, fun p hp zd => ?_, ?_⟩
  ·rw [hkeys]
   by_cases e : x = k
   ·subst e; rw [has_put_same h.tidy.isMap (show WideAt.IsKeyLit (.int .i64 x) from trivial)]; simp only [true_iff]; exact hk
   ·rw [has_put_other (by intro h; cases h; exact e rfl), h.mem]
  ·obtain ⟨q, hq, rfl⟩ := List.mem_map.1 hp
   by_cases e : q.1 = k
   ·simp only [e, if_true]
    exact atKey_put_same h.tidy.isMap (show WideAt.IsKeyLit (.int .i64 k) from trivial) _ _
   ·simp only [if_neg e]
    rw [atKey_put_other (by intro h; cases h; exact e rfl)]; exact h.val q hq zd
  ·rw [size_put h.tidy, hh, if_pos rfl, h.size]; simp
 ·rw [if_neg hk]; exact h.put hk
end
section
open Go.RowKit Go.Maps Go.Sort Go.Shelf Go.Deep
theorem putA_mem {ps : List (Int × Int)} {k v : Int} {q : Int × Int} (h : q ∈ putA ps k v) : q.1 = k ∨ q ∈ ps := by
 unfold putA at h
 split at h
 ·obtain ⟨x, hx, rfl⟩ := List.mem_map.1 h
  split
  ·exact .inl rfl
  ·exact .inr hx
 ·rcases List.mem_append.1 h with h | h
  ·exact .inr h
  ·simp at h; subst h; exact .inl rfl
theorem nodup_bd : ∀ (n : Nat) (xs : List Int), xs.Nodup → (∀ x ∈ xs, 0 ≤ x ∧ x < (n : Int)) → xs.length ≤ n := by
 intro n
 induction n with
 | zero =>
  intro xs _ h
  cases xs with
  | nil => exact Nat.le_refl _
  | cons x xs => have := h x (by simp); omega
 | succ n ih =>
  intro xs hn h
  have h1 := ih (xs.erase (n : Int)) (hn.erase _) (fun x hx => by
   have h2 := h x (List.mem_of_mem_erase hx)
   have h3 : x ≠ (n : Int) := fun e => by
    subst e
    exact (List.Nodup.mem_erase_iff hn).1 hx |>.1 rfl
   omega)
  rw [List.length_erase] at h1
  split at h1 <;> omega
def takeT (r : LegR) (g : LegG) (k : Nat) (bs : List Int) : Thr × Int × Int := thr (r.counts.getD k (0, 0, 0)) (g.inn.getD k false) (g.left.getD k 0) bs
def hitG (g : LegG) (k : Nat) (t : Thr) : LegG :=
 { g with left := g.left.set k t.left, inn := g.inn.set k t.inn, darts := g.darts.set k (g.darts.getD k 0 + t.darts), ended := if t.won = true then putA g.ended k t.darts else g.ended }
def takeG (r : LegR) (g : LegG) (p : Int) (bs : List Int) : LegG × Int × Int :=
 if g.over = true then (g, -1, 33)
 else if inb 0 ((r.counts.length : Int) - 1) p = true then
  (if p = g.next then
   (if (takeT r g p.toNat bs).2.2 = 0 then (passG r (hitG g p.toNat (takeT r g p.toNat bs).1), -1, 0) else (g, (takeT r g p.toNat bs).2.1, (takeT r g p.toNat bs).2.2))
  else (g, -1, 30))
 else (g, -1, 2)
theorem thrL_bd (c : Cnt) (in0 : Bool) (left0 : Int) (h0 : 0 ≤ left0) (h1 : left0 ≤ 1001) : ∀ (bs : List Int) (t : Thr) (i : Nat), t.Ok i → 0 ≤ (thrL c in0 left0 t i bs).1.left ∧ (thrL c in0 left0 t i bs).1.left ≤ 1001 ∧ 0 ≤ (thrL c in0 left0 t i bs).1.darts ∧ (thrL c in0 left0 t i bs).1.darts ≤ 3 := by
 intro bs
 have z : 0 ≤ Thr.zero.left ∧ Thr.zero.left ≤ 1001 ∧ 0 ≤ Thr.zero.darts ∧ Thr.zero.darts ≤ 3 := by decide
 induction bs with
 | nil =>
  intro t i h
  unfold thrL
  split
  ·have := h.l0; have := h.l1; have := h.d; have := h.n3
   unfold Thr.fin
   split <;> simp only [] <;> omega
  ·exact z
 | cons b bs ih =>
  intro t i h
  unfold thrL
  split
  ·exact z
  ·rename_i he
   split
   ·rename_i hb
    exact ih _ _ (h.step (by simpa using he) c hb)
   ·exact z
theorem thr_bd (c : Cnt) (in0 : Bool) (left : Int) (bs : List Int) (h0 : 0 ≤ left) (h1 : left ≤ 1001) : 0 ≤ (thr c in0 left bs).1.left ∧ (thr c in0 left bs).1.left ≤ 1001 ∧ 0 ≤ (thr c in0 left bs).1.darts ∧ (thr c in0 left bs).1.darts ≤ 3 :=
 thrL_bd c in0 left h0 h1 bs _ 0 ⟨h0, h1, rfl, by omega⟩
structure LegR.Ok (r : LegR) : Prop where
 ne : r.counts ≠ []
 n8 : r.counts.length ≤ 8
 cnt : ∀ c ∈ r.counts, vcnt c = true
 f0 : 0 ≤ r.first
 f1 : r.first < (r.counts.length : Int)
structure LegG.Ok (r : LegR) (g : LegG) (i : Nat) : Prop where
 left : ∀ x ∈ g.left, 0 ≤ x ∧ x ≤ 1001
 darts : ∀ x ∈ g.darts, 0 ≤ x ∧ x ≤ 3 * (i : Int)
 ended : ∀ q ∈ g.ended, 0 ≤ q.1 ∧ q.1 < (r.counts.length : Int)
 next : g.over = false → 0 ≤ g.next ∧ g.next < (r.counts.length : Int)
 r0 : 0 ≤ g.round
 r1 : g.round ≤ (i : Int)
theorem beginG_ok {r : LegR} (h : r.Ok) : (beginG r).Ok r 0 := by
 refine ⟨fun x hx => ?_, fun x hx => ?_, (fun q hq => by cases hq), fun _ => ⟨h.f0, h.f1⟩, Int.le_refl _, Int.le_refl _⟩
 ·obtain ⟨c, hc, rfl⟩ := List.mem_map.1 hx
  have := vcnt_bd (h.cnt c hc)
  omega
 ·obtain ⟨c, hc, rfl⟩ := List.mem_map.1 hx
  simp
theorem LegG.Ok.mono {r : LegR} {g : LegG} {i j : Nat} (h : g.Ok r i) (hij : i ≤ j) : g.Ok r j :=
 ⟨h.left, fun x hx => by have := h.darts x hx; omega, h.ended, h.next, h.r0, by have := h.r1; omega⟩
theorem mem_set_or {α : Type} {xs : List α} {k : Nat} {x y : α} (h : y ∈ xs.set k x) : y = x ∨ y ∈ xs := by
 rcases List.mem_or_eq_of_mem_set h with h | h
 ·exact .inr h
 ·exact .inl h
theorem hitG_ok {r : LegR} {g : LegG} {i k : Nat} {t : Thr} (h : g.Ok r i) (hk : k < r.counts.length) (t0 : 0 ≤ t.left) (t1 : t.left ≤ 1001) (d0 : 0 ≤ t.darts) (d1 : t.darts ≤ 3) : (hitG g k t).Ok r (i + 1) := by
 have hg : 0 ≤ g.darts.getD k 0 ∧ g.darts.getD k 0 ≤ 3 * (i : Int) := by
  rw [List.getD_eq_getElem?_getD]
  cases hx : g.darts[k]? with
  | none => simp; omega
  | some x => exact h.darts x (List.mem_of_getElem? hx)
 refine ⟨fun x hx => ?_, fun x hx => ?_, fun q hq => ?_, h.next, h.r0, by have := h.r1; show g.round ≤ _; omega⟩
 ·rcases mem_set_or hx with rfl | hx
  ·exact ⟨t0, t1⟩
  ·exact h.left x hx
 ·rcases mem_set_or hx with rfl | hx
  ·omega
  ·have := h.darts x hx; omega
 ·unfold hitG at hq
  simp only [] at hq
  split at hq
  ·rcases putA_mem hq with e | hq
   ·omega
   ·exact h.ended q hq
  ·exact h.ended q hq
theorem passG_ok {r : LegR} {g : LegG} {i : Nat} (hr : r.Ok) (h : g.Ok r i) : (passG r g).Ok r (i + 1) := by
 have hn : 0 < (r.counts.length : Int) := by have := List.length_pos_iff.2 hr.ne; omega
 have h0 := h.r0
 have h1 := h.r1
 have hrd : 0 ≤ (passF r g).2.1 ∧ (passF r g).2.1 ≤ (i : Int) + 1 := by
  unfold passF
  dsimp only
  split <;> split <;> simp only [] <;> omega
 unfold passG
 split
 ·exact ⟨h.left, fun x hx => by have := h.darts x hx; omega, h.ended, fun ho => by simp at ho, hrd.1, hrd.2⟩
 ·rename_i h3
  refine ⟨h.left, fun x hx => by have := h.darts x hx; omega, h.ended, fun _ => ?_, hrd.1, hrd.2⟩
  have key : ∀ (c : Bool) (rd nx : Int), ¬ (if c = true then ((-1 : Int), rd, true) else (nx, rd, false)).2.2 = true → (if c = true then ((-1 : Int), rd, true) else (nx, rd, false)).1 = nx := by
   intro c rd nx; cases c <;> simp
  have : (passF r g).1 = (g.next + 1) % (r.counts.length : Int) := key _ _ _ h3
  show 0 ≤ (passF r g).1 ∧ _
  rw [this]
  exact ⟨Int.emod_nonneg _ (by omega), Int.emod_lt_of_pos _ hn⟩
theorem takeG_ok {r : LegR} {g : LegG} {i : Nat} (hr : r.Ok) (h : g.Ok r i) (p : Int) (bs : List Int) : (takeG r g p bs).1.Ok r (i + 2) := by
 unfold takeG
 split
 ·exact h.mono (by omega)
 ·split
  ·rename_i hp
   unfold inb at hp
   simp only [decide_eq_true_eq] at hp
   split
   ·split
    ·refine passG_ok hr (hitG_ok h (by omega) ?_ ?_ ?_ ?_)
     all_goals
      have hl : 0 ≤ g.left.getD p.toNat 0 ∧ g.left.getD p.toNat 0 ≤ 1001 := by
       rw [List.getD_eq_getElem?_getD]
       cases hx : g.left[p.toNat]? with
       | none => simp
       | some x => exact h.left x (List.mem_of_getElem? hx)
      have hb := thr_bd (r.counts.getD p.toNat (0, 0, 0)) (g.inn.getD p.toNat false) (g.left.getD p.toNat 0) bs hl.1 hl.2
      unfold takeT
     ·exact hb.1
     ·exact hb.2.1
     ·exact hb.2.2.1
     ·exact hb.2.2.2
    ·exact h.mono (by omega)
   ·exact h.mono (by omega)
  ·exact h.mono (by omega)
theorem LegW.same {w w' : World} {V gl gd gi M cl cd ci nn : Nat} {vc vw : Value} {D : DataW Unit} {r : LegR} {g : LegG} (h : LegW w V gl gd gi M cl cd ci nn vc vw D r g) (hO : Outs [] w w') : LegW w' V gl gd gi M cl cd ci nn vc vw D r g := by
 have hs : ∀ k, k < w.heap.size → w'.heap[k]? = w.heap[k]? := fun k hk => hO.block k (by simp) hk
 exact ⟨(hs V (Array.getElem?_eq_some_iff.1 h.blk).1).trans h.blk, h.left.same (hs _ h.left.lt), h.darts.same (hs _ h.darts.lt), h.inn.same (hs _ h.inn.lt), ownsMap_same h.own (hs _ h.own.lt), h.rep, hO.sl h.counts (fun _ _ _ _ _ => by simp), hO.sl h.wins (fun _ _ _ _ _ => by simp), h.l1, h.l2, h.l3, h.d1, h.d2, h.d3, h.d4, h.cout, h.wout⟩
theorem LegW.below {w w' : World} {V gl gd gi M cl cd ci nn : Nat} {vc vw : Value} {D : DataW Unit} {r : LegR} {g : LegG} (h : LegW w V gl gd gi M cl cd ci nn vc vw D r g) (hB : Below w.heap.size w w') : LegW w' V gl gd gi M cl cd ci nn vc vw D r g := h.same (Outs.of_below hB)
theorem LegW.setL {w : World} {V gl gd gi M cl cd ci nn : Nat} {vc vw : Value} {D : DataW Unit} {r : LegR} {g : LegG} (h : LegW w V gl gd gi M cl cd ci nn vc vw D r g) (k : Nat) (x : Int) (hk : k < r.counts.length) : LegW (w.setCell ⟨gl, k, none⟩ (.int .i64 x)) V gl gd gi M cl cd ci nn vc vw D r { g with left := g.left.set k x } := by
 have d1 := h.d1
 have d2 := h.d2
 simp only [List.mem_cons, List.not_mem_nil, or_false, not_or] at d1 d2
 have hO : Outs [gl] w (w.setCell ⟨gl, k, none⟩ (.int .i64 x)) := Outs.set (by simp) _ _ _
 have hs : ∀ j, j ≠ gl → (w.setCell ⟨gl, k, none⟩ (.int .i64 x)).heap[j]? = w.heap[j]? := fun j hj => Below.heap_setCell _ _ _ _ hj
 refine ⟨(hs V d1.1).trans h.blk, ?_, h.darts.same (hs _ (Ne.symm d2.1)), h.inn.same (hs _ (Ne.symm d2.2.1)), ownsMap_same h.own (hs _ (Ne.symm d2.2.2)), h.rep, ?_, ?_, by simp [h.l1], h.l2, h.l3, h.d1, h.d2, h.d3, h.d4, h.cout, h.wout⟩
 ·have := h.left.set k (.int .i64 x) (by simp [h.l1]; exact hk)
  rw [← List.map_set] at this
  exact this
 ·exact hO.sl h.counts (fun b o n c e => by
   have := h.cout b o n c e
   simp only [List.mem_cons, List.not_mem_nil, or_false, not_or] at this ⊢
   exact this.2.1)
 ·exact hO.sl h.wins (fun b o n c e => by
   have := h.wout b o n c e
   simp only [List.mem_cons, List.not_mem_nil, or_false, not_or] at this ⊢
   exact this.2.1)
theorem LegW.setD {w : World} {V gl gd gi M cl cd ci nn : Nat} {vc vw : Value} {D : DataW Unit} {r : LegR} {g : LegG} (h : LegW w V gl gd gi M cl cd ci nn vc vw D r g) (k : Nat) (x : Int) (hk : k < r.counts.length) : LegW (w.setCell ⟨gd, k, none⟩ (.int .i64 x)) V gl gd gi M cl cd ci nn vc vw D r { g with darts := g.darts.set k x } := by
 have d1 := h.d1
 have d2 := h.d2
 have d3 := h.d3
 simp only [List.mem_cons, List.not_mem_nil, or_false, not_or] at d1 d2 d3
 have hO : Outs [gd] w (w.setCell ⟨gd, k, none⟩ (.int .i64 x)) := Outs.set (by simp) _ _ _
 have hs : ∀ j, j ≠ gd → (w.setCell ⟨gd, k, none⟩ (.int .i64 x)).heap[j]? = w.heap[j]? := fun j hj => Below.heap_setCell _ _ _ _ hj
 refine ⟨(hs V d1.2.1).trans h.blk, h.left.same (hs _ d2.1), ?_, h.inn.same (hs _ (Ne.symm d3.1)), ownsMap_same h.own (hs _ (Ne.symm d3.2)), h.rep, ?_, ?_, h.l1, by simp [h.l2], h.l3, h.d1, h.d2, h.d3, h.d4, h.cout, h.wout⟩
 ·have := h.darts.set k (.int .i64 x) (by simp [h.l2]; exact hk)
  rw [← List.map_set] at this
  exact this
 ·exact hO.sl h.counts (fun b o n c e => by
   have := h.cout b o n c e
   simp only [List.mem_cons, List.not_mem_nil, or_false, not_or] at this ⊢
   exact this.2.2.1)
 ·exact hO.sl h.wins (fun b o n c e => by
   have := h.wout b o n c e
   simp only [List.mem_cons, List.not_mem_nil, or_false, not_or] at this ⊢
   exact this.2.2.1)
theorem LegW.setI {w : World} {V gl gd gi M cl cd ci nn : Nat} {vc vw : Value} {D : DataW Unit} {r : LegR} {g : LegG} (h : LegW w V gl gd gi M cl cd ci nn vc vw D r g) (k : Nat) (x : Bool) (hk : k < r.counts.length) : LegW (w.setCell ⟨gi, k, none⟩ (.bool x)) V gl gd gi M cl cd ci nn vc vw D r { g with inn := g.inn.set k x } := by
 have d1 := h.d1
 have d2 := h.d2
 have d3 := h.d3
 simp only [List.mem_cons, List.not_mem_nil, or_false, not_or] at d1 d2 d3
 have hO : Outs [gi] w (w.setCell ⟨gi, k, none⟩ (.bool x)) := Outs.set (by simp) _ _ _
 have hs : ∀ j, j ≠ gi → (w.setCell ⟨gi, k, none⟩ (.bool x)).heap[j]? = w.heap[j]? := fun j hj => Below.heap_setCell _ _ _ _ hj
 refine ⟨(hs V d1.2.2.1).trans h.blk, h.left.same (hs _ d2.2.1), h.darts.same (hs _ d3.1), ?_, ownsMap_same h.own (hs _ (Ne.symm h.d4)), h.rep, ?_, ?_, h.l1, h.l2, by simp [h.l3], h.d1, h.d2, h.d3, h.d4, h.cout, h.wout⟩
 ·have := h.inn.set k (.bool x) (by simp [h.l3]; exact hk)
  rw [← List.map_set] at this
  exact this
 ·exact hO.sl h.counts (fun b o n c e => by
   have := h.cout b o n c e
   simp only [List.mem_cons, List.not_mem_nil, or_false, not_or] at this ⊢
   exact this.2.2.2.1)
 ·exact hO.sl h.wins (fun b o n c e => by
   have := h.wout b o n c e
   simp only [List.mem_cons, List.not_mem_nil, or_false, not_or] at this ⊢
   exact this.2.2.2.1)
theorem LegW.setM {w w' : World} {V gl gd gi M cl cd ci nn n' : Nat} {vc vw : Value} {D D' : DataW Unit} {r : LegR} {g : LegG} {es : List (Int × Int)} (h : LegW w V gl gd gi M cl cd ci nn vc vw D r g) (hg : w.grownBy w' (some M)) (hown : OwnM w' M n' D') (hrep : Rep D' es) : LegW w' V gl gd gi M cl cd ci n' vc vw D' r { g with ended := es } := by
 have d1 := h.d1
 have d2 := h.d2
 have d3 := h.d3
 simp only [List.mem_cons, List.not_mem_nil, or_false, not_or] at d1 d2 d3
 have hO : Outs [M] w w' := Outs.grown hg (by simp)
 have hs : ∀ j, j ≠ M → j < w.heap.size → w'.heap[j]? = w.heap[j]? := fun j hj hl => hO.block j (by simpa using hj) hl
 refine ⟨(hs V d1.2.2.2 (Array.getElem?_eq_some_iff.1 h.blk).1).trans h.blk, h.left.same (hs _ d2.2.2 h.left.lt), h.darts.same (hs _ d3.2 h.darts.lt), h.inn.same (hs _ h.d4 h.inn.lt), hown, hrep, ?_, ?_, h.l1, h.l2, h.l3, h.d1, h.d2, h.d3, h.d4, h.cout, h.wout⟩
 ·exact hO.sl h.counts (fun b o n c e => by
   have := h.cout b o n c e
   simp only [List.mem_cons, List.not_mem_nil, or_false, not_or] at this ⊢
   exact this.2.2.2.2)
 ·exact hO.sl h.wins (fun b o n c e => by
   have := h.wout b o n c e
   simp only [List.mem_cons, List.not_mem_nil, or_false, not_or] at this ⊢
   exact this.2.2.2.2)
end
section
open Go.RowKit Go.Maps Go.Sort Go.Shelf Go.Deep
def TakeG (V gl gd gi M cl cd ci nn : Nat) (vc vw : Value) (r : LegR) (g : LegG) (p : Int) (bs : List Int) (w : World) (e : Ending) (w' : World) : Prop :=
 e = .returned (.tuple #[.int .i64 (takeG r g p bs).2.1, .int .i64 (takeG r g p bs).2.2]) ∧ Outs [V, gl, gd, gi, M] w w' ∧ ∃ nn' vw' D', nn' ≤ nn + 1 ∧ ((vw' = vw ∧ (takeG r g p bs).1.wins = g.wins) ∨ ∀ b o n c, vw' = .slice (some ⟨b, o, none⟩) n c → w.heap.size ≤ b) ∧ LegW w' V gl gd gi M cl cd ci nn' vc vw' D' r (takeG r g p bs).1
theorem Outs.bel {S : List Nat} {w w1 w2 : World} (h : Outs S w w1) (k : Below w1.heap.size w1 w2) : Outs S w w2 := h.trans (Outs.of_below k)
theorem takeG_same {V gl gd gi M cl cd ci nn : Nat} {vc vw : Value} {D : DataW Unit} {r : LegR} {g : LegG} {w w' : World} {p dart e : Int} {bs : List Int} (h : LegW w V gl gd gi M cl cd ci nn vc vw D r g) (hB : Below w.heap.size w w') (ht : takeG r g p bs = (g, dart, e)) :
  TakeG V gl gd gi M cl cd ci nn vc vw r g p bs w (.returned (.tuple #[.int .i64 dart, .int .i64 e])) w' := by
 unfold TakeG
 rw [ht]
 exact ⟨rfl, Outs.of_below hB, nn, vw, D, by omega, .inl ⟨rfl, rfl⟩, h.below hB⟩
set_option maxRecDepth 100000 in
set_option maxHeartbeats 4000000 in
theorem take_over {V gl gd gi M cl cd ci nn : Nat} {vc vw : Value} {D : DataW Unit} {r : LegR} {g : LegG} (w : World) (h : LegW w V gl gd gi M cl cd ci nn vc vw D r g) (hov : g.over = true) (p : Int) (vb : Value) (bs : List Int) :
  Calls Try.prog 53 #[.pointer (some ⟨V, 0, none⟩), .agg #[.int .i64 p, vb]] w (TakeG V gl gd gi M cl cd ci nn vc vw r g p bs w) := by
 have ht : takeG r g p bs = (g, -1, 33) := by unfold takeG; rw [if_pos hov]
 have HF : Aside (∀ w', Below w.heap.size w w' → TakeG V gl gd gi M cl cd ci nn vc vw r g p bs w (.returned (.tuple #[.int .i64 (-1), .int .i64 33])) w') := fun w' hB => takeG_same h hB ht
 have hV : V < w.heap.size := (Array.getElem?_eq_some_iff.1 h.blk).1
 have k9 : w.cell? ⟨V, 9, none⟩ = some (.bool true) := by rw [← hov]; exact blk_cell h.blk rfl
 clear h hov ht
 go_enter Try.func53, Try.ntmps53
 go_wp2
 refine bodyPost_ret (v := .tuple #[.int .i64 (-1), .int .i64 33]) (by simp [results, Try.results53, go_sem]) rfl (HF.out _ (by (repeat' (first | exact Below.refl _ _ | assumption | (with_reducible refine Below.drew ?_) | (with_reducible refine Below.setCell ?_ (by (first | (simp; done) | (simp; omega))) _) | (with_reducible refine below_drewN' ?_ _) | (refine Below.alloc ?_ (by (try simp only [World.size_alloc, World.size_drew, World.size_setCell]); omega) _) | (refine Below.trans ?_ (Below.mono (by assumption) (by (try simp only [World.size_alloc, World.size_drew, World.size_setCell]); omega)))))))
set_option maxRecDepth 100000 in
set_option maxHeartbeats 4000000 in
theorem take_who {V gl gd gi M cl cd ci nn : Nat} {vc vw : Value} {D : DataW Unit} {r : LegR} {g : LegG} (w : World) (h : LegW w V gl gd gi M cl cd ci nn vc vw D r g) (hov : g.over = false) (p : Int) (hp : inb 0 ((r.counts.length : Int) - 1) p = false) (hn : r.counts.length ≤ 8) (vb : Value) (bs : List Int) :
  Calls Try.prog 53 #[.pointer (some ⟨V, 0, none⟩), .agg #[.int .i64 p, vb]] w (TakeG V gl gd gi M cl cd ci nn vc vw r g p bs w) := by
 have ht : takeG r g p bs = (g, -1, 2) := by unfold takeG; rw [if_neg (by rw [hov]; simp), if_neg (by rw [hp]; simp)]
 have HF : Aside (∀ w', Below w.heap.size w w' → TakeG V gl gd gi M cl cd ci nn vc vw r g p bs w (.returned (.tuple #[.int .i64 (-1), .int .i64 2])) w') := fun w' hB => takeG_same h hB ht
 have hV : V < w.heap.size := (Array.getElem?_eq_some_iff.1 h.blk).1
 have k9 : w.cell? ⟨V, 9, none⟩ = some (.bool false) := by rw [← hov]; exact blk_cell h.blk rfl
 obtain ⟨a, cp, hvc, hlc, _⟩ := h.counts
 have k0 : w.cell? ⟨V, 0, none⟩ = some (.slice a r.counts.length cp) := by rw [← hvc]; exact blk_cell h.blk rfl
 obtain ⟨n, hn'⟩ : ∃ n, r.counts.length = n := ⟨_, rfl⟩
 rw [hn'] at k0 hp hn
 have y1 := fun W k hk t => within_any 0 ((n : Int) - 1) _ [p] _ (sl_one W k hk t p)
 simp only [List.all_cons, List.all_nil, Bool.and_true] at y1
 rw [hp] at y1
 have e1 : IntKind.i64.wrap ((n : Int) - 1) = (n : Int) - 1 := IntWalk.i64_in _ (by omega)
 clear h hov ht hvc hlc hn' hp
 go_enter Try.func53, Try.ntmps53
 go_wp2_with (go_at_call 47; (with_reducible refine (y1 _ _ (by simp) _).mono ?_); rintro e w1 ⟨rfl, hb1⟩)
 refine bodyPost_ret (v := .tuple #[.int .i64 (-1), .int .i64 2]) (by simp [results, Try.results53, go_sem]) rfl (HF.out _ (by (repeat' (first | exact Below.refl _ _ | assumption | (with_reducible refine Below.drew ?_) | (with_reducible refine Below.setCell ?_ (by (first | (simp; done) | (simp; omega))) _) | (with_reducible refine below_drewN' ?_ _) | (refine Below.alloc ?_ (by (try simp only [World.size_alloc, World.size_drew, World.size_setCell]); omega) _) | (refine Below.trans ?_ (Below.mono (by assumption) (by (try simp only [World.size_alloc, World.size_drew, World.size_setCell]); omega)))))))
set_option maxRecDepth 100000 in
set_option maxHeartbeats 4000000 in
theorem take_turn {V gl gd gi M cl cd ci nn : Nat} {vc vw : Value} {D : DataW Unit} {r : LegR} {g : LegG} (w : World) (h : LegW w V gl gd gi M cl cd ci nn vc vw D r g) (hov : g.over = false) (p : Int) (hp : inb 0 ((r.counts.length : Int) - 1) p = true) (hn : r.counts.length ≤ 8) (hne : ¬ p = g.next) (vb : Value) (bs : List Int) :
  Calls Try.prog 53 #[.pointer (some ⟨V, 0, none⟩), .agg #[.int .i64 p, vb]] w (TakeG V gl gd gi M cl cd ci nn vc vw r g p bs w) := by
 have ht : takeG r g p bs = (g, -1, 30) := by unfold takeG; rw [if_neg (by rw [hov]; simp), if_pos hp, if_neg hne]
 have HF : Aside (∀ w', Below w.heap.size w w' → TakeG V gl gd gi M cl cd ci nn vc vw r g p bs w (.returned (.tuple #[.int .i64 (-1), .int .i64 30])) w') := fun w' hB => takeG_same h hB ht
 have hV : V < w.heap.size := (Array.getElem?_eq_some_iff.1 h.blk).1
 have k9 : w.cell? ⟨V, 9, none⟩ = some (.bool false) := by rw [← hov]; exact blk_cell h.blk rfl
 obtain ⟨x, hx⟩ : ∃ x, g.next = x := ⟨_, rfl⟩
 have k7 : w.cell? ⟨V, 7, none⟩ = some (.int .i64 x) := by rw [← hx]; exact blk_cell h.blk rfl
 rw [hx] at hne
 obtain ⟨a, cp, hvc, hlc, _⟩ := h.counts
 have k0 : w.cell? ⟨V, 0, none⟩ = some (.slice a r.counts.length cp) := by rw [← hvc]; exact blk_cell h.blk rfl
 obtain ⟨n, hn'⟩ : ∃ n, r.counts.length = n := ⟨_, rfl⟩
 rw [hn'] at k0 hp hn
 have y1 := fun W k hk t => within_any 0 ((n : Int) - 1) _ [p] _ (sl_one W k hk t p)
 simp only [List.all_cons, List.all_nil, Bool.and_true] at y1
 rw [hp] at y1
 have e1 : IntKind.i64.wrap ((n : Int) - 1) = (n : Int) - 1 := IntWalk.i64_in _ (by omega)
 clear h hov ht hvc hlc hn' hp hx
 go_enter Try.func53, Try.ntmps53
 go_wp2_with (go_at_call 47; (with_reducible refine (y1 _ _ (by simp) _).mono ?_); rintro e w1 ⟨rfl, hb1⟩; (have kk7 : w1.cell? ⟨V, 7, none⟩ = some (.int .i64 x) := by rw [hb1.cell (by simp; omega)]; go_simp); (obtain ⟨hc1, hf1⟩ := bcell hb1; have z1 := hb1.size; (try simp only [World.size_alloc, World.size_drew, World.size_setCell] at z1); (try have q1a : w.heap.size < w1.heap.size := by omega); (try have q1b : w.heap.size + 1 < w1.heap.size := by omega); (try have q1c : w.heap.size + 1 + 1 < w1.heap.size := by omega); (try have q1d : w.heap.size + 1 + 1 + 1 < w1.heap.size := by omega); (try have q1e : wr.heap.size < w1.heap.size := by omega); (try have q1f : wr.heap.size + 1 < w1.heap.size := by omega)))
 refine bodyPost_ret (v := .tuple #[.int .i64 (-1), .int .i64 30]) (by simp [results, Try.results53, go_sem]) rfl (HF.out _ (by (repeat' (first | exact Below.refl _ _ | assumption | (with_reducible refine Below.drew ?_) | (with_reducible refine Below.setCell ?_ (by (first | (simp; done) | (simp; omega))) _) | (with_reducible refine below_drewN' ?_ _) | (refine Below.alloc ?_ (by (try simp only [World.size_alloc, World.size_drew, World.size_setCell]); omega) _) | (refine Below.trans ?_ (Below.mono (by assumption) (by (try simp only [World.size_alloc, World.size_drew, World.size_setCell]); omega)))))))
end
end Go.Proofs.Ytnhjoebdmmelaaa
