/- Leg, part W: the next player, in the words of the leg's data; a player who has ended. -/
import Derived.Test.YthcgbceapabikaaV
set_option linter.unusedVariables false
set_option linter.unusedSimpArgs false
namespace Go.Proofs.Ythcgbceapabikaa
open Go.RowKit Go.Maps Go.Sort Go.Shelf Go.Deep

theorem LegW.only {w W : World} {V gl gd gi M cl cd ci nn : Nat} {vc vw vw' : Value} {D : DataW Unit} {r : LegR} {g g' : LegG} (h : LegW w V gl gd gi M cl cd ci nn vc vw D r g) (ho : Only V w W)
    (hb : W.heap[V]? = some (.cells #[vc, .int .i64 r.first, .int .i64 r.rounds, .bool r.equal, rowV gl r.counts.length cl, rowV gd r.counts.length cd, rowV gi r.counts.length ci, .int .i64 g'.next, .int .i64 g'.round, .bool g'.over, vw', .map (some M)] 118 (0, 0)))
    (e1 : g'.left = g.left) (e2 : g'.darts = g.darts) (e3 : g'.inn = g.inn) (e4 : g'.ended = g.ended) (hw : Sl W 1 eI vw' g'.wins) (hwo : ∀ b o n c, vw' = .slice (some ⟨b, o, none⟩) n c → b ∉ [V, gl, gd, gi, M]) : LegW W V gl gd gi M cl cd ci nn vc vw' D r g' := by
  have d1 := h.d1
  simp only [List.mem_cons, List.not_mem_nil, or_false, not_or] at d1
  have hs : ∀ k, k ≠ V → k < w.heap.size → W.heap[k]? = w.heap[k]? := fun k hk hl => ho.block k hk hl
  refine ⟨hb, by rw [e1]; exact h.left.same (hs _ (Ne.symm d1.1) h.left.lt), by rw [e2]; exact h.darts.same (hs _ (Ne.symm d1.2.1) h.darts.lt), by rw [e3]; exact h.inn.same (hs _ (Ne.symm d1.2.2.1) h.inn.lt), ownsMap_same h.own (hs _ (Ne.symm d1.2.2.2) h.own.lt), by rw [e4]; exact h.rep, ?_, hw, by rw [e1]; exact h.l1, by rw [e2]; exact h.l2, by rw [e3]; exact h.l3, h.d1, h.d2, h.d3, h.d4, h.cout, hwo⟩
  exact (ho.outs (S := [V]) (by simp)).sl h.counts (fun b o n c e => by
    have := h.cout b o n c e
    simp only [List.mem_cons, List.not_mem_nil, or_false, not_or] at this ⊢
    exact this.1)

theorem passF_won (r : LegR) (g : LegG) : (passF r g).2.2 = true → (passF r g).1 = -1 := by
  have key : ∀ (c : Bool) (rd nx : Int), (if c = true then ((-1 : Int), rd, true) else (nx, rd, false)).2.2 = true → (if c = true then ((-1 : Int), rd, true) else (nx, rd, false)).1 = -1 := by
    intro c rd nx; cases c <;> simp
  exact key _ _ _
/-- What pass leaves. -/
def PassG (V gl gd gi M cl cd ci nn : Nat) (vc vw : Value) (D : DataW Unit) (r : LegR) (g : LegG) (w : World) (e : Ending) (w' : World) : Prop :=
  (∃ v, e = .returned v) ∧ Only V w w' ∧ ∃ vw', ((vw' = vw ∧ (passG r g).wins = g.wins) ∨ ∀ b o n c, vw' = .slice (some ⟨b, o, none⟩) n c → w.heap.size ≤ b) ∧ LegW w' V gl gd gi M cl cd ci nn vc vw' D r (passG r g)

theorem pass_any {V gl gd gi M cl cd ci nn : Nat} {vc vw : Value} {D : DataW Unit} {r : LegR} {g : LegG} (w : World) (h : LegW w V gl gd gi M cl cd ci nn vc vw D r g) (hne : r.counts ≠ []) (hn : r.counts.length ≤ 1000) (he : g.ended.length ≤ 1000) (hl : ∀ x ∈ g.left, -9223372036854775808 ≤ x ∧ x ≤ 9223372036854775807)
    (x0 : 0 ≤ g.next) (x1 : g.next < 1000) (r0 : 0 ≤ g.round) (r1 : g.round ≤ 1000000) :
    Calls Try.prog 76 #[.pointer (some ⟨V, 0, none⟩)] w (PassG V gl gd gi M cl cd ci nn vc vw D r g w) := by
  have n0 : ¬ r.counts.length = 0 := fun e => hne (List.eq_nil_of_length_eq_zero e)
  have hgl : g.left ≠ [] := by intro e; have := h.l1; rw [e] at this; exact n0 (by simpa using this.symm)
  have d1 := h.d1
  simp only [List.mem_cons, List.not_mem_nil, or_false, not_or] at d1
  have hMV : M ≠ V := Ne.symm d1.2.2.2
  obtain ⟨nx, hnx⟩ : ∃ nx, (g.next + 1) % (r.counts.length : Int) = nx := ⟨_, rfl⟩
  have hc := h.counts
  obtain ⟨a, cp, rfl, hlc, _⟩ := hc
  have hwin : ∀ W, Only V w W → W.heap[V]? ≠ none → (∃ rd, W.heap[V]? = some (.cells #[.slice a r.counts.length cp, .int .i64 r.first, .int .i64 r.rounds, .bool r.equal, rowV gl r.counts.length cl, rowV gd r.counts.length cd, rowV gi r.counts.length ci, .int .i64 nx, .int .i64 rd, .bool g.over, vw, .map (some M)] 118 (0, 0))) →
      Calls Try.prog 88 #[.pointer (some ⟨V, 0, none⟩)] W (RetOwn (winL g) W) := by
    intro W hO _ ⟨rd, hb⟩
    have h' : LegW W V gl gd gi M cl cd ci nn (.slice a r.counts.length cp) vw D r { g with next := nx, round := rd } := by
      refine h.only hO hb rfl rfl rfl rfl ?_ h.wout
      exact (hO.outs (S := [V]) (by simp)).sl h.wins (fun b o n c e => by
        have := h.wout b o n c e
        simp only [List.mem_cons, List.not_mem_nil, or_false, not_or] at this ⊢
        exact this.1)
    have hw' := winners_any W h' hne hn he hl
    exact hw'
  have key : ∀ res : Int × Int × Bool, passF r g = res → Calls Try.prog 76 #[.pointer (some ⟨V, 0, none⟩)] w (PassOk V (fun u x y o => .cells #[.slice a r.counts.length cp, .int .i64 r.first, .int .i64 r.rounds, .bool r.equal, rowV gl r.counts.length cl, rowV gd r.counts.length cd, rowV gi r.counts.length ci, .int .i64 x, .int .i64 y, .bool o, u, .map (some M)] 118 (0, 0)) vw g.over res (winL g) w) →
      Calls Try.prog 76 #[.pointer (some ⟨V, 0, none⟩)] w (PassG V gl gd gi M cl cd ci nn (.slice a r.counts.length cp) vw D r g w) := by
    intro res hres hcall
    refine hcall.mono ?_
    rintro e w' ⟨hv, hO, hif⟩
    refine ⟨hv, hO, ?_⟩
    have hwk : ∀ {W : World}, Only V w W → Sl W 1 eI vw g.wins := fun hO => (hO.outs (S := [V]) (by simp)).sl h.wins (fun b o n c e => by
        have := h.wout b o n c e
        simp only [List.mem_cons, List.not_mem_nil, or_false, not_or] at this ⊢
        exact this.1)
    by_cases h3 : res.2.2 = true
    · rw [if_pos h3] at hif
      obtain ⟨gw, cw, hb, hgw, hsl⟩ := hif
      refine ⟨rowV gw (winL g).length cw, .inr (fun b o n c e => ?_), ?_⟩
      · simp only [Value.slice.injEq, Option.some.injEq, Addr.mk.injEq, and_true] at e
        omega
      have hp : passG r g = { g with next := -1, round := res.2.1, over := true, wins := winL g } := by unfold passG; rw [hres, if_pos h3]
      have hr1 : res.1 = -1 := by
        rw [← hres] at h3 ⊢
        exact passF_won r g h3
      rw [hp]
      refine h.only hO (by rw [hb, hr1]) rfl rfl rfl rfl hsl (fun b o n c e => ?_)
      simp only [Value.slice.injEq, Option.some.injEq, Addr.mk.injEq, and_true] at e
      have l1 := h.left.lt
      have l2 := h.darts.lt
      have l3 := h.inn.lt
      have l4 := h.own.lt
      have l5 := (Array.getElem?_eq_some_iff.1 h.blk).1
      simp only [List.mem_cons, List.not_mem_nil, or_false, not_or]
      omega
    · rw [if_neg h3] at hif
      have hp : passG r g = { g with next := res.1, round := res.2.1 } := by unfold passG; rw [hres, if_neg h3]
      refine ⟨vw, .inl ⟨rfl, by rw [hp]⟩, ?_⟩
      rw [hp]
      exact h.only hO hif rfl rfl rfl rfl (hwk hO) h.wout
  have hsz := h.rep.size
  have hV := h.blk
  have ho := h.own
  by_cases hE : g.ended = []
  · have hE0 : Maps.size D = 0 := by rw [hsz, hE]; rfl
    cases hcomp : (nx == r.first) with
    | true =>
      cases hrr : (g.round + 1 == r.rounds) with
      | true => exact key (-1, g.round + 1, true) (by simp [passF, hnx, hcomp, hE, hrr, bne]) (pass_c_rr V gl gd gi M cl cd ci nn _ a cp vw r.first r.rounds g.next g.round nx r.equal g.over D (winL g) w hV ho n0 hn x0 x1 hnx r0 r1 (winL_ne hgl) hMV hwin hcomp hE0 hrr)
      | false => exact key (nx, g.round + 1, false) (by simp [passF, hnx, hcomp, hE, hrr, bne]) (pass_c_no V gl gd gi M cl cd ci nn _ a cp vw r.first r.rounds g.next g.round nx r.equal g.over D (winL g) w hV ho n0 hn x0 x1 hnx r0 r1 (winL_ne hgl) hMV hwin hcomp hE0 hrr)
    | false => exact key (nx, g.round, false) (by simp [passF, hnx, hcomp, hE, bne]) (pass_n_no V gl gd gi M cl cd ci nn _ a cp vw r.first r.rounds g.next g.round nx r.equal g.over D (winL g) w hV ho n0 hn x0 x1 hnx r0 r1 (winL_ne hgl) hMV hwin hcomp hE0)
  · have hE1 : (0 : Int) < ((Maps.size D : Nat) : Int) := by rw [hsz]; have := List.length_pos_iff.2 hE; omega
    have hEE : g.ended.isEmpty = false := by simpa using hE
    cases hcomp : (nx == r.first) with
    | true => exact key (-1, g.round + 1, true) (by unfold passF; simp only [hnx, hcomp, hEE]; simp) (pass_c_won V gl gd gi M cl cd ci nn _ a cp vw r.first r.rounds g.next g.round nx r.equal g.over D (winL g) w hV ho n0 hn x0 x1 hnx r0 r1 (winL_ne hgl) hMV hwin hcomp hE1)
    | false =>
      cases heq : r.equal with
      | true =>
        rw [heq] at hV hwin key
        exact key (nx, g.round, false) (by unfold passF; simp only [hnx, hcomp, hEE, heq]; simp) (pass_n_eq V gl gd gi M cl cd ci nn _ a cp vw r.first r.rounds g.next g.round nx g.over D (winL g) w hV ho n0 hn x0 x1 hnx r0 r1 (winL_ne hgl) hMV hwin hcomp hE1)
      | false =>
        rw [heq] at hV hwin key
        exact key (-1, g.round, true) (by unfold passF; simp only [hnx, hcomp, hEE, heq]; simp) (pass_n_won V gl gd gi M cl cd ci nn _ a cp vw r.first r.rounds g.next g.round nx g.over D (winL g) w hV ho n0 hn x0 x1 hnx r0 r1 (winL_ne hgl) hMV hwin hcomp hE1)

/-- A player has ended, with so many darts. -/
def putA (ps : List (Int × Int)) (k v : Int) : List (Int × Int) := if k ∈ ps.map (·.1) then ps.map (fun q => if q.1 = k then (k, v) else q) else ps ++ [(k, v)]
theorem putA_len (ps : List (Int × Int)) (k v : Int) : (putA ps k v).length ≤ ps.length + 1 := by unfold putA; split <;> simp
theorem Rep.putA {D : DataW Unit} {ps : List (Int × Int)} (h : Rep D ps) (k v : Int) : Rep (D.put (.int .i64 k) (.lit (.int .i64 v))) (putA ps k v) := by
  unfold Go.Proofs.Ythcgbceapabikaa.putA
  by_cases hk : k ∈ ps.map (·.1)
  · rw [if_pos hk]
    have hkeys : (ps.map (fun q => if q.1 = k then (k, v) else q)).map (·.1) = ps.map (·.1) := by
      rw [List.map_map]
      refine List.map_congr_left fun q hq => ?_
      simp only [Function.comp]
      split
      · rename_i e; exact e.symm
      · rfl
    have hh : Maps.has D (.int .i64 k) = true := (h.mem k).2 hk
    refine ⟨h.tidy.put (show WideAt.IsKeyLit (.int .i64 k) from trivial) _, by rw [hkeys]; exact h.nodup, fun x => ?_, fun p hp zd => ?_, ?_⟩
    · rw [hkeys]
      by_cases e : x = k
      · subst e; rw [has_put_same h.tidy.isMap (show WideAt.IsKeyLit (.int .i64 x) from trivial)]; simp only [true_iff]; exact hk
      · rw [has_put_other (by intro h; cases h; exact e rfl), h.mem]
    · obtain ⟨q, hq, rfl⟩ := List.mem_map.1 hp
      by_cases e : q.1 = k
      · simp only [e, if_true]
        exact atKey_put_same h.tidy.isMap (show WideAt.IsKeyLit (.int .i64 k) from trivial) _ _
      · simp only [if_neg e]
        rw [atKey_put_other (by intro h; cases h; exact e rfl)]; exact h.val q hq zd
    · rw [size_put h.tidy, hh, if_pos rfl, h.size]; simp
  · rw [if_neg hk]; exact h.put hk
end Go.Proofs.Ythcgbceapabikaa
