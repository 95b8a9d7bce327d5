/- BoardOne: for every board in bytes, point and byte the call returns true, and the arguments read as they did. No condition. -/
import Derived.Test.YtilgchkndfhdhaaFr
import Derived.Test.YtilgchkndfhdhaaZr
set_option linter.unusedVariables false
set_option linter.unusedSimpArgs false
namespace Go.Proofs.Ytilgchkndfhdhaa
open Go.ChangeShapes Go.WideShapes Go.ChangeAt Go.RowKit Go.Joins

set_option maxRecDepth 100000 in
theorem one_lifted (os : Os) (started : os.Started) (H : Type) (enc : TypeId × Value → H) :
    ReturnsInHanded {} Try.checked os 3 .any (Rows.boardOneSpec.pre6 enc Try.prog Try.f3 Rows.boardOneRow.domain false) (Rows.boardOneSpec.post enc Try.prog Try.f3 false true false false) := by
  refine returnsInHanded_of_change (C := Try.checked) fr_own started (by kernel_rfl) Try.func3
    (ChangeSpec.witness6 (enc := enc) (C := Try.checked) false ⟨#[], #[.agg #[.slice none 0 0, .slice none 0 0, .int .u8 0, .int .u8 0], .agg #[.int .u16 0, .int .u16 0], .int .u8 0], []⟩ 8 (by kernel_rfl) (by kernel_rfl) (by kernel_rfl) (by kernel_rfl)) ?_
  intro W base args ds gs before hval0 hW hcnd _
  have hval : ∀ (j : Nat) t v, Try.f3.params[j]? = some t → args[j]? = some v → Value.okWide Try.prog W .any base t v := hval0
  have hW' := hW
  obtain ⟨p, q, hA0, hV, rfl, hfz, hnd⟩ := hW
  have hA : DataW.TrodAll enc Try.prog W 0 (fun _ => true) true Try.f3.params.toList args.toList ds p := hA0
  rw [Try.params3] at hA hval
  obtain ⟨v0, vs0, d0, ds0, p0, q0, hargs, rfl, rfl, h0, r0⟩ := trodAll_cons hA
  obtain ⟨v1, vs1, d1, ds1, p1, q1, rfl, rfl, rfl, h1, r1⟩ := trodAll_cons r0
  obtain ⟨v2, vs2, d2, ds2, p2, q2, rfl, rfl, rfl, h2, r2⟩ := trodAll_cons r1
  obtain ⟨rfl, rfl, rfl⟩ := trodAll_nil r2
  obtain rfl : args = #[v0, v1, v2] := by cases args; simp_all
  obtain ⟨rfl, rfl⟩ := trodVars_none hV
  obtain ⟨cs0, rfl, _⟩ := okWide_struct Try.underlying24 (hval 0 24 v0 rfl rfl)
  obtain ⟨cs1, rfl, _⟩ := okWide_array Try.underlying26 (hval 1 26 v1 rfl rfl)
  have k0 := h0
  have k1 := h1
  have lt0 : ∀ x ∈ p0, x.block < W.heap.size := by obtain ⟨m, hm⟩ := k0; exact DataW.trod_lt m _ _ _ hm
  have lt1 : ∀ x ∈ p1, x.block < W.heap.size := by obtain ⟨m, hm⟩ := k1; exact DataW.trod_lt m _ _ _ hm
  obtain ⟨vr, vl, f, wi, rings, lines, e0, s1, s2, b1, b2, b3, b4⟩ : ∃ vr vl f wi rings lines, cs0 = #[vr, vl, .int .u8 f, .int .u8 wi] ∧ Sl W 1 eU vr rings ∧ Sl W 1 eU vl lines ∧ (∀ x ∈ rings, 0 ≤ x ∧ x ≤ 255) ∧ (∀ x ∈ lines, 0 ≤ x ∧ x ≤ 255) ∧ (0 ≤ f ∧ f ≤ 255) ∧ 0 ≤ wi ∧ wi ≤ 255 := by
    obtain ⟨m, hm⟩ := h0
    obtain ⟨vr, vl, f, wi, rings, lines, e0, r⟩ := made_open hm
    exact ⟨vr, vl, f, wi, rings, lines, Array.toList_inj.1 (by simpa [Value.cells] using e0), r⟩
  obtain ⟨a, b, e1, b5, b6⟩ : ∃ a b, cs1 = #[.int .u16 a, .int .u16 b] ∧ (0 ≤ a ∧ a ≤ 65535) ∧ 0 ≤ b ∧ b ≤ 65535 := by
    obtain ⟨m, hm⟩ := h1
    obtain ⟨a, b, e0, r⟩ := a16_open hm
    exact ⟨a, b, Array.toList_inj.1 (by simpa [Value.cells] using e0), r⟩
  subst e0 e1
  obtain ⟨a2, rfl, rfl, rfl, w2⟩ := open_int Try.underlying5 (hval 2 5 v2 rfl rfl) h2
  have b7 := bounds_u8 w2
  clear hA0 hval0
  refine (one_law vr vl rings lines f wi a b a2 W s1 s2 b1 b2 b3.1 b3.2 b4.1 b4.2 b5.1 b5.2 b6.1 b6.2 b7.1 b7.2).mono fun e W' hRet => ?_
  obtain ⟨he, bel⟩ := hRet
  subst he
  exact ⟨_, rfl, _, _, _, [], _, [], hW', trodAll_mk1 (shut_bool Try.underlying4 _), (trodAll_cons_mk (Below.trod fr_laid (by kernel_rfl) (of_decide_eq_true (by kernel_rfl)) k0 bel lt0) (trodAll_cons_mk (Below.trod fr_laid (by kernel_rfl) (of_decide_eq_true (by kernel_rfl)) k1 bel lt1) (trodAll_cons_mk (shut_int Try.underlying5 w2) trodAll_mk0))), rfl, bel.frame _, fun h => by cases h⟩

theorem one_over : Rows.boardOneRow.holds Try.pinned (OpenSpec.ofChange Rows.boardOneSpec) :=
  OpenClaim.holds_of_wide 3 Try.f3 rfl rfl rfl rfl rfl rfl rfl ⟨rfl, rfl, rfl, rfl, rfl⟩ rfl rfl rfl rfl rfl (by kernel_rfl) Try.func3 (by kernel_rfl)
    (of_decide_eq_true (by kernel_rfl)) (by unfold Func.isWrapper; rw [if_neg (of_decide_eq_false (by kernel_rfl))]; exact ⟨rfl, rfl⟩)
    (fun os started H enc _ => one_lifted os started H enc)

theorem one_proved : Rows.BoardOneSaid := one_over
#print axioms one_proved
end Go.Proofs.Ytilgchkndfhdhaa
