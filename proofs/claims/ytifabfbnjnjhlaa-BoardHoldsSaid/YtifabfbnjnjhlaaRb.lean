/- BoardHolds: for every board in bytes with a point, the size of a box and a point in it the call returns true, and the argument reads as it did. No condition. -/
import Derived.Test.YtifabfbnjnjhlaaFr
import Derived.Test.YtifabfbnjnjhlaaYi
set_option linter.unusedVariables false
set_option linter.unusedSimpArgs false
namespace Go.Proofs.Ytifabfbnjnjhlaa
open Go.ChangeShapes Go.WideShapes Go.ChangeAt Go.RowKit Go.Joins

set_option maxRecDepth 100000 in
theorem holds_lifted (os : Os) (started : os.Started) (H : Type) (enc : TypeId × Value → H) :
    ReturnsInHanded {} Try.checked os 4 .any (Rows.boardHoldsSpec.pre6 enc Try.prog Try.f4 Rows.boardHoldsRow.domain false) (Rows.boardHoldsSpec.post enc Try.prog Try.f4 false true false false) := by
  refine returnsInHanded_of_change (C := Try.checked) fr_own started (by kernel_rfl) Try.func4
    (ChangeSpec.witness6 (enc := enc) (C := Try.checked) false ⟨#[], #[.agg #[.slice none 0 0, .slice none 0 0, .int .u8 0, .int .u8 0, .int .u16 0, .int .u16 0, .int .u8 0, .int .u8 0, .int .u8 0, .int .u8 0]], []⟩ 8 (by kernel_rfl) (by kernel_rfl) (by kernel_rfl) (by kernel_rfl)) ?_
  intro W base args ds gs before hval0 hW hcnd _
  have hval : ∀ (j : Nat) t v, Try.f4.params[j]? = some t → args[j]? = some v → Value.okWide Try.prog W .any base t v := hval0
  have hW' := hW
  obtain ⟨p, q, hA0, hV, rfl, hfz, hnd⟩ := hW
  have hA : DataW.TrodAll enc Try.prog W 0 (fun _ => true) true Try.f4.params.toList args.toList ds p := hA0
  rw [Try.params4] at hA hval
  obtain ⟨v0, vs0, d0, ds0, p0, q0, hargs, rfl, rfl, h0, r0⟩ := trodAll_cons hA
  obtain ⟨rfl, rfl, rfl⟩ := trodAll_nil r0
  obtain rfl : args = #[v0] := by cases args; simp_all
  obtain ⟨rfl, rfl⟩ := trodVars_none hV
  obtain ⟨cs0, rfl, _⟩ := okWide_struct Try.underlying49 (hval 0 49 v0 rfl rfl)
  have k0 := h0
  have lt0 : ∀ x ∈ p0, x.block < W.heap.size := by obtain ⟨m, hm⟩ := k0; exact DataW.trod_lt m _ _ _ hm
  obtain ⟨vr, vl, f, wi, rings, lines, a, b, s, t, i, j, e0, s1, s2, b1, b2, b3, b4, ⟨b5, b6⟩, ⟨b7, b8⟩, b9, b10⟩ : ∃ vr vl f wi rings lines a b s t i j, cs0 = #[vr, vl, .int .u8 f, .int .u8 wi, .int .u16 a, .int .u16 b, .int .u8 s, .int .u8 t, .int .u8 i, .int .u8 j] ∧ Sl W 1 eU vr rings ∧ Sl W 1 eU vl lines ∧ (∀ x ∈ rings, 0 ≤ x ∧ x ≤ 255) ∧ (∀ x ∈ lines, 0 ≤ x ∧ x ≤ 255) ∧ (0 ≤ f ∧ f ≤ 255) ∧ (0 ≤ wi ∧ wi ≤ 255) ∧ ((0 ≤ a ∧ a ≤ 65535) ∧ 0 ≤ b ∧ b ≤ 65535) ∧ ((0 ≤ s ∧ s ≤ 255) ∧ 0 ≤ t ∧ t ≤ 255) ∧ (0 ≤ i ∧ i ≤ 255) ∧ 0 ≤ j ∧ j ≤ 255 := by
    obtain ⟨m, hm⟩ := h0
    obtain ⟨vr, vl, f, wi, rings, lines, a, b, s, t, i, j, e0, r⟩ := boxed_open hm
    exact ⟨vr, vl, f, wi, rings, lines, a, b, s, t, i, j, Array.toList_inj.1 (by simpa [Value.cells] using e0), r⟩
  subst e0
  clear hA0 hval0
  refine (holds_law vr vl rings lines f wi a b s t i j W s1 s2 b1 b2 b3.1 b3.2 b4.1 b4.2 b5.1 b5.2 b6.1 b6.2 b7.1 b7.2 b8.1 b8.2 b9.1 b9.2 b10.1 b10.2).mono fun e W' hRet => ?_
  obtain ⟨he, bel⟩ := hRet
  subst he
  exact ⟨_, rfl, _, _, _, [], _, [], hW', trodAll_mk1 (shut_bool Try.underlying4 _), (trodAll_cons_mk (Below.trod fr_laid (by kernel_rfl) (of_decide_eq_true (by kernel_rfl)) k0 bel lt0) trodAll_mk0), rfl, bel.frame _, fun h => by cases h⟩

theorem holds_over : Rows.boardHoldsRow.holds Try.pinned (OpenSpec.ofChange Rows.boardHoldsSpec) :=
  OpenClaim.holds_of_wide 4 Try.f4 rfl rfl rfl rfl rfl rfl rfl ⟨rfl, rfl, rfl, rfl, rfl⟩ rfl rfl rfl rfl rfl (by kernel_rfl) Try.func4 (by kernel_rfl)
    (of_decide_eq_true (by kernel_rfl)) (by unfold Func.isWrapper; rw [if_neg (of_decide_eq_false (by kernel_rfl))]; exact ⟨rfl, rfl⟩)
    (fun os started H enc _ => holds_lifted os started H enc)

theorem holds_proved : Rows.BoardHoldsSaid := holds_over
#print axioms holds_proved
end Go.Proofs.Ytifabfbnjnjhlaa
