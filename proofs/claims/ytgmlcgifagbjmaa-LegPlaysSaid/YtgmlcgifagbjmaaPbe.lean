/- LegPlays: for all rules and visits the call returns true, and the arguments read as they did. No condition. -/
import Derived.Test.YtgmlcgifagbjmaaPbd
set_option linter.unusedVariables false
set_option linter.unusedSimpArgs false
namespace Go.Proofs.Ytgmlcgifagbjmaa
section
open Go.ChangeShapes Go.WideShapes Go.ChangeAt Go.RowKit Go.Joins
set_option maxRecDepth 100000 in
theorem plays_lifted (os : Os) (started : os.Started) (H : Type) (enc : TypeId × Value → H) :
  ReturnsInHanded {} Try.checked os 4 .any (Rows.legPlaysSpec.pre6 enc Try.prog Try.f4 Rows.legPlaysRow.domain false) (Rows.legPlaysSpec.post enc Try.prog Try.f4 false true false false) := by
 refine returnsInHanded_of_change (C := Try.checked) fr_own started (by kernel_rfl) Try.func4
  (ChangeSpec.witness6 (enc := enc) (C := Try.checked) false ⟨#[], #[.agg #[.slice none 0 0, .int .i64 0, .int .i64 0, .bool false], .slice none 0 0], []⟩ 8 (by kernel_rfl) (by kernel_rfl) (by kernel_rfl) (by kernel_rfl)) ?_
 intro W base args ds gs before hval0 hW hcnd _
 have hval : ∀ (j : Nat) t v, Try.f4.params[j]? = some t → args[j]? = some v → Value.okWide Try.prog W .any base t v := hval0
 have hW' := hW
 obtain ⟨p, q, hA0, hV, rfl, hfz, hnd⟩ := hW
 have hA : DataW.TrodAll enc Try.prog W 0 (fun _ => true) true Try.f4.params.toList args.toList ds p := hA0
 rw [Try.params4] at hA hval
 obtain ⟨v0, vs0, d0, ds0, p0, q0, hargs, rfl, rfl, h0, r0⟩ := trodAll_cons hA
 obtain ⟨v1, vs1, d1, ds1, p1, q1, rfl, rfl, rfl, h1, r1⟩ := trodAll_cons r0
 obtain ⟨rfl, rfl, rfl⟩ := trodAll_nil r1
 obtain rfl : args = #[v0, v1] := by cases args; simp_all
 obtain ⟨rfl, rfl⟩ := trodVars_none hV
 obtain ⟨cs0, rfl, _⟩ := okWide_struct Try.underlying42 (hval 0 42 v0 rfl rfl)
 obtain ⟨a1, len1, cap1, rfl⟩ := okWide_slice Try.underlying43 (hval 1 43 v1 rfl rfl)
 have k0 := h0
 have k1 := h1
 have lt0 : ∀ x ∈ p0, x.block < W.heap.size := by obtain ⟨m, hm⟩ := k0; exact DataW.trod_lt m _ _ _ hm
 have lt1 : ∀ x ∈ p1, x.block < W.heap.size := by obtain ⟨m, hm⟩ := k1; exact DataW.trod_lt m _ _ _ hm
 obtain ⟨vc, cnts, f, rd, eq, e0, sc⟩ : ∃ vc cnts f rd eq, cs0 = #[vc, .int .i64 f, .int .i64 rd, .bool eq] ∧ Sl W 3 encC vc cnts := by
  obtain ⟨m, hm⟩ := h0
  obtain ⟨vc, cnts, f, rd, eq, e0, r, _⟩ := rules_open hm
  exact ⟨vc, cnts, f, rd, eq, Array.toList_inj.1 (by simpa [Value.cells] using e0), r.1⟩
 obtain ⟨lv, s1, b1⟩ : ∃ lv : List (Int × Value × List Int), Sl W 2 encV (.slice a1 len1 cap1) lv ∧ ∀ x ∈ lv, Sl W 1 eI x.2.1 x.2.2 ∧ ∀ b ∈ x.2.2, I64 b := by
  obtain ⟨m, hm⟩ := h1
  obtain ⟨v, lv, e0, r⟩ := visits_open hm
  simp [Value.cells] at e0
  subst e0
  exact ⟨lv, r⟩
 subst e0
 clear hA0 hval0
 refine (plays_law ⟨cnts, f, rd, eq⟩ vc lv (.slice a1 len1 cap1) W sc s1 b1).mono fun e W' hRet => ?_
 obtain ⟨he, bel⟩ := hRet
 subst he
 exact ⟨_, rfl, _, _, _, [], _, [], hW', trodAll_mk1 (shut_bool Try.underlying4 _), (trodAll_cons_mk (Below.trod fr_laid (by kernel_rfl) (of_decide_eq_true (by kernel_rfl)) k0 bel lt0) (trodAll_cons_mk (Below.trod fr_laid (by kernel_rfl) (of_decide_eq_true (by kernel_rfl)) k1 bel lt1) trodAll_mk0)), rfl, bel.frame _, fun h => by cases h⟩
theorem plays_over : Rows.legPlaysRow.holds Try.pinned (OpenSpec.ofChange Rows.legPlaysSpec) :=
 OpenClaim.holds_of_wide 4 Try.f4 rfl rfl rfl rfl rfl rfl rfl ⟨rfl, rfl, rfl, rfl, rfl⟩ rfl rfl rfl rfl rfl (by kernel_rfl) Try.func4 (by kernel_rfl)
  (of_decide_eq_true (by kernel_rfl)) (by unfold Func.isWrapper; rw [if_neg (of_decide_eq_false (by kernel_rfl))]; exact ⟨rfl, rfl⟩)
  (fun os started H enc _ => plays_lifted os started H enc)
theorem plays_proved : Rows.LegPlaysSaid := plays_over
#print axioms plays_proved
end
end Go.Proofs.Ytgmlcgifagbjmaa
