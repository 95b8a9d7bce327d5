/- Board, part Zp: a board in a mirror is valid. -/
import Derived.Test.YtilgchkndfhdhaaZo
set_option linter.unusedVariables false
set_option linter.unusedSimpArgs false
namespace Go.Proofs.Ytilgchkndfhdhaa

theorem sooner_mir2 {f x y : Int × Int} (h : sooner f y x = true) (hy : partTo f y ≠ 0) (hc : crs y x ≠ 0) : sooner (mir f) (mir x) (mir y) = true := by
  have c1 := part_cases f x
  have c2 := part_cases f y
  have c3 := part_cases y x
  have m1 := part_cases (mir f) (mir x)
  have m2 := part_cases (mir f) (mir y)
  have m3 := part_cases (mir x) (mir y)
  rw [crs_mir, dt_mir] at m1 m2 m3
  have e : crs x y = -crs y x := by
    unfold crs
    have e1 := Int.mul_comm x.1 y.2
    have e2 := Int.mul_comm x.2 y.1
    omega
  rw [e] at m3
  unfold sooner at *
  generalize partTo f x = x1 at *
  generalize partTo f y = x2 at *
  generalize partTo y x = x3 at *
  generalize partTo (mir f) (mir x) = y1 at *
  generalize partTo (mir f) (mir y) = y2 at *
  generalize partTo (mir x) (mir y) = y3 at *
  split at h <;> split <;> simp only [decide_eq_true_eq] at * <;> omega
theorem nums_mir (b : Brd) : (mirB b).nums = b.nums.reverse := by
  apply List.ext_getElem
  · simp [mirB]
  · intro i h1 h2
    have hi : i < b.nums.length := by simpa [mirB] using h1
    simp only [mirB, List.getElem_map, List.getElem_range, List.getElem_reverse]
    rw [List.getElem?_eq_getElem (by omega), Option.getD_some]
theorem vpt_mir (p : Int × Int) : vpt (mir p) = vpt p := by
  unfold vpt mir inb
  rw [Bool.eq_iff_iff]
  simp only [List.all_cons, List.all_nil, Bool.and_true, Bool.and_eq_true, decide_eq_true_eq]
  omega
theorem chk_mir {b : Brd} (hc : chk b = 0) : chk (mirB b) = 0 := by
  have hll : (mirB b).lines.length = b.lines.length := by simp [mirB]
  have hnl : (mirB b).nums.length = b.nums.length := by simp [mirB]
  have hlong : long (mirB b) = long b := by
    unfold long
    rw [hll, hnl]
    rfl
  have hv : long b = false ∧ valid b = true := by
    unfold chk at hc
    split at hc
    · omega
    · rename_i h
      split at hc
      · rename_i h2
        exact ⟨by simpa using h, h2⟩
      · omega
  obtain ⟨f, hf, hff, hso⟩ := lines_sorted hc
  have hn : 0 < b.lines.length := (List.getElem?_eq_some_iff.1 hf).1
  have hpart : ∀ j c, 1 ≤ j → b.lines[j]? = some c → partTo f c ≠ 0 := by
    intro j c h1 hcc e
    obtain ⟨a, c', e1, e2, e3⟩ := hso j h1 (List.getElem?_eq_some_iff.1 hcc).1
    rw [hcc] at e2
    simp only [Option.some.injEq] at e2
    subst e2
    unfold sooner at e3
    have c1 := part_cases f a
    have c2 := part_cases f c
    have c3 := part_cases a c
    split at e3
    · simp only [decide_eq_true_eq] at e3
      have := crs_par hff (a := a) (b := c) (by omega) (by omega)
      omega
    · simp only [decide_eq_true_eq] at e3
      omega
  obtain ⟨h1, h2⟩ := hv
  unfold valid at h2
  simp only [Bool.and_eq_true] at h2
  obtain ⟨⟨⟨w1, w2⟩, w3⟩, w4⟩ := h2
  have hvm : valid (mirB b) = true := by
    unfold valid
    simp only [Bool.and_eq_true]
    refine ⟨⟨⟨w1, w2⟩, ?_⟩, ?_⟩
    · unfold numsOk dist at *
      rw [hll, nums_mir, List.length_reverse]
      simp only [Bool.and_eq_true, decide_eq_true_eq, List.all_eq_true] at w3 ⊢
      refine ⟨⟨w3.1.1, fun x hx => w3.1.2 x (List.mem_reverse.1 hx)⟩, (List.reverse_perm b.nums).nodup_iff.2 w3.2⟩
    · unfold linesOk at w4 ⊢
      rw [hll]
      simp only [Bool.and_eq_true, decide_eq_true_eq, List.all_eq_true, List.mem_range, Bool.not_eq_true', List.any_eq_false] at w4 ⊢
      obtain ⟨⟨v1, v2⟩, v3⟩ := w4
      refine ⟨⟨v1, ?_⟩, ?_⟩
      · intro m hm
        obtain ⟨l, hl, rfl⟩ := (lines_mir hn m).1 hm
        have := v2 l hl
        rw [vpt_mir]
        intro h
        apply this
        simp only [Bool.or_eq_true, decide_eq_true_eq] at h ⊢
        rcases h with h | h
        · left
          unfold mir at h
          simp only [Prod.mk.injEq] at h
          exact Prod.ext (by omega) h.2
        · exact .inr h
      · intro i hi
        have hget : ∀ i, i < b.lines.length → ∃ c, b.lines[(b.lines.length - i) % b.lines.length]? = some c ∧ (mirB b).lines[i]? = some (mir c) := by
          intro i hi
          have hlt : (b.lines.length - i) % b.lines.length < b.lines.length := Nat.mod_lt _ hn
          refine ⟨_, List.getElem?_eq_getElem hlt, ?_⟩
          simp only [mirB]
          rw [List.getElem?_map, List.getElem?_range hi, Option.map_some, List.getElem?_eq_getElem hlt, Option.getD_some]
        -- what the lines of b say
        have hpart1 : ∀ j a c, b.lines[j]? = some a → b.lines[(j + 1) % b.lines.length]? = some c → crs a c < 0 := by
          intro j a c ha hcc
          have hj := (List.getElem?_eq_some_iff.1 ha).1
          have h := v3 j hj
          unfold lineOk at h
          rw [hf, ha, hcc] at h
          simp only [Bool.and_eq_true, decide_eq_true_eq] at h
          exact part_one.1 h.1
        obtain ⟨c0, a0, b0⟩ := hget 0 hn
        rw [Nat.sub_zero, Nat.mod_self, hf] at a0
        simp only [Option.some.injEq] at a0
        subst a0
        obtain ⟨c, a1, b1⟩ := hget i hi
        obtain ⟨d, a2, b2⟩ := hget ((i + 1) % b.lines.length) (Nat.mod_lt _ hn)
        have hdc : crs d c < 0 := by
          refine hpart1 _ d c a2 ?_
          rw [← a1]
          congr 1
          by_cases hz : i + 1 = b.lines.length
          · rw [hz, Nat.mod_self, Nat.sub_zero, Nat.mod_self]
            rw [show b.lines.length - i = 1 by omega]
          · rw [Nat.mod_eq_of_lt (by omega : i + 1 < b.lines.length)]
            rw [Nat.mod_eq_of_lt (by omega : b.lines.length - (i + 1) < b.lines.length)]
            rw [show b.lines.length - (i + 1) + 1 = b.lines.length - i by omega]
        have e : crs c d = -crs d c := by
          unfold crs
          have e1 := Int.mul_comm c.1 d.2
          have e2 := Int.mul_comm c.2 d.1
          omega
        unfold lineOk
        rw [b0, b1, hll, b2]
        simp only [Bool.and_eq_true, Bool.or_eq_true, decide_eq_true_eq, part_one, crs_mir]
        refine ⟨by omega, ?_⟩
        by_cases hz : i = 0
        · exact .inl hz
        · right
          obtain ⟨q, a3, b3⟩ := hget (i - 1) (by omega)
          rw [b3]
          simp only []
          rw [Nat.mod_eq_of_lt (by omega : b.lines.length - i < b.lines.length)] at a1
          by_cases h11 : i = 1
          · subst h11
            rw [Nat.sub_self, Nat.sub_zero, Nat.mod_self, hf] at a3
            simp only [Option.some.injEq] at a3
            subst a3
            unfold sooner
            have p1 := part_cases (mir f) (mir f)
            have p2 := part_cases (mir f) (mir c)
            have p3 := part_cases f c
            have p4 := hpart _ c (by omega) a1
            rw [crs_self, dt_mir] at p1
            rw [crs_mir, dt_mir] at p2
            rw [if_neg (by omega), decide_eq_true_eq]
            omega
          · rw [Nat.mod_eq_of_lt (by omega : b.lines.length - (i - 1) < b.lines.length)] at a3
            obtain ⟨x, y, e1, e2, e3⟩ := hso (b.lines.length - (i - 1)) (by omega) (by omega)
            rw [show b.lines.length - (i - 1) - 1 = b.lines.length - i by omega, a1] at e1
            rw [a3] at e2
            simp only [Option.some.injEq] at e1 e2
            subst e1 e2
            have hcq : crs c q < 0 := by
              refine hpart1 (b.lines.length - i) c q a1 ?_
              rw [← a3]
              congr 1
              rw [Nat.mod_eq_of_lt (by omega)]
              omega
            exact sooner_mir2 e3 (hpart _ c (by omega) a1) (by omega)
  unfold chk
  rw [hlong, h1, hvm]
  rfl
end Go.Proofs.Ytilgchkndfhdhaa
