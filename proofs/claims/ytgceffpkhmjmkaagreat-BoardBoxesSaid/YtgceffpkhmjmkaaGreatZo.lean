/- Board, part Zo: the bed on a board in a mirror. -/
import Derived.Test.YtgceffpkhmjmkaaGreatZn
set_option linter.unusedVariables false
set_option linter.unusedSimpArgs false
namespace Go.Proofs.YtgceffpkhmjmkaaGreat

def mirB (b : Brd) : Brd :=
  { b with lines := (List.range b.lines.length).map fun i => mir (b.lines[(b.lines.length - i) % b.lines.length]?.getD (0, 0)), nums := (List.range b.nums.length).map fun i => b.nums[b.nums.length - 1 - i]?.getD 0 }

theorem lines_sorted {b : Brd} (hc : chk b = 0) : ∃ f, b.lines[0]? = some f ∧ 0 < dt f f ∧ ∀ i, 1 ≤ i → i < b.lines.length → ∃ a c, b.lines[i - 1]? = some a ∧ b.lines[i]? = some c ∧ sooner f a c = true := by
  have hv : linesOk b = true := by
    unfold chk at hc
    split at hc
    · omega
    · split at hc
      · rename_i h
        unfold valid at h
        simp only [Bool.and_eq_true] at h
        exact h.2
      · omega
  unfold linesOk at hv
  simp only [Bool.and_eq_true, decide_eq_true_eq, List.all_eq_true, List.mem_range] at hv
  obtain ⟨⟨h3, hz⟩, hall⟩ := hv
  have hf : b.lines[0]? = some b.lines[0] := List.getElem?_eq_getElem (by omega)
  refine ⟨b.lines[0], hf, ?_, ?_⟩
  · have hne : b.lines[0] ≠ (0, 0) := by
      intro e
      simp only [Bool.not_eq_true', List.any_eq_false] at hz
      have := hz _ (List.getElem_mem (by omega : 0 < b.lines.length))
      simp [e] at this
    generalize b.lines[0] = l at hne
    unfold dt
    rcases Int.lt_trichotomy l.1 0 with h | h | h
    · have h1 := Int.mul_pos_of_neg_of_neg h h
      have h2 : 0 ≤ l.2 * l.2 := by
        rcases Int.lt_or_le l.2 0 with q | q
        · exact Int.le_of_lt (Int.mul_pos_of_neg_of_neg q q)
        · exact Int.mul_nonneg q q
      omega
    · rcases Int.lt_trichotomy l.2 0 with q | q | q
      · have := Int.mul_pos_of_neg_of_neg q q
        rw [h]; omega
      · exact absurd (Prod.ext h q) hne
      · have := Int.mul_pos q q
        rw [h]; omega
    · have h1 := Int.mul_pos h h
      have h2 : 0 ≤ l.2 * l.2 := by
        rcases Int.lt_or_le l.2 0 with q | q
        · exact Int.le_of_lt (Int.mul_pos_of_neg_of_neg q q)
        · exact Int.mul_nonneg q q
      omega
  · intro i h1 h2
    have h := hall i h2
    unfold lineOk at h
    have hi : b.lines[i]? = some b.lines[i] := List.getElem?_eq_getElem h2
    have hp : b.lines[i - 1]? = some b.lines[i - 1] := List.getElem?_eq_getElem (by omega)
    rw [hf, hi, hp] at h
    split at h
    · rename_i f' l' m' e1 e2 e3
      simp only [Option.some.injEq] at e1 e2
      subst e1 e2
      simp only [Bool.and_eq_true, Bool.or_eq_true, decide_eq_true_eq] at h
      rcases h.2 with h | h
      · omega
      · exact ⟨_, _, hp, hi, h⟩
    · cases h

theorem sector_mir {b : Brd} (hc : chk b = 0) (p : Int × Int) (hp : ∀ l ∈ b.lines, crs l p ≠ 0) : sector (mirB b) (mir p) = b.lines.length - 1 - sector b p := by
  obtain ⟨f, hf, hff, hso⟩ := lines_sorted hc
  have hn : 0 < b.lines.length := (List.getElem?_eq_some_iff.1 hf).1
  have hfm : f ∈ b.lines := List.mem_of_getElem? hf
  have hfp := hp f hfm
  have h0 : sooner f p f = false := by
    unfold sooner
    have c1 := part_cases f p
    have c2 := part_cases f f
    rw [crs_self] at c2
    rw [if_neg (by omega), decide_eq_false_iff_not]
    omega
  -- the lines are in order
  have hmono : ∀ j i : Nat, i < j → j < b.lines.length → ∀ a c, b.lines[i]? = some a → b.lines[j]? = some c → sooner f a c = true := by
    intro j
    induction j with
    | zero => intro i h; omega
    | succ j ih =>
      intro i hij hj a c ha hcc
      obtain ⟨a', c', e1, e2, e3⟩ := hso (j + 1) (by omega) hj
      rw [Nat.add_sub_cancel] at e1
      rw [hcc] at e2
      simp only [Option.some.injEq] at e2
      subst e2
      by_cases hi : i = j
      · subst hi
        rw [ha] at e1
        simp only [Option.some.injEq] at e1
        subst e1
        exact e3
      · exact sooner_trans hff (ih i (by omega) (by omega) a a' ha e1) e3
  have hpart : ∀ j c, 1 ≤ j → b.lines[j]? = some c → partTo f c ≠ 0 := by
    intro j c h1 hcc e
    obtain ⟨a, c', e1, e2, e3⟩ := hso j h1 (List.getElem?_eq_some_iff.1 hcc).1
    rw [hcc] at e2
    simp only [Option.some.injEq] at e2
    subst e2
    unfold sooner at e3
    have c1 := part_cases f a
    have c2 := part_cases f c
    have c3 := part_cases a c
    split at e3
    · simp only [decide_eq_true_eq] at e3
      have := crs_par hff (a := a) (b := c) (by omega) (by omega)
      omega
    · simp only [decide_eq_true_eq] at e3
      omega
  obtain ⟨l, s1, s2, s3, s4⟩ := sec_spec b.lines p f hf h0 b.lines.length hn (Nat.le_refl _)
  have hs : sector b p = sec b.lines p b.lines.length := rfl
  rw [hs]
  generalize sec b.lines p b.lines.length = s at *
  have hlow : ∀ j c, j ≤ s → b.lines[j]? = some c → sooner f p c = false := by
    intro j c hj hcc
    by_cases e : j = s
    · subst e
      rw [hcc] at s1
      simp only [Option.some.injEq] at s1
      subst s1; exact s3
    · cases h : sooner f p c with
      | false => rfl
      | true =>
        have := sooner_trans hff h (hmono s j (by omega) s2 c l hcc s1)
        rw [s3] at this; cases this
  have hlen : (mirB b).lines.length = b.lines.length := by simp [mirB]
  have hget : ∀ i, i < b.lines.length → ∃ c, b.lines[(b.lines.length - i) % b.lines.length]? = some c ∧ (mirB b).lines[i]? = some (mir c) := by
    intro i hi
    have hlt : (b.lines.length - i) % b.lines.length < b.lines.length := Nat.mod_lt _ hn
    refine ⟨_, List.getElem?_eq_getElem hlt, ?_⟩
    simp only [mirB]
    rw [List.getElem?_map, List.getElem?_range hi, Option.map_some, List.getElem?_eq_getElem hlt, Option.getD_some]
  have hf' : (mirB b).lines[0]? = some (mir f) := by
    obtain ⟨c, e1, e2⟩ := hget 0 hn
    rw [Nat.sub_zero, Nat.mod_self, hf] at e1
    simp only [Option.some.injEq] at e1
    subst e1; exact e2
  have hfp' : crs (mir f) (mir p) ≠ 0 := by rw [crs_mir]; omega
  have h0' : sooner (mir f) (mir p) (mir f) = false := by
    unfold sooner
    have c1 := part_cases (mir f) (mir p)
    have c2 := part_cases (mir f) (mir f)
    rw [crs_self, dt_mir] at c2
    rw [if_neg (by omega), decide_eq_false_iff_not]
    omega
  have hcl : ∀ c ∈ b.lines, crs p c ≠ 0 := by
    intro c hcm e
    apply hp c hcm
    unfold crs at *
    have e1 := Int.mul_comm c.1 p.2
    have e2 := Int.mul_comm c.2 p.1
    omega
  unfold sector
  rw [hlen]
  have hother : ∀ k, 1 ≤ k → k < b.lines.length → ∀ m, (mirB b).lines[k]? = some m → ∃ c, b.lines[b.lines.length - k]? = some c ∧ sooner (mir f) (mir p) m = !sooner f p c := by
    intro k h1 h2 m hm
    obtain ⟨c, e1, e2⟩ := hget k h2
    rw [Nat.mod_eq_of_lt (by omega)] at e1
    rw [hm] at e2
    simp only [Option.some.injEq] at e2
    subst e2
    exact ⟨c, e1, sooner_mir (hcl c (List.mem_of_getElem? e1)) hfp (hpart _ c (by omega) e1)⟩
  obtain ⟨m, _, hm⟩ := hget (b.lines.length - 1 - s) (by omega)
  refine sec_uniq hf' h0' hn (by rw [hlen]; exact Nat.le_refl _) (by omega) hm ?_ ?_
  · by_cases hz : b.lines.length - 1 - s = 0
    · rw [hz, hf'] at hm
      rw [← (Option.some.inj hm)]
      exact h0'
    · obtain ⟨c, e1, e2⟩ := hother _ (by omega) (by omega) _ hm
      rw [e2, s4 _ c (by omega) (by omega) e1]
      rfl
  · intro k m' h1 h2 hm'
    obtain ⟨c, e1, e2⟩ := hother k (by omega) h2 _ hm'
    rw [e2, hlow _ c (by omega) e1]
    rfl

theorem near_mir (wi : Int) (d p : Int × Int) : nearLine wi (mir d) (mir p) = nearLine wi d p := by
  unfold nearLine
  rw [crs_mir, dt_mir, dt_mir, Int.neg_mul_neg]
theorem lines_mir {b : Brd} (hn : 0 < b.lines.length) (m : Int × Int) : m ∈ (mirB b).lines ↔ ∃ l ∈ b.lines, m = mir l := by
  simp only [mirB, List.mem_map, List.mem_range]
  constructor
  · rintro ⟨i, hi, rfl⟩
    have hlt : (b.lines.length - i) % b.lines.length < b.lines.length := Nat.mod_lt _ hn
    rw [List.getElem?_eq_getElem hlt, Option.getD_some]
    exact ⟨_, List.getElem_mem hlt, rfl⟩
  · rintro ⟨l, hl, rfl⟩
    obtain ⟨j, hj, rfl⟩ := List.getElem_of_mem hl
    refine ⟨(b.lines.length - j) % b.lines.length, Nat.mod_lt _ hn, ?_⟩
    have e : (b.lines.length - (b.lines.length - j) % b.lines.length) % b.lines.length = j := by
      by_cases hz : j = 0
      · subst hz
        rw [Nat.sub_zero, Nat.mod_self, Nat.sub_zero, Nat.mod_self]
      · rw [Nat.mod_eq_of_lt (by omega : b.lines.length - j < b.lines.length), Nat.mod_eq_of_lt (by omega)]
        omega
    rw [e, List.getElem?_eq_getElem hj, Option.getD_some]
theorem onWire_mir {b : Brd} (hn : 0 < b.lines.length) (p : Int × Int) : onWire (mirB b) (mir p) = onWire b p := by
  have h1 : onCircle (mirB b) (mir p) = onCircle b p := by
    unfold onCircle
    rw [dt_mir]
    rfl
  have h2 : (mirB b).lines.any (nearLine (mirB b).wire (mir p)) = b.lines.any (nearLine b.wire p) := by
    rw [Bool.eq_iff_iff, List.any_eq_true, List.any_eq_true]
    constructor
    · rintro ⟨m, hm, h⟩
      obtain ⟨l, hl, rfl⟩ := (lines_mir hn m).1 hm
      have hw : (mirB b).wire = b.wire := rfl
      rw [hw, near_mir] at h
      exact ⟨l, hl, h⟩
    · rintro ⟨l, hl, h⟩
      refine ⟨mir l, (lines_mir hn _).2 ⟨l, hl, rfl⟩, ?_⟩
      have hw : (mirB b).wire = b.wire := rfl
      rw [hw, near_mir]; exact h
  unfold onWire onLine
  rw [h1, h2, dt_mir]
  rfl
theorem bedW_mir {b : Brd} (hc : chk b = 0) (p : Int × Int) (hp : ∀ l ∈ b.lines, crs l p ≠ 0) : bedW (mirB b) (mir p) = bedW b p := by
  have g := good_of_chk hc
  have hn : 0 < b.lines.length := List.length_pos_iff.2 g.lines
  have hs := sec_le b.lines p b.lines.length
  obtain ⟨f, hf, _, _⟩ := lines_sorted hc
  have hsl : sector b p < b.lines.length := by
    have hfp := hp f (List.mem_of_getElem? hf)
    have h0 : sooner f p f = false := by
      unfold sooner
      have c1 := part_cases f p
      have c2 := part_cases f f
      rw [crs_self] at c2
      rw [if_neg (by omega), decide_eq_false_iff_not]
      omega
    obtain ⟨_, _, h, _⟩ := sec_spec b.lines p f hf h0 b.lines.length hn (Nat.le_refl _)
    exact h
  have hnum : (mirB b).nums[sector (mirB b) (mir p)]?.getD 0 = b.nums[sector b p]?.getD 0 := by
    rw [sector_mir hc p hp]
    simp only [mirB]
    rw [List.getElem?_map, List.getElem?_range (by have := g.same; omega), Option.map_some, Option.getD_some]
    rw [show b.nums.length - 1 - (b.lines.length - 1 - sector b p) = sector b p by have := g.same; omega]
  unfold bedW
  rw [onWire_mir hn]
  split
  · rfl
  · unfold landed
    rw [dt_mir, hnum]
    rfl
end Go.Proofs.YtgceffpkhmjmkaaGreat
