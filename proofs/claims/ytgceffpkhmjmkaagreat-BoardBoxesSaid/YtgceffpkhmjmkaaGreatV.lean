/- Board, part V: the next plan of turns. -/
import Derived.Test.YtgceffpkhmjmkaaGreatP
set_option linter.unusedVariables false
set_option linter.unusedSimpArgs false
namespace Go.Proofs.YtgceffpkhmjmkaaGreat
open Go.RowKit Go.Shelf

/-- The next plan, by the places below k. -/
def advAt (S : Int) : List Int → Nat → List Int × Bool
  | l, 0 => (l, false)
  | l, k + 1 => if l[k]?.getD 0 + 1 < S then (l.set k (l[k]?.getD 0 + 1), true) else advAt S (l.set k 0) k

theorem advAt_length (S : Int) (k : Nat) : ∀ l, (advAt S l k).1.length = l.length := by
  induction k with
  | zero => intro l; rfl
  | succ k ih =>
    intro l
    unfold advAt
    split
    · simp
    · rw [ih]; simp

/-- What a call leaves that writes only into the row of block g. -/
def RetAdv (base g : Nat) (l : List Int) (r : Bool) (w : World) (e : Ending) (w' : World) : Prop :=
  e = .returned (.bool r) ∧ w'.ownsRow base 3 1 (.slice (some ⟨g, 0, none⟩) l.length l.length) l.length (l.map (Value.int .i64)) ∧ Below g w w' ∧ (∀ b, b ≠ g → b < w.heap.size → w'.heap[b]? = w.heap[b]?)

set_option maxRecDepth 100000 in
set_option maxHeartbeats 2000000 in
theorem advance_any (base g : Nat) (S : Int) (plan : List Int) (w : World) (hg : base ≤ g) (hown : w.ownsRow base 3 1 (.slice (some ⟨g, 0, none⟩) plan.length plan.length) plan.length (plan.map (Value.int .i64)))
    (hle : plan.length ≤ 1000) (hb : ∀ x ∈ plan, -1000000 ≤ x ∧ x ≤ 1000000) :
    Calls Tryz.prog 101 #[.slice (some ⟨g, 0, none⟩) plan.length plan.length, .int .i64 S] w (RetAdv base g (advAt S plan plan.length).1 (advAt S plan plan.length).2 w) := by
  unfold RetAdv
  rw [advAt_length]
  obtain ⟨n, hn⟩ : ∃ n, plan.length = n := ⟨_, rfl⟩
  have HN : Aside (plan.length = n) := hn
  have HB : Aside (∀ x ∈ plan, -1000000 ≤ x ∧ x ≤ 1000000) := hb
  rw [hn] at hle hown ⊢
  clear hn hb
  obtain ⟨res, hres⟩ : ∃ res, advAt S plan n = res := ⟨_, rfl⟩
  have HRES : Aside (advAt S plan n = res) := hres
  rw [hres]
  clear hres
  go_enter Tryz.func101, Tryz.ntmps101
  go_wp2
  go_loopg [5] (n + 1) (fun gg i wr => ∃ (k : Nat) (cur : List Int), k ≤ n ∧ k < gg ∧ i = .int .i64 ((k : Int) - 1) ∧ wr.ownsRow base 3 1 (.slice (some ⟨g, 0, none⟩) n n) n (cur.map (Value.int .i64)) ∧ Aside (cur.length = n ∧ advAt S cur k = res ∧ (∀ x ∈ cur, -1000000 ≤ x ∧ x ≤ 1000000)) ∧ Aside (Below g w wr ∧ ∀ b, b ≠ g → b < w.heap.size → wr.heap[b]? = w.heap[b]?))
  case atStart => exact ⟨n, plan, Nat.le_refl _, by omega, rfl, hown, ⟨HN.out, HRES.out, HB.out⟩, ⟨Below.refl _ _, fun _ _ _ => rfl⟩⟩
  case round =>
    obtain ⟨k, cur, hk, hgg, rfl, hown', HC, HW⟩ := hrel
    clear hown
    cases k with
    | zero =>
      have hz : ¬ ((0 : Int) ≤ ((0 : Nat) : Int) - 1) := by omega
      have HR : Aside ((cur, false) = res) := HC.out.2.1
      go_wp2
      go_ret
      refine ⟨by rw [← HR.out]; rfl, ?_, HW.out.1, HW.out.2⟩
      rw [← HR.out]; exact hown'
    | succ k =>
      have ek : (((k + 1 : Nat) : Int) - 1) = (k : Int) := by omega
      rw [ek]
      have hlt : (k : Int) < (n : Int) := by omega
      have hkl : k < cur.length := by have := HC.out.1; omega
      have k1 := hown'.cellAt k (by omega)
      rw [List.getElem?_map, List.getElem?_eq_getElem hkl] at k1
      have k1' : wr.cell? ⟨g, k, none⟩ = some (.int .i64 (cur[k])) := k1
      have k2 := hown'.frozenAt k
      have HXB : Aside (-1000000 ≤ cur[k] ∧ cur[k] ≤ 1000000) := HC.out.2.2 _ (List.getElem_mem hkl)
      obtain ⟨u1, u2⟩ := HXB.out
      have HG : Aside (cur[k]?.getD 0 = cur[k]) := by show _ = _; rw [List.getElem?_eq_getElem hkl]; rfl
      have HO1 : Aside ((wr.setCell ⟨g, k, none⟩ (.int .i64 (cur[k] + 1))).ownsRow base 3 1 (.slice (some ⟨g, 0, none⟩) n n) n ((cur.set k (cur[k] + 1)).map (Value.int .i64))) := by
        have := (hown'.stored k (.int .i64 (cur[k] + 1))).1
        rw [List.map_set]; exact this
      have HO2 : Aside (((wr.setCell ⟨g, k, none⟩ (.int .i64 (cur[k] + 1))).setCell ⟨g, k, none⟩ (.int .i64 0)).ownsRow base 3 1 (.slice (some ⟨g, 0, none⟩) n n) n ((cur.set k 0).map (Value.int .i64))) := by
        have := (HO1.out.stored k (.int .i64 0)).1
        rw [← List.map_set, List.set_set] at this; exact this
      clear k1 hown' HXB
      have hm : (wr.setCell ⟨g, k, none⟩ (.int .i64 (cur[k] + 1))).cell? ⟨g, k, none⟩ = some (.int .i64 (cur[k] + 1)) := World.cell?_setCell_same' _ _ _ (by rw [k1']; rfl)
      by_cases ht : cur[k] + 1 < S
      · have HR : Aside ((cur.set k (cur[k] + 1), true) = res) := by
          have := HC.out.2.1
          unfold advAt at this
          rw [HG.out, if_pos ht] at this; exact this
        generalize cur[k] = x at *
        go_wp2
        go_ret
        refine ⟨by rw [← HR.out]; rfl, ?_, HW.out.1.setCell (p := ⟨g, k, none⟩) (Nat.le_refl _) _, fun b h1 h2 => (Below.heap_setCell _ ⟨g, k, none⟩ _ b h1).trans (HW.out.2 b h1 h2)⟩
        rw [← HR.out]; exact HO1.out
      · have HR : Aside (advAt S (cur.set k 0) k = res) := by
          have := HC.out.2.1
          unfold advAt at this
          rw [HG.out, if_neg ht] at this; exact this
        have HL : Aside ((cur.set k 0).length = n) := by show _ = _; rw [List.length_set]; exact HC.out.1
        have HBB : Aside (∀ y ∈ cur.set k 0, -1000000 ≤ y ∧ y ≤ 1000000) := fun y hy => by
          rcases List.mem_or_eq_of_mem_set hy with h | h
          · exact HC.out.2.2 y h
          · omega
        generalize cur[k] = x at *
        go_wp2
        go_roundg (k + 1)
        case measure => omega
        case rel => exact ⟨k, cur.set k 0, by omega, by omega, by go_num, HO2.out, ⟨HL.out, HR.out, HBB.out⟩, ⟨(HW.out.1.setCell (p := ⟨g, k, none⟩) (Nat.le_refl _) _).setCell (p := ⟨g, k, none⟩) (Nat.le_refl _) _, fun b h1 h2 => (Below.heap_setCell _ ⟨g, k, none⟩ _ b h1).trans ((Below.heap_setCell _ ⟨g, k, none⟩ _ b h1).trans (HW.out.2 b h1 h2))⟩⟩
end Go.Proofs.YtgceffpkhmjmkaaGreat
