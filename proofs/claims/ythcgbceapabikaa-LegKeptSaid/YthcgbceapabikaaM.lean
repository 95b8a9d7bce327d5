/- Leg, part M: the plain functions: beds, visits, legs, darts at the bull, matches. -/
import Derived.Test.YthcgbceapabikaaC
set_option linter.unusedVariables false
set_option linter.unusedSimpArgs false
namespace Go.Proofs.Ythcgbceapabikaa

def fac (b : Int) : Int := b.tdiv 100
def num (b : Int) : Int := b.tmod 100
def vbed (b : Int) : Bool := decide (b = 0) || decide (b = 125) || decide (b = 225) || (inb 1 4 (fac b) && inb 1 20 (num b))
def sc (b : Int) : Int := b / 100 * (b % 100)
def opn (g b : Int) : Bool := if g = 1 then decide (b / 100 = 2) else if g = 2 then decide (2 ≤ b / 100) else decide (b ≠ 0)
def bst (left out b : Int) : Bool := if left - sc b = 0 then !opn out b else if left - sc b = 1 then decide (out ≠ 0) else decide (left - sc b < 0)

theorem vbed_bd {b : Int} (h : vbed b = true) : 0 ≤ b ∧ b ≤ 420 := by
  unfold vbed inb fac num at h
  simp only [Bool.or_eq_true, Bool.and_eq_true, decide_eq_true_eq] at h
  have := Int.mul_tdiv_add_tmod b 100
  omega
theorem sc_bd {b : Int} (h0 : 0 ≤ b) (h1 : b ≤ 420) : 0 ≤ sc b ∧ sc b ≤ 400 := by
  unfold sc
  have a1 : 0 ≤ b / 100 := by omega
  have a2 : b / 100 ≤ 4 := by omega
  have a3 : 0 ≤ b % 100 := by omega
  have a4 : b % 100 ≤ 99 := by omega
  refine ⟨Int.mul_nonneg a1 a3, ?_⟩
  have : b / 100 * (b % 100) ≤ 4 * 99 := Int.mul_le_mul a2 a4 a3 (by omega)
  omega
theorem sc_zero {b : Int} (h0 : 0 ≤ b) (h1 : b < 100) : sc b = 0 := by
  unfold sc
  have : b / 100 = 0 := by omega
  rw [this]; simp

/-- A visit while it is thrown. -/
structure Thr where
  left : Int
  score : Int
  darts : Int
  inn : Bool
  bust : Bool
  won : Bool
deriving DecidableEq
def Thr.zero : Thr := ⟨0, 0, 0, false, false, false⟩
def Thr.ended (t : Thr) : Bool := t.won || (t.bust || decide (t.darts = 3))
/-- A dart. -/
def Thr.step (c : Cnt) (t : Thr) (b : Int) : Thr :=
  if (t.inn || opn c.2.1 b) = true then
    (if bst t.left c.2.2 b = true then ⟨t.left, t.score, t.darts + 1, t.inn, true, decide (t.left = 0)⟩
     else ⟨t.left - sc b, t.score, t.darts + 1, true, false, decide (t.left - sc b = 0)⟩)
  else ⟨t.left, t.score, t.darts + 1, false, false, decide (t.left = 0)⟩
def Thr.fin (left0 : Int) (in0 : Bool) (t : Thr) : Thr :=
  if t.bust = true then ⟨left0, left0 - left0, t.darts, in0, true, t.won⟩ else ⟨t.left, left0 - t.left, t.darts, t.inn, false, t.won⟩
/-- What beds come to: the visit, the number of the bed with an error, the error. -/
def thrL (c : Cnt) (in0 : Bool) (left0 : Int) : Thr → Nat → List Int → Thr × Int × Int
  | t, _, [] => if t.ended = true then (t.fin left0 in0, -1, 0) else (Thr.zero, -1, 31)
  | t, i, b :: bs => if t.ended = true then (Thr.zero, (i : Int), 32) else if vbed b = true then thrL c in0 left0 (t.step c b) (i + 1) bs else (Thr.zero, (i : Int), 2)
def thr (c : Cnt) (in0 : Bool) (left0 : Int) (bs : List Int) : Thr × Int × Int := thrL c in0 left0 ⟨left0, 0, 0, in0, false, false⟩ 0 bs

/-- What holds while a visit is thrown. -/
structure Thr.Ok (t : Thr) (n : Nat) : Prop where
  l0 : 0 ≤ t.left
  l1 : t.left ≤ 1001
  d : t.darts = (n : Int)
  n3 : n ≤ 3
theorem Thr.Ok.step {t : Thr} {n : Nat} (h : t.Ok n) (he : t.ended = false) (c : Cnt) {b : Int} (hb : vbed b = true) : (t.step c b).Ok (n + 1) := by
  obtain ⟨b0, b1⟩ := vbed_bd hb
  obtain ⟨s0, s1⟩ := sc_bd b0 b1
  have hd := h.d
  unfold Thr.ended at he
  simp only [Bool.or_eq_false_iff, decide_eq_false_iff_not] at he
  have hn : n < 3 := by have := h.n3; have := he.2.2; omega
  unfold Thr.step
  split
  · split
    · exact ⟨h.l0, h.l1, by simp [hd], by omega⟩
    · rename_i h2
      unfold bst at h2
      refine ⟨?_, by have := h.l1; simp; omega, by simp [hd], by omega⟩
      simp only []
      split at h2
      · omega
      · split at h2
        · omega
        · simp at h2; omega
  · exact ⟨h.l0, h.l1, by simp [hd], by omega⟩

/-- The stand of a player. -/
def vstand (c : Cnt) (in0 : Bool) (left : Int) : Bool := inb (if c.2.2 = 0 then 1 else 2) c.1 left && (in0 || decide (left = c.1))
def visitF (c : Cnt) (in0 : Bool) (left : Int) (bs : List Int) : Thr × Int :=
  if vcnt c = true then (if vstand c in0 left = true then ((thr c in0 left bs).1, (thr c in0 left bs).2.2) else (Thr.zero, 3)) else (Thr.zero, 2)

/-- A match while it is played: sets, legs, the winner (or -1). -/
structure Mt where
  s0 : Int
  s1 : Int
  l0 : Int
  l1 : Int
  win : Int
deriving DecidableEq
/-- The laws of a match: legs, sets, clear, extra, first. -/
structure MtL where
  legs : Int
  sets : Int
  clear : Int
  extra : Int
  first : Int
def vmt (m : MtL) : Bool := inb 1 25 m.legs && (inb 1 25 m.sets && (inb 1 2 m.clear && (inb 0 25 m.extra && inb 0 1 m.first)))
/-- Whether the winner of the last leg, with so many legs against so many of the other one, has won the set. -/
def setWon (m : MtL) (s0 s1 mine other : Int) : Bool :=
  if s0 = m.sets - 1 ∧ s1 = m.sets - 1 then (decide (m.legs ≤ mine) && decide (m.clear ≤ mine - other)) || decide (mine = m.legs + m.extra) else decide (mine = m.legs)
def Mt.step (m : MtL) (g : Mt) (w : Int) : Mt :=
  if w = 0 then
    (if setWon m g.s0 g.s1 (g.l0 + 1) g.l1 = true then (if g.s0 + 1 = m.sets then ⟨g.s0 + 1, g.s1, g.l0 + 1, g.l1, 0⟩ else ⟨g.s0 + 1, g.s1, 0, 0, g.win⟩) else ⟨g.s0, g.s1, g.l0 + 1, g.l1, g.win⟩)
  else
    (if setWon m g.s0 g.s1 (g.l1 + 1) g.l0 = true then (if g.s1 + 1 = m.sets then ⟨g.s0, g.s1 + 1, g.l0, g.l1 + 1, 1⟩ else ⟨g.s0, g.s1 + 1, 0, 0, g.win⟩) else ⟨g.s0, g.s1, g.l0, g.l1 + 1, g.win⟩)
def Mt.next (m : MtL) (g : Mt) : Int := if g.win = -1 then (m.first + (g.s0 + g.s1 + g.l0 + g.l1)) % 2 else -1
/-- A match after legs: the match, or the number of the leg with an error and the error. -/
def mtL (m : MtL) : Mt → Nat → List Int → Mt × Int × Int
  | g, _, [] => (g, 0, 0)
  | g, i, w :: ws => if g.win = -1 then (if inb 0 1 w = true then mtL m (g.step m w) (i + 1) ws else (⟨0, 0, 0, 0, 0⟩, (i : Int), 2)) else (⟨0, 0, 0, 0, 0⟩, (i : Int), 33)

/-- What holds while a match is played. -/
structure Mt.Ok (g : Mt) (i : Nat) : Prop where
  a0 : 0 ≤ g.s0
  a1 : g.s0 ≤ (i : Int)
  b0 : 0 ≤ g.s1
  b1 : g.s1 ≤ (i : Int)
  c0 : 0 ≤ g.l0
  c1 : g.l0 ≤ (i : Int)
  d0 : 0 ≤ g.l1
  d1 : g.l1 ≤ (i : Int)
theorem Mt.Ok.step {g : Mt} {i : Nat} (h : g.Ok i) (m : MtL) (w : Int) : (g.step m w).Ok (i + 1) := by
  obtain ⟨a0, a1, b0, b1, c0, c1, d0, d1⟩ := h
  unfold Mt.step
  split <;> split <;> (try split) <;> (constructor <;> simp only [] <;> omega)

end Go.Proofs.Ythcgbceapabikaa
