/-
  No cell of these rows narrows 'for every input' (looked for: loops, veiled, ifaces, maps, wideKeys, modest, calm, conditions, laid).
  DERIVED. THE GIVEN ROWS OF THIS SEAT. 4 by the template 'for every input the law returns true; each argument reads behind the call as it read before'; 0 by the template 'total and deterministic' (their statements: YtgceffpkhmjmkaaGreatTotals.lean).
  GIVEN WITH THE SEED: the statements are not yours to turn. If you find one false, say at which input.
  Laid BY PROGRAM, IN A SANDBOX (cutbox-rows.mjs): the forced cells as the released guide's own fill.sh prints them over the translation dffc3b48bfb6b693… (all of the seat's roots in one cut). By AI agents, Wed Nov 11 2026. No macro, syntax, notation, axiom, sorry.
-/
import Derived.Test.YtgceffpkhmjmkaaGreatChecked
import GoSem.Claim
import GoSem.ClaimJoined
import GoSem.ClaimMapViews
import Derived.JoinedTies
import Derived.KernelRfl
namespace Go.Proofs.YtgceffpkhmjmkaaGreat
/- THE CELL 'sum', in the pinned program and in every row, IS THE sha256 OF THE DUMP (.gsa) THAT YtgceffpkhmjmkaaGreatProg.lean LOADS. Nothing in Lean hashes anything: it is a label: what it is worth is what the hold of that sum in a sandbox is worth. -/
noncomputable def Tryz.pinned : Pinned := { name := "ytgceffpkhmjmkaagreat", sum := "dffc3b48bfb6b69391aa549b0ac48f9951554bcf8829aeb8270e1249ecebe549", checked := Tryz.checked }
namespace Rows
def none {H : Type} : Left H := { results := [], args := [] }

/-- 'ochelaw01.BoardBeds': WHATEVER THE INPUT: true; the input reads as it did. -/
def boardBedsSpec : ChangeSpec := { name := "boardBeds", fn := fun _ => fun
  | [d1, d2] => { results := [.lit (.bool true)], args := [d1, d2] }
  | _ => none }
def boardBedsRow : OpenClaim := { program := "ytgceffpkhmjmkaagreat", sum := "dffc3b48bfb6b69391aa549b0ac48f9951554bcf8829aeb8270e1249ecebe549", func := "oche/ochelaw01.BoardBeds", spec := "boardBeds", unfollowed := true, recurses := true, apart := false }
def BoardBedsSaid : Prop := boardBedsRow.holds Tryz.pinned (OpenSpec.ofChange boardBedsSpec)

/-- ITS FALSE NEIGHBOUR: 'it returns false'. Refute it at one input. -/
def boardBedsWrong : ChangeSpec := { name := "boardBeds", fn := fun _ => fun
  | [d1, d2] => { results := [.lit (.bool false)], args := [d1, d2] }
  | _ => none }
def BoardBedsWrongFalsely : Prop := boardBedsRow.holds Tryz.pinned (OpenSpec.ofChange boardBedsWrong)

/-- 'ochelaw01.BoardBoxes': WHATEVER THE INPUT: true; the input reads as it did. -/
def boardBoxesSpec : ChangeSpec := { name := "boardBoxes", fn := fun _ => fun
  | [d1, d2] => { results := [.lit (.bool true)], args := [d1, d2] }
  | _ => none }
def boardBoxesRow : OpenClaim := { program := "ytgceffpkhmjmkaagreat", sum := "dffc3b48bfb6b69391aa549b0ac48f9951554bcf8829aeb8270e1249ecebe549", func := "oche/ochelaw01.BoardBoxes", spec := "boardBoxes", unfollowed := true, recurses := true, apart := false }
def BoardBoxesSaid : Prop := boardBoxesRow.holds Tryz.pinned (OpenSpec.ofChange boardBoxesSpec)

/-- ITS FALSE NEIGHBOUR: 'it returns false'. Refute it at one input. -/
def boardBoxesWrong : ChangeSpec := { name := "boardBoxes", fn := fun _ => fun
  | [d1, d2] => { results := [.lit (.bool false)], args := [d1, d2] }
  | _ => none }
def BoardBoxesWrongFalsely : Prop := boardBoxesRow.holds Tryz.pinned (OpenSpec.ofChange boardBoxesWrong)

/-- 'ochelaw01.BoardTurns': WHATEVER THE INPUT: true; the input reads as it did. -/
def boardTurnsSpec : ChangeSpec := { name := "boardTurns", fn := fun _ => fun
  | [d1, d2] => { results := [.lit (.bool true)], args := [d1, d2] }
  | _ => none }
def boardTurnsRow : OpenClaim := { program := "ytgceffpkhmjmkaagreat", sum := "dffc3b48bfb6b69391aa549b0ac48f9951554bcf8829aeb8270e1249ecebe549", func := "oche/ochelaw01.BoardTurns", spec := "boardTurns", unfollowed := true, recurses := true, apart := false }
def BoardTurnsSaid : Prop := boardTurnsRow.holds Tryz.pinned (OpenSpec.ofChange boardTurnsSpec)

/-- ITS FALSE NEIGHBOUR: 'it returns false'. Refute it at one input. -/
def boardTurnsWrong : ChangeSpec := { name := "boardTurns", fn := fun _ => fun
  | [d1, d2] => { results := [.lit (.bool false)], args := [d1, d2] }
  | _ => none }
def BoardTurnsWrongFalsely : Prop := boardTurnsRow.holds Tryz.pinned (OpenSpec.ofChange boardTurnsWrong)

/-- 'ochelaw01.BoardPlans': WHATEVER THE INPUT: true; the input reads as it did. -/
def boardPlansSpec : ChangeSpec := { name := "boardPlans", fn := fun _ => fun
  | [d1, d2] => { results := [.lit (.bool true)], args := [d1, d2] }
  | _ => none }
def boardPlansRow : OpenClaim := { program := "ytgceffpkhmjmkaagreat", sum := "dffc3b48bfb6b69391aa549b0ac48f9951554bcf8829aeb8270e1249ecebe549", func := "oche/ochelaw01.BoardPlans", spec := "boardPlans", unfollowed := true, recurses := true, apart := false }
def BoardPlansSaid : Prop := boardPlansRow.holds Tryz.pinned (OpenSpec.ofChange boardPlansSpec)

/-- ITS FALSE NEIGHBOUR: 'it returns false'. Refute it at one input. -/
def boardPlansWrong : ChangeSpec := { name := "boardPlans", fn := fun _ => fun
  | [d1, d2] => { results := [.lit (.bool false)], args := [d1, d2] }
  | _ => none }
def BoardPlansWrongFalsely : Prop := boardPlansRow.holds Tryz.pinned (OpenSpec.ofChange boardPlansWrong)

/- THE SECOND FORM. 'bulk': how many values and letters a reading holds, each counted each time it is reached (what is shared counts as often as it is met; a slice's spare places count too). A statement '..UptoSaid' is the law's where the arguments, and the package variables that the reading takes, are together of bulk at most 1048576: NARROWER than '..Said'. Prove '..Said' where nothing that the law and all that it calls make is longer than what came in: it says more and counts as full. Else prove '..UptoSaid'. A law counts once. -/
mutual
def uptoBulk {H : Type} : DataW H → Nat
  | .lit (.string bytes) => bytes.length + 1
  | .lit _ => 1
  | .nil => 1
  | .ptr d => uptoBulk d + 1
  | .slice elems spare => uptoBulkAll elems + uptoBulkAll spare + 1
  | .agg parts => uptoBulkAll parts + 1
  | .iface _ d => uptoBulk d + 1
  | .map entries => uptoBulkEntries entries + 1
  | .held _ => 1
def uptoBulkAll {H : Type} : List (DataW H) → Nat
  | [] => 0
  | d :: r => uptoBulk d + uptoBulkAll r
def uptoBulkEntries {H : Type} : List (Lit × DataW H) → Nat
  | [] => 0
  | x :: r => uptoBulkEntry x + uptoBulkEntries r
def uptoBulkEntry {H : Type} : Lit × DataW H → Nat
  | (.string bytes, d) => bytes.length + uptoBulk d + 1
  | (_, d) => uptoBulk d + 1
 end
def uptoSmall : (H : Type) → List (DataW H) → Bool := fun _ ds => decide (uptoBulkAll ds ≤ 1048576)
def OpenSpec.upto (s : _root_.Go.ChangeSpec) : _root_.Go.OpenSpec := { _root_.Go.OpenSpec.ofChange s with cond := some uptoSmall }

/-- 'ochelaw01.BoardBeds', WHERE WHAT IT READS IS OF BULK AT MOST 1048576: true; the input reads as it did. -/
def boardBedsUptoRow : OpenClaim := { program := "ytgceffpkhmjmkaagreat", sum := "dffc3b48bfb6b69391aa549b0ac48f9951554bcf8829aeb8270e1249ecebe549", func := "oche/ochelaw01.BoardBeds", spec := "boardBeds", unfollowed := true, recurses := true, apart := false, narrowed := true }
def BoardBedsUptoSaid : Prop := boardBedsUptoRow.holds Tryz.pinned (OpenSpec.upto boardBedsSpec)

/-- 'ochelaw01.BoardBoxes', WHERE WHAT IT READS IS OF BULK AT MOST 1048576: true; the input reads as it did. -/
def boardBoxesUptoRow : OpenClaim := { program := "ytgceffpkhmjmkaagreat", sum := "dffc3b48bfb6b69391aa549b0ac48f9951554bcf8829aeb8270e1249ecebe549", func := "oche/ochelaw01.BoardBoxes", spec := "boardBoxes", unfollowed := true, recurses := true, apart := false, narrowed := true }
def BoardBoxesUptoSaid : Prop := boardBoxesUptoRow.holds Tryz.pinned (OpenSpec.upto boardBoxesSpec)

/-- 'ochelaw01.BoardTurns', WHERE WHAT IT READS IS OF BULK AT MOST 1048576: true; the input reads as it did. -/
def boardTurnsUptoRow : OpenClaim := { program := "ytgceffpkhmjmkaagreat", sum := "dffc3b48bfb6b69391aa549b0ac48f9951554bcf8829aeb8270e1249ecebe549", func := "oche/ochelaw01.BoardTurns", spec := "boardTurns", unfollowed := true, recurses := true, apart := false, narrowed := true }
def BoardTurnsUptoSaid : Prop := boardTurnsUptoRow.holds Tryz.pinned (OpenSpec.upto boardTurnsSpec)

/-- 'ochelaw01.BoardPlans', WHERE WHAT IT READS IS OF BULK AT MOST 1048576: true; the input reads as it did. -/
def boardPlansUptoRow : OpenClaim := { program := "ytgceffpkhmjmkaagreat", sum := "dffc3b48bfb6b69391aa549b0ac48f9951554bcf8829aeb8270e1249ecebe549", func := "oche/ochelaw01.BoardPlans", spec := "boardPlans", unfollowed := true, recurses := true, apart := false, narrowed := true }
def BoardPlansUptoSaid : Prop := boardPlansUptoRow.holds Tryz.pinned (OpenSpec.upto boardPlansSpec)

end Rows
end Go.Proofs.YtgceffpkhmjmkaaGreat
