/-
  No cell of these rows narrows 'for every input' (looked for: loops, veiled, ifaces, maps, wideKeys, modest, calm, conditions, laid).
  DERIVED. THE GIVEN ROWS OF THIS SEAT. 2 by the template 'for every input the law returns true; each argument reads behind the call as it read before'; 0 by the template 'total and deterministic' (their statements: YtgjcgnmomdanaaaTotals.lean).
  GIVEN WITH THE SEED: the statements are not yours to turn. If you find one false, say at which input.
  Laid BY PROGRAM, IN A SANDBOX (cutbox-rows.mjs): the forced cells as the released guide's own fill.sh prints them over the translation 9527d054d5587431… (all of the seat's roots in one cut). By AI agents, Wed Nov 11 2026. No macro, syntax, notation, axiom, sorry.
-/
import Derived.Test.YtgjcgnmomdanaaaChecked
import GoSem.Claim
import GoSem.ClaimJoined
import GoSem.ClaimMapViews
import Derived.JoinedTies
import Derived.KernelRfl
namespace Go.Proofs.Ytgjcgnmomdanaaa
/- THE CELL 'sum', in the pinned program and in every row, IS THE sha256 OF THE DUMP (.gsa) THAT YtgjcgnmomdanaaaProg.lean LOADS. Nothing in Lean hashes anything: it is a label: what it is worth is what the hold of that sum in a sandbox is worth. -/
noncomputable def Try.pinned : Pinned := { name := "ytgjcgnmomdanaaa", sum := "9527d054d55874314667d3b2c736667b6804ce8a7010582bb8885ab1969ac4df", checked := Try.checked }
namespace Rows
def none {H : Type} : Left H := { results := [], args := [] }

/-- 'caissonlaw09.EntriesLetters': WHATEVER THE INPUT: true; the input reads as it did. -/
def entriesLettersSpec : ChangeSpec := { name := "entriesLetters", fn := fun _ => fun
  | [d1, d2] => { results := [.lit (.bool true)], args := [d1, d2] }
  | _ => none }
def entriesLettersRow : OpenClaim := { program := "ytgjcgnmomdanaaa", sum := "9527d054d55874314667d3b2c736667b6804ce8a7010582bb8885ab1969ac4df", func := "caisson/caissonlaw09.EntriesLetters", spec := "entriesLetters", unfollowed := true, recurses := true, apart := false }
def EntriesLettersSaid : Prop := entriesLettersRow.holds Try.pinned (OpenSpec.ofChange entriesLettersSpec)

/-- ITS FALSE NEIGHBOUR: 'it returns false'. Refute it at one input. -/
def entriesLettersWrong : ChangeSpec := { name := "entriesLetters", fn := fun _ => fun
  | [d1, d2] => { results := [.lit (.bool false)], args := [d1, d2] }
  | _ => none }
def EntriesLettersWrongFalsely : Prop := entriesLettersRow.holds Try.pinned (OpenSpec.ofChange entriesLettersWrong)

/-- 'caissonlaw09.EntriesTurned': WHATEVER THE INPUT: true; the input reads as it did. -/
def entriesTurnedSpec : ChangeSpec := { name := "entriesTurned", fn := fun _ => fun
  | [d1, d2, d3, d4] => { results := [.lit (.bool true)], args := [d1, d2, d3, d4] }
  | _ => none }
def entriesTurnedRow : OpenClaim := { program := "ytgjcgnmomdanaaa", sum := "9527d054d55874314667d3b2c736667b6804ce8a7010582bb8885ab1969ac4df", func := "caisson/caissonlaw09.EntriesTurned", spec := "entriesTurned", unfollowed := true, recurses := true, apart := false }
def EntriesTurnedSaid : Prop := entriesTurnedRow.holds Try.pinned (OpenSpec.ofChange entriesTurnedSpec)

/-- ITS FALSE NEIGHBOUR: 'it returns false'. Refute it at one input. -/
def entriesTurnedWrong : ChangeSpec := { name := "entriesTurned", fn := fun _ => fun
  | [d1, d2, d3, d4] => { results := [.lit (.bool false)], args := [d1, d2, d3, d4] }
  | _ => none }
def EntriesTurnedWrongFalsely : Prop := entriesTurnedRow.holds Try.pinned (OpenSpec.ofChange entriesTurnedWrong)

/- THE SECOND FORM. 'bulk': how many values and letters a reading holds, each counted each time it is reached (what is shared counts as often as it is met; a slice's spare places count too). A statement '..UptoSaid' is the law's where the arguments, and the package variables that the reading takes, are together of bulk at most 1048576: NARROWER than '..Said'. Prove '..Said' where nothing that the law and all that it calls make is longer than what came in: it says more and counts as full. Else prove '..UptoSaid'. A law counts once. -/
mutual
def uptoBulk {H : Type} : DataW H → Nat
  | .lit (.string bytes) => bytes.length + 1
  | .lit _ => 1
  | .nil => 1
  | .ptr d => uptoBulk d + 1
  | .slice elems spare => uptoBulkAll elems + uptoBulkAll spare + 1
  | .agg parts => uptoBulkAll parts + 1
  | .iface _ d => uptoBulk d + 1
  | .map entries => uptoBulkEntries entries + 1
  | .held _ => 1
def uptoBulkAll {H : Type} : List (DataW H) → Nat
  | [] => 0
  | d :: r => uptoBulk d + uptoBulkAll r
def uptoBulkEntries {H : Type} : List (Lit × DataW H) → Nat
  | [] => 0
  | x :: r => uptoBulkEntry x + uptoBulkEntries r
def uptoBulkEntry {H : Type} : Lit × DataW H → Nat
  | (.string bytes, d) => bytes.length + uptoBulk d + 1
  | (_, d) => uptoBulk d + 1
 end
def uptoSmall : (H : Type) → List (DataW H) → Bool := fun _ ds => decide (uptoBulkAll ds ≤ 1048576)
def OpenSpec.upto (s : _root_.Go.ChangeSpec) : _root_.Go.OpenSpec := { _root_.Go.OpenSpec.ofChange s with cond := some uptoSmall }

/-- 'caissonlaw09.EntriesLetters', WHERE WHAT IT READS IS OF BULK AT MOST 1048576: true; the input reads as it did. -/
def entriesLettersUptoRow : OpenClaim := { program := "ytgjcgnmomdanaaa", sum := "9527d054d55874314667d3b2c736667b6804ce8a7010582bb8885ab1969ac4df", func := "caisson/caissonlaw09.EntriesLetters", spec := "entriesLetters", unfollowed := true, recurses := true, apart := false, narrowed := true }
def EntriesLettersUptoSaid : Prop := entriesLettersUptoRow.holds Try.pinned (OpenSpec.upto entriesLettersSpec)

/-- 'caissonlaw09.EntriesTurned', WHERE WHAT IT READS IS OF BULK AT MOST 1048576: true; the input reads as it did. -/
def entriesTurnedUptoRow : OpenClaim := { program := "ytgjcgnmomdanaaa", sum := "9527d054d55874314667d3b2c736667b6804ce8a7010582bb8885ab1969ac4df", func := "caisson/caissonlaw09.EntriesTurned", spec := "entriesTurned", unfollowed := true, recurses := true, apart := false, narrowed := true }
def EntriesTurnedUptoSaid : Prop := entriesTurnedUptoRow.holds Try.pinned (OpenSpec.upto entriesTurnedSpec)

end Rows
end Go.Proofs.Ytgjcgnmomdanaaa
