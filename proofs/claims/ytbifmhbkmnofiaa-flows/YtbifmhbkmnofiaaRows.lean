/-
  No cell of these rows narrows 'for every input' (looked for: loops, veiled, ifaces, maps, wideKeys, modest, calm, conditions, laid).
  DERIVED. THE GIVEN ROWS OF THIS SEAT. 8 by the template 'for every input the law returns true; each argument reads behind the call as it read before'; 0 by the template 'total and deterministic' (their statements: YtbifmhbkmnofiaaTotals.lean).
  GIVEN WITH THE SEED: the statements are not yours to turn. If you find one false, say at which input.
  Laid BY PROGRAM, IN A SANDBOX (cutbox-rows.mjs): the forced cells as the released guide's own fill.sh prints them over the translation fb8a8aff15fcda99… (all of the seat's roots in one cut). By AI agents, Wed Nov 11 2026. No macro, syntax, notation, axiom, sorry.
-/
import Derived.Test.YtbifmhbkmnofiaaChecked
import GoSem.Claim
import GoSem.ClaimJoined
import GoSem.ClaimMapViews
import Derived.JoinedTies
import Derived.KernelRfl
namespace Go.Proofs.Ytbifmhbkmnofiaa
/- THE CELL 'sum', in the pinned program and in every row, IS THE sha256 OF THE DUMP (.gsa) THAT YtbifmhbkmnofiaaProg.lean LOADS. Nothing in Lean hashes anything: it is a label: what it is worth is what the hold of that sum in a sandbox is worth. -/
noncomputable def Try.pinned : Pinned := { name := "ytbifmhbkmnofiaa", sum := "fb8a8aff15fcda99aed8eb472f0ad3e0e2ecfee6a60cb0e01585fece3a85575d", checked := Try.checked }
namespace Rows
def none {H : Type} : Left H := { results := [], args := [] }

/-- 'springkeep.Published': WHATEVER THE INPUT: true; the input reads as it did. -/
def publishedSpec : ChangeSpec := { name := "published", fn := fun _ => fun
  | [] => { results := [.lit (.bool true)], args := [] }
  | _ => none }
def publishedRow : OpenClaim := { program := "ytbifmhbkmnofiaa", sum := "fb8a8aff15fcda99aed8eb472f0ad3e0e2ecfee6a60cb0e01585fece3a85575d", func := "spring/springkeep.Published", spec := "published", apart := false }
def PublishedSaid : Prop := publishedRow.holds Try.pinned (OpenSpec.ofChange publishedSpec)

/-- ITS FALSE NEIGHBOUR: 'it returns false'. Refute it at one input. -/
def publishedWrong : ChangeSpec := { name := "published", fn := fun _ => fun
  | [] => { results := [.lit (.bool false)], args := [] }
  | _ => none }
def PublishedWrongFalsely : Prop := publishedRow.holds Try.pinned (OpenSpec.ofChange publishedWrong)

/-- 'springkeep.Pieces': WHATEVER THE INPUT: true; the input reads as it did. -/
def piecesSpec : ChangeSpec := { name := "pieces", fn := fun _ => fun
  | [d1, d2, d3] => { results := [.lit (.bool true)], args := [d1, d2, d3] }
  | _ => none }
def piecesRow : OpenClaim := { program := "ytbifmhbkmnofiaa", sum := "fb8a8aff15fcda99aed8eb472f0ad3e0e2ecfee6a60cb0e01585fece3a85575d", func := "spring/springkeep.Pieces", spec := "pieces", apart := false }
def PiecesSaid : Prop := piecesRow.holds Try.pinned (OpenSpec.ofChange piecesSpec)

/-- ITS FALSE NEIGHBOUR: 'it returns false'. Refute it at one input. -/
def piecesWrong : ChangeSpec := { name := "pieces", fn := fun _ => fun
  | [d1, d2, d3] => { results := [.lit (.bool false)], args := [d1, d2, d3] }
  | _ => none }
def PiecesWrongFalsely : Prop := piecesRow.holds Try.pinned (OpenSpec.ofChange piecesWrong)

/-- 'springkeep.Keyed': WHATEVER THE INPUT: true; the input reads as it did. -/
def keyedSpec : ChangeSpec := { name := "keyed", fn := fun _ => fun
  | [d1, d2] => { results := [.lit (.bool true)], args := [d1, d2] }
  | _ => none }
def keyedRow : OpenClaim := { program := "ytbifmhbkmnofiaa", sum := "fb8a8aff15fcda99aed8eb472f0ad3e0e2ecfee6a60cb0e01585fece3a85575d", func := "spring/springkeep.Keyed", spec := "keyed", apart := false }
def KeyedSaid : Prop := keyedRow.holds Try.pinned (OpenSpec.ofChange keyedSpec)

/-- ITS FALSE NEIGHBOUR: 'it returns false'. Refute it at one input. -/
def keyedWrong : ChangeSpec := { name := "keyed", fn := fun _ => fun
  | [d1, d2] => { results := [.lit (.bool false)], args := [d1, d2] }
  | _ => none }
def KeyedWrongFalsely : Prop := keyedRow.holds Try.pinned (OpenSpec.ofChange keyedWrong)

/-- 'springkeep.Alike': WHATEVER THE INPUT: true; the input reads as it did. -/
def alikeSpec : ChangeSpec := { name := "alike", fn := fun _ => fun
  | [d1, d2, d3, d4, d5, d6] => { results := [.lit (.bool true)], args := [d1, d2, d3, d4, d5, d6] }
  | _ => none }
def alikeRow : OpenClaim := { program := "ytbifmhbkmnofiaa", sum := "fb8a8aff15fcda99aed8eb472f0ad3e0e2ecfee6a60cb0e01585fece3a85575d", func := "spring/springkeep.Alike", spec := "alike", unfollowed := true, recurses := true, apart := false }
def AlikeSaid : Prop := alikeRow.holds Try.pinned (OpenSpec.ofChange alikeSpec)

/-- ITS FALSE NEIGHBOUR: 'it returns false'. Refute it at one input. -/
def alikeWrong : ChangeSpec := { name := "alike", fn := fun _ => fun
  | [d1, d2, d3, d4, d5, d6] => { results := [.lit (.bool false)], args := [d1, d2, d3, d4, d5, d6] }
  | _ => none }
def AlikeWrongFalsely : Prop := alikeRow.holds Try.pinned (OpenSpec.ofChange alikeWrong)

/-- 'springkeep.Begins': WHATEVER THE INPUT: true; the input reads as it did. -/
def beginsSpec : ChangeSpec := { name := "begins", fn := fun _ => fun
  | [d1, d2, d3, d4, d5, d6] => { results := [.lit (.bool true)], args := [d1, d2, d3, d4, d5, d6] }
  | _ => none }
def beginsRow : OpenClaim := { program := "ytbifmhbkmnofiaa", sum := "fb8a8aff15fcda99aed8eb472f0ad3e0e2ecfee6a60cb0e01585fece3a85575d", func := "spring/springkeep.Begins", spec := "begins", unfollowed := true, recurses := true, apart := false }
def BeginsSaid : Prop := beginsRow.holds Try.pinned (OpenSpec.ofChange beginsSpec)

/-- ITS FALSE NEIGHBOUR: 'it returns false'. Refute it at one input. -/
def beginsWrong : ChangeSpec := { name := "begins", fn := fun _ => fun
  | [d1, d2, d3, d4, d5, d6] => { results := [.lit (.bool false)], args := [d1, d2, d3, d4, d5, d6] }
  | _ => none }
def BeginsWrongFalsely : Prop := beginsRow.holds Try.pinned (OpenSpec.ofChange beginsWrong)

/-- 'springkeep.Guarded': WHATEVER THE INPUT: true; the input reads as it did. -/
def guardedSpec : ChangeSpec := { name := "guarded", fn := fun _ => fun
  | [d1, d2, d3, d4, d5] => { results := [.lit (.bool true)], args := [d1, d2, d3, d4, d5] }
  | _ => none }
def guardedRow : OpenClaim := { program := "ytbifmhbkmnofiaa", sum := "fb8a8aff15fcda99aed8eb472f0ad3e0e2ecfee6a60cb0e01585fece3a85575d", func := "spring/springkeep.Guarded", spec := "guarded", unfollowed := true, recurses := true, apart := false }
def GuardedSaid : Prop := guardedRow.holds Try.pinned (OpenSpec.ofChange guardedSpec)

/-- ITS FALSE NEIGHBOUR: 'it returns false'. Refute it at one input. -/
def guardedWrong : ChangeSpec := { name := "guarded", fn := fun _ => fun
  | [d1, d2, d3, d4, d5] => { results := [.lit (.bool false)], args := [d1, d2, d3, d4, d5] }
  | _ => none }
def GuardedWrongFalsely : Prop := guardedRow.holds Try.pinned (OpenSpec.ofChange guardedWrong)

/-- 'springkeep.Flows': WHATEVER THE INPUT: true; the input reads as it did. -/
def flowsSpec : ChangeSpec := { name := "flows", fn := fun _ => fun
  | [d1, d2, d3, d4, d5] => { results := [.lit (.bool true)], args := [d1, d2, d3, d4, d5] }
  | _ => none }
def flowsRow : OpenClaim := { program := "ytbifmhbkmnofiaa", sum := "fb8a8aff15fcda99aed8eb472f0ad3e0e2ecfee6a60cb0e01585fece3a85575d", func := "spring/springkeep.Flows", spec := "flows", unfollowed := true, recurses := true, apart := false }
def FlowsSaid : Prop := flowsRow.holds Try.pinned (OpenSpec.ofChange flowsSpec)

/-- ITS FALSE NEIGHBOUR: 'it returns false'. Refute it at one input. -/
def flowsWrong : ChangeSpec := { name := "flows", fn := fun _ => fun
  | [d1, d2, d3, d4, d5] => { results := [.lit (.bool false)], args := [d1, d2, d3, d4, d5] }
  | _ => none }
def FlowsWrongFalsely : Prop := flowsRow.holds Try.pinned (OpenSpec.ofChange flowsWrong)

/-- 'springkeep.Dead': WHATEVER THE INPUT: true; the input reads as it did. -/
def deadSpec : ChangeSpec := { name := "dead", fn := fun _ => fun
  | [d1, d2, d3, d4, d5, d6, d7] => { results := [.lit (.bool true)], args := [d1, d2, d3, d4, d5, d6, d7] }
  | _ => none }
def deadRow : OpenClaim := { program := "ytbifmhbkmnofiaa", sum := "fb8a8aff15fcda99aed8eb472f0ad3e0e2ecfee6a60cb0e01585fece3a85575d", func := "spring/springkeep.Dead", spec := "dead", unfollowed := true, recurses := true, apart := false }
def DeadSaid : Prop := deadRow.holds Try.pinned (OpenSpec.ofChange deadSpec)

/-- ITS FALSE NEIGHBOUR: 'it returns false'. Refute it at one input. -/
def deadWrong : ChangeSpec := { name := "dead", fn := fun _ => fun
  | [d1, d2, d3, d4, d5, d6, d7] => { results := [.lit (.bool false)], args := [d1, d2, d3, d4, d5, d6, d7] }
  | _ => none }
def DeadWrongFalsely : Prop := deadRow.holds Try.pinned (OpenSpec.ofChange deadWrong)

/- THE SECOND FORM. 'bulk': how many values and letters a reading holds, each counted each time it is reached (what is shared counts as often as it is met; a slice's spare places count too). A statement '..UptoSaid' is the law's where the arguments, and the package variables that the reading takes, are together of bulk at most 1048576: NARROWER than '..Said'. Prove '..Said' where nothing that the law and all that it calls make is longer than what came in: it says more and counts as full. Else prove '..UptoSaid'. A law counts once. -/
mutual
def uptoBulk {H : Type} : DataW H → Nat
  | .lit (.string bytes) => bytes.length + 1
  | .lit _ => 1
  | .nil => 1
  | .ptr d => uptoBulk d + 1
  | .slice elems spare => uptoBulkAll elems + uptoBulkAll spare + 1
  | .agg parts => uptoBulkAll parts + 1
  | .iface _ d => uptoBulk d + 1
  | .map entries => uptoBulkEntries entries + 1
  | .held _ => 1
def uptoBulkAll {H : Type} : List (DataW H) → Nat
  | [] => 0
  | d :: r => uptoBulk d + uptoBulkAll r
def uptoBulkEntries {H : Type} : List (Lit × DataW H) → Nat
  | [] => 0
  | x :: r => uptoBulkEntry x + uptoBulkEntries r
def uptoBulkEntry {H : Type} : Lit × DataW H → Nat
  | (.string bytes, d) => bytes.length + uptoBulk d + 1
  | (_, d) => uptoBulk d + 1
 end
def uptoSmall : (H : Type) → List (DataW H) → Bool := fun _ ds => decide (uptoBulkAll ds ≤ 1048576)
def OpenSpec.upto (s : _root_.Go.ChangeSpec) : _root_.Go.OpenSpec := { _root_.Go.OpenSpec.ofChange s with cond := some uptoSmall }

/-- 'springkeep.Published', WHERE WHAT IT READS IS OF BULK AT MOST 1048576: true; the input reads as it did. -/
def publishedUptoRow : OpenClaim := { program := "ytbifmhbkmnofiaa", sum := "fb8a8aff15fcda99aed8eb472f0ad3e0e2ecfee6a60cb0e01585fece3a85575d", func := "spring/springkeep.Published", spec := "published", apart := false, narrowed := true }
def PublishedUptoSaid : Prop := publishedUptoRow.holds Try.pinned (OpenSpec.upto publishedSpec)

/-- 'springkeep.Pieces', WHERE WHAT IT READS IS OF BULK AT MOST 1048576: true; the input reads as it did. -/
def piecesUptoRow : OpenClaim := { program := "ytbifmhbkmnofiaa", sum := "fb8a8aff15fcda99aed8eb472f0ad3e0e2ecfee6a60cb0e01585fece3a85575d", func := "spring/springkeep.Pieces", spec := "pieces", apart := false, narrowed := true }
def PiecesUptoSaid : Prop := piecesUptoRow.holds Try.pinned (OpenSpec.upto piecesSpec)

/-- 'springkeep.Keyed', WHERE WHAT IT READS IS OF BULK AT MOST 1048576: true; the input reads as it did. -/
def keyedUptoRow : OpenClaim := { program := "ytbifmhbkmnofiaa", sum := "fb8a8aff15fcda99aed8eb472f0ad3e0e2ecfee6a60cb0e01585fece3a85575d", func := "spring/springkeep.Keyed", spec := "keyed", apart := false, narrowed := true }
def KeyedUptoSaid : Prop := keyedUptoRow.holds Try.pinned (OpenSpec.upto keyedSpec)

/-- 'springkeep.Alike', WHERE WHAT IT READS IS OF BULK AT MOST 1048576: true; the input reads as it did. -/
def alikeUptoRow : OpenClaim := { program := "ytbifmhbkmnofiaa", sum := "fb8a8aff15fcda99aed8eb472f0ad3e0e2ecfee6a60cb0e01585fece3a85575d", func := "spring/springkeep.Alike", spec := "alike", unfollowed := true, recurses := true, apart := false, narrowed := true }
def AlikeUptoSaid : Prop := alikeUptoRow.holds Try.pinned (OpenSpec.upto alikeSpec)

/-- 'springkeep.Begins', WHERE WHAT IT READS IS OF BULK AT MOST 1048576: true; the input reads as it did. -/
def beginsUptoRow : OpenClaim := { program := "ytbifmhbkmnofiaa", sum := "fb8a8aff15fcda99aed8eb472f0ad3e0e2ecfee6a60cb0e01585fece3a85575d", func := "spring/springkeep.Begins", spec := "begins", unfollowed := true, recurses := true, apart := false, narrowed := true }
def BeginsUptoSaid : Prop := beginsUptoRow.holds Try.pinned (OpenSpec.upto beginsSpec)

/-- 'springkeep.Guarded', WHERE WHAT IT READS IS OF BULK AT MOST 1048576: true; the input reads as it did. -/
def guardedUptoRow : OpenClaim := { program := "ytbifmhbkmnofiaa", sum := "fb8a8aff15fcda99aed8eb472f0ad3e0e2ecfee6a60cb0e01585fece3a85575d", func := "spring/springkeep.Guarded", spec := "guarded", unfollowed := true, recurses := true, apart := false, narrowed := true }
def GuardedUptoSaid : Prop := guardedUptoRow.holds Try.pinned (OpenSpec.upto guardedSpec)

/-- 'springkeep.Flows', WHERE WHAT IT READS IS OF BULK AT MOST 1048576: true; the input reads as it did. -/
def flowsUptoRow : OpenClaim := { program := "ytbifmhbkmnofiaa", sum := "fb8a8aff15fcda99aed8eb472f0ad3e0e2ecfee6a60cb0e01585fece3a85575d", func := "spring/springkeep.Flows", spec := "flows", unfollowed := true, recurses := true, apart := false, narrowed := true }
def FlowsUptoSaid : Prop := flowsUptoRow.holds Try.pinned (OpenSpec.upto flowsSpec)

/-- 'springkeep.Dead', WHERE WHAT IT READS IS OF BULK AT MOST 1048576: true; the input reads as it did. -/
def deadUptoRow : OpenClaim := { program := "ytbifmhbkmnofiaa", sum := "fb8a8aff15fcda99aed8eb472f0ad3e0e2ecfee6a60cb0e01585fece3a85575d", func := "spring/springkeep.Dead", spec := "dead", unfollowed := true, recurses := true, apart := false, narrowed := true }
def DeadUptoSaid : Prop := deadUptoRow.holds Try.pinned (OpenSpec.upto deadSpec)

end Rows
end Go.Proofs.Ytbifmhbkmnofiaa
