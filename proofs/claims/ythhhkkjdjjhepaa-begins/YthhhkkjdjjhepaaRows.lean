/-
  No cell of these rows narrows 'for every input' (looked for: loops, veiled, ifaces, maps, wideKeys, modest, calm, conditions, laid).
  DERIVED. THE GIVEN ROWS OF THIS SEAT. 9 by the template 'for every input the law returns true; each argument reads behind the call as it read before'; 0 by the template 'total and deterministic' (their statements: YthhhkkjdjjhepaaTotals.lean).
  GIVEN WITH THE SEED: the statements are not yours to turn. If you find one false, say at which input.
  Laid BY PROGRAM, IN A SANDBOX (cutbox-rows.mjs): the forced cells as the released guide's own fill.sh prints them over the translation e5617fe8b58c15a1… (all of the seat's roots in one cut). By AI agents, Wed Nov 11 2026. No macro, syntax, notation, axiom, sorry.
-/
import Derived.Test.YthhhkkjdjjhepaaChecked
import GoSem.Claim
import GoSem.ClaimJoined
import GoSem.ClaimMapViews
import Derived.JoinedTies
import Derived.KernelRfl
namespace Go.Proofs.Ythhhkkjdjjhepaa
/- THE CELL 'sum', in the pinned program and in every row, IS THE sha256 OF THE DUMP (.gsa) THAT YthhhkkjdjjhepaaProg.lean LOADS. Nothing in Lean hashes anything: it is a label: what it is worth is what the hold of that sum in a sandbox is worth. -/
noncomputable def Try.pinned : Pinned := { name := "ythhhkkjdjjhepaa", sum := "e5617fe8b58c15a12479ca24d5e49ffb200732059752f3301e379cbf7370aa61", checked := Try.checked }
namespace Rows
def none {H : Type} : Left H := { results := [], args := [] }

/-- 'springkeep.Published': WHATEVER THE INPUT: true; the input reads as it did. -/
def publishedSpec : ChangeSpec := { name := "published", fn := fun _ => fun
  | [] => { results := [.lit (.bool true)], args := [] }
  | _ => none }
def publishedRow : OpenClaim := { program := "ythhhkkjdjjhepaa", sum := "e5617fe8b58c15a12479ca24d5e49ffb200732059752f3301e379cbf7370aa61", func := "spring/springkeep.Published", spec := "published", apart := false }
def PublishedSaid : Prop := publishedRow.holds Try.pinned (OpenSpec.ofChange publishedSpec)

/-- ITS FALSE NEIGHBOUR: 'it returns false'. Refute it at one input. -/
def publishedWrong : ChangeSpec := { name := "published", fn := fun _ => fun
  | [] => { results := [.lit (.bool false)], args := [] }
  | _ => none }
def PublishedWrongFalsely : Prop := publishedRow.holds Try.pinned (OpenSpec.ofChange publishedWrong)

/-- 'springlaw.Sums': WHATEVER THE INPUT: true; the input reads as it did. -/
def sumsSpec : ChangeSpec := { name := "sums", fn := fun _ => fun
  | [d] => { results := [.lit (.bool true)], args := [d] }
  | _ => none }
def sumsRow : OpenClaim := { program := "ythhhkkjdjjhepaa", sum := "e5617fe8b58c15a12479ca24d5e49ffb200732059752f3301e379cbf7370aa61", func := "spring/springlaw.Sums", spec := "sums", unfollowed := true, recurses := true, apart := false }
def SumsSaid : Prop := sumsRow.holds Try.pinned (OpenSpec.ofChange sumsSpec)

/-- ITS FALSE NEIGHBOUR: 'it returns false'. Refute it at one input. -/
def sumsWrong : ChangeSpec := { name := "sums", fn := fun _ => fun
  | [d] => { results := [.lit (.bool false)], args := [d] }
  | _ => none }
def SumsWrongFalsely : Prop := sumsRow.holds Try.pinned (OpenSpec.ofChange sumsWrong)

/-- 'springkeep.Pieces': WHATEVER THE INPUT: true; the input reads as it did. -/
def piecesSpec : ChangeSpec := { name := "pieces", fn := fun _ => fun
  | [d1, d2, d3] => { results := [.lit (.bool true)], args := [d1, d2, d3] }
  | _ => none }
def piecesRow : OpenClaim := { program := "ythhhkkjdjjhepaa", sum := "e5617fe8b58c15a12479ca24d5e49ffb200732059752f3301e379cbf7370aa61", func := "spring/springkeep.Pieces", spec := "pieces", apart := false }
def PiecesSaid : Prop := piecesRow.holds Try.pinned (OpenSpec.ofChange piecesSpec)

/-- ITS FALSE NEIGHBOUR: 'it returns false'. Refute it at one input. -/
def piecesWrong : ChangeSpec := { name := "pieces", fn := fun _ => fun
  | [d1, d2, d3] => { results := [.lit (.bool false)], args := [d1, d2, d3] }
  | _ => none }
def PiecesWrongFalsely : Prop := piecesRow.holds Try.pinned (OpenSpec.ofChange piecesWrong)

/-- 'springkeep.Keyed': WHATEVER THE INPUT: true; the input reads as it did. -/
def keyedSpec : ChangeSpec := { name := "keyed", fn := fun _ => fun
  | [d1, d2] => { results := [.lit (.bool true)], args := [d1, d2] }
  | _ => none }
def keyedRow : OpenClaim := { program := "ythhhkkjdjjhepaa", sum := "e5617fe8b58c15a12479ca24d5e49ffb200732059752f3301e379cbf7370aa61", func := "spring/springkeep.Keyed", spec := "keyed", apart := false }
def KeyedSaid : Prop := keyedRow.holds Try.pinned (OpenSpec.ofChange keyedSpec)

/-- ITS FALSE NEIGHBOUR: 'it returns false'. Refute it at one input. -/
def keyedWrong : ChangeSpec := { name := "keyed", fn := fun _ => fun
  | [d1, d2] => { results := [.lit (.bool false)], args := [d1, d2] }
  | _ => none }
def KeyedWrongFalsely : Prop := keyedRow.holds Try.pinned (OpenSpec.ofChange keyedWrong)

/-- 'springlaw.Draws': WHATEVER THE INPUT: true; the input reads as it did. -/
def drawsSpec : ChangeSpec := { name := "draws", fn := fun _ => fun
  | [d] => { results := [.lit (.bool true)], args := [d] }
  | _ => none }
def drawsRow : OpenClaim := { program := "ythhhkkjdjjhepaa", sum := "e5617fe8b58c15a12479ca24d5e49ffb200732059752f3301e379cbf7370aa61", func := "spring/springlaw.Draws", spec := "draws", unfollowed := true, recurses := true, apart := false }
def DrawsSaid : Prop := drawsRow.holds Try.pinned (OpenSpec.ofChange drawsSpec)

/-- ITS FALSE NEIGHBOUR: 'it returns false'. Refute it at one input. -/
def drawsWrong : ChangeSpec := { name := "draws", fn := fun _ => fun
  | [d] => { results := [.lit (.bool false)], args := [d] }
  | _ => none }
def DrawsWrongFalsely : Prop := drawsRow.holds Try.pinned (OpenSpec.ofChange drawsWrong)

/-- 'springkeep.Alike': WHATEVER THE INPUT: true; the input reads as it did. -/
def alikeSpec : ChangeSpec := { name := "alike", fn := fun _ => fun
  | [d1, d2, d3, d4, d5, d6] => { results := [.lit (.bool true)], args := [d1, d2, d3, d4, d5, d6] }
  | _ => none }
def alikeRow : OpenClaim := { program := "ythhhkkjdjjhepaa", sum := "e5617fe8b58c15a12479ca24d5e49ffb200732059752f3301e379cbf7370aa61", func := "spring/springkeep.Alike", spec := "alike", unfollowed := true, recurses := true, apart := false }
def AlikeSaid : Prop := alikeRow.holds Try.pinned (OpenSpec.ofChange alikeSpec)

/-- ITS FALSE NEIGHBOUR: 'it returns false'. Refute it at one input. -/
def alikeWrong : ChangeSpec := { name := "alike", fn := fun _ => fun
  | [d1, d2, d3, d4, d5, d6] => { results := [.lit (.bool false)], args := [d1, d2, d3, d4, d5, d6] }
  | _ => none }
def AlikeWrongFalsely : Prop := alikeRow.holds Try.pinned (OpenSpec.ofChange alikeWrong)

/-- 'springkeep.Begins': WHATEVER THE INPUT: true; the input reads as it did. -/
def beginsSpec : ChangeSpec := { name := "begins", fn := fun _ => fun
  | [d1, d2, d3, d4, d5, d6] => { results := [.lit (.bool true)], args := [d1, d2, d3, d4, d5, d6] }
  | _ => none }
def beginsRow : OpenClaim := { program := "ythhhkkjdjjhepaa", sum := "e5617fe8b58c15a12479ca24d5e49ffb200732059752f3301e379cbf7370aa61", func := "spring/springkeep.Begins", spec := "begins", unfollowed := true, recurses := true, apart := false }
def BeginsSaid : Prop := beginsRow.holds Try.pinned (OpenSpec.ofChange beginsSpec)

/-- ITS FALSE NEIGHBOUR: 'it returns false'. Refute it at one input. -/
def beginsWrong : ChangeSpec := { name := "begins", fn := fun _ => fun
  | [d1, d2, d3, d4, d5, d6] => { results := [.lit (.bool false)], args := [d1, d2, d3, d4, d5, d6] }
  | _ => none }
def BeginsWrongFalsely : Prop := beginsRow.holds Try.pinned (OpenSpec.ofChange beginsWrong)

/-- 'springlaw.Watches': WHATEVER THE INPUT: true; the input reads as it did. -/
def watchesSpec : ChangeSpec := { name := "watches", fn := fun _ => fun
  | [d] => { results := [.lit (.bool true)], args := [d] }
  | _ => none }
def watchesRow : OpenClaim := { program := "ythhhkkjdjjhepaa", sum := "e5617fe8b58c15a12479ca24d5e49ffb200732059752f3301e379cbf7370aa61", func := "spring/springlaw.Watches", spec := "watches", unfollowed := true, recurses := true, apart := false }
def WatchesSaid : Prop := watchesRow.holds Try.pinned (OpenSpec.ofChange watchesSpec)

/-- ITS FALSE NEIGHBOUR: 'it returns false'. Refute it at one input. -/
def watchesWrong : ChangeSpec := { name := "watches", fn := fun _ => fun
  | [d] => { results := [.lit (.bool false)], args := [d] }
  | _ => none }
def WatchesWrongFalsely : Prop := watchesRow.holds Try.pinned (OpenSpec.ofChange watchesWrong)

/-- 'springkeep.Guarded': WHATEVER THE INPUT: true; the input reads as it did. -/
def guardedSpec : ChangeSpec := { name := "guarded", fn := fun _ => fun
  | [d1, d2, d3, d4, d5] => { results := [.lit (.bool true)], args := [d1, d2, d3, d4, d5] }
  | _ => none }
def guardedRow : OpenClaim := { program := "ythhhkkjdjjhepaa", sum := "e5617fe8b58c15a12479ca24d5e49ffb200732059752f3301e379cbf7370aa61", func := "spring/springkeep.Guarded", spec := "guarded", unfollowed := true, recurses := true, apart := false }
def GuardedSaid : Prop := guardedRow.holds Try.pinned (OpenSpec.ofChange guardedSpec)

/-- ITS FALSE NEIGHBOUR: 'it returns false'. Refute it at one input. -/
def guardedWrong : ChangeSpec := { name := "guarded", fn := fun _ => fun
  | [d1, d2, d3, d4, d5] => { results := [.lit (.bool false)], args := [d1, d2, d3, d4, d5] }
  | _ => none }
def GuardedWrongFalsely : Prop := guardedRow.holds Try.pinned (OpenSpec.ofChange guardedWrong)

/- THE SECOND FORM. 'bulk': how many values and letters a reading holds, each counted each time it is reached (what is shared counts as often as it is met; a slice's spare places count too). A statement '..UptoSaid' is the law's where the arguments, and the package variables that the reading takes, are together of bulk at most 1048576: NARROWER than '..Said'. Prove '..Said' where nothing that the law and all that it calls make is longer than what came in: it says more and counts as full. Else prove '..UptoSaid'. A law counts once. -/
mutual
def uptoBulk {H : Type} : DataW H → Nat
  | .lit (.string bytes) => bytes.length + 1
  | .lit _ => 1
  | .nil => 1
  | .ptr d => uptoBulk d + 1
  | .slice elems spare => uptoBulkAll elems + uptoBulkAll spare + 1
  | .agg parts => uptoBulkAll parts + 1
  | .iface _ d => uptoBulk d + 1
  | .map entries => uptoBulkEntries entries + 1
  | .held _ => 1
def uptoBulkAll {H : Type} : List (DataW H) → Nat
  | [] => 0
  | d :: r => uptoBulk d + uptoBulkAll r
def uptoBulkEntries {H : Type} : List (Lit × DataW H) → Nat
  | [] => 0
  | x :: r => uptoBulkEntry x + uptoBulkEntries r
def uptoBulkEntry {H : Type} : Lit × DataW H → Nat
  | (.string bytes, d) => bytes.length + uptoBulk d + 1
  | (_, d) => uptoBulk d + 1
 end
def uptoSmall : (H : Type) → List (DataW H) → Bool := fun _ ds => decide (uptoBulkAll ds ≤ 1048576)
def OpenSpec.upto (s : _root_.Go.ChangeSpec) : _root_.Go.OpenSpec := { _root_.Go.OpenSpec.ofChange s with cond := some uptoSmall }

/-- 'springkeep.Published', WHERE WHAT IT READS IS OF BULK AT MOST 1048576: true; the input reads as it did. -/
def publishedUptoRow : OpenClaim := { program := "ythhhkkjdjjhepaa", sum := "e5617fe8b58c15a12479ca24d5e49ffb200732059752f3301e379cbf7370aa61", func := "spring/springkeep.Published", spec := "published", apart := false, narrowed := true }
def PublishedUptoSaid : Prop := publishedUptoRow.holds Try.pinned (OpenSpec.upto publishedSpec)

/-- 'springlaw.Sums', WHERE WHAT IT READS IS OF BULK AT MOST 1048576: true; the input reads as it did. -/
def sumsUptoRow : OpenClaim := { program := "ythhhkkjdjjhepaa", sum := "e5617fe8b58c15a12479ca24d5e49ffb200732059752f3301e379cbf7370aa61", func := "spring/springlaw.Sums", spec := "sums", unfollowed := true, recurses := true, apart := false, narrowed := true }
def SumsUptoSaid : Prop := sumsUptoRow.holds Try.pinned (OpenSpec.upto sumsSpec)

/-- 'springkeep.Pieces', WHERE WHAT IT READS IS OF BULK AT MOST 1048576: true; the input reads as it did. -/
def piecesUptoRow : OpenClaim := { program := "ythhhkkjdjjhepaa", sum := "e5617fe8b58c15a12479ca24d5e49ffb200732059752f3301e379cbf7370aa61", func := "spring/springkeep.Pieces", spec := "pieces", apart := false, narrowed := true }
def PiecesUptoSaid : Prop := piecesUptoRow.holds Try.pinned (OpenSpec.upto piecesSpec)

/-- 'springkeep.Keyed', WHERE WHAT IT READS IS OF BULK AT MOST 1048576: true; the input reads as it did. -/
def keyedUptoRow : OpenClaim := { program := "ythhhkkjdjjhepaa", sum := "e5617fe8b58c15a12479ca24d5e49ffb200732059752f3301e379cbf7370aa61", func := "spring/springkeep.Keyed", spec := "keyed", apart := false, narrowed := true }
def KeyedUptoSaid : Prop := keyedUptoRow.holds Try.pinned (OpenSpec.upto keyedSpec)

/-- 'springlaw.Draws', WHERE WHAT IT READS IS OF BULK AT MOST 1048576: true; the input reads as it did. -/
def drawsUptoRow : OpenClaim := { program := "ythhhkkjdjjhepaa", sum := "e5617fe8b58c15a12479ca24d5e49ffb200732059752f3301e379cbf7370aa61", func := "spring/springlaw.Draws", spec := "draws", unfollowed := true, recurses := true, apart := false, narrowed := true }
def DrawsUptoSaid : Prop := drawsUptoRow.holds Try.pinned (OpenSpec.upto drawsSpec)

/-- 'springkeep.Alike', WHERE WHAT IT READS IS OF BULK AT MOST 1048576: true; the input reads as it did. -/
def alikeUptoRow : OpenClaim := { program := "ythhhkkjdjjhepaa", sum := "e5617fe8b58c15a12479ca24d5e49ffb200732059752f3301e379cbf7370aa61", func := "spring/springkeep.Alike", spec := "alike", unfollowed := true, recurses := true, apart := false, narrowed := true }
def AlikeUptoSaid : Prop := alikeUptoRow.holds Try.pinned (OpenSpec.upto alikeSpec)

/-- 'springkeep.Begins', WHERE WHAT IT READS IS OF BULK AT MOST 1048576: true; the input reads as it did. -/
def beginsUptoRow : OpenClaim := { program := "ythhhkkjdjjhepaa", sum := "e5617fe8b58c15a12479ca24d5e49ffb200732059752f3301e379cbf7370aa61", func := "spring/springkeep.Begins", spec := "begins", unfollowed := true, recurses := true, apart := false, narrowed := true }
def BeginsUptoSaid : Prop := beginsUptoRow.holds Try.pinned (OpenSpec.upto beginsSpec)

/-- 'springlaw.Watches', WHERE WHAT IT READS IS OF BULK AT MOST 1048576: true; the input reads as it did. -/
def watchesUptoRow : OpenClaim := { program := "ythhhkkjdjjhepaa", sum := "e5617fe8b58c15a12479ca24d5e49ffb200732059752f3301e379cbf7370aa61", func := "spring/springlaw.Watches", spec := "watches", unfollowed := true, recurses := true, apart := false, narrowed := true }
def WatchesUptoSaid : Prop := watchesUptoRow.holds Try.pinned (OpenSpec.upto watchesSpec)

/-- 'springkeep.Guarded', WHERE WHAT IT READS IS OF BULK AT MOST 1048576: true; the input reads as it did. -/
def guardedUptoRow : OpenClaim := { program := "ythhhkkjdjjhepaa", sum := "e5617fe8b58c15a12479ca24d5e49ffb200732059752f3301e379cbf7370aa61", func := "spring/springkeep.Guarded", spec := "guarded", unfollowed := true, recurses := true, apart := false, narrowed := true }
def GuardedUptoSaid : Prop := guardedUptoRow.holds Try.pinned (OpenSpec.upto guardedSpec)

end Rows
end Go.Proofs.Ythhhkkjdjjhepaa
