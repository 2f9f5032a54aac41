/-
  No cell of these rows narrows 'for every input' (looked for: loops, veiled, ifaces, maps, wideKeys, modest, calm, conditions, laid).
  DERIVED. THE GIVEN ROWS OF THIS SEAT. 5 by the template 'for every input the law returns true; each argument reads behind the call as it read before'; 0 by the template 'total and deterministic' (their statements: YtdmfajcbbolfiaaTotals.lean).
  GIVEN WITH THE SEED: the statements are not yours to turn. If you find one false, say at which input.
  Laid BY PROGRAM, IN A SANDBOX (cutbox-rows.mjs): the forced cells as the released guide's own fill.sh prints them over the translation 03189504355b1644… (all of the seat's roots in one cut). By AI agents, Wed Nov 11 2026. No macro, syntax, notation, axiom, sorry.
-/
import Derived.Test.YtdmfajcbbolfiaaChecked
import GoSem.Claim
import GoSem.ClaimJoined
import GoSem.ClaimMapViews
import Derived.JoinedTies
import Derived.KernelRfl
namespace Go.Proofs.Ytdmfajcbbolfiaa
/- THE CELL 'sum', in the pinned program and in every row, IS THE sha256 OF THE DUMP (.gsa) THAT YtdmfajcbbolfiaaProg.lean LOADS. Nothing in Lean hashes anything: it is a label: what it is worth is what the hold of that sum in a sandbox is worth. -/
noncomputable def Try.pinned : Pinned := { name := "ytdmfajcbbolfiaa", sum := "03189504355b1644d417bcf0204100aa23bc012493032d0fd79b64dfbb364c2a", checked := Try.checked }
namespace Rows
def none {H : Type} : Left H := { results := [], args := [] }

/-- 'tolllaw08.CtrMatchesReference': WHATEVER THE INPUT: true; the input reads as it did. -/
def ctrMatchesReferenceSpec : ChangeSpec := { name := "ctrMatchesReference", fn := fun _ => fun
  | [d1, d2, d3, d4] => { results := [.lit (.bool true)], args := [d1, d2, d3, d4] }
  | _ => none }
def ctrMatchesReferenceRow : OpenClaim := { program := "ytdmfajcbbolfiaa", sum := "03189504355b1644d417bcf0204100aa23bc012493032d0fd79b64dfbb364c2a", func := "toll/tolllaw08.CtrMatchesReference", spec := "ctrMatchesReference", unfollowed := true, recurses := true, apart := false }
def CtrMatchesReferenceSaid : Prop := ctrMatchesReferenceRow.holds Try.pinned (OpenSpec.ofChange ctrMatchesReferenceSpec)

/-- ITS FALSE NEIGHBOUR: 'it returns false'. Refute it at one input. -/
def ctrMatchesReferenceWrong : ChangeSpec := { name := "ctrMatchesReference", fn := fun _ => fun
  | [d1, d2, d3, d4] => { results := [.lit (.bool false)], args := [d1, d2, d3, d4] }
  | _ => none }
def CtrMatchesReferenceWrongFalsely : Prop := ctrMatchesReferenceRow.holds Try.pinned (OpenSpec.ofChange ctrMatchesReferenceWrong)

/-- 'tolllaw08.CtrCrypts': WHATEVER THE INPUT: true; the input reads as it did. -/
def ctrCryptsSpec : ChangeSpec := { name := "ctrCrypts", fn := fun _ => fun
  | [d1, d2, d3] => { results := [.lit (.bool true)], args := [d1, d2, d3] }
  | _ => none }
def ctrCryptsRow : OpenClaim := { program := "ytdmfajcbbolfiaa", sum := "03189504355b1644d417bcf0204100aa23bc012493032d0fd79b64dfbb364c2a", func := "toll/tolllaw08.CtrCrypts", spec := "ctrCrypts", unfollowed := true, recurses := true, apart := false }
def CtrCryptsSaid : Prop := ctrCryptsRow.holds Try.pinned (OpenSpec.ofChange ctrCryptsSpec)

/-- ITS FALSE NEIGHBOUR: 'it returns false'. Refute it at one input. -/
def ctrCryptsWrong : ChangeSpec := { name := "ctrCrypts", fn := fun _ => fun
  | [d1, d2, d3] => { results := [.lit (.bool false)], args := [d1, d2, d3] }
  | _ => none }
def CtrCryptsWrongFalsely : Prop := ctrCryptsRow.holds Try.pinned (OpenSpec.ofChange ctrCryptsWrong)

/-- 'tolllaw08.CtrParts': WHATEVER THE INPUT: true; the input reads as it did. -/
def ctrPartsSpec : ChangeSpec := { name := "ctrParts", fn := fun _ => fun
  | [d1, d2, d3] => { results := [.lit (.bool true)], args := [d1, d2, d3] }
  | _ => none }
def ctrPartsRow : OpenClaim := { program := "ytdmfajcbbolfiaa", sum := "03189504355b1644d417bcf0204100aa23bc012493032d0fd79b64dfbb364c2a", func := "toll/tolllaw08.CtrParts", spec := "ctrParts", unfollowed := true, recurses := true, apart := false }
def CtrPartsSaid : Prop := ctrPartsRow.holds Try.pinned (OpenSpec.ofChange ctrPartsSpec)

/-- ITS FALSE NEIGHBOUR: 'it returns false'. Refute it at one input. -/
def ctrPartsWrong : ChangeSpec := { name := "ctrParts", fn := fun _ => fun
  | [d1, d2, d3] => { results := [.lit (.bool false)], args := [d1, d2, d3] }
  | _ => none }
def CtrPartsWrongFalsely : Prop := ctrPartsRow.holds Try.pinned (OpenSpec.ofChange ctrPartsWrong)

/-- 'tolllaw08.CtrBlocks': WHATEVER THE INPUT: true; the input reads as it did. -/
def ctrBlocksSpec : ChangeSpec := { name := "ctrBlocks", fn := fun _ => fun
  | [d1, d2, d3, d4] => { results := [.lit (.bool true)], args := [d1, d2, d3, d4] }
  | _ => none }
def ctrBlocksRow : OpenClaim := { program := "ytdmfajcbbolfiaa", sum := "03189504355b1644d417bcf0204100aa23bc012493032d0fd79b64dfbb364c2a", func := "toll/tolllaw08.CtrBlocks", spec := "ctrBlocks", unfollowed := true, recurses := true, apart := false }
def CtrBlocksSaid : Prop := ctrBlocksRow.holds Try.pinned (OpenSpec.ofChange ctrBlocksSpec)

/-- ITS FALSE NEIGHBOUR: 'it returns false'. Refute it at one input. -/
def ctrBlocksWrong : ChangeSpec := { name := "ctrBlocks", fn := fun _ => fun
  | [d1, d2, d3, d4] => { results := [.lit (.bool false)], args := [d1, d2, d3, d4] }
  | _ => none }
def CtrBlocksWrongFalsely : Prop := ctrBlocksRow.holds Try.pinned (OpenSpec.ofChange ctrBlocksWrong)

/-- 'tolllaw08.CtrJoins': WHATEVER THE INPUT: true; the input reads as it did. -/
def ctrJoinsSpec : ChangeSpec := { name := "ctrJoins", fn := fun _ => fun
  | [d1, d2, d3, d4, d5] => { results := [.lit (.bool true)], args := [d1, d2, d3, d4, d5] }
  | _ => none }
def ctrJoinsRow : OpenClaim := { program := "ytdmfajcbbolfiaa", sum := "03189504355b1644d417bcf0204100aa23bc012493032d0fd79b64dfbb364c2a", func := "toll/tolllaw08.CtrJoins", spec := "ctrJoins", unfollowed := true, recurses := true, apart := false }
def CtrJoinsSaid : Prop := ctrJoinsRow.holds Try.pinned (OpenSpec.ofChange ctrJoinsSpec)

/-- ITS FALSE NEIGHBOUR: 'it returns false'. Refute it at one input. -/
def ctrJoinsWrong : ChangeSpec := { name := "ctrJoins", fn := fun _ => fun
  | [d1, d2, d3, d4, d5] => { results := [.lit (.bool false)], args := [d1, d2, d3, d4, d5] }
  | _ => none }
def CtrJoinsWrongFalsely : Prop := ctrJoinsRow.holds Try.pinned (OpenSpec.ofChange ctrJoinsWrong)

/- THE SECOND FORM. 'bulk': how many values and letters a reading holds, each counted each time it is reached (what is shared counts as often as it is met; a slice's spare places count too). A statement '..UptoSaid' is the law's where the arguments, and the package variables that the reading takes, are together of bulk at most 1048576: NARROWER than '..Said'. Prove '..Said' where nothing that the law and all that it calls make is longer than what came in: it says more and counts as full. Else prove '..UptoSaid'. A law counts once. -/
mutual
def uptoBulk {H : Type} : DataW H → Nat
  | .lit (.string bytes) => bytes.length + 1
  | .lit _ => 1
  | .nil => 1
  | .ptr d => uptoBulk d + 1
  | .slice elems spare => uptoBulkAll elems + uptoBulkAll spare + 1
  | .agg parts => uptoBulkAll parts + 1
  | .iface _ d => uptoBulk d + 1
  | .map entries => uptoBulkEntries entries + 1
  | .held _ => 1
def uptoBulkAll {H : Type} : List (DataW H) → Nat
  | [] => 0
  | d :: r => uptoBulk d + uptoBulkAll r
def uptoBulkEntries {H : Type} : List (Lit × DataW H) → Nat
  | [] => 0
  | x :: r => uptoBulkEntry x + uptoBulkEntries r
def uptoBulkEntry {H : Type} : Lit × DataW H → Nat
  | (.string bytes, d) => bytes.length + uptoBulk d + 1
  | (_, d) => uptoBulk d + 1
 end
def uptoSmall : (H : Type) → List (DataW H) → Bool := fun _ ds => decide (uptoBulkAll ds ≤ 1048576)
def OpenSpec.upto (s : _root_.Go.ChangeSpec) : _root_.Go.OpenSpec := { _root_.Go.OpenSpec.ofChange s with cond := some uptoSmall }

/-- 'tolllaw08.CtrMatchesReference', WHERE WHAT IT READS IS OF BULK AT MOST 1048576: true; the input reads as it did. -/
def ctrMatchesReferenceUptoRow : OpenClaim := { program := "ytdmfajcbbolfiaa", sum := "03189504355b1644d417bcf0204100aa23bc012493032d0fd79b64dfbb364c2a", func := "toll/tolllaw08.CtrMatchesReference", spec := "ctrMatchesReference", unfollowed := true, recurses := true, apart := false, narrowed := true }
def CtrMatchesReferenceUptoSaid : Prop := ctrMatchesReferenceUptoRow.holds Try.pinned (OpenSpec.upto ctrMatchesReferenceSpec)

/-- 'tolllaw08.CtrCrypts', WHERE WHAT IT READS IS OF BULK AT MOST 1048576: true; the input reads as it did. -/
def ctrCryptsUptoRow : OpenClaim := { program := "ytdmfajcbbolfiaa", sum := "03189504355b1644d417bcf0204100aa23bc012493032d0fd79b64dfbb364c2a", func := "toll/tolllaw08.CtrCrypts", spec := "ctrCrypts", unfollowed := true, recurses := true, apart := false, narrowed := true }
def CtrCryptsUptoSaid : Prop := ctrCryptsUptoRow.holds Try.pinned (OpenSpec.upto ctrCryptsSpec)

/-- 'tolllaw08.CtrParts', WHERE WHAT IT READS IS OF BULK AT MOST 1048576: true; the input reads as it did. -/
def ctrPartsUptoRow : OpenClaim := { program := "ytdmfajcbbolfiaa", sum := "03189504355b1644d417bcf0204100aa23bc012493032d0fd79b64dfbb364c2a", func := "toll/tolllaw08.CtrParts", spec := "ctrParts", unfollowed := true, recurses := true, apart := false, narrowed := true }
def CtrPartsUptoSaid : Prop := ctrPartsUptoRow.holds Try.pinned (OpenSpec.upto ctrPartsSpec)

/-- 'tolllaw08.CtrBlocks', WHERE WHAT IT READS IS OF BULK AT MOST 1048576: true; the input reads as it did. -/
def ctrBlocksUptoRow : OpenClaim := { program := "ytdmfajcbbolfiaa", sum := "03189504355b1644d417bcf0204100aa23bc012493032d0fd79b64dfbb364c2a", func := "toll/tolllaw08.CtrBlocks", spec := "ctrBlocks", unfollowed := true, recurses := true, apart := false, narrowed := true }
def CtrBlocksUptoSaid : Prop := ctrBlocksUptoRow.holds Try.pinned (OpenSpec.upto ctrBlocksSpec)

/-- 'tolllaw08.CtrJoins', WHERE WHAT IT READS IS OF BULK AT MOST 1048576: true; the input reads as it did. -/
def ctrJoinsUptoRow : OpenClaim := { program := "ytdmfajcbbolfiaa", sum := "03189504355b1644d417bcf0204100aa23bc012493032d0fd79b64dfbb364c2a", func := "toll/tolllaw08.CtrJoins", spec := "ctrJoins", unfollowed := true, recurses := true, apart := false, narrowed := true }
def CtrJoinsUptoSaid : Prop := ctrJoinsUptoRow.holds Try.pinned (OpenSpec.upto ctrJoinsSpec)

end Rows
end Go.Proofs.Ytdmfajcbbolfiaa
