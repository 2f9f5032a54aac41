/-
  No cell of these rows narrows 'for every input' (looked for: loops, veiled, ifaces, maps, wideKeys, modest, calm, conditions, laid).
  DERIVED. THE GIVEN ROWS OF THIS SEAT. 4 by the template 'for every input the law returns true; each argument reads behind the call as it read before'; 0 by the template 'total and deterministic' (their statements: YtcjihcjjhbbjaaaTotals.lean).
  GIVEN WITH THE SEED: the statements are not yours to turn. If you find one false, say at which input.
  Laid BY PROGRAM, IN A SANDBOX (cutbox-rows.mjs): the forced cells as the released guide's own fill.sh prints them over the translation 3d67623938b65220… (all of the seat's roots in one cut). By AI agents, Wed Nov 11 2026. No macro, syntax, notation, axiom, sorry.
-/
import Derived.Test.YtcjihcjjhbbjaaaChecked
import GoSem.Claim
import GoSem.ClaimJoined
import GoSem.ClaimMapViews
import Derived.JoinedTies
import Derived.KernelRfl
namespace Go.Proofs.Ytcjihcjjhbbjaaa
/- THE CELL 'sum', in the pinned program and in every row, IS THE sha256 OF THE DUMP (.gsa) THAT YtcjihcjjhbbjaaaProg.lean LOADS. Nothing in Lean hashes anything: it is a label: what it is worth is what the hold of that sum in a sandbox is worth. -/
noncomputable def Try.pinned : Pinned := { name := "ytcjihcjjhbbjaaa", sum := "3d67623938b652208bf7da53111b497a323d55286db0f393e4552426a73d429a", checked := Try.checked }
namespace Rows
def none {H : Type} : Left H := { results := [], args := [] }

/-- 'tolllaw03.TimesMatchesReference': WHATEVER THE INPUT: true; the input reads as it did. -/
def timesMatchesReferenceSpec : ChangeSpec := { name := "timesMatchesReference", fn := fun _ => fun
  | [d1, d2] => { results := [.lit (.bool true)], args := [d1, d2] }
  | _ => none }
def timesMatchesReferenceRow : OpenClaim := { program := "ytcjihcjjhbbjaaa", sum := "3d67623938b652208bf7da53111b497a323d55286db0f393e4552426a73d429a", func := "toll/tolllaw03.TimesMatchesReference", spec := "timesMatchesReference", unfollowed := true, recurses := true, apart := false }
def TimesMatchesReferenceSaid : Prop := timesMatchesReferenceRow.holds Try.pinned (OpenSpec.ofChange timesMatchesReferenceSpec)

/-- ITS FALSE NEIGHBOUR: 'it returns false'. Refute it at one input. -/
def timesMatchesReferenceWrong : ChangeSpec := { name := "timesMatchesReference", fn := fun _ => fun
  | [d1, d2] => { results := [.lit (.bool false)], args := [d1, d2] }
  | _ => none }
def TimesMatchesReferenceWrongFalsely : Prop := timesMatchesReferenceRow.holds Try.pinned (OpenSpec.ofChange timesMatchesReferenceWrong)

/-- 'tolllaw03.TimesSums': WHATEVER THE INPUT: true; the input reads as it did. -/
def timesSumsSpec : ChangeSpec := { name := "timesSums", fn := fun _ => fun
  | [d1, d2] => { results := [.lit (.bool true)], args := [d1, d2] }
  | _ => none }
def timesSumsRow : OpenClaim := { program := "ytcjihcjjhbbjaaa", sum := "3d67623938b652208bf7da53111b497a323d55286db0f393e4552426a73d429a", func := "toll/tolllaw03.TimesSums", spec := "timesSums", unfollowed := true, recurses := true, apart := false }
def TimesSumsSaid : Prop := timesSumsRow.holds Try.pinned (OpenSpec.ofChange timesSumsSpec)

/-- ITS FALSE NEIGHBOUR: 'it returns false'. Refute it at one input. -/
def timesSumsWrong : ChangeSpec := { name := "timesSums", fn := fun _ => fun
  | [d1, d2] => { results := [.lit (.bool false)], args := [d1, d2] }
  | _ => none }
def TimesSumsWrongFalsely : Prop := timesSumsRow.holds Try.pinned (OpenSpec.ofChange timesSumsWrong)

/-- 'tolllaw03.TimesOrder': WHATEVER THE INPUT: true; the input reads as it did. -/
def timesOrderSpec : ChangeSpec := { name := "timesOrder", fn := fun _ => fun
  | [d1, d2, d3] => { results := [.lit (.bool true)], args := [d1, d2, d3] }
  | _ => none }
def timesOrderRow : OpenClaim := { program := "ytcjihcjjhbbjaaa", sum := "3d67623938b652208bf7da53111b497a323d55286db0f393e4552426a73d429a", func := "toll/tolllaw03.TimesOrder", spec := "timesOrder", unfollowed := true, recurses := true, apart := false }
def TimesOrderSaid : Prop := timesOrderRow.holds Try.pinned (OpenSpec.ofChange timesOrderSpec)

/-- ITS FALSE NEIGHBOUR: 'it returns false'. Refute it at one input. -/
def timesOrderWrong : ChangeSpec := { name := "timesOrder", fn := fun _ => fun
  | [d1, d2, d3] => { results := [.lit (.bool false)], args := [d1, d2, d3] }
  | _ => none }
def TimesOrderWrongFalsely : Prop := timesOrderRow.holds Try.pinned (OpenSpec.ofChange timesOrderWrong)

/-- 'tolllaw03.TimesWide': WHATEVER THE INPUT: true; the input reads as it did. -/
def timesWideSpec : ChangeSpec := { name := "timesWide", fn := fun _ => fun
  | [d1, d2, d3, d4, d5] => { results := [.lit (.bool true)], args := [d1, d2, d3, d4, d5] }
  | _ => none }
def timesWideRow : OpenClaim := { program := "ytcjihcjjhbbjaaa", sum := "3d67623938b652208bf7da53111b497a323d55286db0f393e4552426a73d429a", func := "toll/tolllaw03.TimesWide", spec := "timesWide", unfollowed := true, recurses := true, apart := false }
def TimesWideSaid : Prop := timesWideRow.holds Try.pinned (OpenSpec.ofChange timesWideSpec)

/-- ITS FALSE NEIGHBOUR: 'it returns false'. Refute it at one input. -/
def timesWideWrong : ChangeSpec := { name := "timesWide", fn := fun _ => fun
  | [d1, d2, d3, d4, d5] => { results := [.lit (.bool false)], args := [d1, d2, d3, d4, d5] }
  | _ => none }
def TimesWideWrongFalsely : Prop := timesWideRow.holds Try.pinned (OpenSpec.ofChange timesWideWrong)

/- THE SECOND FORM. 'bulk': how many values and letters a reading holds, each counted each time it is reached (what is shared counts as often as it is met; a slice's spare places count too). A statement '..UptoSaid' is the law's where the arguments, and the package variables that the reading takes, are together of bulk at most 1048576: NARROWER than '..Said'. Prove '..Said' where nothing that the law and all that it calls make is longer than what came in: it says more and counts as full. Else prove '..UptoSaid'. A law counts once. -/
mutual
def uptoBulk {H : Type} : DataW H → Nat
  | .lit (.string bytes) => bytes.length + 1
  | .lit _ => 1
  | .nil => 1
  | .ptr d => uptoBulk d + 1
  | .slice elems spare => uptoBulkAll elems + uptoBulkAll spare + 1
  | .agg parts => uptoBulkAll parts + 1
  | .iface _ d => uptoBulk d + 1
  | .map entries => uptoBulkEntries entries + 1
  | .held _ => 1
def uptoBulkAll {H : Type} : List (DataW H) → Nat
  | [] => 0
  | d :: r => uptoBulk d + uptoBulkAll r
def uptoBulkEntries {H : Type} : List (Lit × DataW H) → Nat
  | [] => 0
  | x :: r => uptoBulkEntry x + uptoBulkEntries r
def uptoBulkEntry {H : Type} : Lit × DataW H → Nat
  | (.string bytes, d) => bytes.length + uptoBulk d + 1
  | (_, d) => uptoBulk d + 1
 end
def uptoSmall : (H : Type) → List (DataW H) → Bool := fun _ ds => decide (uptoBulkAll ds ≤ 1048576)
def OpenSpec.upto (s : _root_.Go.ChangeSpec) : _root_.Go.OpenSpec := { _root_.Go.OpenSpec.ofChange s with cond := some uptoSmall }

/-- 'tolllaw03.TimesMatchesReference', WHERE WHAT IT READS IS OF BULK AT MOST 1048576: true; the input reads as it did. -/
def timesMatchesReferenceUptoRow : OpenClaim := { program := "ytcjihcjjhbbjaaa", sum := "3d67623938b652208bf7da53111b497a323d55286db0f393e4552426a73d429a", func := "toll/tolllaw03.TimesMatchesReference", spec := "timesMatchesReference", unfollowed := true, recurses := true, apart := false, narrowed := true }
def TimesMatchesReferenceUptoSaid : Prop := timesMatchesReferenceUptoRow.holds Try.pinned (OpenSpec.upto timesMatchesReferenceSpec)

/-- 'tolllaw03.TimesSums', WHERE WHAT IT READS IS OF BULK AT MOST 1048576: true; the input reads as it did. -/
def timesSumsUptoRow : OpenClaim := { program := "ytcjihcjjhbbjaaa", sum := "3d67623938b652208bf7da53111b497a323d55286db0f393e4552426a73d429a", func := "toll/tolllaw03.TimesSums", spec := "timesSums", unfollowed := true, recurses := true, apart := false, narrowed := true }
def TimesSumsUptoSaid : Prop := timesSumsUptoRow.holds Try.pinned (OpenSpec.upto timesSumsSpec)

/-- 'tolllaw03.TimesOrder', WHERE WHAT IT READS IS OF BULK AT MOST 1048576: true; the input reads as it did. -/
def timesOrderUptoRow : OpenClaim := { program := "ytcjihcjjhbbjaaa", sum := "3d67623938b652208bf7da53111b497a323d55286db0f393e4552426a73d429a", func := "toll/tolllaw03.TimesOrder", spec := "timesOrder", unfollowed := true, recurses := true, apart := false, narrowed := true }
def TimesOrderUptoSaid : Prop := timesOrderUptoRow.holds Try.pinned (OpenSpec.upto timesOrderSpec)

/-- 'tolllaw03.TimesWide', WHERE WHAT IT READS IS OF BULK AT MOST 1048576: true; the input reads as it did. -/
def timesWideUptoRow : OpenClaim := { program := "ytcjihcjjhbbjaaa", sum := "3d67623938b652208bf7da53111b497a323d55286db0f393e4552426a73d429a", func := "toll/tolllaw03.TimesWide", spec := "timesWide", unfollowed := true, recurses := true, apart := false, narrowed := true }
def TimesWideUptoSaid : Prop := timesWideUptoRow.holds Try.pinned (OpenSpec.upto timesWideSpec)

end Rows
end Go.Proofs.Ytcjihcjjhbbjaaa
