/-
  No cell of these rows narrows 'for every input' (looked for: loops, veiled, ifaces, maps, wideKeys, modest, calm, conditions, laid).
  DERIVED. THE GIVEN ROWS OF THIS SEAT. 3 by the template 'for every input the law returns true; each argument reads behind the call as it read before'; 0 by the template 'total and deterministic' (their statements: YtdkegkacpdkjgaaGreatTotals.lean).
  GIVEN WITH THE SEED: the statements are not yours to turn. If you find one false, say at which input.
  Laid BY PROGRAM, IN A SANDBOX (cutbox-rows.mjs): the forced cells as the released guide's own fill.sh prints them over the translation 228cd3e547360f5a… (all of the seat's roots in one cut). By AI agents, Wed Nov 11 2026. No macro, syntax, notation, axiom, sorry.
-/
import Derived.Test.YtdkegkacpdkjgaaGreatChecked
import GoSem.Claim
import GoSem.ClaimJoined
import GoSem.ClaimMapViews
import Derived.JoinedTies
import Derived.KernelRfl
namespace Go.Proofs.YtdkegkacpdkjgaaGreat
/- THE CELL 'sum', in the pinned program and in every row, IS THE sha256 OF THE DUMP (.gsa) THAT YtdkegkacpdkjgaaGreatProg.lean LOADS. Nothing in Lean hashes anything: it is a label: what it is worth is what the hold of that sum in a sandbox is worth. -/
noncomputable def Tryz.pinned : Pinned := { name := "ytdkegkacpdkjgaagreat", sum := "228cd3e547360f5ad222b50759107375a3a1af370f2260757aeaa7cbff1536cc", checked := Tryz.checked }
namespace Rows
def none {H : Type} : Left H := { results := [], args := [] }

/-- 'zoneworkslaw04.PlateStars': WHATEVER THE INPUT: true; the input reads as it did. -/
def plateStarsSpec : ChangeSpec := { name := "plateStars", fn := fun _ => fun
  | [d1, d2, d3] => { results := [.lit (.bool true)], args := [d1, d2, d3] }
  | _ => none }
def plateStarsRow : OpenClaim := { program := "ytdkegkacpdkjgaagreat", sum := "228cd3e547360f5ad222b50759107375a3a1af370f2260757aeaa7cbff1536cc", func := "zoneworks/zoneworkslaw04.PlateStars", spec := "plateStars", unfollowed := true, recurses := true, apart := false }
def PlateStarsSaid : Prop := plateStarsRow.holds Tryz.pinned (OpenSpec.ofChange plateStarsSpec)

/-- ITS FALSE NEIGHBOUR: 'it returns false'. Refute it at one input. -/
def plateStarsWrong : ChangeSpec := { name := "plateStars", fn := fun _ => fun
  | [d1, d2, d3] => { results := [.lit (.bool false)], args := [d1, d2, d3] }
  | _ => none }
def PlateStarsWrongFalsely : Prop := plateStarsRow.holds Tryz.pinned (OpenSpec.ofChange plateStarsWrong)

/-- 'zoneworkslaw04.PlateFinds': WHATEVER THE INPUT: true; the input reads as it did. -/
def plateFindsSpec : ChangeSpec := { name := "plateFinds", fn := fun _ => fun
  | [d1, d2, d3] => { results := [.lit (.bool true)], args := [d1, d2, d3] }
  | _ => none }
def plateFindsRow : OpenClaim := { program := "ytdkegkacpdkjgaagreat", sum := "228cd3e547360f5ad222b50759107375a3a1af370f2260757aeaa7cbff1536cc", func := "zoneworks/zoneworkslaw04.PlateFinds", spec := "plateFinds", unfollowed := true, recurses := true, apart := false }
def PlateFindsSaid : Prop := plateFindsRow.holds Tryz.pinned (OpenSpec.ofChange plateFindsSpec)

/-- ITS FALSE NEIGHBOUR: 'it returns false'. Refute it at one input. -/
def plateFindsWrong : ChangeSpec := { name := "plateFinds", fn := fun _ => fun
  | [d1, d2, d3] => { results := [.lit (.bool false)], args := [d1, d2, d3] }
  | _ => none }
def PlateFindsWrongFalsely : Prop := plateFindsRow.holds Tryz.pinned (OpenSpec.ofChange plateFindsWrong)

/-- 'zoneworkstop.TopMeasured': WHATEVER THE INPUT: true; the input reads as it did. -/
def topMeasuredSpec : ChangeSpec := { name := "topMeasured", fn := fun _ => fun
  | [d] => { results := [.lit (.bool true)], args := [d] }
  | _ => none }
def topMeasuredRow : OpenClaim := { program := "ytdkegkacpdkjgaagreat", sum := "228cd3e547360f5ad222b50759107375a3a1af370f2260757aeaa7cbff1536cc", func := "zoneworks/zoneworkstop.TopMeasured", spec := "topMeasured", unfollowed := true, recurses := true, apart := false }
def TopMeasuredSaid : Prop := topMeasuredRow.holds Tryz.pinned (OpenSpec.ofChange topMeasuredSpec)

/-- ITS FALSE NEIGHBOUR: 'it returns false'. Refute it at one input. -/
def topMeasuredWrong : ChangeSpec := { name := "topMeasured", fn := fun _ => fun
  | [d] => { results := [.lit (.bool false)], args := [d] }
  | _ => none }
def TopMeasuredWrongFalsely : Prop := topMeasuredRow.holds Tryz.pinned (OpenSpec.ofChange topMeasuredWrong)

/- THE SECOND FORM. 'bulk': how many values and letters a reading holds, each counted each time it is reached (what is shared counts as often as it is met; a slice's spare places count too). A statement '..UptoSaid' is the law's where the arguments, and the package variables that the reading takes, are together of bulk at most 1048576: NARROWER than '..Said'. Prove '..Said' where nothing that the law and all that it calls make is longer than what came in: it says more and counts as full. Else prove '..UptoSaid'. A law counts once. -/
mutual
def uptoBulk {H : Type} : DataW H → Nat
  | .lit (.string bytes) => bytes.length + 1
  | .lit _ => 1
  | .nil => 1
  | .ptr d => uptoBulk d + 1
  | .slice elems spare => uptoBulkAll elems + uptoBulkAll spare + 1
  | .agg parts => uptoBulkAll parts + 1
  | .iface _ d => uptoBulk d + 1
  | .map entries => uptoBulkEntries entries + 1
  | .held _ => 1
def uptoBulkAll {H : Type} : List (DataW H) → Nat
  | [] => 0
  | d :: r => uptoBulk d + uptoBulkAll r
def uptoBulkEntries {H : Type} : List (Lit × DataW H) → Nat
  | [] => 0
  | x :: r => uptoBulkEntry x + uptoBulkEntries r
def uptoBulkEntry {H : Type} : Lit × DataW H → Nat
  | (.string bytes, d) => bytes.length + uptoBulk d + 1
  | (_, d) => uptoBulk d + 1
 end
def uptoSmall : (H : Type) → List (DataW H) → Bool := fun _ ds => decide (uptoBulkAll ds ≤ 1048576)
def OpenSpec.upto (s : _root_.Go.ChangeSpec) : _root_.Go.OpenSpec := { _root_.Go.OpenSpec.ofChange s with cond := some uptoSmall }

/-- 'zoneworkslaw04.PlateStars', WHERE WHAT IT READS IS OF BULK AT MOST 1048576: true; the input reads as it did. -/
def plateStarsUptoRow : OpenClaim := { program := "ytdkegkacpdkjgaagreat", sum := "228cd3e547360f5ad222b50759107375a3a1af370f2260757aeaa7cbff1536cc", func := "zoneworks/zoneworkslaw04.PlateStars", spec := "plateStars", unfollowed := true, recurses := true, apart := false, narrowed := true }
def PlateStarsUptoSaid : Prop := plateStarsUptoRow.holds Tryz.pinned (OpenSpec.upto plateStarsSpec)

/-- 'zoneworkslaw04.PlateFinds', WHERE WHAT IT READS IS OF BULK AT MOST 1048576: true; the input reads as it did. -/
def plateFindsUptoRow : OpenClaim := { program := "ytdkegkacpdkjgaagreat", sum := "228cd3e547360f5ad222b50759107375a3a1af370f2260757aeaa7cbff1536cc", func := "zoneworks/zoneworkslaw04.PlateFinds", spec := "plateFinds", unfollowed := true, recurses := true, apart := false, narrowed := true }
def PlateFindsUptoSaid : Prop := plateFindsUptoRow.holds Tryz.pinned (OpenSpec.upto plateFindsSpec)

/-- 'zoneworkstop.TopMeasured', WHERE WHAT IT READS IS OF BULK AT MOST 1048576: true; the input reads as it did. -/
def topMeasuredUptoRow : OpenClaim := { program := "ytdkegkacpdkjgaagreat", sum := "228cd3e547360f5ad222b50759107375a3a1af370f2260757aeaa7cbff1536cc", func := "zoneworks/zoneworkstop.TopMeasured", spec := "topMeasured", unfollowed := true, recurses := true, apart := false, narrowed := true }
def TopMeasuredUptoSaid : Prop := topMeasuredUptoRow.holds Tryz.pinned (OpenSpec.upto topMeasuredSpec)

end Rows
end Go.Proofs.YtdkegkacpdkjgaaGreat
