/-
  No cell of these rows narrows 'for every input' (looked for: loops, veiled, ifaces, maps, wideKeys, modest, calm, conditions, laid).
  DERIVED. THE GIVEN ROWS OF THIS SEAT. 5 by the template 'for every input the law returns true; each argument reads behind the call as it read before'; 0 by the template 'total and deterministic' (their statements: YtapfhhmimkkhnaaGreatTotals.lean).
  GIVEN WITH THE SEED: the statements are not yours to turn. If you find one false, say at which input.
  Laid BY PROGRAM, IN A SANDBOX (cutbox-rows.mjs): the forced cells as the released guide's own fill.sh prints them over the translation 84f3f517f14c1745… (all of the seat's roots in one cut). By AI agents, Wed Nov 11 2026. No macro, syntax, notation, axiom, sorry.
-/
import Derived.Test.YtapfhhmimkkhnaaGreatChecked
import GoSem.Claim
import GoSem.ClaimJoined
import GoSem.ClaimMapViews
import Derived.JoinedTies
import Derived.KernelRfl
namespace Go.Proofs.YtapfhhmimkkhnaaGreat
/- THE CELL 'sum', in the pinned program and in every row, IS THE sha256 OF THE DUMP (.gsa) THAT YtapfhhmimkkhnaaGreatProg.lean LOADS. Nothing in Lean hashes anything: it is a label: what it is worth is what the hold of that sum in a sandbox is worth. -/
noncomputable def Tryz.pinned : Pinned := { name := "ytapfhhmimkkhnaagreat", sum := "84f3f517f14c1745f866a8418db76f10409bf26ccb9a8bc59446951683c88515", checked := Tryz.checked }
namespace Rows
def none {H : Type} : Left H := { results := [], args := [] }

/-- 'laws.FnElection': WHATEVER THE INPUT: true; the input reads as it did. -/
def fnElectionSpec : ChangeSpec := { name := "fnElection", fn := fun _ => fun
  | [d] => { results := [.lit (.bool true)], args := [d] }
  | _ => none }
def fnElectionRow : OpenClaim := { program := "ytapfhhmimkkhnaagreat", sum := "84f3f517f14c1745f866a8418db76f10409bf26ccb9a8bc59446951683c88515", func := "loop.example/g00224/laws.FnElection", spec := "fnElection", inPlace := ["slices.overlaps[int]"], unfollowed := true, recurses := true, apart := false }
def FnElectionSaid : Prop := fnElectionRow.holds Tryz.pinned (OpenSpec.ofChange fnElectionSpec)

/-- ITS FALSE NEIGHBOUR: 'it returns false'. Refute it at one input. -/
def fnElectionWrong : ChangeSpec := { name := "fnElection", fn := fun _ => fun
  | [d] => { results := [.lit (.bool false)], args := [d] }
  | _ => none }
def FnElectionWrongFalsely : Prop := fnElectionRow.holds Tryz.pinned (OpenSpec.ofChange fnElectionWrong)

/-- 'laws.FnMatching': WHATEVER THE INPUT: true; the input reads as it did. -/
def fnMatchingSpec : ChangeSpec := { name := "fnMatching", fn := fun _ => fun
  | [d] => { results := [.lit (.bool true)], args := [d] }
  | _ => none }
def fnMatchingRow : OpenClaim := { program := "ytapfhhmimkkhnaagreat", sum := "84f3f517f14c1745f866a8418db76f10409bf26ccb9a8bc59446951683c88515", func := "loop.example/g00224/laws.FnMatching", spec := "fnMatching", inPlace := ["slices.overlaps[int]"], unfollowed := true, recurses := true, apart := false }
def FnMatchingSaid : Prop := fnMatchingRow.holds Tryz.pinned (OpenSpec.ofChange fnMatchingSpec)

/-- ITS FALSE NEIGHBOUR: 'it returns false'. Refute it at one input. -/
def fnMatchingWrong : ChangeSpec := { name := "fnMatching", fn := fun _ => fun
  | [d] => { results := [.lit (.bool false)], args := [d] }
  | _ => none }
def FnMatchingWrongFalsely : Prop := fnMatchingRow.holds Tryz.pinned (OpenSpec.ofChange fnMatchingWrong)

/-- 'laws.FnSafety': WHATEVER THE INPUT: true; the input reads as it did. -/
def fnSafetySpec : ChangeSpec := { name := "fnSafety", fn := fun _ => fun
  | [d] => { results := [.lit (.bool true)], args := [d] }
  | _ => none }
def fnSafetyRow : OpenClaim := { program := "ytapfhhmimkkhnaagreat", sum := "84f3f517f14c1745f866a8418db76f10409bf26ccb9a8bc59446951683c88515", func := "loop.example/g00224/laws.FnSafety", spec := "fnSafety", inPlace := ["slices.overlaps[int]"], unfollowed := true, recurses := true, apart := false }
def FnSafetySaid : Prop := fnSafetyRow.holds Tryz.pinned (OpenSpec.ofChange fnSafetySpec)

/-- ITS FALSE NEIGHBOUR: 'it returns false'. Refute it at one input. -/
def fnSafetyWrong : ChangeSpec := { name := "fnSafety", fn := fun _ => fun
  | [d] => { results := [.lit (.bool false)], args := [d] }
  | _ => none }
def FnSafetyWrongFalsely : Prop := fnSafetyRow.holds Tryz.pinned (OpenSpec.ofChange fnSafetyWrong)

/-- 'laws.FnComplete': WHATEVER THE INPUT: true; the input reads as it did. -/
def fnCompleteSpec : ChangeSpec := { name := "fnComplete", fn := fun _ => fun
  | [d] => { results := [.lit (.bool true)], args := [d] }
  | _ => none }
def fnCompleteRow : OpenClaim := { program := "ytapfhhmimkkhnaagreat", sum := "84f3f517f14c1745f866a8418db76f10409bf26ccb9a8bc59446951683c88515", func := "loop.example/g00224/laws.FnComplete", spec := "fnComplete", inPlace := ["slices.overlaps[int]"], unfollowed := true, recurses := true, apart := false }
def FnCompleteSaid : Prop := fnCompleteRow.holds Tryz.pinned (OpenSpec.ofChange fnCompleteSpec)

/-- ITS FALSE NEIGHBOUR: 'it returns false'. Refute it at one input. -/
def fnCompleteWrong : ChangeSpec := { name := "fnComplete", fn := fun _ => fun
  | [d] => { results := [.lit (.bool false)], args := [d] }
  | _ => none }
def FnCompleteWrongFalsely : Prop := fnCompleteRow.holds Tryz.pinned (OpenSpec.ofChange fnCompleteWrong)

/-- 'laws.FnExactPlayCluster': WHATEVER THE INPUT: true; the input reads as it did. -/
def fnExactPlayClusterSpec : ChangeSpec := { name := "fnExactPlayCluster", fn := fun _ => fun
  | [d1, d2] => { results := [.lit (.bool true)], args := [d1, d2] }
  | _ => none }
def fnExactPlayClusterRow : OpenClaim := { program := "ytapfhhmimkkhnaagreat", sum := "84f3f517f14c1745f866a8418db76f10409bf26ccb9a8bc59446951683c88515", func := "loop.example/g00224/laws.FnExactPlayCluster", spec := "fnExactPlayCluster", inPlace := ["slices.overlaps[int]"], unfollowed := true, recurses := true, apart := false }
def FnExactPlayClusterSaid : Prop := fnExactPlayClusterRow.holds Tryz.pinned (OpenSpec.ofChange fnExactPlayClusterSpec)

/-- ITS FALSE NEIGHBOUR: 'it returns false'. Refute it at one input. -/
def fnExactPlayClusterWrong : ChangeSpec := { name := "fnExactPlayCluster", fn := fun _ => fun
  | [d1, d2] => { results := [.lit (.bool false)], args := [d1, d2] }
  | _ => none }
def FnExactPlayClusterWrongFalsely : Prop := fnExactPlayClusterRow.holds Tryz.pinned (OpenSpec.ofChange fnExactPlayClusterWrong)

/- THE SECOND FORM. 'bulk': how many values and letters a reading holds, each counted each time it is reached (what is shared counts as often as it is met; a slice's spare places count too). A statement '..UptoSaid' is the law's where the arguments, and the package variables that the reading takes, are together of bulk at most 1048576: NARROWER than '..Said'. Prove '..Said' where nothing that the law and all that it calls make is longer than what came in: it says more and counts as full. Else prove '..UptoSaid'. A law counts once. -/
mutual
def uptoBulk {H : Type} : DataW H → Nat
  | .lit (.string bytes) => bytes.length + 1
  | .lit _ => 1
  | .nil => 1
  | .ptr d => uptoBulk d + 1
  | .slice elems spare => uptoBulkAll elems + uptoBulkAll spare + 1
  | .agg parts => uptoBulkAll parts + 1
  | .iface _ d => uptoBulk d + 1
  | .map entries => uptoBulkEntries entries + 1
  | .held _ => 1
def uptoBulkAll {H : Type} : List (DataW H) → Nat
  | [] => 0
  | d :: r => uptoBulk d + uptoBulkAll r
def uptoBulkEntries {H : Type} : List (Lit × DataW H) → Nat
  | [] => 0
  | x :: r => uptoBulkEntry x + uptoBulkEntries r
def uptoBulkEntry {H : Type} : Lit × DataW H → Nat
  | (.string bytes, d) => bytes.length + uptoBulk d + 1
  | (_, d) => uptoBulk d + 1
 end
def uptoSmall : (H : Type) → List (DataW H) → Bool := fun _ ds => decide (uptoBulkAll ds ≤ 1048576)
def OpenSpec.upto (s : _root_.Go.ChangeSpec) : _root_.Go.OpenSpec := { _root_.Go.OpenSpec.ofChange s with cond := some uptoSmall }

/-- 'laws.FnElection', WHERE WHAT IT READS IS OF BULK AT MOST 1048576: true; the input reads as it did. -/
def fnElectionUptoRow : OpenClaim := { program := "ytapfhhmimkkhnaagreat", sum := "84f3f517f14c1745f866a8418db76f10409bf26ccb9a8bc59446951683c88515", func := "loop.example/g00224/laws.FnElection", spec := "fnElection", inPlace := ["slices.overlaps[int]"], unfollowed := true, recurses := true, apart := false, narrowed := true }
def FnElectionUptoSaid : Prop := fnElectionUptoRow.holds Tryz.pinned (OpenSpec.upto fnElectionSpec)

/-- 'laws.FnMatching', WHERE WHAT IT READS IS OF BULK AT MOST 1048576: true; the input reads as it did. -/
def fnMatchingUptoRow : OpenClaim := { program := "ytapfhhmimkkhnaagreat", sum := "84f3f517f14c1745f866a8418db76f10409bf26ccb9a8bc59446951683c88515", func := "loop.example/g00224/laws.FnMatching", spec := "fnMatching", inPlace := ["slices.overlaps[int]"], unfollowed := true, recurses := true, apart := false, narrowed := true }
def FnMatchingUptoSaid : Prop := fnMatchingUptoRow.holds Tryz.pinned (OpenSpec.upto fnMatchingSpec)

/-- 'laws.FnSafety', WHERE WHAT IT READS IS OF BULK AT MOST 1048576: true; the input reads as it did. -/
def fnSafetyUptoRow : OpenClaim := { program := "ytapfhhmimkkhnaagreat", sum := "84f3f517f14c1745f866a8418db76f10409bf26ccb9a8bc59446951683c88515", func := "loop.example/g00224/laws.FnSafety", spec := "fnSafety", inPlace := ["slices.overlaps[int]"], unfollowed := true, recurses := true, apart := false, narrowed := true }
def FnSafetyUptoSaid : Prop := fnSafetyUptoRow.holds Tryz.pinned (OpenSpec.upto fnSafetySpec)

/-- 'laws.FnComplete', WHERE WHAT IT READS IS OF BULK AT MOST 1048576: true; the input reads as it did. -/
def fnCompleteUptoRow : OpenClaim := { program := "ytapfhhmimkkhnaagreat", sum := "84f3f517f14c1745f866a8418db76f10409bf26ccb9a8bc59446951683c88515", func := "loop.example/g00224/laws.FnComplete", spec := "fnComplete", inPlace := ["slices.overlaps[int]"], unfollowed := true, recurses := true, apart := false, narrowed := true }
def FnCompleteUptoSaid : Prop := fnCompleteUptoRow.holds Tryz.pinned (OpenSpec.upto fnCompleteSpec)

/-- 'laws.FnExactPlayCluster', WHERE WHAT IT READS IS OF BULK AT MOST 1048576: true; the input reads as it did. -/
def fnExactPlayClusterUptoRow : OpenClaim := { program := "ytapfhhmimkkhnaagreat", sum := "84f3f517f14c1745f866a8418db76f10409bf26ccb9a8bc59446951683c88515", func := "loop.example/g00224/laws.FnExactPlayCluster", spec := "fnExactPlayCluster", inPlace := ["slices.overlaps[int]"], unfollowed := true, recurses := true, apart := false, narrowed := true }
def FnExactPlayClusterUptoSaid : Prop := fnExactPlayClusterUptoRow.holds Tryz.pinned (OpenSpec.upto fnExactPlayClusterSpec)

end Rows
end Go.Proofs.YtapfhhmimkkhnaaGreat
