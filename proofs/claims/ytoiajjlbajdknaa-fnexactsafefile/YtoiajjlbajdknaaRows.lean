/-
  No cell of these rows narrows 'for every input' (looked for: loops, veiled, ifaces, maps, wideKeys, modest, calm, conditions, laid).
  DERIVED. THE GIVEN ROWS OF THIS SEAT. 8 by the template 'for every input the law returns true; each argument reads behind the call as it read before'; 0 by the template 'total and deterministic' (their statements: YtoiajjlbajdknaaTotals.lean).
  GIVEN WITH THE SEED: the statements are not yours to turn. If you find one false, say at which input.
  Laid BY PROGRAM, IN A SANDBOX (cutbox-rows.mjs): the forced cells as the released guide's own fill.sh prints them over the translation ba40d0c8f3869f2d… (all of the seat's roots in one cut). By AI agents, Wed Nov 11 2026. No macro, syntax, notation, axiom, sorry.
-/
import Derived.Test.YtoiajjlbajdknaaChecked
import GoSem.Claim
import GoSem.ClaimJoined
import GoSem.ClaimMapViews
import Derived.JoinedTies
import Derived.KernelRfl
namespace Go.Proofs.Ytoiajjlbajdknaa
/- THE CELL 'sum', in the pinned program and in every row, IS THE sha256 OF THE DUMP (.gsa) THAT YtoiajjlbajdknaaProg.lean LOADS. Nothing in Lean hashes anything: it is a label: what it is worth is what the hold of that sum in a sandbox is worth. -/
noncomputable def Try.pinned : Pinned := { name := "ytoiajjlbajdknaa", sum := "ba40d0c8f3869f2d37b13cda6102e0d95843044d26e54fd8fd70d898e3fd6f37", checked := Try.checked }
namespace Rows
def none {H : Type} : Left H := { results := [], args := [] }

/-- 'laws.FnExactNewDisk': WHATEVER THE INPUT: true; the input reads as it did. -/
def fnExactNewDiskSpec : ChangeSpec := { name := "fnExactNewDisk", fn := fun _ => fun
  | [d] => { results := [.lit (.bool true)], args := [d] }
  | _ => none }
def fnExactNewDiskRow : OpenClaim := { program := "ytoiajjlbajdknaa", sum := "ba40d0c8f3869f2d37b13cda6102e0d95843044d26e54fd8fd70d898e3fd6f37", func := "loop.example/g00224/laws.FnExactNewDisk", spec := "fnExactNewDisk", apart := false }
def FnExactNewDiskSaid : Prop := fnExactNewDiskRow.holds Try.pinned (OpenSpec.ofChange fnExactNewDiskSpec)

/-- ITS FALSE NEIGHBOUR: 'it returns false'. Refute it at one input. -/
def fnExactNewDiskWrong : ChangeSpec := { name := "fnExactNewDisk", fn := fun _ => fun
  | [d] => { results := [.lit (.bool false)], args := [d] }
  | _ => none }
def FnExactNewDiskWrongFalsely : Prop := fnExactNewDiskRow.holds Try.pinned (OpenSpec.ofChange fnExactNewDiskWrong)

/-- 'laws.FnExactGoodDisk': WHATEVER THE INPUT: true; the input reads as it did. -/
def fnExactGoodDiskSpec : ChangeSpec := { name := "fnExactGoodDisk", fn := fun _ => fun
  | [d] => { results := [.lit (.bool true)], args := [d] }
  | _ => none }
def fnExactGoodDiskRow : OpenClaim := { program := "ytoiajjlbajdknaa", sum := "ba40d0c8f3869f2d37b13cda6102e0d95843044d26e54fd8fd70d898e3fd6f37", func := "loop.example/g00224/laws.FnExactGoodDisk", spec := "fnExactGoodDisk", apart := false }
def FnExactGoodDiskSaid : Prop := fnExactGoodDiskRow.holds Try.pinned (OpenSpec.ofChange fnExactGoodDiskSpec)

/-- ITS FALSE NEIGHBOUR: 'it returns false'. Refute it at one input. -/
def fnExactGoodDiskWrong : ChangeSpec := { name := "fnExactGoodDisk", fn := fun _ => fun
  | [d] => { results := [.lit (.bool false)], args := [d] }
  | _ => none }
def FnExactGoodDiskWrongFalsely : Prop := fnExactGoodDiskRow.holds Try.pinned (OpenSpec.ofChange fnExactGoodDiskWrong)

/-- 'laws.FnExactDoDisk': WHATEVER THE INPUT: true; the input reads as it did. -/
def fnExactDoDiskSpec : ChangeSpec := { name := "fnExactDoDisk", fn := fun _ => fun
  | [d1, d2] => { results := [.lit (.bool true)], args := [d1, d2] }
  | _ => none }
def fnExactDoDiskRow : OpenClaim := { program := "ytoiajjlbajdknaa", sum := "ba40d0c8f3869f2d37b13cda6102e0d95843044d26e54fd8fd70d898e3fd6f37", func := "loop.example/g00224/laws.FnExactDoDisk", spec := "fnExactDoDisk", inPlace := ["internal/bytealg.abigen_runtime_cmpstring"], unfollowed := true, recurses := true, apart := false }
def FnExactDoDiskSaid : Prop := fnExactDoDiskRow.holds Try.pinned (OpenSpec.ofChange fnExactDoDiskSpec)

/-- ITS FALSE NEIGHBOUR: 'it returns false'. Refute it at one input. -/
def fnExactDoDiskWrong : ChangeSpec := { name := "fnExactDoDisk", fn := fun _ => fun
  | [d1, d2] => { results := [.lit (.bool false)], args := [d1, d2] }
  | _ => none }
def FnExactDoDiskWrongFalsely : Prop := fnExactDoDiskRow.holds Try.pinned (OpenSpec.ofChange fnExactDoDiskWrong)

/-- 'laws.FnExactPlayDisk': WHATEVER THE INPUT: true; the input reads as it did. -/
def fnExactPlayDiskSpec : ChangeSpec := { name := "fnExactPlayDisk", fn := fun _ => fun
  | [d1, d2] => { results := [.lit (.bool true)], args := [d1, d2] }
  | _ => none }
def fnExactPlayDiskRow : OpenClaim := { program := "ytoiajjlbajdknaa", sum := "ba40d0c8f3869f2d37b13cda6102e0d95843044d26e54fd8fd70d898e3fd6f37", func := "loop.example/g00224/laws.FnExactPlayDisk", spec := "fnExactPlayDisk", inPlace := ["internal/bytealg.abigen_runtime_cmpstring"], unfollowed := true, recurses := true, apart := false }
def FnExactPlayDiskSaid : Prop := fnExactPlayDiskRow.holds Try.pinned (OpenSpec.ofChange fnExactPlayDiskSpec)

/-- ITS FALSE NEIGHBOUR: 'it returns false'. Refute it at one input. -/
def fnExactPlayDiskWrong : ChangeSpec := { name := "fnExactPlayDisk", fn := fun _ => fun
  | [d1, d2] => { results := [.lit (.bool false)], args := [d1, d2] }
  | _ => none }
def FnExactPlayDiskWrongFalsely : Prop := fnExactPlayDiskRow.holds Try.pinned (OpenSpec.ofChange fnExactPlayDiskWrong)

/-- 'laws.FnExactReadFile': WHATEVER THE INPUT: true; the input reads as it did. -/
def fnExactReadFileSpec : ChangeSpec := { name := "fnExactReadFile", fn := fun _ => fun
  | [d1, d2] => { results := [.lit (.bool true)], args := [d1, d2] }
  | _ => none }
def fnExactReadFileRow : OpenClaim := { program := "ytoiajjlbajdknaa", sum := "ba40d0c8f3869f2d37b13cda6102e0d95843044d26e54fd8fd70d898e3fd6f37", func := "loop.example/g00224/laws.FnExactReadFile", spec := "fnExactReadFile", unfollowed := true, recurses := true, apart := false }
def FnExactReadFileSaid : Prop := fnExactReadFileRow.holds Try.pinned (OpenSpec.ofChange fnExactReadFileSpec)

/-- ITS FALSE NEIGHBOUR: 'it returns false'. Refute it at one input. -/
def fnExactReadFileWrong : ChangeSpec := { name := "fnExactReadFile", fn := fun _ => fun
  | [d1, d2] => { results := [.lit (.bool false)], args := [d1, d2] }
  | _ => none }
def FnExactReadFileWrongFalsely : Prop := fnExactReadFileRow.holds Try.pinned (OpenSpec.ofChange fnExactReadFileWrong)

/-- 'laws.FnExactSafeFile': WHATEVER THE INPUT: true; the input reads as it did. -/
def fnExactSafeFileSpec : ChangeSpec := { name := "fnExactSafeFile", fn := fun _ => fun
  | [d1, d2] => { results := [.lit (.bool true)], args := [d1, d2] }
  | _ => none }
def fnExactSafeFileRow : OpenClaim := { program := "ytoiajjlbajdknaa", sum := "ba40d0c8f3869f2d37b13cda6102e0d95843044d26e54fd8fd70d898e3fd6f37", func := "loop.example/g00224/laws.FnExactSafeFile", spec := "fnExactSafeFile", unfollowed := true, recurses := true, apart := false }
def FnExactSafeFileSaid : Prop := fnExactSafeFileRow.holds Try.pinned (OpenSpec.ofChange fnExactSafeFileSpec)

/-- ITS FALSE NEIGHBOUR: 'it returns false'. Refute it at one input. -/
def fnExactSafeFileWrong : ChangeSpec := { name := "fnExactSafeFile", fn := fun _ => fun
  | [d1, d2] => { results := [.lit (.bool false)], args := [d1, d2] }
  | _ => none }
def FnExactSafeFileWrongFalsely : Prop := fnExactSafeFileRow.holds Try.pinned (OpenSpec.ofChange fnExactSafeFileWrong)

/-- 'laws.FnExactNamesOf': WHATEVER THE INPUT: true; the input reads as it did. -/
def fnExactNamesOfSpec : ChangeSpec := { name := "fnExactNamesOf", fn := fun _ => fun
  | [d] => { results := [.lit (.bool true)], args := [d] }
  | _ => none }
def fnExactNamesOfRow : OpenClaim := { program := "ytoiajjlbajdknaa", sum := "ba40d0c8f3869f2d37b13cda6102e0d95843044d26e54fd8fd70d898e3fd6f37", func := "loop.example/g00224/laws.FnExactNamesOf", spec := "fnExactNamesOf", apart := false }
def FnExactNamesOfSaid : Prop := fnExactNamesOfRow.holds Try.pinned (OpenSpec.ofChange fnExactNamesOfSpec)

/-- ITS FALSE NEIGHBOUR: 'it returns false'. Refute it at one input. -/
def fnExactNamesOfWrong : ChangeSpec := { name := "fnExactNamesOf", fn := fun _ => fun
  | [d] => { results := [.lit (.bool false)], args := [d] }
  | _ => none }
def FnExactNamesOfWrongFalsely : Prop := fnExactNamesOfRow.holds Try.pinned (OpenSpec.ofChange fnExactNamesOfWrong)

/-- 'laws.FnExactUsedOf': WHATEVER THE INPUT: true; the input reads as it did. -/
def fnExactUsedOfSpec : ChangeSpec := { name := "fnExactUsedOf", fn := fun _ => fun
  | [d] => { results := [.lit (.bool true)], args := [d] }
  | _ => none }
def fnExactUsedOfRow : OpenClaim := { program := "ytoiajjlbajdknaa", sum := "ba40d0c8f3869f2d37b13cda6102e0d95843044d26e54fd8fd70d898e3fd6f37", func := "loop.example/g00224/laws.FnExactUsedOf", spec := "fnExactUsedOf", apart := false }
def FnExactUsedOfSaid : Prop := fnExactUsedOfRow.holds Try.pinned (OpenSpec.ofChange fnExactUsedOfSpec)

/-- ITS FALSE NEIGHBOUR: 'it returns false'. Refute it at one input. -/
def fnExactUsedOfWrong : ChangeSpec := { name := "fnExactUsedOf", fn := fun _ => fun
  | [d] => { results := [.lit (.bool false)], args := [d] }
  | _ => none }
def FnExactUsedOfWrongFalsely : Prop := fnExactUsedOfRow.holds Try.pinned (OpenSpec.ofChange fnExactUsedOfWrong)

/- THE SECOND FORM. 'bulk': how many values and letters a reading holds, each counted each time it is reached (what is shared counts as often as it is met; a slice's spare places count too). A statement '..UptoSaid' is the law's where the arguments, and the package variables that the reading takes, are together of bulk at most 1048576: NARROWER than '..Said'. Prove '..Said' where nothing that the law and all that it calls make is longer than what came in: it says more and counts as full. Else prove '..UptoSaid'. A law counts once. -/
mutual
def uptoBulk {H : Type} : DataW H → Nat
  | .lit (.string bytes) => bytes.length + 1
  | .lit _ => 1
  | .nil => 1
  | .ptr d => uptoBulk d + 1
  | .slice elems spare => uptoBulkAll elems + uptoBulkAll spare + 1
  | .agg parts => uptoBulkAll parts + 1
  | .iface _ d => uptoBulk d + 1
  | .map entries => uptoBulkEntries entries + 1
  | .held _ => 1
def uptoBulkAll {H : Type} : List (DataW H) → Nat
  | [] => 0
  | d :: r => uptoBulk d + uptoBulkAll r
def uptoBulkEntries {H : Type} : List (Lit × DataW H) → Nat
  | [] => 0
  | x :: r => uptoBulkEntry x + uptoBulkEntries r
def uptoBulkEntry {H : Type} : Lit × DataW H → Nat
  | (.string bytes, d) => bytes.length + uptoBulk d + 1
  | (_, d) => uptoBulk d + 1
 end
def uptoSmall : (H : Type) → List (DataW H) → Bool := fun _ ds => decide (uptoBulkAll ds ≤ 1048576)
def OpenSpec.upto (s : _root_.Go.ChangeSpec) : _root_.Go.OpenSpec := { _root_.Go.OpenSpec.ofChange s with cond := some uptoSmall }

/-- 'laws.FnExactNewDisk', WHERE WHAT IT READS IS OF BULK AT MOST 1048576: true; the input reads as it did. -/
def fnExactNewDiskUptoRow : OpenClaim := { program := "ytoiajjlbajdknaa", sum := "ba40d0c8f3869f2d37b13cda6102e0d95843044d26e54fd8fd70d898e3fd6f37", func := "loop.example/g00224/laws.FnExactNewDisk", spec := "fnExactNewDisk", apart := false, narrowed := true }
def FnExactNewDiskUptoSaid : Prop := fnExactNewDiskUptoRow.holds Try.pinned (OpenSpec.upto fnExactNewDiskSpec)

/-- 'laws.FnExactGoodDisk', WHERE WHAT IT READS IS OF BULK AT MOST 1048576: true; the input reads as it did. -/
def fnExactGoodDiskUptoRow : OpenClaim := { program := "ytoiajjlbajdknaa", sum := "ba40d0c8f3869f2d37b13cda6102e0d95843044d26e54fd8fd70d898e3fd6f37", func := "loop.example/g00224/laws.FnExactGoodDisk", spec := "fnExactGoodDisk", apart := false, narrowed := true }
def FnExactGoodDiskUptoSaid : Prop := fnExactGoodDiskUptoRow.holds Try.pinned (OpenSpec.upto fnExactGoodDiskSpec)

/-- 'laws.FnExactDoDisk', WHERE WHAT IT READS IS OF BULK AT MOST 1048576: true; the input reads as it did. -/
def fnExactDoDiskUptoRow : OpenClaim := { program := "ytoiajjlbajdknaa", sum := "ba40d0c8f3869f2d37b13cda6102e0d95843044d26e54fd8fd70d898e3fd6f37", func := "loop.example/g00224/laws.FnExactDoDisk", spec := "fnExactDoDisk", inPlace := ["internal/bytealg.abigen_runtime_cmpstring"], unfollowed := true, recurses := true, apart := false, narrowed := true }
def FnExactDoDiskUptoSaid : Prop := fnExactDoDiskUptoRow.holds Try.pinned (OpenSpec.upto fnExactDoDiskSpec)

/-- 'laws.FnExactPlayDisk', WHERE WHAT IT READS IS OF BULK AT MOST 1048576: true; the input reads as it did. -/
def fnExactPlayDiskUptoRow : OpenClaim := { program := "ytoiajjlbajdknaa", sum := "ba40d0c8f3869f2d37b13cda6102e0d95843044d26e54fd8fd70d898e3fd6f37", func := "loop.example/g00224/laws.FnExactPlayDisk", spec := "fnExactPlayDisk", inPlace := ["internal/bytealg.abigen_runtime_cmpstring"], unfollowed := true, recurses := true, apart := false, narrowed := true }
def FnExactPlayDiskUptoSaid : Prop := fnExactPlayDiskUptoRow.holds Try.pinned (OpenSpec.upto fnExactPlayDiskSpec)

/-- 'laws.FnExactReadFile', WHERE WHAT IT READS IS OF BULK AT MOST 1048576: true; the input reads as it did. -/
def fnExactReadFileUptoRow : OpenClaim := { program := "ytoiajjlbajdknaa", sum := "ba40d0c8f3869f2d37b13cda6102e0d95843044d26e54fd8fd70d898e3fd6f37", func := "loop.example/g00224/laws.FnExactReadFile", spec := "fnExactReadFile", unfollowed := true, recurses := true, apart := false, narrowed := true }
def FnExactReadFileUptoSaid : Prop := fnExactReadFileUptoRow.holds Try.pinned (OpenSpec.upto fnExactReadFileSpec)

/-- 'laws.FnExactSafeFile', WHERE WHAT IT READS IS OF BULK AT MOST 1048576: true; the input reads as it did. -/
def fnExactSafeFileUptoRow : OpenClaim := { program := "ytoiajjlbajdknaa", sum := "ba40d0c8f3869f2d37b13cda6102e0d95843044d26e54fd8fd70d898e3fd6f37", func := "loop.example/g00224/laws.FnExactSafeFile", spec := "fnExactSafeFile", unfollowed := true, recurses := true, apart := false, narrowed := true }
def FnExactSafeFileUptoSaid : Prop := fnExactSafeFileUptoRow.holds Try.pinned (OpenSpec.upto fnExactSafeFileSpec)

/-- 'laws.FnExactNamesOf', WHERE WHAT IT READS IS OF BULK AT MOST 1048576: true; the input reads as it did. -/
def fnExactNamesOfUptoRow : OpenClaim := { program := "ytoiajjlbajdknaa", sum := "ba40d0c8f3869f2d37b13cda6102e0d95843044d26e54fd8fd70d898e3fd6f37", func := "loop.example/g00224/laws.FnExactNamesOf", spec := "fnExactNamesOf", apart := false, narrowed := true }
def FnExactNamesOfUptoSaid : Prop := fnExactNamesOfUptoRow.holds Try.pinned (OpenSpec.upto fnExactNamesOfSpec)

/-- 'laws.FnExactUsedOf', WHERE WHAT IT READS IS OF BULK AT MOST 1048576: true; the input reads as it did. -/
def fnExactUsedOfUptoRow : OpenClaim := { program := "ytoiajjlbajdknaa", sum := "ba40d0c8f3869f2d37b13cda6102e0d95843044d26e54fd8fd70d898e3fd6f37", func := "loop.example/g00224/laws.FnExactUsedOf", spec := "fnExactUsedOf", apart := false, narrowed := true }
def FnExactUsedOfUptoSaid : Prop := fnExactUsedOfUptoRow.holds Try.pinned (OpenSpec.upto fnExactUsedOfSpec)

end Rows
end Go.Proofs.Ytoiajjlbajdknaa
