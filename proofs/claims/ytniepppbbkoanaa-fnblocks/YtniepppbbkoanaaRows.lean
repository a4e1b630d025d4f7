/-
  No cell of these rows narrows 'for every input' (looked for: loops, veiled, ifaces, maps, wideKeys, modest, calm, conditions, laid).
  DERIVED. THE GIVEN ROWS OF THIS SEAT. 9 by the template 'for every input the law returns true; each argument reads behind the call as it read before'; 0 by the template 'total and deterministic' (their statements: YtniepppbbkoanaaTotals.lean).
  GIVEN WITH THE SEED: the statements are not yours to turn. If you find one false, say at which input.
  Laid BY PROGRAM, IN A SANDBOX (cutbox-rows.mjs): the forced cells as the released guide's own fill.sh prints them over the translation 923ef9d17f8cd7eb… (all of the seat's roots in one cut). By AI agents, Wed Nov 11 2026. No macro, syntax, notation, axiom, sorry.
-/
import Derived.Test.YtniepppbbkoanaaChecked
import GoSem.Claim
import GoSem.ClaimJoined
import GoSem.ClaimMapViews
import Derived.JoinedTies
import Derived.KernelRfl
namespace Go.Proofs.Ytniepppbbkoanaa
/- THE CELL 'sum', in the pinned program and in every row, IS THE sha256 OF THE DUMP (.gsa) THAT YtniepppbbkoanaaProg.lean LOADS. Nothing in Lean hashes anything: it is a label: what it is worth is what the hold of that sum in a sandbox is worth. -/
noncomputable def Try.pinned : Pinned := { name := "ytniepppbbkoanaa", sum := "923ef9d17f8cd7ebba6b28c325c95d57ec534af0032a819dfcfe4fe9658ef536", checked := Try.checked }
namespace Rows
def none {H : Type} : Left H := { results := [], args := [] }

/-- 'laws.FnBlocks': WHATEVER THE INPUT: true; the input reads as it did. -/
def fnBlocksSpec : ChangeSpec := { name := "fnBlocks", fn := fun _ => fun
  | [d] => { results := [.lit (.bool true)], args := [d] }
  | _ => none }
def fnBlocksRow : OpenClaim := { program := "ytniepppbbkoanaa", sum := "923ef9d17f8cd7ebba6b28c325c95d57ec534af0032a819dfcfe4fe9658ef536", func := "loop.example/g00224/laws.FnBlocks", spec := "fnBlocks", unfollowed := true, recurses := true, apart := false }
def FnBlocksSaid : Prop := fnBlocksRow.holds Try.pinned (OpenSpec.ofChange fnBlocksSpec)

/-- ITS FALSE NEIGHBOUR: 'it returns false'. Refute it at one input. -/
def fnBlocksWrong : ChangeSpec := { name := "fnBlocks", fn := fun _ => fun
  | [d] => { results := [.lit (.bool false)], args := [d] }
  | _ => none }
def FnBlocksWrongFalsely : Prop := fnBlocksRow.holds Try.pinned (OpenSpec.ofChange fnBlocksWrong)

/-- 'laws.FnSought': WHATEVER THE INPUT: true; the input reads as it did. -/
def fnSoughtSpec : ChangeSpec := { name := "fnSought", fn := fun _ => fun
  | [d1, d2] => { results := [.lit (.bool true)], args := [d1, d2] }
  | _ => none }
def fnSoughtRow : OpenClaim := { program := "ytniepppbbkoanaa", sum := "923ef9d17f8cd7ebba6b28c325c95d57ec534af0032a819dfcfe4fe9658ef536", func := "loop.example/g00224/laws.FnSought", spec := "fnSought", unfollowed := true, recurses := true, apart := false }
def FnSoughtSaid : Prop := fnSoughtRow.holds Try.pinned (OpenSpec.ofChange fnSoughtSpec)

/-- ITS FALSE NEIGHBOUR: 'it returns false'. Refute it at one input. -/
def fnSoughtWrong : ChangeSpec := { name := "fnSought", fn := fun _ => fun
  | [d1, d2] => { results := [.lit (.bool false)], args := [d1, d2] }
  | _ => none }
def FnSoughtWrongFalsely : Prop := fnSoughtRow.holds Try.pinned (OpenSpec.ofChange fnSoughtWrong)

/-- 'laws.FnExactGoodRun': WHATEVER THE INPUT: true; the input reads as it did. -/
def fnExactGoodRunSpec : ChangeSpec := { name := "fnExactGoodRun", fn := fun _ => fun
  | [d] => { results := [.lit (.bool true)], args := [d] }
  | _ => none }
def fnExactGoodRunRow : OpenClaim := { program := "ytniepppbbkoanaa", sum := "923ef9d17f8cd7ebba6b28c325c95d57ec534af0032a819dfcfe4fe9658ef536", func := "loop.example/g00224/laws.FnExactGoodRun", spec := "fnExactGoodRun", apart := false }
def FnExactGoodRunSaid : Prop := fnExactGoodRunRow.holds Try.pinned (OpenSpec.ofChange fnExactGoodRunSpec)

/-- ITS FALSE NEIGHBOUR: 'it returns false'. Refute it at one input. -/
def fnExactGoodRunWrong : ChangeSpec := { name := "fnExactGoodRun", fn := fun _ => fun
  | [d] => { results := [.lit (.bool false)], args := [d] }
  | _ => none }
def FnExactGoodRunWrongFalsely : Prop := fnExactGoodRunRow.holds Try.pinned (OpenSpec.ofChange fnExactGoodRunWrong)

/-- 'laws.FnExactCommonOf': WHATEVER THE INPUT: true; the input reads as it did. -/
def fnExactCommonOfSpec : ChangeSpec := { name := "fnExactCommonOf", fn := fun _ => fun
  | [d1, d2] => { results := [.lit (.bool true)], args := [d1, d2] }
  | _ => none }
def fnExactCommonOfRow : OpenClaim := { program := "ytniepppbbkoanaa", sum := "923ef9d17f8cd7ebba6b28c325c95d57ec534af0032a819dfcfe4fe9658ef536", func := "loop.example/g00224/laws.FnExactCommonOf", spec := "fnExactCommonOf", apart := false }
def FnExactCommonOfSaid : Prop := fnExactCommonOfRow.holds Try.pinned (OpenSpec.ofChange fnExactCommonOfSpec)

/-- ITS FALSE NEIGHBOUR: 'it returns false'. Refute it at one input. -/
def fnExactCommonOfWrong : ChangeSpec := { name := "fnExactCommonOf", fn := fun _ => fun
  | [d1, d2] => { results := [.lit (.bool false)], args := [d1, d2] }
  | _ => none }
def FnExactCommonOfWrongFalsely : Prop := fnExactCommonOfRow.holds Try.pinned (OpenSpec.ofChange fnExactCommonOfWrong)

/-- 'laws.FnExactBlockBytes': WHATEVER THE INPUT: true; the input reads as it did. -/
def fnExactBlockBytesSpec : ChangeSpec := { name := "fnExactBlockBytes", fn := fun _ => fun
  | [d] => { results := [.lit (.bool true)], args := [d] }
  | _ => none }
def fnExactBlockBytesRow : OpenClaim := { program := "ytniepppbbkoanaa", sum := "923ef9d17f8cd7ebba6b28c325c95d57ec534af0032a819dfcfe4fe9658ef536", func := "loop.example/g00224/laws.FnExactBlockBytes", spec := "fnExactBlockBytes", apart := false }
def FnExactBlockBytesSaid : Prop := fnExactBlockBytesRow.holds Try.pinned (OpenSpec.ofChange fnExactBlockBytesSpec)

/-- ITS FALSE NEIGHBOUR: 'it returns false'. Refute it at one input. -/
def fnExactBlockBytesWrong : ChangeSpec := { name := "fnExactBlockBytes", fn := fun _ => fun
  | [d] => { results := [.lit (.bool false)], args := [d] }
  | _ => none }
def FnExactBlockBytesWrongFalsely : Prop := fnExactBlockBytesRow.holds Try.pinned (OpenSpec.ofChange fnExactBlockBytesWrong)

/-- 'laws.FnExactReadBlock': WHATEVER THE INPUT: true; the input reads as it did. -/
def fnExactReadBlockSpec : ChangeSpec := { name := "fnExactReadBlock", fn := fun _ => fun
  | [d] => { results := [.lit (.bool true)], args := [d] }
  | _ => none }
def fnExactReadBlockRow : OpenClaim := { program := "ytniepppbbkoanaa", sum := "923ef9d17f8cd7ebba6b28c325c95d57ec534af0032a819dfcfe4fe9658ef536", func := "loop.example/g00224/laws.FnExactReadBlock", spec := "fnExactReadBlock", unfollowed := true, recurses := true, apart := false }
def FnExactReadBlockSaid : Prop := fnExactReadBlockRow.holds Try.pinned (OpenSpec.ofChange fnExactReadBlockSpec)

/-- ITS FALSE NEIGHBOUR: 'it returns false'. Refute it at one input. -/
def fnExactReadBlockWrong : ChangeSpec := { name := "fnExactReadBlock", fn := fun _ => fun
  | [d] => { results := [.lit (.bool false)], args := [d] }
  | _ => none }
def FnExactReadBlockWrongFalsely : Prop := fnExactReadBlockRow.holds Try.pinned (OpenSpec.ofChange fnExactReadBlockWrong)

/-- 'laws.FnExactSeekRun': WHATEVER THE INPUT: true; the input reads as it did. -/
def fnExactSeekRunSpec : ChangeSpec := { name := "fnExactSeekRun", fn := fun _ => fun
  | [d1, d2, d3] => { results := [.lit (.bool true)], args := [d1, d2, d3] }
  | _ => none }
def fnExactSeekRunRow : OpenClaim := { program := "ytniepppbbkoanaa", sum := "923ef9d17f8cd7ebba6b28c325c95d57ec534af0032a819dfcfe4fe9658ef536", func := "loop.example/g00224/laws.FnExactSeekRun", spec := "fnExactSeekRun", unfollowed := true, recurses := true, apart := false }
def FnExactSeekRunSaid : Prop := fnExactSeekRunRow.holds Try.pinned (OpenSpec.ofChange fnExactSeekRunSpec)

/-- ITS FALSE NEIGHBOUR: 'it returns false'. Refute it at one input. -/
def fnExactSeekRunWrong : ChangeSpec := { name := "fnExactSeekRun", fn := fun _ => fun
  | [d1, d2, d3] => { results := [.lit (.bool false)], args := [d1, d2, d3] }
  | _ => none }
def FnExactSeekRunWrongFalsely : Prop := fnExactSeekRunRow.holds Try.pinned (OpenSpec.ofChange fnExactSeekRunWrong)

/-- 'laws.FnExactRestartsOf': WHATEVER THE INPUT: true; the input reads as it did. -/
def fnExactRestartsOfSpec : ChangeSpec := { name := "fnExactRestartsOf", fn := fun _ => fun
  | [d] => { results := [.lit (.bool true)], args := [d] }
  | _ => none }
def fnExactRestartsOfRow : OpenClaim := { program := "ytniepppbbkoanaa", sum := "923ef9d17f8cd7ebba6b28c325c95d57ec534af0032a819dfcfe4fe9658ef536", func := "loop.example/g00224/laws.FnExactRestartsOf", spec := "fnExactRestartsOf", unfollowed := true, recurses := true, apart := false }
def FnExactRestartsOfSaid : Prop := fnExactRestartsOfRow.holds Try.pinned (OpenSpec.ofChange fnExactRestartsOfSpec)

/-- ITS FALSE NEIGHBOUR: 'it returns false'. Refute it at one input. -/
def fnExactRestartsOfWrong : ChangeSpec := { name := "fnExactRestartsOf", fn := fun _ => fun
  | [d] => { results := [.lit (.bool false)], args := [d] }
  | _ => none }
def FnExactRestartsOfWrongFalsely : Prop := fnExactRestartsOfRow.holds Try.pinned (OpenSpec.ofChange fnExactRestartsOfWrong)

/-- 'laws.FnExactFirstIn': WHATEVER THE INPUT: true; the input reads as it did. -/
def fnExactFirstInSpec : ChangeSpec := { name := "fnExactFirstIn", fn := fun _ => fun
  | [d] => { results := [.lit (.bool true)], args := [d] }
  | _ => none }
def fnExactFirstInRow : OpenClaim := { program := "ytniepppbbkoanaa", sum := "923ef9d17f8cd7ebba6b28c325c95d57ec534af0032a819dfcfe4fe9658ef536", func := "loop.example/g00224/laws.FnExactFirstIn", spec := "fnExactFirstIn", unfollowed := true, recurses := true, apart := false }
def FnExactFirstInSaid : Prop := fnExactFirstInRow.holds Try.pinned (OpenSpec.ofChange fnExactFirstInSpec)

/-- ITS FALSE NEIGHBOUR: 'it returns false'. Refute it at one input. -/
def fnExactFirstInWrong : ChangeSpec := { name := "fnExactFirstIn", fn := fun _ => fun
  | [d] => { results := [.lit (.bool false)], args := [d] }
  | _ => none }
def FnExactFirstInWrongFalsely : Prop := fnExactFirstInRow.holds Try.pinned (OpenSpec.ofChange fnExactFirstInWrong)

/- THE SECOND FORM. 'bulk': how many values and letters a reading holds, each counted each time it is reached (what is shared counts as often as it is met; a slice's spare places count too). A statement '..UptoSaid' is the law's where the arguments, and the package variables that the reading takes, are together of bulk at most 1048576: NARROWER than '..Said'. Prove '..Said' where nothing that the law and all that it calls make is longer than what came in: it says more and counts as full. Else prove '..UptoSaid'. A law counts once. -/
mutual
def uptoBulk {H : Type} : DataW H → Nat
  | .lit (.string bytes) => bytes.length + 1
  | .lit _ => 1
  | .nil => 1
  | .ptr d => uptoBulk d + 1
  | .slice elems spare => uptoBulkAll elems + uptoBulkAll spare + 1
  | .agg parts => uptoBulkAll parts + 1
  | .iface _ d => uptoBulk d + 1
  | .map entries => uptoBulkEntries entries + 1
  | .held _ => 1
def uptoBulkAll {H : Type} : List (DataW H) → Nat
  | [] => 0
  | d :: r => uptoBulk d + uptoBulkAll r
def uptoBulkEntries {H : Type} : List (Lit × DataW H) → Nat
  | [] => 0
  | x :: r => uptoBulkEntry x + uptoBulkEntries r
def uptoBulkEntry {H : Type} : Lit × DataW H → Nat
  | (.string bytes, d) => bytes.length + uptoBulk d + 1
  | (_, d) => uptoBulk d + 1
 end
def uptoSmall : (H : Type) → List (DataW H) → Bool := fun _ ds => decide (uptoBulkAll ds ≤ 1048576)
def OpenSpec.upto (s : _root_.Go.ChangeSpec) : _root_.Go.OpenSpec := { _root_.Go.OpenSpec.ofChange s with cond := some uptoSmall }

/-- 'laws.FnBlocks', WHERE WHAT IT READS IS OF BULK AT MOST 1048576: true; the input reads as it did. -/
def fnBlocksUptoRow : OpenClaim := { program := "ytniepppbbkoanaa", sum := "923ef9d17f8cd7ebba6b28c325c95d57ec534af0032a819dfcfe4fe9658ef536", func := "loop.example/g00224/laws.FnBlocks", spec := "fnBlocks", unfollowed := true, recurses := true, apart := false, narrowed := true }
def FnBlocksUptoSaid : Prop := fnBlocksUptoRow.holds Try.pinned (OpenSpec.upto fnBlocksSpec)

/-- 'laws.FnSought', WHERE WHAT IT READS IS OF BULK AT MOST 1048576: true; the input reads as it did. -/
def fnSoughtUptoRow : OpenClaim := { program := "ytniepppbbkoanaa", sum := "923ef9d17f8cd7ebba6b28c325c95d57ec534af0032a819dfcfe4fe9658ef536", func := "loop.example/g00224/laws.FnSought", spec := "fnSought", unfollowed := true, recurses := true, apart := false, narrowed := true }
def FnSoughtUptoSaid : Prop := fnSoughtUptoRow.holds Try.pinned (OpenSpec.upto fnSoughtSpec)

/-- 'laws.FnExactGoodRun', WHERE WHAT IT READS IS OF BULK AT MOST 1048576: true; the input reads as it did. -/
def fnExactGoodRunUptoRow : OpenClaim := { program := "ytniepppbbkoanaa", sum := "923ef9d17f8cd7ebba6b28c325c95d57ec534af0032a819dfcfe4fe9658ef536", func := "loop.example/g00224/laws.FnExactGoodRun", spec := "fnExactGoodRun", apart := false, narrowed := true }
def FnExactGoodRunUptoSaid : Prop := fnExactGoodRunUptoRow.holds Try.pinned (OpenSpec.upto fnExactGoodRunSpec)

/-- 'laws.FnExactCommonOf', WHERE WHAT IT READS IS OF BULK AT MOST 1048576: true; the input reads as it did. -/
def fnExactCommonOfUptoRow : OpenClaim := { program := "ytniepppbbkoanaa", sum := "923ef9d17f8cd7ebba6b28c325c95d57ec534af0032a819dfcfe4fe9658ef536", func := "loop.example/g00224/laws.FnExactCommonOf", spec := "fnExactCommonOf", apart := false, narrowed := true }
def FnExactCommonOfUptoSaid : Prop := fnExactCommonOfUptoRow.holds Try.pinned (OpenSpec.upto fnExactCommonOfSpec)

/-- 'laws.FnExactBlockBytes', WHERE WHAT IT READS IS OF BULK AT MOST 1048576: true; the input reads as it did. -/
def fnExactBlockBytesUptoRow : OpenClaim := { program := "ytniepppbbkoanaa", sum := "923ef9d17f8cd7ebba6b28c325c95d57ec534af0032a819dfcfe4fe9658ef536", func := "loop.example/g00224/laws.FnExactBlockBytes", spec := "fnExactBlockBytes", apart := false, narrowed := true }
def FnExactBlockBytesUptoSaid : Prop := fnExactBlockBytesUptoRow.holds Try.pinned (OpenSpec.upto fnExactBlockBytesSpec)

/-- 'laws.FnExactReadBlock', WHERE WHAT IT READS IS OF BULK AT MOST 1048576: true; the input reads as it did. -/
def fnExactReadBlockUptoRow : OpenClaim := { program := "ytniepppbbkoanaa", sum := "923ef9d17f8cd7ebba6b28c325c95d57ec534af0032a819dfcfe4fe9658ef536", func := "loop.example/g00224/laws.FnExactReadBlock", spec := "fnExactReadBlock", unfollowed := true, recurses := true, apart := false, narrowed := true }
def FnExactReadBlockUptoSaid : Prop := fnExactReadBlockUptoRow.holds Try.pinned (OpenSpec.upto fnExactReadBlockSpec)

/-- 'laws.FnExactSeekRun', WHERE WHAT IT READS IS OF BULK AT MOST 1048576: true; the input reads as it did. -/
def fnExactSeekRunUptoRow : OpenClaim := { program := "ytniepppbbkoanaa", sum := "923ef9d17f8cd7ebba6b28c325c95d57ec534af0032a819dfcfe4fe9658ef536", func := "loop.example/g00224/laws.FnExactSeekRun", spec := "fnExactSeekRun", unfollowed := true, recurses := true, apart := false, narrowed := true }
def FnExactSeekRunUptoSaid : Prop := fnExactSeekRunUptoRow.holds Try.pinned (OpenSpec.upto fnExactSeekRunSpec)

/-- 'laws.FnExactRestartsOf', WHERE WHAT IT READS IS OF BULK AT MOST 1048576: true; the input reads as it did. -/
def fnExactRestartsOfUptoRow : OpenClaim := { program := "ytniepppbbkoanaa", sum := "923ef9d17f8cd7ebba6b28c325c95d57ec534af0032a819dfcfe4fe9658ef536", func := "loop.example/g00224/laws.FnExactRestartsOf", spec := "fnExactRestartsOf", unfollowed := true, recurses := true, apart := false, narrowed := true }
def FnExactRestartsOfUptoSaid : Prop := fnExactRestartsOfUptoRow.holds Try.pinned (OpenSpec.upto fnExactRestartsOfSpec)

/-- 'laws.FnExactFirstIn', WHERE WHAT IT READS IS OF BULK AT MOST 1048576: true; the input reads as it did. -/
def fnExactFirstInUptoRow : OpenClaim := { program := "ytniepppbbkoanaa", sum := "923ef9d17f8cd7ebba6b28c325c95d57ec534af0032a819dfcfe4fe9658ef536", func := "loop.example/g00224/laws.FnExactFirstIn", spec := "fnExactFirstIn", unfollowed := true, recurses := true, apart := false, narrowed := true }
def FnExactFirstInUptoSaid : Prop := fnExactFirstInUptoRow.holds Try.pinned (OpenSpec.upto fnExactFirstInSpec)

end Rows
end Go.Proofs.Ytniepppbbkoanaa
