/-
  No cell of these rows narrows 'for every input' (looked for: loops, veiled, ifaces, maps, wideKeys, modest, calm, conditions, laid).
  DERIVED. THE GIVEN ROWS OF THIS SEAT. 11 by the template 'for every input the law returns true; each argument reads behind the call as it read before'; 0 by the template 'total and deterministic' (their statements: YtocaigffikdlhaaTotals.lean).
  GIVEN WITH THE SEED: the statements are not yours to turn. If you find one false, say at which input.
  Laid BY PROGRAM, IN A SANDBOX (cutbox-rows.mjs): the forced cells as the released guide's own fill.sh prints them over the translation c2113bb751dbfc40… (all of the seat's roots in one cut). By AI agents, Wed Nov 11 2026. No macro, syntax, notation, axiom, sorry.
-/
import Derived.Test.YtocaigffikdlhaaChecked
import GoSem.Claim
import GoSem.ClaimJoined
import GoSem.ClaimMapViews
import Derived.JoinedTies
import Derived.KernelRfl
namespace Go.Proofs.Ytocaigffikdlhaa
/- THE CELL 'sum', in the pinned program and in every row, IS THE sha256 OF THE DUMP (.gsa) THAT YtocaigffikdlhaaProg.lean LOADS. Nothing in Lean hashes anything: it is a label: what it is worth is what the hold of that sum in a sandbox is worth. -/
noncomputable def Try.pinned : Pinned := { name := "ytocaigffikdlhaa", sum := "c2113bb751dbfc405f73c44eb6325b7c368df7c721fe0bf820b3f76ca868d8f8", checked := Try.checked }
namespace Rows
def none {H : Type} : Left H := { results := [], args := [] }

/-- 'laws.FnSent': WHATEVER THE INPUT: true; the input reads as it did. -/
def fnSentSpec : ChangeSpec := { name := "fnSent", fn := fun _ => fun
  | [d] => { results := [.lit (.bool true)], args := [d] }
  | _ => none }
def fnSentRow : OpenClaim := { program := "ytocaigffikdlhaa", sum := "c2113bb751dbfc405f73c44eb6325b7c368df7c721fe0bf820b3f76ca868d8f8", func := "loop.example/g00224/laws.FnSent", spec := "fnSent", inPlace := ["slices.overlaps[loop.example/g00224/impl.Chunk]"], unfollowed := true, recurses := true, apart := false }
def FnSentSaid : Prop := fnSentRow.holds Try.pinned (OpenSpec.ofChange fnSentSpec)

/-- ITS FALSE NEIGHBOUR: 'it returns false'. Refute it at one input. -/
def fnSentWrong : ChangeSpec := { name := "fnSent", fn := fun _ => fun
  | [d] => { results := [.lit (.bool false)], args := [d] }
  | _ => none }
def FnSentWrongFalsely : Prop := fnSentRow.holds Try.pinned (OpenSpec.ofChange fnSentWrong)

/-- 'laws.FnTaking': WHATEVER THE INPUT: true; the input reads as it did. -/
def fnTakingSpec : ChangeSpec := { name := "fnTaking", fn := fun _ => fun
  | [d1, d2] => { results := [.lit (.bool true)], args := [d1, d2] }
  | _ => none }
def fnTakingRow : OpenClaim := { program := "ytocaigffikdlhaa", sum := "c2113bb751dbfc405f73c44eb6325b7c368df7c721fe0bf820b3f76ca868d8f8", func := "loop.example/g00224/laws.FnTaking", spec := "fnTaking", inPlace := ["slices.overlaps[loop.example/g00224/impl.Chunk]"], unfollowed := true, recurses := true, apart := false }
def FnTakingSaid : Prop := fnTakingRow.holds Try.pinned (OpenSpec.ofChange fnTakingSpec)

/-- ITS FALSE NEIGHBOUR: 'it returns false'. Refute it at one input. -/
def fnTakingWrong : ChangeSpec := { name := "fnTaking", fn := fun _ => fun
  | [d1, d2] => { results := [.lit (.bool false)], args := [d1, d2] }
  | _ => none }
def FnTakingWrongFalsely : Prop := fnTakingRow.holds Try.pinned (OpenSpec.ofChange fnTakingWrong)

/-- 'laws.FnExactWantOf': WHATEVER THE INPUT: true; the input reads as it did. -/
def fnExactWantOfSpec : ChangeSpec := { name := "fnExactWantOf", fn := fun _ => fun
  | [d] => { results := [.lit (.bool true)], args := [d] }
  | _ => none }
def fnExactWantOfRow : OpenClaim := { program := "ytocaigffikdlhaa", sum := "c2113bb751dbfc405f73c44eb6325b7c368df7c721fe0bf820b3f76ca868d8f8", func := "loop.example/g00224/laws.FnExactWantOf", spec := "fnExactWantOf", apart := false }
def FnExactWantOfSaid : Prop := fnExactWantOfRow.holds Try.pinned (OpenSpec.ofChange fnExactWantOfSpec)

/-- ITS FALSE NEIGHBOUR: 'it returns false'. Refute it at one input. -/
def fnExactWantOfWrong : ChangeSpec := { name := "fnExactWantOf", fn := fun _ => fun
  | [d] => { results := [.lit (.bool false)], args := [d] }
  | _ => none }
def FnExactWantOfWrongFalsely : Prop := fnExactWantOfRow.holds Try.pinned (OpenSpec.ofChange fnExactWantOfWrong)

/-- 'laws.FnExactChunksOf': WHATEVER THE INPUT: true; the input reads as it did. -/
def fnExactChunksOfSpec : ChangeSpec := { name := "fnExactChunksOf", fn := fun _ => fun
  | [d] => { results := [.lit (.bool true)], args := [d] }
  | _ => none }
def fnExactChunksOfRow : OpenClaim := { program := "ytocaigffikdlhaa", sum := "c2113bb751dbfc405f73c44eb6325b7c368df7c721fe0bf820b3f76ca868d8f8", func := "loop.example/g00224/laws.FnExactChunksOf", spec := "fnExactChunksOf", apart := false }
def FnExactChunksOfSaid : Prop := fnExactChunksOfRow.holds Try.pinned (OpenSpec.ofChange fnExactChunksOfSpec)

/-- ITS FALSE NEIGHBOUR: 'it returns false'. Refute it at one input. -/
def fnExactChunksOfWrong : ChangeSpec := { name := "fnExactChunksOf", fn := fun _ => fun
  | [d] => { results := [.lit (.bool false)], args := [d] }
  | _ => none }
def FnExactChunksOfWrongFalsely : Prop := fnExactChunksOfRow.holds Try.pinned (OpenSpec.ofChange fnExactChunksOfWrong)

/-- 'laws.FnExactChunkSum': WHATEVER THE INPUT: true; the input reads as it did. -/
def fnExactChunkSumSpec : ChangeSpec := { name := "fnExactChunkSum", fn := fun _ => fun
  | [d1, d2, d3] => { results := [.lit (.bool true)], args := [d1, d2, d3] }
  | _ => none }
def fnExactChunkSumRow : OpenClaim := { program := "ytocaigffikdlhaa", sum := "c2113bb751dbfc405f73c44eb6325b7c368df7c721fe0bf820b3f76ca868d8f8", func := "loop.example/g00224/laws.FnExactChunkSum", spec := "fnExactChunkSum", apart := false }
def FnExactChunkSumSaid : Prop := fnExactChunkSumRow.holds Try.pinned (OpenSpec.ofChange fnExactChunkSumSpec)

/-- ITS FALSE NEIGHBOUR: 'it returns false'. Refute it at one input. -/
def fnExactChunkSumWrong : ChangeSpec := { name := "fnExactChunkSum", fn := fun _ => fun
  | [d1, d2, d3] => { results := [.lit (.bool false)], args := [d1, d2, d3] }
  | _ => none }
def FnExactChunkSumWrongFalsely : Prop := fnExactChunkSumRow.holds Try.pinned (OpenSpec.ofChange fnExactChunkSumWrong)

/-- 'laws.FnExactNewTaking': WHATEVER THE INPUT: true; the input reads as it did. -/
def fnExactNewTakingSpec : ChangeSpec := { name := "fnExactNewTaking", fn := fun _ => fun
  | [d] => { results := [.lit (.bool true)], args := [d] }
  | _ => none }
def fnExactNewTakingRow : OpenClaim := { program := "ytocaigffikdlhaa", sum := "c2113bb751dbfc405f73c44eb6325b7c368df7c721fe0bf820b3f76ca868d8f8", func := "loop.example/g00224/laws.FnExactNewTaking", spec := "fnExactNewTaking", apart := false }
def FnExactNewTakingSaid : Prop := fnExactNewTakingRow.holds Try.pinned (OpenSpec.ofChange fnExactNewTakingSpec)

/-- ITS FALSE NEIGHBOUR: 'it returns false'. Refute it at one input. -/
def fnExactNewTakingWrong : ChangeSpec := { name := "fnExactNewTaking", fn := fun _ => fun
  | [d] => { results := [.lit (.bool false)], args := [d] }
  | _ => none }
def FnExactNewTakingWrongFalsely : Prop := fnExactNewTakingRow.holds Try.pinned (OpenSpec.ofChange fnExactNewTakingWrong)

/-- 'laws.FnExactGoodTaking': WHATEVER THE INPUT: true; the input reads as it did. -/
def fnExactGoodTakingSpec : ChangeSpec := { name := "fnExactGoodTaking", fn := fun _ => fun
  | [d] => { results := [.lit (.bool true)], args := [d] }
  | _ => none }
def fnExactGoodTakingRow : OpenClaim := { program := "ytocaigffikdlhaa", sum := "c2113bb751dbfc405f73c44eb6325b7c368df7c721fe0bf820b3f76ca868d8f8", func := "loop.example/g00224/laws.FnExactGoodTaking", spec := "fnExactGoodTaking", apart := false }
def FnExactGoodTakingSaid : Prop := fnExactGoodTakingRow.holds Try.pinned (OpenSpec.ofChange fnExactGoodTakingSpec)

/-- ITS FALSE NEIGHBOUR: 'it returns false'. Refute it at one input. -/
def fnExactGoodTakingWrong : ChangeSpec := { name := "fnExactGoodTaking", fn := fun _ => fun
  | [d] => { results := [.lit (.bool false)], args := [d] }
  | _ => none }
def FnExactGoodTakingWrongFalsely : Prop := fnExactGoodTakingRow.holds Try.pinned (OpenSpec.ofChange fnExactGoodTakingWrong)

/-- 'laws.FnExactTakeChunk': WHATEVER THE INPUT: true; the input reads as it did. -/
def fnExactTakeChunkSpec : ChangeSpec := { name := "fnExactTakeChunk", fn := fun _ => fun
  | [d1, d2] => { results := [.lit (.bool true)], args := [d1, d2] }
  | _ => none }
def fnExactTakeChunkRow : OpenClaim := { program := "ytocaigffikdlhaa", sum := "c2113bb751dbfc405f73c44eb6325b7c368df7c721fe0bf820b3f76ca868d8f8", func := "loop.example/g00224/laws.FnExactTakeChunk", spec := "fnExactTakeChunk", inPlace := ["slices.overlaps[loop.example/g00224/impl.Chunk]"], unfollowed := true, recurses := true, apart := false }
def FnExactTakeChunkSaid : Prop := fnExactTakeChunkRow.holds Try.pinned (OpenSpec.ofChange fnExactTakeChunkSpec)

/-- ITS FALSE NEIGHBOUR: 'it returns false'. Refute it at one input. -/
def fnExactTakeChunkWrong : ChangeSpec := { name := "fnExactTakeChunk", fn := fun _ => fun
  | [d1, d2] => { results := [.lit (.bool false)], args := [d1, d2] }
  | _ => none }
def FnExactTakeChunkWrongFalsely : Prop := fnExactTakeChunkRow.holds Try.pinned (OpenSpec.ofChange fnExactTakeChunkWrong)

/-- 'laws.FnExactMissingIn': WHATEVER THE INPUT: true; the input reads as it did. -/
def fnExactMissingInSpec : ChangeSpec := { name := "fnExactMissingIn", fn := fun _ => fun
  | [d] => { results := [.lit (.bool true)], args := [d] }
  | _ => none }
def fnExactMissingInRow : OpenClaim := { program := "ytocaigffikdlhaa", sum := "c2113bb751dbfc405f73c44eb6325b7c368df7c721fe0bf820b3f76ca868d8f8", func := "loop.example/g00224/laws.FnExactMissingIn", spec := "fnExactMissingIn", unfollowed := true, recurses := true, apart := false }
def FnExactMissingInSaid : Prop := fnExactMissingInRow.holds Try.pinned (OpenSpec.ofChange fnExactMissingInSpec)

/-- ITS FALSE NEIGHBOUR: 'it returns false'. Refute it at one input. -/
def fnExactMissingInWrong : ChangeSpec := { name := "fnExactMissingIn", fn := fun _ => fun
  | [d] => { results := [.lit (.bool false)], args := [d] }
  | _ => none }
def FnExactMissingInWrongFalsely : Prop := fnExactMissingInRow.holds Try.pinned (OpenSpec.ofChange fnExactMissingInWrong)

/-- 'laws.FnExactFinishTaking': WHATEVER THE INPUT: true; the input reads as it did. -/
def fnExactFinishTakingSpec : ChangeSpec := { name := "fnExactFinishTaking", fn := fun _ => fun
  | [d] => { results := [.lit (.bool true)], args := [d] }
  | _ => none }
def fnExactFinishTakingRow : OpenClaim := { program := "ytocaigffikdlhaa", sum := "c2113bb751dbfc405f73c44eb6325b7c368df7c721fe0bf820b3f76ca868d8f8", func := "loop.example/g00224/laws.FnExactFinishTaking", spec := "fnExactFinishTaking", unfollowed := true, recurses := true, apart := false }
def FnExactFinishTakingSaid : Prop := fnExactFinishTakingRow.holds Try.pinned (OpenSpec.ofChange fnExactFinishTakingSpec)

/-- ITS FALSE NEIGHBOUR: 'it returns false'. Refute it at one input. -/
def fnExactFinishTakingWrong : ChangeSpec := { name := "fnExactFinishTaking", fn := fun _ => fun
  | [d] => { results := [.lit (.bool false)], args := [d] }
  | _ => none }
def FnExactFinishTakingWrongFalsely : Prop := fnExactFinishTakingRow.holds Try.pinned (OpenSpec.ofChange fnExactFinishTakingWrong)

/-- 'laws.FnExactPlayTaking': WHATEVER THE INPUT: true; the input reads as it did. -/
def fnExactPlayTakingSpec : ChangeSpec := { name := "fnExactPlayTaking", fn := fun _ => fun
  | [d1, d2, d3] => { results := [.lit (.bool true)], args := [d1, d2, d3] }
  | _ => none }
def fnExactPlayTakingRow : OpenClaim := { program := "ytocaigffikdlhaa", sum := "c2113bb751dbfc405f73c44eb6325b7c368df7c721fe0bf820b3f76ca868d8f8", func := "loop.example/g00224/laws.FnExactPlayTaking", spec := "fnExactPlayTaking", inPlace := ["slices.overlaps[loop.example/g00224/impl.Chunk]"], unfollowed := true, recurses := true, apart := false }
def FnExactPlayTakingSaid : Prop := fnExactPlayTakingRow.holds Try.pinned (OpenSpec.ofChange fnExactPlayTakingSpec)

/-- ITS FALSE NEIGHBOUR: 'it returns false'. Refute it at one input. -/
def fnExactPlayTakingWrong : ChangeSpec := { name := "fnExactPlayTaking", fn := fun _ => fun
  | [d1, d2, d3] => { results := [.lit (.bool false)], args := [d1, d2, d3] }
  | _ => none }
def FnExactPlayTakingWrongFalsely : Prop := fnExactPlayTakingRow.holds Try.pinned (OpenSpec.ofChange fnExactPlayTakingWrong)

/- THE SECOND FORM. 'bulk': how many values and letters a reading holds, each counted each time it is reached (what is shared counts as often as it is met; a slice's spare places count too). A statement '..UptoSaid' is the law's where the arguments, and the package variables that the reading takes, are together of bulk at most 1048576: NARROWER than '..Said'. Prove '..Said' where nothing that the law and all that it calls make is longer than what came in: it says more and counts as full. Else prove '..UptoSaid'. A law counts once. -/
mutual
def uptoBulk {H : Type} : DataW H → Nat
  | .lit (.string bytes) => bytes.length + 1
  | .lit _ => 1
  | .nil => 1
  | .ptr d => uptoBulk d + 1
  | .slice elems spare => uptoBulkAll elems + uptoBulkAll spare + 1
  | .agg parts => uptoBulkAll parts + 1
  | .iface _ d => uptoBulk d + 1
  | .map entries => uptoBulkEntries entries + 1
  | .held _ => 1
def uptoBulkAll {H : Type} : List (DataW H) → Nat
  | [] => 0
  | d :: r => uptoBulk d + uptoBulkAll r
def uptoBulkEntries {H : Type} : List (Lit × DataW H) → Nat
  | [] => 0
  | x :: r => uptoBulkEntry x + uptoBulkEntries r
def uptoBulkEntry {H : Type} : Lit × DataW H → Nat
  | (.string bytes, d) => bytes.length + uptoBulk d + 1
  | (_, d) => uptoBulk d + 1
 end
def uptoSmall : (H : Type) → List (DataW H) → Bool := fun _ ds => decide (uptoBulkAll ds ≤ 1048576)
def OpenSpec.upto (s : _root_.Go.ChangeSpec) : _root_.Go.OpenSpec := { _root_.Go.OpenSpec.ofChange s with cond := some uptoSmall }

/-- 'laws.FnSent', WHERE WHAT IT READS IS OF BULK AT MOST 1048576: true; the input reads as it did. -/
def fnSentUptoRow : OpenClaim := { program := "ytocaigffikdlhaa", sum := "c2113bb751dbfc405f73c44eb6325b7c368df7c721fe0bf820b3f76ca868d8f8", func := "loop.example/g00224/laws.FnSent", spec := "fnSent", inPlace := ["slices.overlaps[loop.example/g00224/impl.Chunk]"], unfollowed := true, recurses := true, apart := false, narrowed := true }
def FnSentUptoSaid : Prop := fnSentUptoRow.holds Try.pinned (OpenSpec.upto fnSentSpec)

/-- 'laws.FnTaking', WHERE WHAT IT READS IS OF BULK AT MOST 1048576: true; the input reads as it did. -/
def fnTakingUptoRow : OpenClaim := { program := "ytocaigffikdlhaa", sum := "c2113bb751dbfc405f73c44eb6325b7c368df7c721fe0bf820b3f76ca868d8f8", func := "loop.example/g00224/laws.FnTaking", spec := "fnTaking", inPlace := ["slices.overlaps[loop.example/g00224/impl.Chunk]"], unfollowed := true, recurses := true, apart := false, narrowed := true }
def FnTakingUptoSaid : Prop := fnTakingUptoRow.holds Try.pinned (OpenSpec.upto fnTakingSpec)

/-- 'laws.FnExactWantOf', WHERE WHAT IT READS IS OF BULK AT MOST 1048576: true; the input reads as it did. -/
def fnExactWantOfUptoRow : OpenClaim := { program := "ytocaigffikdlhaa", sum := "c2113bb751dbfc405f73c44eb6325b7c368df7c721fe0bf820b3f76ca868d8f8", func := "loop.example/g00224/laws.FnExactWantOf", spec := "fnExactWantOf", apart := false, narrowed := true }
def FnExactWantOfUptoSaid : Prop := fnExactWantOfUptoRow.holds Try.pinned (OpenSpec.upto fnExactWantOfSpec)

/-- 'laws.FnExactChunksOf', WHERE WHAT IT READS IS OF BULK AT MOST 1048576: true; the input reads as it did. -/
def fnExactChunksOfUptoRow : OpenClaim := { program := "ytocaigffikdlhaa", sum := "c2113bb751dbfc405f73c44eb6325b7c368df7c721fe0bf820b3f76ca868d8f8", func := "loop.example/g00224/laws.FnExactChunksOf", spec := "fnExactChunksOf", apart := false, narrowed := true }
def FnExactChunksOfUptoSaid : Prop := fnExactChunksOfUptoRow.holds Try.pinned (OpenSpec.upto fnExactChunksOfSpec)

/-- 'laws.FnExactChunkSum', WHERE WHAT IT READS IS OF BULK AT MOST 1048576: true; the input reads as it did. -/
def fnExactChunkSumUptoRow : OpenClaim := { program := "ytocaigffikdlhaa", sum := "c2113bb751dbfc405f73c44eb6325b7c368df7c721fe0bf820b3f76ca868d8f8", func := "loop.example/g00224/laws.FnExactChunkSum", spec := "fnExactChunkSum", apart := false, narrowed := true }
def FnExactChunkSumUptoSaid : Prop := fnExactChunkSumUptoRow.holds Try.pinned (OpenSpec.upto fnExactChunkSumSpec)

/-- 'laws.FnExactNewTaking', WHERE WHAT IT READS IS OF BULK AT MOST 1048576: true; the input reads as it did. -/
def fnExactNewTakingUptoRow : OpenClaim := { program := "ytocaigffikdlhaa", sum := "c2113bb751dbfc405f73c44eb6325b7c368df7c721fe0bf820b3f76ca868d8f8", func := "loop.example/g00224/laws.FnExactNewTaking", spec := "fnExactNewTaking", apart := false, narrowed := true }
def FnExactNewTakingUptoSaid : Prop := fnExactNewTakingUptoRow.holds Try.pinned (OpenSpec.upto fnExactNewTakingSpec)

/-- 'laws.FnExactGoodTaking', WHERE WHAT IT READS IS OF BULK AT MOST 1048576: true; the input reads as it did. -/
def fnExactGoodTakingUptoRow : OpenClaim := { program := "ytocaigffikdlhaa", sum := "c2113bb751dbfc405f73c44eb6325b7c368df7c721fe0bf820b3f76ca868d8f8", func := "loop.example/g00224/laws.FnExactGoodTaking", spec := "fnExactGoodTaking", apart := false, narrowed := true }
def FnExactGoodTakingUptoSaid : Prop := fnExactGoodTakingUptoRow.holds Try.pinned (OpenSpec.upto fnExactGoodTakingSpec)

/-- 'laws.FnExactTakeChunk', WHERE WHAT IT READS IS OF BULK AT MOST 1048576: true; the input reads as it did. -/
def fnExactTakeChunkUptoRow : OpenClaim := { program := "ytocaigffikdlhaa", sum := "c2113bb751dbfc405f73c44eb6325b7c368df7c721fe0bf820b3f76ca868d8f8", func := "loop.example/g00224/laws.FnExactTakeChunk", spec := "fnExactTakeChunk", inPlace := ["slices.overlaps[loop.example/g00224/impl.Chunk]"], unfollowed := true, recurses := true, apart := false, narrowed := true }
def FnExactTakeChunkUptoSaid : Prop := fnExactTakeChunkUptoRow.holds Try.pinned (OpenSpec.upto fnExactTakeChunkSpec)

/-- 'laws.FnExactMissingIn', WHERE WHAT IT READS IS OF BULK AT MOST 1048576: true; the input reads as it did. -/
def fnExactMissingInUptoRow : OpenClaim := { program := "ytocaigffikdlhaa", sum := "c2113bb751dbfc405f73c44eb6325b7c368df7c721fe0bf820b3f76ca868d8f8", func := "loop.example/g00224/laws.FnExactMissingIn", spec := "fnExactMissingIn", unfollowed := true, recurses := true, apart := false, narrowed := true }
def FnExactMissingInUptoSaid : Prop := fnExactMissingInUptoRow.holds Try.pinned (OpenSpec.upto fnExactMissingInSpec)

/-- 'laws.FnExactFinishTaking', WHERE WHAT IT READS IS OF BULK AT MOST 1048576: true; the input reads as it did. -/
def fnExactFinishTakingUptoRow : OpenClaim := { program := "ytocaigffikdlhaa", sum := "c2113bb751dbfc405f73c44eb6325b7c368df7c721fe0bf820b3f76ca868d8f8", func := "loop.example/g00224/laws.FnExactFinishTaking", spec := "fnExactFinishTaking", unfollowed := true, recurses := true, apart := false, narrowed := true }
def FnExactFinishTakingUptoSaid : Prop := fnExactFinishTakingUptoRow.holds Try.pinned (OpenSpec.upto fnExactFinishTakingSpec)

/-- 'laws.FnExactPlayTaking', WHERE WHAT IT READS IS OF BULK AT MOST 1048576: true; the input reads as it did. -/
def fnExactPlayTakingUptoRow : OpenClaim := { program := "ytocaigffikdlhaa", sum := "c2113bb751dbfc405f73c44eb6325b7c368df7c721fe0bf820b3f76ca868d8f8", func := "loop.example/g00224/laws.FnExactPlayTaking", spec := "fnExactPlayTaking", inPlace := ["slices.overlaps[loop.example/g00224/impl.Chunk]"], unfollowed := true, recurses := true, apart := false, narrowed := true }
def FnExactPlayTakingUptoSaid : Prop := fnExactPlayTakingUptoRow.holds Try.pinned (OpenSpec.upto fnExactPlayTakingSpec)

end Rows
end Go.Proofs.Ytocaigffikdlhaa
