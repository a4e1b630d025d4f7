/-
  NARROWER THAN 'FOR EVERY INPUT', by the rows' own cells (each row's printed sentence says how): FnSkip: laid · FnFound: laid · FnExactTowerOf: laid · FnExactGoodSkip: laid · FnExactInsertSkip: laid · FnExactSeekSkip: laid · FnExactListSkip: laid · FnExactFindSkip: laid.
  DERIVED. THE GIVEN ROWS OF THIS SEAT. 8 by the template 'for every input the law returns true; each argument reads behind the call as it read before'; 0 by the template 'total and deterministic' (their statements: YtdaldkcildbcmaaDoorTotals.lean).
  GIVEN WITH THE SEED: the statements are not yours to turn. If you find one false, say at which input.
  Laid BY PROGRAM, IN A SANDBOX (cutbox-rows.mjs): the forced cells as the released guide's own fill.sh prints them over the translation 6875bd35ca4345ba… (all of the seat's roots in one cut). By AI agents, Wed Nov 11 2026. No macro, syntax, notation, axiom, sorry.
-/
import Derived.Test.YtdaldkcildbcmaaDoorChecked
import GoSem.Claim
import GoSem.ClaimJoined
import GoSem.ClaimMapViews
import Derived.JoinedTies
import Derived.KernelRfl
namespace Go.Proofs.YtdaldkcildbcmaaDoor
/- THE CELL 'sum', in the pinned program and in every row, IS THE sha256 OF THE DUMP (.gsa) THAT YtdaldkcildbcmaaDoorProg.lean LOADS. Nothing in Lean hashes anything: it is a label: what it is worth is what the hold of that sum in a sandbox is worth. -/
noncomputable def Tryd.pinned : Pinned := { name := "ytdaldkcildbcmaadoor", sum := "6875bd35ca4345ba285df5b036b855f7632bc090afb0d13c9080c5fa6a3c2d28", checked := Tryd.checked }
namespace Rows
def none {H : Type} : Left H := { results := [], args := [] }

/- WHAT THE LISTED PACKAGE-LEVEL VARIABLES READ AS WHEN THE CALL BEGINS. Each datum BY PROGRAM (the guide's laid-datum.mjs) off the statement by which the dump's own 'gosem.cut.vars' lays the variable. In a bare row this is a premise. The card (YtdaldkcildbcmaaDoorCards.lean) ties it to the program's text. -/
def laid_math_bits_deBruijn32tab {H : Type} : DataW H := .agg [.lit (.int .u8 0), .lit (.int .u8 1), .lit (.int .u8 28), .lit (.int .u8 2), .lit (.int .u8 29), .lit (.int .u8 14), .lit (.int .u8 24), .lit (.int .u8 3), .lit (.int .u8 30), .lit (.int .u8 22), .lit (.int .u8 20), .lit (.int .u8 15), .lit (.int .u8 25), .lit (.int .u8 17), .lit (.int .u8 4), .lit (.int .u8 8), .lit (.int .u8 31), .lit (.int .u8 27), .lit (.int .u8 13), .lit (.int .u8 23), .lit (.int .u8 21), .lit (.int .u8 19), .lit (.int .u8 16), .lit (.int .u8 7), .lit (.int .u8 26), .lit (.int .u8 12), .lit (.int .u8 18), .lit (.int .u8 6), .lit (.int .u8 11), .lit (.int .u8 5), .lit (.int .u8 10), .lit (.int .u8 9)]
def laid_math_bits_deBruijn64tab {H : Type} : DataW H := .agg [.lit (.int .u8 0), .lit (.int .u8 1), .lit (.int .u8 56), .lit (.int .u8 2), .lit (.int .u8 57), .lit (.int .u8 49), .lit (.int .u8 28), .lit (.int .u8 3), .lit (.int .u8 61), .lit (.int .u8 58), .lit (.int .u8 42), .lit (.int .u8 50), .lit (.int .u8 38), .lit (.int .u8 29), .lit (.int .u8 17), .lit (.int .u8 4), .lit (.int .u8 62), .lit (.int .u8 47), .lit (.int .u8 59), .lit (.int .u8 36), .lit (.int .u8 45), .lit (.int .u8 43), .lit (.int .u8 51), .lit (.int .u8 22), .lit (.int .u8 53), .lit (.int .u8 39), .lit (.int .u8 33), .lit (.int .u8 30), .lit (.int .u8 24), .lit (.int .u8 18), .lit (.int .u8 12), .lit (.int .u8 5), .lit (.int .u8 63), .lit (.int .u8 55), .lit (.int .u8 48), .lit (.int .u8 27), .lit (.int .u8 60), .lit (.int .u8 41), .lit (.int .u8 37), .lit (.int .u8 16), .lit (.int .u8 46), .lit (.int .u8 35), .lit (.int .u8 44), .lit (.int .u8 21), .lit (.int .u8 52), .lit (.int .u8 32), .lit (.int .u8 23), .lit (.int .u8 11), .lit (.int .u8 54), .lit (.int .u8 26), .lit (.int .u8 40), .lit (.int .u8 15), .lit (.int .u8 34), .lit (.int .u8 20), .lit (.int .u8 31), .lit (.int .u8 10), .lit (.int .u8 25), .lit (.int .u8 14), .lit (.int .u8 19), .lit (.int .u8 9), .lit (.int .u8 13), .lit (.int .u8 8), .lit (.int .u8 7), .lit (.int .u8 6)]
def laid_internal_strconv_uint64pow10 {H : Type} : DataW H := .agg [.lit (.int .u64 1), .lit (.int .u64 10), .lit (.int .u64 100), .lit (.int .u64 1000), .lit (.int .u64 10000), .lit (.int .u64 100000), .lit (.int .u64 1000000), .lit (.int .u64 10000000), .lit (.int .u64 100000000), .lit (.int .u64 1000000000), .lit (.int .u64 10000000000), .lit (.int .u64 100000000000), .lit (.int .u64 1000000000000), .lit (.int .u64 10000000000000), .lit (.int .u64 100000000000000), .lit (.int .u64 1000000000000000), .lit (.int .u64 10000000000000000), .lit (.int .u64 100000000000000000), .lit (.int .u64 1000000000000000000), .lit (.int .u64 10000000000000000000)]

/-- 'laws.FnSkip': WHATEVER THE INPUT: true; the input reads as it did. -/
def fnSkipSpec : ChangeSpec := { name := "fnSkip", fn := fun _ => fun
  | [d] => { results := [.lit (.bool true)], args := [d] }
  | _ => none }
def fnSkipRow : OpenClaim := { program := "ytdaldkcildbcmaadoor", sum := "6875bd35ca4345ba285df5b036b855f7632bc090afb0d13c9080c5fa6a3c2d28", func := "loop.example/g00224/laws.FnSkip", spec := "fnSkip", unfollowed := true, recurses := true, named := ["internal/strconv.uint64pow10", "math/bits.deBruijn32tab", "math/bits.deBruijn64tab"], apart := false, laid := [("math/bits.deBruijn32tab", laid_math_bits_deBruijn32tab), ("math/bits.deBruijn64tab", laid_math_bits_deBruijn64tab), ("internal/strconv.uint64pow10", laid_internal_strconv_uint64pow10)] }
def FnSkipSaid : Prop := fnSkipRow.holds Tryd.pinned (OpenSpec.ofChange fnSkipSpec)

/-- ITS FALSE NEIGHBOUR: 'it returns false'. Refute it at one input. -/
def fnSkipWrong : ChangeSpec := { name := "fnSkip", fn := fun _ => fun
  | [d] => { results := [.lit (.bool false)], args := [d] }
  | _ => none }
def FnSkipWrongFalsely : Prop := fnSkipRow.holds Tryd.pinned (OpenSpec.ofChange fnSkipWrong)

/-- 'laws.FnFound': WHATEVER THE INPUT: true; the input reads as it did. -/
def fnFoundSpec : ChangeSpec := { name := "fnFound", fn := fun _ => fun
  | [d] => { results := [.lit (.bool true)], args := [d] }
  | _ => none }
def fnFoundRow : OpenClaim := { program := "ytdaldkcildbcmaadoor", sum := "6875bd35ca4345ba285df5b036b855f7632bc090afb0d13c9080c5fa6a3c2d28", func := "loop.example/g00224/laws.FnFound", spec := "fnFound", unfollowed := true, recurses := true, named := ["internal/strconv.uint64pow10", "math/bits.deBruijn32tab", "math/bits.deBruijn64tab"], apart := false, laid := [("math/bits.deBruijn32tab", laid_math_bits_deBruijn32tab), ("math/bits.deBruijn64tab", laid_math_bits_deBruijn64tab), ("internal/strconv.uint64pow10", laid_internal_strconv_uint64pow10)] }
def FnFoundSaid : Prop := fnFoundRow.holds Tryd.pinned (OpenSpec.ofChange fnFoundSpec)

/-- ITS FALSE NEIGHBOUR: 'it returns false'. Refute it at one input. -/
def fnFoundWrong : ChangeSpec := { name := "fnFound", fn := fun _ => fun
  | [d] => { results := [.lit (.bool false)], args := [d] }
  | _ => none }
def FnFoundWrongFalsely : Prop := fnFoundRow.holds Tryd.pinned (OpenSpec.ofChange fnFoundWrong)

/-- 'laws.FnExactTowerOf': WHATEVER THE INPUT: true; the input reads as it did. -/
def fnExactTowerOfSpec : ChangeSpec := { name := "fnExactTowerOf", fn := fun _ => fun
  | [d1, d2] => { results := [.lit (.bool true)], args := [d1, d2] }
  | _ => none }
def fnExactTowerOfRow : OpenClaim := { program := "ytdaldkcildbcmaadoor", sum := "6875bd35ca4345ba285df5b036b855f7632bc090afb0d13c9080c5fa6a3c2d28", func := "loop.example/g00224/laws.FnExactTowerOf", spec := "fnExactTowerOf", recurses := true, named := ["internal/strconv.uint64pow10", "math/bits.deBruijn32tab", "math/bits.deBruijn64tab"], apart := false, laid := [("math/bits.deBruijn32tab", laid_math_bits_deBruijn32tab), ("math/bits.deBruijn64tab", laid_math_bits_deBruijn64tab), ("internal/strconv.uint64pow10", laid_internal_strconv_uint64pow10)] }
def FnExactTowerOfSaid : Prop := fnExactTowerOfRow.holds Tryd.pinned (OpenSpec.ofChange fnExactTowerOfSpec)

/-- ITS FALSE NEIGHBOUR: 'it returns false'. Refute it at one input. -/
def fnExactTowerOfWrong : ChangeSpec := { name := "fnExactTowerOf", fn := fun _ => fun
  | [d1, d2] => { results := [.lit (.bool false)], args := [d1, d2] }
  | _ => none }
def FnExactTowerOfWrongFalsely : Prop := fnExactTowerOfRow.holds Tryd.pinned (OpenSpec.ofChange fnExactTowerOfWrong)

/-- 'laws.FnExactGoodSkip': WHATEVER THE INPUT: true; the input reads as it did. -/
def fnExactGoodSkipSpec : ChangeSpec := { name := "fnExactGoodSkip", fn := fun _ => fun
  | [d] => { results := [.lit (.bool true)], args := [d] }
  | _ => none }
def fnExactGoodSkipRow : OpenClaim := { program := "ytdaldkcildbcmaadoor", sum := "6875bd35ca4345ba285df5b036b855f7632bc090afb0d13c9080c5fa6a3c2d28", func := "loop.example/g00224/laws.FnExactGoodSkip", spec := "fnExactGoodSkip", unfollowed := true, recurses := true, named := ["internal/strconv.uint64pow10", "math/bits.deBruijn32tab", "math/bits.deBruijn64tab"], apart := false, laid := [("math/bits.deBruijn32tab", laid_math_bits_deBruijn32tab), ("math/bits.deBruijn64tab", laid_math_bits_deBruijn64tab), ("internal/strconv.uint64pow10", laid_internal_strconv_uint64pow10)] }
def FnExactGoodSkipSaid : Prop := fnExactGoodSkipRow.holds Tryd.pinned (OpenSpec.ofChange fnExactGoodSkipSpec)

/-- ITS FALSE NEIGHBOUR: 'it returns false'. Refute it at one input. -/
def fnExactGoodSkipWrong : ChangeSpec := { name := "fnExactGoodSkip", fn := fun _ => fun
  | [d] => { results := [.lit (.bool false)], args := [d] }
  | _ => none }
def FnExactGoodSkipWrongFalsely : Prop := fnExactGoodSkipRow.holds Tryd.pinned (OpenSpec.ofChange fnExactGoodSkipWrong)

/-- 'laws.FnExactInsertSkip': WHATEVER THE INPUT: true; the input reads as it did. -/
def fnExactInsertSkipSpec : ChangeSpec := { name := "fnExactInsertSkip", fn := fun _ => fun
  | [d1, d2] => { results := [.lit (.bool true)], args := [d1, d2] }
  | _ => none }
def fnExactInsertSkipRow : OpenClaim := { program := "ytdaldkcildbcmaadoor", sum := "6875bd35ca4345ba285df5b036b855f7632bc090afb0d13c9080c5fa6a3c2d28", func := "loop.example/g00224/laws.FnExactInsertSkip", spec := "fnExactInsertSkip", unfollowed := true, recurses := true, named := ["internal/strconv.uint64pow10", "math/bits.deBruijn32tab", "math/bits.deBruijn64tab"], apart := false, laid := [("math/bits.deBruijn32tab", laid_math_bits_deBruijn32tab), ("math/bits.deBruijn64tab", laid_math_bits_deBruijn64tab), ("internal/strconv.uint64pow10", laid_internal_strconv_uint64pow10)] }
def FnExactInsertSkipSaid : Prop := fnExactInsertSkipRow.holds Tryd.pinned (OpenSpec.ofChange fnExactInsertSkipSpec)

/-- ITS FALSE NEIGHBOUR: 'it returns false'. Refute it at one input. -/
def fnExactInsertSkipWrong : ChangeSpec := { name := "fnExactInsertSkip", fn := fun _ => fun
  | [d1, d2] => { results := [.lit (.bool false)], args := [d1, d2] }
  | _ => none }
def FnExactInsertSkipWrongFalsely : Prop := fnExactInsertSkipRow.holds Tryd.pinned (OpenSpec.ofChange fnExactInsertSkipWrong)

/-- 'laws.FnExactSeekSkip': WHATEVER THE INPUT: true; the input reads as it did. -/
def fnExactSeekSkipSpec : ChangeSpec := { name := "fnExactSeekSkip", fn := fun _ => fun
  | [d1, d2, d3] => { results := [.lit (.bool true)], args := [d1, d2, d3] }
  | _ => none }
def fnExactSeekSkipRow : OpenClaim := { program := "ytdaldkcildbcmaadoor", sum := "6875bd35ca4345ba285df5b036b855f7632bc090afb0d13c9080c5fa6a3c2d28", func := "loop.example/g00224/laws.FnExactSeekSkip", spec := "fnExactSeekSkip", unfollowed := true, recurses := true, named := ["internal/strconv.uint64pow10", "math/bits.deBruijn32tab", "math/bits.deBruijn64tab"], apart := false, laid := [("math/bits.deBruijn32tab", laid_math_bits_deBruijn32tab), ("math/bits.deBruijn64tab", laid_math_bits_deBruijn64tab), ("internal/strconv.uint64pow10", laid_internal_strconv_uint64pow10)] }
def FnExactSeekSkipSaid : Prop := fnExactSeekSkipRow.holds Tryd.pinned (OpenSpec.ofChange fnExactSeekSkipSpec)

/-- ITS FALSE NEIGHBOUR: 'it returns false'. Refute it at one input. -/
def fnExactSeekSkipWrong : ChangeSpec := { name := "fnExactSeekSkip", fn := fun _ => fun
  | [d1, d2, d3] => { results := [.lit (.bool false)], args := [d1, d2, d3] }
  | _ => none }
def FnExactSeekSkipWrongFalsely : Prop := fnExactSeekSkipRow.holds Tryd.pinned (OpenSpec.ofChange fnExactSeekSkipWrong)

/-- 'laws.FnExactListSkip': WHATEVER THE INPUT: true; the input reads as it did. -/
def fnExactListSkipSpec : ChangeSpec := { name := "fnExactListSkip", fn := fun _ => fun
  | [d1, d2] => { results := [.lit (.bool true)], args := [d1, d2] }
  | _ => none }
def fnExactListSkipRow : OpenClaim := { program := "ytdaldkcildbcmaadoor", sum := "6875bd35ca4345ba285df5b036b855f7632bc090afb0d13c9080c5fa6a3c2d28", func := "loop.example/g00224/laws.FnExactListSkip", spec := "fnExactListSkip", unfollowed := true, recurses := true, named := ["internal/strconv.uint64pow10", "math/bits.deBruijn32tab", "math/bits.deBruijn64tab"], apart := false, laid := [("math/bits.deBruijn32tab", laid_math_bits_deBruijn32tab), ("math/bits.deBruijn64tab", laid_math_bits_deBruijn64tab), ("internal/strconv.uint64pow10", laid_internal_strconv_uint64pow10)] }
def FnExactListSkipSaid : Prop := fnExactListSkipRow.holds Tryd.pinned (OpenSpec.ofChange fnExactListSkipSpec)

/-- ITS FALSE NEIGHBOUR: 'it returns false'. Refute it at one input. -/
def fnExactListSkipWrong : ChangeSpec := { name := "fnExactListSkip", fn := fun _ => fun
  | [d1, d2] => { results := [.lit (.bool false)], args := [d1, d2] }
  | _ => none }
def FnExactListSkipWrongFalsely : Prop := fnExactListSkipRow.holds Tryd.pinned (OpenSpec.ofChange fnExactListSkipWrong)

/-- 'laws.FnExactFindSkip': WHATEVER THE INPUT: true; the input reads as it did. -/
def fnExactFindSkipSpec : ChangeSpec := { name := "fnExactFindSkip", fn := fun _ => fun
  | [d1, d2, d3] => { results := [.lit (.bool true)], args := [d1, d2, d3] }
  | _ => none }
def fnExactFindSkipRow : OpenClaim := { program := "ytdaldkcildbcmaadoor", sum := "6875bd35ca4345ba285df5b036b855f7632bc090afb0d13c9080c5fa6a3c2d28", func := "loop.example/g00224/laws.FnExactFindSkip", spec := "fnExactFindSkip", unfollowed := true, recurses := true, named := ["internal/strconv.uint64pow10", "math/bits.deBruijn32tab", "math/bits.deBruijn64tab"], apart := false, laid := [("math/bits.deBruijn32tab", laid_math_bits_deBruijn32tab), ("math/bits.deBruijn64tab", laid_math_bits_deBruijn64tab), ("internal/strconv.uint64pow10", laid_internal_strconv_uint64pow10)] }
def FnExactFindSkipSaid : Prop := fnExactFindSkipRow.holds Tryd.pinned (OpenSpec.ofChange fnExactFindSkipSpec)

/-- ITS FALSE NEIGHBOUR: 'it returns false'. Refute it at one input. -/
def fnExactFindSkipWrong : ChangeSpec := { name := "fnExactFindSkip", fn := fun _ => fun
  | [d1, d2, d3] => { results := [.lit (.bool false)], args := [d1, d2, d3] }
  | _ => none }
def FnExactFindSkipWrongFalsely : Prop := fnExactFindSkipRow.holds Tryd.pinned (OpenSpec.ofChange fnExactFindSkipWrong)

/- THE SECOND FORM. 'bulk': how many values and letters a reading holds, each counted each time it is reached (what is shared counts as often as it is met; a slice's spare places count too). A statement '..UptoSaid' is the law's where the arguments, and the package variables that the reading takes, are together of bulk at most 1048576: NARROWER than '..Said'. Prove '..Said' where nothing that the law and all that it calls make is longer than what came in: it says more and counts as full. Else prove '..UptoSaid'. A law counts once. -/
mutual
def uptoBulk {H : Type} : DataW H → Nat
  | .lit (.string bytes) => bytes.length + 1
  | .lit _ => 1
  | .nil => 1
  | .ptr d => uptoBulk d + 1
  | .slice elems spare => uptoBulkAll elems + uptoBulkAll spare + 1
  | .agg parts => uptoBulkAll parts + 1
  | .iface _ d => uptoBulk d + 1
  | .map entries => uptoBulkEntries entries + 1
  | .held _ => 1
def uptoBulkAll {H : Type} : List (DataW H) → Nat
  | [] => 0
  | d :: r => uptoBulk d + uptoBulkAll r
def uptoBulkEntries {H : Type} : List (Lit × DataW H) → Nat
  | [] => 0
  | x :: r => uptoBulkEntry x + uptoBulkEntries r
def uptoBulkEntry {H : Type} : Lit × DataW H → Nat
  | (.string bytes, d) => bytes.length + uptoBulk d + 1
  | (_, d) => uptoBulk d + 1
 end
def uptoSmall : (H : Type) → List (DataW H) → Bool := fun _ ds => decide (uptoBulkAll ds ≤ 1048576)
def OpenSpec.upto (s : _root_.Go.ChangeSpec) : _root_.Go.OpenSpec := { _root_.Go.OpenSpec.ofChange s with cond := some uptoSmall }

/-- 'laws.FnSkip', WHERE WHAT IT READS IS OF BULK AT MOST 1048576: true; the input reads as it did. -/
def fnSkipUptoRow : OpenClaim := { program := "ytdaldkcildbcmaadoor", sum := "6875bd35ca4345ba285df5b036b855f7632bc090afb0d13c9080c5fa6a3c2d28", func := "loop.example/g00224/laws.FnSkip", spec := "fnSkip", unfollowed := true, recurses := true, named := ["internal/strconv.uint64pow10", "math/bits.deBruijn32tab", "math/bits.deBruijn64tab"], apart := false, laid := [("math/bits.deBruijn32tab", laid_math_bits_deBruijn32tab), ("math/bits.deBruijn64tab", laid_math_bits_deBruijn64tab), ("internal/strconv.uint64pow10", laid_internal_strconv_uint64pow10)], narrowed := true }
def FnSkipUptoSaid : Prop := fnSkipUptoRow.holds Tryd.pinned (OpenSpec.upto fnSkipSpec)

/-- 'laws.FnFound', WHERE WHAT IT READS IS OF BULK AT MOST 1048576: true; the input reads as it did. -/
def fnFoundUptoRow : OpenClaim := { program := "ytdaldkcildbcmaadoor", sum := "6875bd35ca4345ba285df5b036b855f7632bc090afb0d13c9080c5fa6a3c2d28", func := "loop.example/g00224/laws.FnFound", spec := "fnFound", unfollowed := true, recurses := true, named := ["internal/strconv.uint64pow10", "math/bits.deBruijn32tab", "math/bits.deBruijn64tab"], apart := false, laid := [("math/bits.deBruijn32tab", laid_math_bits_deBruijn32tab), ("math/bits.deBruijn64tab", laid_math_bits_deBruijn64tab), ("internal/strconv.uint64pow10", laid_internal_strconv_uint64pow10)], narrowed := true }
def FnFoundUptoSaid : Prop := fnFoundUptoRow.holds Tryd.pinned (OpenSpec.upto fnFoundSpec)

/-- 'laws.FnExactTowerOf', WHERE WHAT IT READS IS OF BULK AT MOST 1048576: true; the input reads as it did. -/
def fnExactTowerOfUptoRow : OpenClaim := { program := "ytdaldkcildbcmaadoor", sum := "6875bd35ca4345ba285df5b036b855f7632bc090afb0d13c9080c5fa6a3c2d28", func := "loop.example/g00224/laws.FnExactTowerOf", spec := "fnExactTowerOf", recurses := true, named := ["internal/strconv.uint64pow10", "math/bits.deBruijn32tab", "math/bits.deBruijn64tab"], apart := false, laid := [("math/bits.deBruijn32tab", laid_math_bits_deBruijn32tab), ("math/bits.deBruijn64tab", laid_math_bits_deBruijn64tab), ("internal/strconv.uint64pow10", laid_internal_strconv_uint64pow10)], narrowed := true }
def FnExactTowerOfUptoSaid : Prop := fnExactTowerOfUptoRow.holds Tryd.pinned (OpenSpec.upto fnExactTowerOfSpec)

/-- 'laws.FnExactGoodSkip', WHERE WHAT IT READS IS OF BULK AT MOST 1048576: true; the input reads as it did. -/
def fnExactGoodSkipUptoRow : OpenClaim := { program := "ytdaldkcildbcmaadoor", sum := "6875bd35ca4345ba285df5b036b855f7632bc090afb0d13c9080c5fa6a3c2d28", func := "loop.example/g00224/laws.FnExactGoodSkip", spec := "fnExactGoodSkip", unfollowed := true, recurses := true, named := ["internal/strconv.uint64pow10", "math/bits.deBruijn32tab", "math/bits.deBruijn64tab"], apart := false, laid := [("math/bits.deBruijn32tab", laid_math_bits_deBruijn32tab), ("math/bits.deBruijn64tab", laid_math_bits_deBruijn64tab), ("internal/strconv.uint64pow10", laid_internal_strconv_uint64pow10)], narrowed := true }
def FnExactGoodSkipUptoSaid : Prop := fnExactGoodSkipUptoRow.holds Tryd.pinned (OpenSpec.upto fnExactGoodSkipSpec)

/-- 'laws.FnExactInsertSkip', WHERE WHAT IT READS IS OF BULK AT MOST 1048576: true; the input reads as it did. -/
def fnExactInsertSkipUptoRow : OpenClaim := { program := "ytdaldkcildbcmaadoor", sum := "6875bd35ca4345ba285df5b036b855f7632bc090afb0d13c9080c5fa6a3c2d28", func := "loop.example/g00224/laws.FnExactInsertSkip", spec := "fnExactInsertSkip", unfollowed := true, recurses := true, named := ["internal/strconv.uint64pow10", "math/bits.deBruijn32tab", "math/bits.deBruijn64tab"], apart := false, laid := [("math/bits.deBruijn32tab", laid_math_bits_deBruijn32tab), ("math/bits.deBruijn64tab", laid_math_bits_deBruijn64tab), ("internal/strconv.uint64pow10", laid_internal_strconv_uint64pow10)], narrowed := true }
def FnExactInsertSkipUptoSaid : Prop := fnExactInsertSkipUptoRow.holds Tryd.pinned (OpenSpec.upto fnExactInsertSkipSpec)

/-- 'laws.FnExactSeekSkip', WHERE WHAT IT READS IS OF BULK AT MOST 1048576: true; the input reads as it did. -/
def fnExactSeekSkipUptoRow : OpenClaim := { program := "ytdaldkcildbcmaadoor", sum := "6875bd35ca4345ba285df5b036b855f7632bc090afb0d13c9080c5fa6a3c2d28", func := "loop.example/g00224/laws.FnExactSeekSkip", spec := "fnExactSeekSkip", unfollowed := true, recurses := true, named := ["internal/strconv.uint64pow10", "math/bits.deBruijn32tab", "math/bits.deBruijn64tab"], apart := false, laid := [("math/bits.deBruijn32tab", laid_math_bits_deBruijn32tab), ("math/bits.deBruijn64tab", laid_math_bits_deBruijn64tab), ("internal/strconv.uint64pow10", laid_internal_strconv_uint64pow10)], narrowed := true }
def FnExactSeekSkipUptoSaid : Prop := fnExactSeekSkipUptoRow.holds Tryd.pinned (OpenSpec.upto fnExactSeekSkipSpec)

/-- 'laws.FnExactListSkip', WHERE WHAT IT READS IS OF BULK AT MOST 1048576: true; the input reads as it did. -/
def fnExactListSkipUptoRow : OpenClaim := { program := "ytdaldkcildbcmaadoor", sum := "6875bd35ca4345ba285df5b036b855f7632bc090afb0d13c9080c5fa6a3c2d28", func := "loop.example/g00224/laws.FnExactListSkip", spec := "fnExactListSkip", unfollowed := true, recurses := true, named := ["internal/strconv.uint64pow10", "math/bits.deBruijn32tab", "math/bits.deBruijn64tab"], apart := false, laid := [("math/bits.deBruijn32tab", laid_math_bits_deBruijn32tab), ("math/bits.deBruijn64tab", laid_math_bits_deBruijn64tab), ("internal/strconv.uint64pow10", laid_internal_strconv_uint64pow10)], narrowed := true }
def FnExactListSkipUptoSaid : Prop := fnExactListSkipUptoRow.holds Tryd.pinned (OpenSpec.upto fnExactListSkipSpec)

/-- 'laws.FnExactFindSkip', WHERE WHAT IT READS IS OF BULK AT MOST 1048576: true; the input reads as it did. -/
def fnExactFindSkipUptoRow : OpenClaim := { program := "ytdaldkcildbcmaadoor", sum := "6875bd35ca4345ba285df5b036b855f7632bc090afb0d13c9080c5fa6a3c2d28", func := "loop.example/g00224/laws.FnExactFindSkip", spec := "fnExactFindSkip", unfollowed := true, recurses := true, named := ["internal/strconv.uint64pow10", "math/bits.deBruijn32tab", "math/bits.deBruijn64tab"], apart := false, laid := [("math/bits.deBruijn32tab", laid_math_bits_deBruijn32tab), ("math/bits.deBruijn64tab", laid_math_bits_deBruijn64tab), ("internal/strconv.uint64pow10", laid_internal_strconv_uint64pow10)], narrowed := true }
def FnExactFindSkipUptoSaid : Prop := fnExactFindSkipUptoRow.holds Tryd.pinned (OpenSpec.upto fnExactFindSkipSpec)

end Rows
end Go.Proofs.YtdaldkcildbcmaaDoor
