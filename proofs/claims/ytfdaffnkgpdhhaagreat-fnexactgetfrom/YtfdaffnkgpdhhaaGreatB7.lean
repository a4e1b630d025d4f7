/-
  The parts of a table, and their bytes one behind the other: impl.bytesOf.
-/
import Derived.Test.YtfdaffnkgpdhhaaGreatH7
import Derived.Test.YtfdaffnkgpdhhaaGreatS7
namespace Go.Proofs.YtfdaffnkgpdhhaaGreat
open Go.RowKit
set_option linter.unusedVariables false
set_option maxRecDepth 100000

/-- A part: a block's items and bytes, an index, a filter, where the index begins. -/
inductive Part where
  | blk (v : Value) (l : List It) (s : ByteArray)
  | idx (v : Value) (l : List Pl)
  | flt (n : Int) (s : ByteArray) (m : Int)
  | fin (n : Nat)
def encP : Part → Value
  | .blk v _ s => .iface 104 (.agg #[v, .string s])
  | .idx v _ => .iface 99 v
  | .flt n s m => .iface 105 (.agg #[.int .i64 n, .string s, .int .i64 m])
  | .fin n => .iface 106 (.int .i64 (n : Nat))
def txP : Part → ByteArray
  | .blk _ _ s => s
  | .idx _ l => frameT (tx (catP l l.length))
  | .flt _ s _ => frameT s
  | .fin n => tx (endL n)
def okP (w : World) : Part → Prop
  | .blk v l s => IR w v l ∧ s.size ≤ 1000
  | .idx v l => PR w v l ∧ l.length ≤ 28 ∧ ∀ i, i < l.length → okPl (l.getD i default)
  | .flt _ s _ => s.size ≤ 1000
  | .fin n => n < 4294967296
theorem okP.below {w w' : World} {p : Part} (h : okP w p) (hb : Below w.heap.size w w') : okP w' p := by
  cases p with
  | blk v l s => exact ⟨h.1.below hb, h.2⟩
  | idx v l => exact ⟨h.1.below hb, h.2⟩
  | flt n s m => exact h
  | fin n => exact h
def catT : List Part → Nat → List UInt8
  | _, 0 => []
  | l, i + 1 => catT l i ++ bl (txP (l.getD i (.fin 0)))
theorem frameT_size (s : ByteArray) (h : s.size ≤ 1000) : (frameT s).size ≤ 1013 := by
  unfold frameT
  rw [if_pos h]
  have h1 : (varL s.data.toList.length).length ≤ 9 := varL_len 8 _ (by simp; omega)
  have h2 : s.data.toList.length = s.size := by simp
  show (frameL s.data.toList).toArray.size ≤ 1013
  simp only [frameL, List.size_toArray, List.length_append, wordL, List.length_cons, List.length_nil]
  omega
theorem txP_size {w : World} {p : Part} (h : okP w p) : (txP p).size ≤ 1013 := by
  cases p with
  | blk v l s => have := h.2; show s.size ≤ 1013; omega
  | idx v l =>
    have := catP_len l h.2.2 _ (Nat.le_refl _)
    have := h.2.1
    exact frameT_size _ (by rw [tx_size]; omega)
  | flt n s m => exact frameT_size _ h
  | fin n => show (tx (endL n)).size ≤ 1013; rw [tx_size, endL_len]; omega
theorem catT_len {w : World} (l : List Part) (h : ∀ i, i < l.length → okP w (l.getD i (.fin 0))) : ∀ i, i ≤ l.length → (catT l i).length ≤ 1013 * i := by
  intro i
  induction i with
  | zero => intro _; simp [catT]
  | succ i ih =>
    intro hi
    have := ih (by omega)
    have := txP_size (h i (by omega))
    simp only [catT, List.length_append, bl_len]; omega
/-- A slice of parts. -/
def QR (w : World) (v : Value) (l : List Part) : Prop :=
  ∃ a cap, v = .slice a l.length cap ∧ (l ≠ [] → ∃ b off, a = some ⟨b, off, none⟩ ∧ b < w.heap.size ∧ ∀ i (h : i < l.length), w.cell? ⟨b, off + i, none⟩ = some (encP l[i]))
theorem QR.below {w w' : World} {v : Value} {l : List Part} (h : QR w v l) (hb : Below w.heap.size w w') : QR w' v l := by
  obtain ⟨a, cap, rfl, hc⟩ := h
  refine ⟨a, cap, rfl, fun hne => ?_⟩
  obtain ⟨b, off, rfl, hlt, hcell⟩ := hc hne
  exact ⟨b, off, rfl, Nat.lt_of_lt_of_le hlt hb.size, fun i hi => (hb.cell (p := ⟨b, _, none⟩) hlt).trans (hcell i hi)⟩
theorem QR_nil (w : World) : QR w (.slice none 0 0) [] := ⟨none, 0, rfl, fun h => absurd rfl h⟩
theorem QR_of_owns {w : World} {base n : Nat} {e : TypeId} {v : Value} {l : List Part} (h : w.ownsRow base e 1 v n (l.map encP)) (hn : n = l.length) : QR w v l := by
  subst hn
  rcases h.2 with ⟨rfl, h0⟩ | ⟨g, cap, cur, rfl, hb, hg, hcap, hm, hs, ht⟩
  · have : l = [] := List.eq_nil_of_length_eq_zero h0
    subst this
    exact QR_nil w
  · refine ⟨some ⟨g, 0, none⟩, cap, rfl, fun hne => ⟨g, 0, rfl, (Array.getElem?_eq_some_iff.1 hg).1, fun i hi => ?_⟩⟩
    rw [Nat.zero_add, h.cellAt i (by omega)]
    simp [hi]

theorem builder_below {T e : TypeId} {B b : Nat} {bs : List Value} {w w' : World} (h : Lib.IsBuilder T e B b bs w) (hb : Below w.heap.size w w') : Lib.IsBuilder T e B b bs w' := by
  have key : ∀ p, Lib.BuilderAt T e B b p bs w → Lib.BuilderAt T e B b p bs w' := by
    rintro p ⟨h1, v, h2, h3, h4⟩
    exact ⟨h1, v, (hb.block b (Array.getElem?_eq_some_iff.1 h2).1).trans h2, owns_below h3 hb, h4⟩
  rcases h with h | h
  · exact .inl (key _ h)
  · exact .inr (key _ h)
theorem cells_cat (a : List UInt8) (s : ByteArray) : Lib.byteCells a ++ Lib.strCells s = Lib.byteCells (a ++ bl s) := by simp [Lib.byteCells, Lib.strCells, bl]
theorem Tryz.method104 (v : Value) (s : ByteArray) (w : World) : (method 190 104 (.agg #[v, .string s]) "loop.example/g00224/impl.text").run Tryz.prog w = .ok (161, .agg #[v, .string s]) w := by kernel_rfl
theorem Tryz.method99 (v : Value) (w : World) : (method 190 99 v "loop.example/g00224/impl.text").run Tryz.prog w = .ok (158, v) w := by kernel_rfl
theorem Tryz.method105 (n m : Int) (s : ByteArray) (w : World) : (method 190 105 (.agg #[.int .i64 n, .string s, .int .i64 m]) "loop.example/g00224/impl.text").run Tryz.prog w = .ok (162, .agg #[.int .i64 n, .string s, .int .i64 m]) w := by kernel_rfl
theorem Tryz.method106 (n : Int) (w : World) : (method 190 106 (.int .i64 n) "loop.example/g00224/impl.text").run Tryz.prog w = .ok (163, .int .i64 n) w := by kernel_rfl

set_option maxHeartbeats 4000000 in
theorem bytesOf_any (v : Value) (l : List Part) (w : World) (hv : QR w v l) (hn : l.length ≤ 100) (ho : ∀ i, i < l.length → okP w (l.getD i (.fin 0))) :
    Calls Tryz.prog 34 #[v] w fun e w' => e = .returned (.string (tx (catT l l.length))) ∧ Below w.heap.size w w' := by
  obtain ⟨a, cap, rfl, hc⟩ := hv
  have hlen := catT_len l ho
  have N0 := builder_new w
  have hb0 := below_alloc w (.cells #[.pointer none, .slice none 0 0] 109)
  go_enter Tryz.func34, Tryz.ntmps34
  go_wp2_with fail
  go_loopw [8] (fun i wr => ∃ k : Nat, k ≤ l.length ∧ i = .int .i64 k ∧ Lib.IsBuilder 109 5 w.heap.size w.heap.size (Lib.byteCells (catT l k)) wr ∧ Below w.heap.size w wr) (fun i _ => l.length - (intOf i).toNat)
  case atStart => exact ⟨0, Nat.zero_le _, rfl, N0, hb0⟩
  case round =>
    obtain ⟨k, hk, rfl, N, hB⟩ := hrel
    clear N0 hb0
    have hzB := hB.size
    by_cases hlt : k < l.length
    · obtain ⟨b, off, rfl, hbl, hcell⟩ := hc (by intro e; simp [e] at hlt)
      have d0 := (hB.cell (p := ⟨b, _, none⟩) hbl).trans (hcell k hlt)
      have hok := (ho k hlt).below hB
      have hsz1 : (catT l k).length ≤ 1013 * k := hlen k hk
      have hsz2 := txP_size hok
      have hg : l.getD k (.fin 0) = l[k] := by rw [List.getD_eq_getElem?_getD, List.getElem?_eq_getElem hlt]; rfl
      have HS : Hid (catT l (k + 1) = catT l k ++ bl (txP l[k])) := by show _ = _; rw [← hg]; rfl
      rw [hg] at hok hsz2
      clear hcell hc hlen hg ho
      have KW : Hid (∀ w2 : World, Lib.IsBuilder 109 5 w.heap.size w.heap.size (Lib.byteCells (catT l k)) w2 → w.heap.size ≤ w2.heap.size → Calls Tryz.prog 70 #[.pointer (some ⟨w.heap.size, 0, none⟩), .string (txP l[k])] w2 fun e w' => (∃ z, e = .returned (.tuple #[z, .nilIface])) ∧ Lib.IsBuilder 109 5 w.heap.size w.heap.size (Lib.byteCells (catT l (k + 1))) w' ∧ Below w.heap.size w2 w') := by
        intro w2 h hz
        refine (writeString_any w.heap.size w.heap.size _ (txP l[k]) w2 h (by simp only [Lib.byteCells, List.length_map]; omega) hz).mono ?_
        rintro e w' ⟨rfl, h1, h2⟩
        refine ⟨⟨_, rfl⟩, ?_, h2⟩
        rw [cells_cat, ← HS.out] at h1
        exact .inr h1
      obtain ⟨p, hp⟩ : ∃ p, p = l[k] := ⟨_, rfl⟩
      rw [← hp] at KW d0 hok
      clear hp HS hsz1 hsz2
      have fin : ∀ w3, Lib.IsBuilder 109 5 w.heap.size w.heap.size (Lib.byteCells (catT l (k + 1))) w3 → Below w.heap.size w w3 → True := fun _ _ _ => trivial
      clear fin
      cases p with
      | blk v' m s =>
        have hm := Tryz.method104 v' s
        have KT := fun w => blockText_any v' s w
        simp only [encP, txP] at d0 KW
        go_wp2_with fail
        refine (KT _).mono ?_
        rintro e w2 ⟨rfl, hb2⟩
        have N2 := builder_below N hb2
        have hB2 := below_then hB hb2
        clear N hB hb2 d0 KT
        go_wp2_with fail
        refine (KW.out _ N2 hB2.size).mono ?_
        rintro e w3 ⟨⟨z, rfl⟩, N3, hb3⟩
        have hB3 := hB2.trans hb3
        clear N2 hB2 hb3 KW
        go_wp2
        go_roundw
        case rel => exact ⟨k + 1, by omega, by go_num, N3, hB3⟩
        case measure => simp [intOf]; omega
      | idx v' m =>
        have hm := Tryz.method99 v'
        have KT := fun w h => indexText_any v' m w h hok.2.1 hok.2.2
        have hPR := hok.1
        simp only [encP, txP] at d0 KW
        go_wp2_with fail
        refine (KT _ hPR).mono ?_
        rintro e w2 ⟨rfl, hb2⟩
        have N2 := builder_below N hb2
        have hB2 := below_then hB hb2
        clear N hB hb2 d0 KT hPR hok
        go_wp2_with fail
        refine (KW.out _ N2 hB2.size).mono ?_
        rintro e w3 ⟨⟨z, rfl⟩, N3, hb3⟩
        have hB3 := hB2.trans hb3
        clear N2 hB2 hb3 KW
        go_wp2
        go_roundw
        case rel => exact ⟨k + 1, by omega, by go_num, N3, hB3⟩
        case measure => simp [intOf]; omega
      | flt n s m =>
        have hm := Tryz.method105 n m s
        have KT := fun w => filterText_any n m s w hok
        simp only [encP, txP] at d0 KW
        go_wp2_with fail
        refine (KT _).mono ?_
        rintro e w2 ⟨rfl, hb2⟩
        have N2 := builder_below N hb2
        have hB2 := below_then hB hb2
        clear N hB hb2 d0 KT
        go_wp2_with fail
        refine (KW.out _ N2 hB2.size).mono ?_
        rintro e w3 ⟨⟨z, rfl⟩, N3, hb3⟩
        have hB3 := hB2.trans hb3
        clear N2 hB2 hb3 KW
        go_wp2
        go_roundw
        case rel => exact ⟨k + 1, by omega, by go_num, N3, hB3⟩
        case measure => simp [intOf]; omega
      | fin n =>
        have hm := Tryz.method106 n
        have KT := fun w => endText_any n w hok
        simp only [encP, txP] at d0 KW
        go_wp2_with fail
        refine (KT _).mono ?_
        rintro e w2 ⟨rfl, hb2⟩
        have N2 := builder_below N hb2
        have hB2 := below_then hB hb2
        clear N hB hb2 d0 KT
        go_wp2_with fail
        refine (KW.out _ N2 hB2.size).mono ?_
        rintro e w3 ⟨⟨z, rfl⟩, N3, hb3⟩
        have hB3 := hB2.trans hb3
        clear N2 hB2 hb3 KW
        go_wp2
        go_roundw
        case rel => exact ⟨k + 1, by omega, by go_num, N3, hB3⟩
        case measure => simp [intOf]; omega
    · obtain rfl : k = l.length := by omega
      clear hc hlen ho
      have KS := fun w1 h => builderString_any w.heap.size w.heap.size (catT l l.length) w1 h
      go_wp2_with fail
      refine (KS _ N hzB).mono ?_
      rintro e w2 ⟨rfl, hb2⟩
      have hB2 := hB.trans hb2
      go_wp2
      go_ret
      exact ⟨rfl, hB2⟩
end Go.Proofs.YtfdaffnkgpdhhaaGreat
