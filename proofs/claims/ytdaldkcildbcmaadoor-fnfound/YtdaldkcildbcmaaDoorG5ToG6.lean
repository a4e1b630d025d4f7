/-
  eqItem, eqTower, eqTowerS, eqSkip of the same.
  Items in a row: rows of four cells; eqItemS.
  impl: links, compare, reaching, mayFollow.
-/
import Derived.Test.YtdaldkcildbcmaaDoorG2ToG4
import Derived.Test.YtdaldkcildbcmaaDoorI2
import Derived.OwnWalk
import Derived.Deep.RegionHeld3
import Derived.Deep.QuietTactic
import Derived.BigQuiet
namespace Go.Proofs.YtdaldkcildbcmaaDoor
open Go.RowKit
set_option linter.unusedVariables false
set_option maxRecDepth 100000
theorem below_undrew {w w' : World} (h : Below w.drew.heap.size w.drew w') : Below w.heap.size w w' := (Below.refl _ _).drew.trans h
/-- An item. -/
structure It where
  k : ByteArray
  n : Int
  d : Int
  v : ByteArray
def It.zero : It := ⟨⟨#[]⟩, 0, 0, ⟨#[]⟩⟩
instance : Inhabited It := ⟨It.zero⟩

def flat4 : List It → List Value
  | [] => []
  | s :: r => .string s.k :: .int .i64 s.n :: .int .i64 s.d :: .string s.v :: flat4 r
theorem flat4_append (l m : List It) : flat4 (l ++ m) = flat4 l ++ flat4 m := by
  induction l with
  | nil => rfl
  | cons x r ih => simp only [List.cons_append, flat4, ih]
/-- The value v is a slice of the items l. -/
def IR (w : World) (v : Value) (l : List It) : Prop :=
  ∃ a cap, v = .slice a l.length cap ∧ (l ≠ [] → ∃ b off, a = some ⟨b, off, none⟩ ∧ b < w.heap.size ∧
    ∀ i (h : i < l.length), w.cell? ⟨b, off + i * 4, none⟩ = some (.string l[i].k) ∧ w.cell? ⟨b, off + i * 4 + 1, none⟩ = some (.int .i64 l[i].n) ∧ w.cell? ⟨b, off + i * 4 + 2, none⟩ = some (.int .i64 l[i].d) ∧ w.cell? ⟨b, off + i * 4 + 3, none⟩ = some (.string l[i].v))
theorem IR.below {w w' : World} {v : Value} {l : List It} (h : IR w v l) (hb : Below w.heap.size w w') : IR w' v l := by
  obtain ⟨a, cap, hv, hc⟩ := h
  refine ⟨a, cap, hv, fun hl => ?_⟩
  obtain ⟨b, off, ha, hbl, hcell⟩ := hc hl
  refine ⟨b, off, ha, Nat.lt_of_lt_of_le hbl hb.size, fun i hi => ?_⟩
  obtain ⟨c0, c1, c2, c3⟩ := hcell i hi
  exact ⟨(hb.cell (p := ⟨b, off + i * 4, none⟩) hbl).trans c0, (hb.cell (p := ⟨b, off + i * 4 + 1, none⟩) hbl).trans c1, (hb.cell (p := ⟨b, off + i * 4 + 2, none⟩) hbl).trans c2, (hb.cell (p := ⟨b, off + i * 4 + 3, none⟩) hbl).trans c3⟩
def part4 (l : List It) (k : Nat) : List It := l.take k ++ List.replicate (l.length - k) It.zero
def tot4 : List It → Nat
  | [] => 0
  | s :: r => s.k.size + s.v.size + tot4 r
theorem Tryd.info28 : (Tryd.prog.info? 28).map (fun i => (i.zero, i.size, i.bytes)) = some (some (.agg #[.string ⟨#[]⟩, .int .i64 0, .int .i64 0, .string ⟨#[]⟩]), 4, 48) := by kernel_rfl

theorem method_links (k v : ByteArray) (n d : Int) (u : Value) (w : World) : (method 158 73 (.agg #[.string k, .int .i64 n, .int .i64 d, .string v, u]) "loop.example/g00224/impl.links").run Tryd.prog w = .ok (127, .agg #[.string k, .int .i64 n, .int .i64 d, .string v, u]) w := by kernel_rfl
theorem links_any (k v : ByteArray) (n d : Int) (u : Value) (w : World) :
    Calls Tryd.prog 127 #[.agg #[.string k, .int .i64 n, .int .i64 d, .string v, u]] w fun e w' => e = .returned u ∧ Below w.heap.size w w' := by
  go_enter Tryd.func127, Tryd.ntmps127
  go_wp2
  go_ret
  exact ⟨rfl, below_alloc _ _⟩
theorem compare_any (k v k' v' : ByteArray) (n d n' d' : Int) (u u' : Value) (w : World) :
    Calls Tryd.prog 126 #[.agg #[.string k, .int .i64 n, .int .i64 d, .string v, u], .agg #[.string k', .int .i64 n', .int .i64 d', .string v', u']] w fun e w' => e = .returned (.int .i64 (cIt k k' n n')) ∧ Below w.heap.size w w' := by
  go_enter Tryd.func126, Tryd.ntmps126
  go_wp2_with fail
  refine (orderOf_any k v k' v' n d n' d' _).mono ?_
  rintro e w1 ⟨rfl, hb1⟩
  have hB := below_then (below2 _ _ _) hb1
  clear hb1
  go_wp2
  go_ret
  exact ⟨rfl, hB⟩
theorem reach_take (ts : List Tw) (lv k : Nat) (h : k < ts.length) : reach (ts.take (k + 1)) lv = reach (ts.take k) lv + if lv < ts[k].next.length then 1 else 0 := by
  unfold reach
  rw [List.take_succ_eq_append_getElem h, List.filter_append, List.length_append]
  by_cases c : lv < ts[k].next.length
  · simp [c]
  · simp [c]

set_option maxHeartbeats 2000000 in
theorem reaching_any (x y : Value) (ts : List Tw) (lv : Nat) (w : World) (hy : TW w y ts) (hn : ts.length ≤ 1048576) (hl : lv ≤ 5) (hf : ∀ i (h : i < ts.length), ts[i].next.length ≤ 1048576) :
    Calls Tryd.prog 88 #[.agg #[x, y], .int .i64 lv] w fun e w' => e = .returned (.int .i64 (reach ts lv)) ∧ Below w.heap.size w w' := by
  obtain ⟨a, cap, rfl, hc⟩ := hy
  go_enter Tryd.func88, Tryd.ntmps88
  go_wp2
  go_loopw [5, 11] (fun t i wr => ∃ k : Nat, k ≤ ts.length ∧ i = .int .i64 k ∧ t = .int .i64 (reach (ts.take k) lv) ∧ Below w.heap.size w wr) (fun _ i _ => ts.length - (intOf i).toNat)
  case atStart => exact ⟨0, Nat.zero_le _, rfl, by simp [reach], below_alloc _ _⟩
  case round =>
    obtain ⟨k, hk, rfl, rfl, hb⟩ := hrel
    by_cases hlt : k < ts.length
    · obtain ⟨b, off, rfl, hbl, hcell⟩ := hc (by intro e; simp [e] at hlt)
      obtain ⟨u, ⟨z0, z1, z2, z3, z4⟩, hu⟩ := hcell k hlt
      have hc0 := (hb.cell (p := ⟨b, off + k * 5, none⟩) hbl).trans z0
      have hc1 := (hb.cell (p := ⟨b, off + k * 5 + 1, none⟩) hbl).trans z1
      have hc2 := (hb.cell (p := ⟨b, off + k * 5 + 2, none⟩) hbl).trans z2
      have hc3 := (hb.cell (p := ⟨b, off + k * 5 + 3, none⟩) hbl).trans z3
      have hc4 := (hb.cell (p := ⟨b, off + k * 5 + 4, none⟩) hbl).trans z4
      have hfk := hf k hlt
      have hr1 : reach (ts.take k) lv ≤ (ts.take k).length := reach_le _ _
      rw [List.length_take] at hr1
      have HR : Hid (reach (ts.take (k + 1)) lv = reach (ts.take k) lv + if lv < ts[k].next.length then 1 else 0) := reach_take ts lv k hlt
      have hz := hb.size
      clear hcell hc z0 z1 z2 z3 z4 hf
      generalize ts[k] = s at *
      obtain ⟨sk, sn, sd, sv, sx⟩ := s
      dsimp only at hc0 hc1 hc2 hc3 hfk hu HR
      obtain ⟨a', cap', hue, _⟩ := hu
      subst hue
      generalize reach (ts.take k) lv = R at *
      have hmt := method_links sk sv sn sd (.slice a' sx.length cap')
      by_cases hle : lv < sx.length
      · rw [if_pos hle] at HR
        have hle' : (lv : Int) < sx.length := by omega
        go_wp2_with fail
        refine (links_any sk sv sn sd (.slice a' sx.length cap') _).mono ?_
        rintro e w1 ⟨rfl, hb1⟩
        have hB1 : Below w.heap.size w w1 := by
          refine below_then ?_ hb1
          exact hb.alloc hz _
        clear hb1 hmt hc0 hc1 hc2 hc3 hc4
        go_wp2
        go_roundw
        case rel => exact ⟨k + 1, by omega, by go_num, by rw [HR.out]; go_num, hB1⟩
        case measure => simp [intOf]; omega
      · rw [if_neg hle] at HR
        have hle' : ¬ (lv : Int) < sx.length := by omega
        go_wp2_with fail
        refine (links_any sk sv sn sd (.slice a' sx.length cap') _).mono ?_
        rintro e w1 ⟨rfl, hb1⟩
        have hB1 : Below w.heap.size w w1 := by
          refine below_then ?_ hb1
          exact hb.alloc hz _
        clear hb1 hmt hc0 hc1 hc2 hc3 hc4
        go_wp2
        go_roundw
        case rel => exact ⟨k + 1, by omega, by go_num, by rw [HR.out]; go_num, hB1⟩
        case measure => simp [intOf]; omega
    · go_wp2
      go_ret
      have : k = ts.length := by omega
      subst this
      rw [List.take_length]
      exact ⟨rfl, hb⟩
end Go.Proofs.YtdaldkcildbcmaaDoor
