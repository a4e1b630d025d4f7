/-
  impl: links, compare, reaching, mayFollow.
-/
import Derived.Test.YtdaldkcildbcmaaDoorG5
namespace Go.Proofs.YtdaldkcildbcmaaDoor
open Go.RowKit
set_option linter.unusedVariables false
set_option maxRecDepth 100000

theorem method_links (k v : ByteArray) (n d : Int) (u : Value) (w : World) : (method 158 73 (.agg #[.string k, .int .i64 n, .int .i64 d, .string v, u]) "loop.example/g00224/impl.links").run Tryd.prog w = .ok (127, .agg #[.string k, .int .i64 n, .int .i64 d, .string v, u]) w := by kernel_rfl
theorem method_compare (k v : ByteArray) (n d : Int) (u : Value) (w : World) : (method 158 73 (.agg #[.string k, .int .i64 n, .int .i64 d, .string v, u]) "loop.example/g00224/impl.compare").run Tryd.prog w = .ok (126, .agg #[.string k, .int .i64 n, .int .i64 d, .string v, u]) w := by kernel_rfl
theorem links_any (k v : ByteArray) (n d : Int) (u : Value) (w : World) :
    Calls Tryd.prog 127 #[.agg #[.string k, .int .i64 n, .int .i64 d, .string v, u]] w fun e w' => e = .returned u ∧ Below w.heap.size w w' := by
  go_enter Tryd.func127, Tryd.ntmps127
  go_wp2
  go_ret
  exact ⟨rfl, below_alloc _ _⟩
theorem compare_any (k v k' v' : ByteArray) (n d n' d' : Int) (u u' : Value) (w : World) :
    Calls Tryd.prog 126 #[.agg #[.string k, .int .i64 n, .int .i64 d, .string v, u], .agg #[.string k', .int .i64 n', .int .i64 d', .string v', u']] w fun e w' => e = .returned (.int .i64 (cIt k k' n n')) ∧ Below w.heap.size w w' := by
  go_enter Tryd.func126, Tryd.ntmps126
  go_wp2_with fail
  refine (orderOf_any k v k' v' n d n' d' _).mono ?_
  rintro e w1 ⟨rfl, hb1⟩
  have hB := below_then (below2 _ _ _) hb1
  clear hb1
  go_wp2
  go_ret
  exact ⟨rfl, hB⟩
theorem reach_take (ts : List Tw) (lv k : Nat) (h : k < ts.length) : reach (ts.take (k + 1)) lv = reach (ts.take k) lv + if lv < ts[k].next.length then 1 else 0 := by
  unfold reach
  rw [List.take_succ_eq_append_getElem h, List.filter_append, List.length_append]
  by_cases c : lv < ts[k].next.length
  · simp [c]
  · simp [c]

set_option maxHeartbeats 2000000 in
theorem reaching_any (x y : Value) (ts : List Tw) (lv : Nat) (w : World) (hy : TW w y ts) (hn : ts.length ≤ 1048576) (hl : lv ≤ 5) (hf : ∀ i (h : i < ts.length), ts[i].next.length ≤ 1048576) :
    Calls Tryd.prog 88 #[.agg #[x, y], .int .i64 lv] w fun e w' => e = .returned (.int .i64 (reach ts lv)) ∧ Below w.heap.size w w' := by
  obtain ⟨a, cap, rfl, hc⟩ := hy
  go_enter Tryd.func88, Tryd.ntmps88
  go_wp2
  go_loopw [5, 11] (fun t i wr => ∃ k : Nat, k ≤ ts.length ∧ i = .int .i64 k ∧ t = .int .i64 (reach (ts.take k) lv) ∧ Below w.heap.size w wr) (fun _ i _ => ts.length - (intOf i).toNat)
  case atStart => exact ⟨0, Nat.zero_le _, rfl, by simp [reach], below_alloc _ _⟩
  case round =>
    obtain ⟨k, hk, rfl, rfl, hb⟩ := hrel
    by_cases hlt : k < ts.length
    · obtain ⟨b, off, rfl, hbl, hcell⟩ := hc (by intro e; simp [e] at hlt)
      obtain ⟨u, ⟨z0, z1, z2, z3, z4⟩, hu⟩ := hcell k hlt
      have hc0 := (hb.cell (p := ⟨b, off + k * 5, none⟩) hbl).trans z0
      have hc1 := (hb.cell (p := ⟨b, off + k * 5 + 1, none⟩) hbl).trans z1
      have hc2 := (hb.cell (p := ⟨b, off + k * 5 + 2, none⟩) hbl).trans z2
      have hc3 := (hb.cell (p := ⟨b, off + k * 5 + 3, none⟩) hbl).trans z3
      have hc4 := (hb.cell (p := ⟨b, off + k * 5 + 4, none⟩) hbl).trans z4
      have hfk := hf k hlt
      have hr1 : reach (ts.take k) lv ≤ (ts.take k).length := reach_le _ _
      rw [List.length_take] at hr1
      have HR : Hid (reach (ts.take (k + 1)) lv = reach (ts.take k) lv + if lv < ts[k].next.length then 1 else 0) := reach_take ts lv k hlt
      have hz := hb.size
      clear hcell hc z0 z1 z2 z3 z4 hf
      generalize ts[k] = s at *
      obtain ⟨sk, sn, sd, sv, sx⟩ := s
      dsimp only at hc0 hc1 hc2 hc3 hfk hu HR
      obtain ⟨a', cap', hue, _⟩ := hu
      subst hue
      generalize reach (ts.take k) lv = R at *
      have hmt := method_links sk sv sn sd (.slice a' sx.length cap')
      by_cases hle : lv < sx.length
      · rw [if_pos hle] at HR
        have hle' : (lv : Int) < sx.length := by omega
        go_wp2_with fail
        refine (links_any sk sv sn sd (.slice a' sx.length cap') _).mono ?_
        rintro e w1 ⟨rfl, hb1⟩
        have hB1 : Below w.heap.size w w1 := by
          refine below_then ?_ hb1
          exact hb.alloc hz _
        clear hb1 hmt hc0 hc1 hc2 hc3 hc4
        go_wp2
        go_roundw
        case rel => exact ⟨k + 1, by omega, by go_num, by rw [HR.out]; go_num, hB1⟩
        case measure => simp [intOf]; omega
      · rw [if_neg hle] at HR
        have hle' : ¬ (lv : Int) < sx.length := by omega
        go_wp2_with fail
        refine (links_any sk sv sn sd (.slice a' sx.length cap') _).mono ?_
        rintro e w1 ⟨rfl, hb1⟩
        have hB1 : Below w.heap.size w w1 := by
          refine below_then ?_ hb1
          exact hb.alloc hz _
        clear hb1 hmt hc0 hc1 hc2 hc3 hc4
        go_wp2
        go_roundw
        case rel => exact ⟨k + 1, by omega, by go_num, by rw [HR.out]; go_num, hB1⟩
        case measure => simp [intOf]; omega
    · go_wp2
      go_ret
      have : k = ts.length := by omega
      subst this
      rw [List.take_length]
      exact ⟨rfl, hb⟩
end Go.Proofs.YtdaldkcildbcmaaDoor
