/-
  impl: mayFollow behind a tower.
-/
import Derived.Test.YtdaldkcildbcmaaDoorG7
namespace Go.Proofs.YtdaldkcildbcmaaDoor
open Go.RowKit
set_option linter.unusedVariables false
set_option maxRecDepth 100000

theorem method_compare2 (k v : ByteArray) (n d : Int) (u : Value) (w : World) : (method 257 73 (.agg #[.string k, .int .i64 n, .int .i64 d, .string v, u]) "loop.example/g00224/impl.compare").run Tryd.prog w = .ok (126, .agg #[.string k, .int .i64 n, .int .i64 d, .string v, u]) w := by kernel_rfl
set_option maxHeartbeats 4000000 in
theorem mayFollow_next (x y : Value) (ts : List Tw) (lv j : Nat) (at_ : Int) (w : World) (hy : TW w y ts) (hn : ts.length ≤ 1048576) (hl : lv ≤ 5) (hj : j < ts.length) (hf : ∀ i : Nat, i < ts.length → (tw ts i).next.length ≤ 1048576) :
    Calls Tryd.prog 87 #[.agg #[x, y], .int .i64 j, .int .i64 at_, .int .i64 lv] w fun e w' => e = .returned (.bool (mayB ts lv j at_)) ∧ Below w.heap.size w w' := by
  have HM : Hid (mayB ts lv j at_ = (decide (0 ≤ at_) && decide (at_ < ts.length) && decide (lv < (tw ts at_).next.length) && decide (cT (tw ts j) (tw ts at_) < 0))) := by
    show _ = _
    unfold mayB
    rw [show ((j : Int) == -1) = false from by simp, Bool.false_or]
  generalize mayB ts lv j at_ = M at *
  by_cases h0 : at_ < 0
  · obtain rfl : M = false := by rw [HM.out, show decide (0 ≤ at_) = false from by simp; omega]; rfl
    obtain ⟨a, cap, rfl, hc⟩ := hy
    clear HM hc
    go_enter Tryd.func87, Tryd.ntmps87
    go_wp2
    go_ret
    exact ⟨rfl, below_alloc _ _⟩
  · obtain ⟨i, rfl⟩ := Int.eq_ofNat_of_zero_le (show 0 ≤ at_ by omega)
    by_cases h1 : i < ts.length
    · obtain ⟨b, off, cap, u, rfl, hbl, ⟨z0, z1, z2, z3, z4⟩, hu⟩ := hy.cells i h1
      obtain ⟨b2, off2, cap2, u2, hv2, _, ⟨t0, t1, t2, t3, t4⟩, _⟩ := hy.cells j hj
      simp only [Value.slice.injEq, Option.some.injEq, Addr.mk.injEq, and_true, true_and] at hv2
      obtain ⟨⟨rfl, rfl⟩, rfl⟩ := hv2
      have hfi := hf i h1
      have h1' : ¬ (ts.length : Int) ≤ i := by omega
      have hm : M = (decide (lv < (tw ts i).next.length) && decide (cT (tw ts j) (tw ts i) < 0)) := by rw [HM.out, show decide ((0 : Int) ≤ i) = true from by simp, show decide ((i : Int) < ts.length) = true from by simp; omega]; rfl
      unfold cT at hm
      clear HM hy hf
      generalize tw ts i = s at *
      generalize tw ts j = s2 at *
      obtain ⟨sk, sn, sd, sv, sx⟩ := s
      obtain ⟨rk, rn, rd, rv, rx⟩ := s2
      dsimp only at z0 z1 z2 z3 t0 t1 t2 t3 hfi hu hm
      obtain ⟨a', cap', hue, _⟩ := hu
      subst hue
      have hmt := method_links sk sv sn sd (.slice a' sx.length cap')
      by_cases hle : lv < sx.length
      · rw [show decide (lv < sx.length) = true from by simp [hle], Bool.true_and] at hm
        have hle' : ¬ (sx.length : Int) ≤ lv := by omega
        have hmc := method_compare2 rk rv rn rd u2
        have K := fun w => compare_any rk rv sk sv rn rd sn sd u2 (.slice a' sx.length cap') w
        have HC : Hid (M = decide (cIt rk sk rn sn < 0)) := hm
        clear hm
        generalize cIt rk sk rn sn = C at *
        go_enter Tryd.func87, Tryd.ntmps87
        go_wp2_with fail
        refine (links_any sk sv sn sd (.slice a' sx.length cap') _).mono ?_
        rintro e w1 ⟨rfl, hb1⟩
        have hB1 := below_then (below_alloc _ _) hb1
        have X1 := (Box.new w #[x, .slice (some ⟨b, off, none⟩) ts.length cap] 74).below hb1
        replace z0 := (hB1.cell (p := ⟨b, off + i * 5, none⟩) hbl).trans z0
        replace z1 := (hB1.cell (p := ⟨b, off + i * 5 + 1, none⟩) hbl).trans z1
        replace z2 := (hB1.cell (p := ⟨b, off + i * 5 + 2, none⟩) hbl).trans z2
        replace z3 := (hB1.cell (p := ⟨b, off + i * 5 + 3, none⟩) hbl).trans z3
        replace z4 := (hB1.cell (p := ⟨b, off + i * 5 + 4, none⟩) hbl).trans z4
        replace t0 := (hB1.cell (p := ⟨b, off + j * 5, none⟩) hbl).trans t0
        replace t1 := (hB1.cell (p := ⟨b, off + j * 5 + 1, none⟩) hbl).trans t1
        replace t2 := (hB1.cell (p := ⟨b, off + j * 5 + 2, none⟩) hbl).trans t2
        replace t3 := (hB1.cell (p := ⟨b, off + j * 5 + 3, none⟩) hbl).trans t3
        replace t4 := (hB1.cell (p := ⟨b, off + j * 5 + 4, none⟩) hbl).trans t4
        obtain ⟨hx1, x0, x1⟩ := X1.c2
        have hz := hB1.size
        clear hb1 hmt X1
        have hbl1 : b < w1.heap.size := by omega
        have hje : ((j : Int) == -1) = false := by simp
        go_wp2_with fail
        go_region_held3 (fun w' => w'.cell? ⟨w.heap.size, 0, none⟩ = some x ∧ w'.cell? ⟨w.heap.size, 1, none⟩ = some (.slice (some ⟨b, off, none⟩) ts.length cap) ∧ (w'.cell? ⟨b, off + i * 5, none⟩ = some (.string sk) ∧ w'.cell? ⟨b, off + i * 5 + 1, none⟩ = some (.int .i64 sn) ∧ w'.cell? ⟨b, off + i * 5 + 2, none⟩ = some (.int .i64 sd) ∧ w'.cell? ⟨b, off + i * 5 + 3, none⟩ = some (.string sv) ∧ w'.cell? ⟨b, off + i * 5 + 4, none⟩ = some (.slice a' sx.length cap')) ∧ w'.cell? ⟨b, off + j * 5, none⟩ = some (.string rk) ∧ w'.cell? ⟨b, off + j * 5 + 1, none⟩ = some (.int .i64 rn) ∧ w'.cell? ⟨b, off + j * 5 + 2, none⟩ = some (.int .i64 rd) ∧ w'.cell? ⟨b, off + j * 5 + 3, none⟩ = some (.string rv) ∧ w'.cell? ⟨b, off + j * 5 + 4, none⟩ = some u2) (go_keep)
          (first | (go_at_call 126; refine (K _).mono ?_; rintro e w2 ⟨rfl, hb2'⟩; have hb2 := below_undrew hb2'; replace z0 := (hb2.cell (p := ⟨b, off + i * 5, none⟩) hbl1).trans z0; replace z1 := (hb2.cell (p := ⟨b, off + i * 5 + 1, none⟩) hbl1).trans z1; replace z2 := (hb2.cell (p := ⟨b, off + i * 5 + 2, none⟩) hbl1).trans z2; replace z3 := (hb2.cell (p := ⟨b, off + i * 5 + 3, none⟩) hbl1).trans z3; replace z4 := (hb2.cell (p := ⟨b, off + i * 5 + 4, none⟩) hbl1).trans z4; replace t0 := (hb2.cell (p := ⟨b, off + j * 5, none⟩) hbl1).trans t0; replace t1 := (hb2.cell (p := ⟨b, off + j * 5 + 1, none⟩) hbl1).trans t1; replace t2 := (hb2.cell (p := ⟨b, off + j * 5 + 2, none⟩) hbl1).trans t2; replace t3 := (hb2.cell (p := ⟨b, off + j * 5 + 3, none⟩) hbl1).trans t3; replace t4 := (hb2.cell (p := ⟨b, off + j * 5 + 4, none⟩) hbl1).trans t4; replace x0 := (hb2.cell (p := ⟨w.heap.size, 0, none⟩) hx1).trans x0; replace x1 := (hb2.cell (p := ⟨w.heap.size, 1, none⟩) hx1).trans x1))
        go_wp2
        go_ret
        exact ⟨by rw [HC.out]; first | rfl | simp | (congr 2; simp), below_then hB1 hb2⟩
      · obtain rfl : M = false := by rw [hm, show decide (lv < sx.length) = false from by simp [hle]]; rfl
        have hle' : (sx.length : Int) ≤ lv := by omega
        clear hm
        go_enter Tryd.func87, Tryd.ntmps87
        go_wp2_with fail
        refine (links_any sk sv sn sd (.slice a' sx.length cap') _).mono ?_
        rintro e w1 ⟨rfl, hb1⟩
        have hB1 := below_then (below_alloc _ _) hb1
        clear hb1 hmt
        go_wp2
        go_ret
        exact ⟨rfl, hB1⟩
    · obtain rfl : M = false := by rw [HM.out, show decide ((i : Int) < ts.length) = false from by simp; omega]; simp
      obtain ⟨a, cap, rfl, hc⟩ := hy
      have h1' : (ts.length : Int) ≤ i := by omega
      clear HM hc
      go_enter Tryd.func87, Tryd.ntmps87
      go_wp2
      go_ret
      exact ⟨rfl, below_alloc _ _⟩
end Go.Proofs.YtdaldkcildbcmaaDoor
