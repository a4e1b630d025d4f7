/-
  The unlike keys of a run: impl.keysOf.
-/
import Derived.Test.YtfdaffnkgpdhhaaGreatC7
import Derived.Test.YtfdaffnkgpdhhaaGreatLz
namespace Go.Proofs.YtfdaffnkgpdhhaaGreat
open Go.RowKit
set_option linter.unusedVariables false
set_option maxRecDepth 100000

theorem Tryz.info9 : (Tryz.prog.info? 9).map (fun i => (i.zero, i.size, i.bytes)) = some (some (.string ⟨#[]⟩), 1, 16) := by kernel_rfl
theorem ku_uniq (l : List It) : ∀ i, i ≤ l.length → uniqL (l.map It.k) i = kuL l i := by
  intro i
  induction i with
  | zero => intro _; rfl
  | succ i ih =>
    intro hi
    have g : ∀ j, j < l.length → (l.map It.k).getD j ⟨#[]⟩ = (l.getD j default).k := by
      intro j hj
      simp [List.getD_eq_getElem?_getD, hj]
    rw [uniqL, kuL, ih (by omega), g i (by omega), g (i - 1) (by omega)]
theorem cell_new1 (W : World) (x : Value) (t : TypeId) : ∀ j u, [x][j]? = some u → (W.alloc (.cells #[x] t)).cell? ((⟨W.heap.size, 0, none⟩ : Addr).add j) = some u := by
  intro j u hj
  match j, hj with
  | 0, hj =>
    simp at hj; subst hj
    rw [show (⟨W.heap.size, 0, none⟩ : Addr).add 0 = ⟨W.heap.size, 0, none⟩ from rfl]
    exact World.cell?_alloc_at _ _ _ _ rfl

set_option maxHeartbeats 2000000 in
theorem keysOf_any (v : Value) (l : List It) (w : World) (hv : IR w v l) (hn : l.length ≤ 100000) :
    Calls Tryz.prog 69 #[v] w fun e w' => ∃ v', e = .returned v' ∧ SL w' v' (kuL l l.length) ∧ Below w.heap.size w w' := by
  obtain ⟨a, cap, rfl, hc⟩ := hv
  obtain ⟨i0, hi, hz0, hzs, hzb⟩ := info_parts Tryz.info9
  go_enter Tryz.func69, Tryz.ntmps69
  go_wp2_with fail
  go_loopw [3, 8] (fun kv i wr => ∃ k : Nat, k ≤ l.length ∧ i = .int .i64 k ∧ wr.ownsRow w.heap.size 9 1 kv k (((l.take k).map It.k).map Value.string) ∧ Below w.heap.size w wr) (fun _ i _ => l.length - (intOf i).toNat)
  case atStart => exact ⟨0, Nat.zero_le _, rfl, World.ownsRow_nil _ _ _ _, Below.refl _ _⟩
  case round =>
    obtain ⟨k, hk, rfl, hown, hB⟩ := hrel
    have hzB := hB.size
    obtain ⟨ka, kcap, rfl⟩ : ∃ ka kcap, u3 = .slice ka k kcap := by
      rcases hown.2 with ⟨h, h0⟩ | ⟨g, c, cur, h, _⟩
      · exact ⟨none, 0, by rw [h, h0]⟩
      · exact ⟨_, _, h⟩
    by_cases hlt : k < l.length
    · obtain ⟨b, off, rfl, hbl, hcell⟩ := hc (by intro e; simp [e] at hlt)
      obtain ⟨c0, c1, c2, c3⟩ := hcell k hlt
      have d0 := (hB.cell (p := ⟨b, _, none⟩) hbl).trans c0
      have d1 := (hB.cell (p := ⟨b, _, none⟩) hbl).trans c1
      have d2 := (hB.cell (p := ⟨b, _, none⟩) hbl).trans c2
      have d3 := (hB.cell (p := ⟨b, _, none⟩) hbl).trans c3
      have HS : Hid (((l.take (k + 1)).map It.k).map Value.string = ((l.take k).map It.k).map Value.string ++ [.string l[k].k]) := by
        show _ = _
        rw [List.take_succ_eq_append_getElem hlt, List.map_append, List.map_append]; rfl
      generalize ((l.take k).map It.k).map Value.string = L at *
      clear hcell c0 c1 c2 c3 hc
      obtain ⟨p, hp⟩ : ∃ p, p = l[k] := ⟨_, rfl⟩
      rw [← hp] at HS d0 d1 d2 d3
      clear hp
      obtain ⟨pk, pn, pd, pv⟩ := p
      dsimp only at d0 d1 d2 d3 HS
      obtain ⟨W0, hW0⟩ : ∃ W0, W0 = wr.alloc (.cells #[.string pk, .int .i64 pn, .int .i64 pd, .string pv] 33) := ⟨_, rfl⟩
      have hB0 : Below w.heap.size w W0 := by rw [hW0]; exact hB.alloc hB.size _
      have hown0 : W0.ownsRow w.heap.size 9 1 (.slice ka k kcap) k L := by rw [hW0]; exact hown.alloc _
      have hown1 := hown0.alloc (.cells #[.string pk] 9)
      have hcn := cell_new1 W0 (.string pk) 9
      have hz0w := hB0.size
      have hsz0 : W0.heap.size = wr.heap.size + 1 := by rw [hW0]; simp
      rw [hW0] at hcn hown1
      simp only [World.size_alloc] at hcn
      clear hown hB
      go_wp2_with (at_builtin; refine wpList_append_own _ rfl _ _ 94 rfl w.heap.size 9 i0 (.string ⟨#[]⟩) 1 16 Tryz.underlying94 hi hz0 hzs hzb rfl (by decide) _ k L rfl hown1 ⟨wr.heap.size + 1, 0, none⟩ 1 1 [.string pk] rfl rfl hcn (by intro u hu; simp at hu; subst hu; rfl) (by unfold maxLen; omega) (by omega) (by simp; omega) ?_; intro v' w3 hown3 hgrow3 _)
      go_roundw
      case rel =>
        refine ⟨k + 1, by omega, by go_num, ?_, ?_⟩
        · rw [HS.out]; exact hown3
        · rw [← hW0] at hgrow3
          exact (hB0.alloc (by omega) _).grown hgrow3 (by simp; omega) (fun j hj => (hown0.lt j hj).1)
      case measure => simp [intOf]; omega
    · obtain rfl : k = l.length := by omega
      have KC := fun w1 v => compact_any w.heap.size v (l.map It.k) w1
      rw [List.length_map] at KC
      rw [List.take_length] at hown
      have hku := ku_uniq l l.length (Nat.le_refl _)
      rw [hku] at KC
      clear hc hku
      go_wp2_with fail
      refine (KC _ _ hown (by omega)).mono ?_
      rintro e w2 ⟨v2, rfl, hsl, hb2⟩
      have hB2 := hB.trans hb2
      clear KC hown hB hb2
      obtain ⟨sa, scap, rfl, hsc⟩ := hsl
      have hsl : SL w2 (.slice sa (kuL l l.length).length scap) (kuL l l.length) := ⟨sa, scap, rfl, hsc⟩
      clear hsc
      generalize (kuL l l.length).length = q at *
      go_wp2
      go_ret
      exact ⟨_, rfl, hsl, hB2⟩
end Go.Proofs.YtfdaffnkgpdhhaaGreat
