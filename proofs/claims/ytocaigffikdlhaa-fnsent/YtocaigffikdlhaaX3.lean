/-
  Places of chunks: plainly; sizeAt, l13Size, impl.placesIn.
-/
import Derived.Test.YtocaigffikdlhaaX2
namespace Go.Proofs.Ytocaigffikdlhaa
open Go.RowKit Go.Maps
set_option linter.unusedVariables false
set_option maxRecDepth 100000

theorem run_min_int {P : Program} (w : World) (x y : Int) (ty : TypeId) : (Builtin.min_ #[3, 3] ty #[.int .i64 x, .int .i64 y]).run P w = .ok (.int .i64 (min x y)) w := by
  rcases Int.le_total x y with h | h
  · simp [Builtin.min_, Builtin.min2, go_sem, h, Int.min_eq_left]
    try omega
  · by_cases h' : x ≤ y
    · obtain rfl : x = y := by omega
      simp [Builtin.min_, Builtin.min2, go_sem]
    · simp [Builtin.min_, Builtin.min2, go_sem, h, h', Int.min_eq_right]
theorem sizeAt_any (t d a : Int) (w : World) (h1 : 0 ≤ t) (h2 : t ≤ 4000) (h3 : 0 ≤ a) (h4 : a ≤ 4000) :
    Calls Try.prog 69 #[.agg #[.int .i64 t, .int .u32 d], .int .i64 a] w fun e w' => e = .returned (.int .i64 (min 64 (t - a))) ∧ Below w.heap.size w w' := by
  have R := fun w => run_min_int (P := Try.prog) w 64 (t - a) 3
  have hwr : IntKind.i64.wrap (t - a) = t - a := by rw [IntKind.wrap_i64]; omega
  generalize min 64 (t - a) = m at *
  go_enter Try.func69, Try.ntmps69
  go_wp2
  go_ret
  exact ⟨rfl, below_alloc _ _⟩
theorem l13Size_any (t a : Int) (w : World) (h1 : 0 ≤ t) (h2 : t ≤ 4000) (h3 : 0 ≤ a) (h4 : a ≤ 4000) :
    Calls Try.prog 98 #[.int .i64 t, .int .i64 a] w fun e w' => e = .returned (.int .i64 (min 64 (t - a))) ∧ w' = w := by
  have hwr : IntKind.i64.wrap (t - a) = t - a := by rw [IntKind.wrap_i64]; omega
  by_cases h : t - a < 64
  · have HM : Hid (min 64 (t - a) = t - a) := by show _ = _; omega
    go_enter Try.func98, Try.ntmps98
    go_wp2
    go_ret
    exact ⟨by rw [HM.out]; rfl, rfl⟩
  · have HM : Hid (min 64 (t - a) = 64) := by show _ = _; omega
    go_enter Try.func98, Try.ntmps98
    go_wp2
    go_ret
    exact ⟨by rw [HM.out]; rfl, rfl⟩

/-- How many pieces a file of n bytes has; the first j places of file f; those of the first k files. -/
def np (n : Int) : Nat := (n.toNat + 63) / 64
def plF (f j : Nat) : List Ck := (List.range j).map fun i : Nat => ⟨(f : Int), 64 * (i : Int), ⟨#[]⟩, 0⟩
def plTo (W : List Wt) (k : Nat) : List Ck := (List.range k).flatMap fun i => plF i (np (W.getD i default).t)
def plL (W : List Wt) : List Ck := plTo W W.length
/-- What is wanted is as said. -/
def wOk (W : List Wt) : Prop := W.length ≤ 12 ∧ ∀ i (h : i < W.length), 0 ≤ W[i].t ∧ W[i].t ≤ 4000
theorem plF_length (f j : Nat) : (plF f j).length = j := by simp [plF]
theorem plF_succ (f j : Nat) : plF f (j + 1) = plF f j ++ [⟨(f : Int), 64 * (j : Int), ⟨#[]⟩, 0⟩] := by simp [plF, List.range_succ]
theorem plTo_succ (W : List Wt) (k : Nat) (h : k < W.length) : plTo W (k + 1) = plTo W k ++ plF k (np W[k].t) := by
  unfold plTo
  rw [List.range_succ, List.flatMap_append]
  simp [List.getD_eq_getElem?_getD, h]
theorem np_le {n : Int} (h : n ≤ 4000) : np n ≤ 63 := by unfold np; omega
theorem np_lt {n : Int} (j : Nat) (h : 0 ≤ n) : 64 * (j : Int) < n ↔ j < np n := by unfold np; omega
theorem plTo_len {W : List Wt} (h : wOk W) (k : Nat) (hk : k ≤ W.length) : (plTo W k).length ≤ 63 * k := by
  induction k with
  | zero => simp [plTo]
  | succ k ih =>
    rw [plTo_succ W k (by omega), List.length_append, plF_length]
    have := ih (by omega)
    have := np_le (h.2 k (by omega)).2
    omega
theorem plL_len {W : List Wt} (h : wOk W) : (plL W).length ≤ 756 := by
  have := plTo_len h W.length (Nat.le_refl _)
  have := h.1
  unfold plL
  omega

/-- Block B holds one wanted, as the program boxes it. -/
def WBx (w : World) (B : Nat) (t d : Int) : Prop := w.ownsRow 0 54 2 (.slice (some ⟨B, 0, none⟩) 1 1) 1 [.int .i64 t, .int .u32 d]
theorem WBx.new (w : World) (t d : Int) : WBx (w.alloc (.cells #[.int .i64 t, .int .u32 d] 54)) w.heap.size t d := World.ownsRow_lit w #[.int .i64 t, .int .u32 d] 1 (Nat.zero_le _) (by unfold maxLen; omega) rfl
theorem WBx.c {w : World} {B : Nat} {t d : Int} (h : WBx w B t d) : B < w.heap.size ∧ w.cell? ⟨B, 0, none⟩ = some (.int .i64 t) ∧ w.cell? ⟨B, 1, none⟩ = some (.int .u32 d) := ⟨(owns_lt h).2, by rw [h.cellAt 0 (by omega)]; rfl, by rw [h.cellAt 1 (by omega)]; rfl⟩
theorem WBx.below {w w' : World} {B : Nat} {t d : Int} (h : WBx w B t d) (hb : Below w.heap.size w w') : WBx w' B t d := owns_below h hb
theorem WBx.grown {w w' : World} {B : Nat} {t d : Int} {base n : Nat} {v : Value} {xs : List Value} (h : WBx w B t d) (hr : w.ownsRow base 37 4 v n xs) (hg : w.grownBy w' v.ownBlock) : WBx w' B t d :=
  World.ownsRow.kept h hg (.inr fun e => owns_type_ne hr h (by decide) B (by rw [← e]; rfl) rfl)

set_option maxHeartbeats 8000000 in
theorem placesIn_any (v : Value) (W : List Wt) (w : World) (hv : WR w v W) (hok : wOk W) :
    Calls Try.prog 68 #[v] w fun e w' => ∃ u, e = .returned u ∧ w'.ownsRow w.heap.size 37 4 u (plL W).length (flat4 (plL W)) ∧ Below w.heap.size w w' := by
  obtain ⟨a, cap, rfl, hc⟩ := hv
  have h12 := hok.1
  have HL := fun k hk => plTo_len hok k hk
  have HS := fun k hk => plTo_succ W k hk
  have HT := hok.2
  clear hok
  show Calls Try.prog 68 _ w fun e w' => ∃ u, e = .returned u ∧ w'.ownsRow w.heap.size 37 4 u (plTo W W.length).length (flat4 (plTo W W.length)) ∧ Below w.heap.size w w'
  go_enter Try.func68, Try.ntmps68
  go_wp2
  go_loopw [3, 9] (fun z i wr => ∃ (k : Nat), k ≤ W.length ∧ i = .int .i64 k ∧ wr.ownsRow w.heap.size 37 4 z (plTo W k).length (flat4 (plTo W k)) ∧ Below w.heap.size w wr) (fun _ i _ => W.length - (intOf i).toNat)
  case atStart => exact ⟨0, Nat.zero_le _, rfl, World.ownsRow_nil _ _ _ _, Below.refl _ _⟩
  case round =>
    obtain ⟨k, hk, rfl, hown, hb⟩ := hrel
    by_cases hlt : k < W.length
    · obtain ⟨b, off, rfl, hbl, hcell⟩ := hc (by intro e; simp [e] at hlt)
      have hc0 := (hb.cell (p := ⟨b, off + k * 2, none⟩) hbl).trans (hcell k hlt).1
      have hc1 := (hb.cell (p := ⟨b, off + k * 2 + 1, none⟩) hbl).trans (hcell k hlt).2
      have ht := HT k hlt
      have hl := HL k hk
      have HW : Hid (plTo W (k + 1) = plTo W k ++ plF k (np W[k].t)) := HS k hlt
      have hnp := np_le ht.2
      have HNP : Hid (∀ j : Nat, 64 * (j : Int) < W[k].t ↔ j < np W[k].t) := fun j => np_lt j ht.1
      clear hcell hc HL HS HT
      generalize W[k] = s at *
      obtain ⟨t, d⟩ := s
      dsimp only at hc0 hc1 ht hnp HNP HW
      generalize plTo W k = T at *
      generalize HT2 : plTo W (k + 1) = T2 at *
      have HE2 : Hid (plTo W (k + 1) = T2) := HT2
      clear HT2
      obtain ⟨za, zc, rfl⟩ := owns_shape hown
      have hz := hb.size
      have X0 := WBx.new wr t d
      have hb0 := hb.alloc hz (.cells #[.int .i64 t, .int .u32 d] 54)
      replace hown := owns_below hown (below_alloc wr (.cells #[.int .i64 t, .int .u32 d] 54))
      generalize hnpe : np t = N at *
      have HNE : Hid (np t = N) := hnpe
      clear hnpe hb
      go_wp2
      clear hc0 hc1
      obtain ⟨W0, hW0⟩ : ∃ W0, W0 = wr.alloc (.cells #[.int .i64 t, .int .u32 d] 54) := ⟨_, rfl⟩
      rw [← hW0] at X0 hb0 hown
      have HW0 : Hid (W0 = wr.alloc (.cells #[.int .i64 t, .int .u32 d] 54)) := hW0
      clear hW0
      generalize hB0 : wr.heap.size = B0 at X0 hz ⊢
      clear hB0
      go_loopw [3, 6] (fun z i wx => ∃ (j : Nat), j ≤ N ∧ i = .int .i64 (64 * (j : Int)) ∧ wx.ownsRow w.heap.size 37 4 z (T.length + j) (flat4 (T ++ plF k j)) ∧ WBx wx B0 t d ∧ Below w.heap.size w wx) (fun _ i _ => 64 * N - (intOf i).toNat)
      case atStart => exact ⟨0, Nat.zero_le _, rfl, by rw [← HW0.out]; simpa [plF] using hown, by rw [← HW0.out]; exact X0, by rw [← HW0.out]; exact hb0⟩
      case round =>
        clear hown X0 hb0
        obtain ⟨j, hj, rfl, hown, X, hb⟩ := hrel
        obtain ⟨hxl, x0, x1⟩ := X.c
        have hnj := HNP.out j
        by_cases hjl : j < N
        · have hlt2 := hnj.2 hjl
          obtain ⟨za, zc, rfl⟩ := owns_shape hown
          have hge := owns_ge hown
          have hz2 := hb.size
          have HPS : Hid (T ++ plF k (j + 1) = (T ++ plF k j) ++ [⟨(k : Int), 64 * (j : Int), ⟨#[]⟩, 0⟩]) := by show _ = _; rw [plF_succ, List.append_assoc]
          clear hnj
          generalize T ++ plF k j = T3 at *
          have HX : Hid (WBx wr B0 t d) := X
          clear X
          go_wp2_with (at_builtin; refine wpList_append_ck _ rfl _ _ rfl rfl w.heap.size _ (T.length + j) T3 rfl (owns_below hown (below_alloc _ _)) wr.heap.size ⟨(k : Int), 64 * (j : Int), ⟨#[]⟩, 0⟩ rfl (Box.new wr #[.int .i64 k, .int .i64 (64 * (j : Int)), .string ⟨#[]⟩, .int .u32 0] 37) (by omega) (by simp; omega) ?_; intro v' w3 hown3 hgr3)
          obtain ⟨va, vc, rfl⟩ := owns_shape hown3
          have hb3 : Below w.heap.size w w3 := (hb.alloc hz2 _).grown hgr3 (by simp; omega) hge
          have X3 : WBx w3 B0 t d := WBx.grown (HX.out.below (below_alloc _ _)) (owns_below hown (below_alloc _ _)) hgr3
          have HO : Hid _ := hown3
          have HX3 : Hid (WBx w3 B0 t d) := X3
          clear hown hgr3 hb hge hown3 HX X3
          go_wp2
          go_roundw
          case rel => exact ⟨j + 1, by omega, by go_num, by rw [HPS.out]; exact HO.out, HX3.out, hb3⟩
          case measure => simp [intOf]; omega
        · obtain rfl : j = N := by omega
          have hlt2 : ¬ 64 * (j : Int) < t := fun h => by have := hnj.1 h; omega
          obtain ⟨za, zc, rfl⟩ := owns_shape hown
          clear hnj X
          go_wp2
          go_roundw
          case rel => exact ⟨k + 1, by omega, by go_num, by rw [HE2.out, HW.out, List.length_append, plF_length]; exact hown, hb⟩
          case measure => simp [intOf]; omega
    · obtain rfl : k = W.length := by omega
      obtain ⟨za, zc, rfl⟩ := owns_shape hown
      clear hc HL HS HT
      go_wp2
      go_ret
      exact ⟨_, rfl, hown, hb⟩
end Go.Proofs.Ytocaigffikdlhaa
