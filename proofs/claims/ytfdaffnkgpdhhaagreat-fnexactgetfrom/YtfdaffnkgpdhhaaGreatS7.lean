/-
  A builder of text and slices.Compact, laid at this program from the shelf.
-/
import Derived.Test.YtfdaffnkgpdhhaaGreatH1
import Derived.RangeFuncBox
import Derived.Lib.AppendStr
import Derived.Shelf.Lay
import Derived.Shelf.Strings.Builder1
import Derived.Shelf.Slices.Cells
import Derived.Laws.OwnMore
import Derived.Deep.AppendLies
import Derived.Ground.NamesProg
namespace Go.Proofs
open Go.Shelf Go.RowKit Go.Lib Go.Sort
shelf_lay Lays.n169 Nm 169 at Tryz as Tryz.laysSt
shelf_lay Lays.n194 Nm 194 at Tryz as Tryz.laysCo
set_option maxRecDepth 100000
theorem Tryz.extraSt : Builder.Extra Tryz.prog Tryz.laysSt_ren where
  sizeBuilder := by kernel_rfl
  liesBuilder := by kernel_rfl
  t5 := Tryz.underlying5
  a5 := Tryz.isAgg5
  z5 := Tryz.sizeOf5
  v5 := Tryz.zeroValue5
  infoByte := by kernel_rfl
  cellsByte := by kernel_rfl
  sizeByte := by kernel_rfl
  neB5 := by decide
namespace YtfdaffnkgpdhhaaGreat
set_option linter.unusedVariables false
set_option maxRecDepth 100000

theorem Tryz.size109 : (Tryz.prog.info? 109).map (·.size) = some 2 := by kernel_rfl
theorem Tryz.lies109 : liesAt Tryz.prog Tryz.prog.depth 109 (2 / Tryz.prog.cellsOf 109) 0 109 1 = true := by kernel_rfl
set_option maxHeartbeats 1000000 in
theorem copyUsed_any (b : Nat) (w : World) (h0 : w.cell? ⟨b, 0, none⟩ = some (.pointer (some ⟨b, 0, none⟩))) :
    Calls Tryz.prog 111 #[.pointer (some ⟨b, 0, none⟩)] w fun e w' => e = .returned (.tuple #[]) ∧ w' = w := by
  obtain ⟨j, hj, _⟩ := Option.map_eq_some_iff.1 Tryz.size109
  go_enter Tryz.func111, Tryz.ntmps111
  go_wp2
  rw [Lib.run_neq_ptr_same w _ Tryz.underlying107 hj]
  go_wp2
  go_end0
  exact ⟨rfl, rfl⟩
set_option maxHeartbeats 1000000 in
theorem copyFresh_any (b : Nat) (w : World) (h0 : w.cell? ⟨b, 0, none⟩ = some (.pointer none)) (hsh : w.shape? b = some (109, 2)) (hfz : w.frozen? ⟨b, 0, none⟩ = false) :
    Calls Tryz.prog 111 #[.pointer (some ⟨b, 0, none⟩)] w fun e w' => e = .returned (.tuple #[]) ∧ w' = w.setCell ⟨b, 0, none⟩ (.pointer (some ⟨b, 0, none⟩)) := by
  obtain ⟨j, hj, hjs⟩ := Option.map_eq_some_iff.1 Tryz.size109
  go_enter Tryz.func111, Tryz.ntmps111
  go_wp2
  rw [Lib.run_to_unsafe w ⟨b, 0, none⟩ Tryz.underlying107 Tryz.underlying167 hj (by rw [hjs]; decide) hsh (Nat.zero_lt_succ 1)]
  simp only [Result.andThen]
  rw [Oper.upon_value]
  go_wp2
  rw [run_callFunc_extern Tryz.func133 (by kernel_rfl) (by kernel_rfl) (by kernel_rfl) (e := Extern.AbiNoEscape.same) (by kernel_rfl)]
  rw [Lib.run_noEscape]
  simp only [Result.andThen]
  rw [Oper.upon_value]
  go_wp2
  rw [Lib.run_from_unsafe w ⟨b, 0, none⟩ Tryz.underlying167 Tryz.underlying107 hj hsh Tryz.lies109]
  simp only [Result.andThen]
  rw [Oper.upon_value]
  go_wp2
  go_end0
  exact ⟨rfl, rfl⟩
theorem copyCheck_any (B b : Nat) (bs : List Value) (w : World) (h : Lib.IsBuilder 109 5 B b bs w) :
    Calls Tryz.prog 111 #[.pointer (some ⟨b, 0, none⟩)] w fun e w' => e = .returned (.tuple #[]) ∧ (Lib.BuilderAt 109 5 B b (.pointer (some ⟨b, 0, none⟩)) bs w' ∧ Below B w w') := by
  rcases h with h | h
  · refine (copyFresh_any b w h.cell0 h.shape h.frozen0).mono ?_
    rintro e w' ⟨rfl, rfl⟩
    exact ⟨rfl, h.used _, (Below.refl B w).setCell (p := ⟨b, 0, none⟩) h.1 _⟩
  · refine (copyUsed_any b w h.cell0).mono ?_
    rintro e w' ⟨rfl, rfl⟩
    exact ⟨rfl, h, Below.refl B _⟩
set_option maxHeartbeats 2000000 in
theorem writeString_any (B b : Nat) (bs : List Value) (s : ByteArray) (w : World) (h : Lib.IsBuilder 109 5 B b bs w) (hlen : bs.length + s.size ≤ 1073741824) (hBw : B ≤ w.heap.size) :
    Calls Tryz.prog 70 #[.pointer (some ⟨b, 0, none⟩), .string s] w fun e w' => e = .returned (.tuple #[.int .i64 s.size, .nilIface]) ∧ (Lib.BuilderAt 109 5 B b (.pointer (some ⟨b, 0, none⟩)) (bs ++ Lib.strCells s) w' ∧ Below B w w') := by
  obtain ⟨i0, hi, hz0, hz1, hz2⟩ := info_parts Tryz.info5
  go_enter Tryz.func70, Tryz.ntmps70
  go_wp2_with fail
  refine (copyCheck_any B b bs _ h).mono ?_
  rintro e w1 ⟨rfl, h1, hb1⟩
  obtain ⟨hB, v, hbk, hown, hne⟩ := h1
  have c0 : w1.cell? ⟨b, 0, none⟩ = some (.pointer (some ⟨b, 0, none⟩)) := by rw [Lib.cell_of_heap hbk]; rfl
  have c1 : w1.cell? ⟨b, 1, none⟩ = some v := by rw [Lib.cell_of_heap hbk]; rfl
  have hz1w := hb1.size
  clear h
  go_wp2_with (at_builtin; refine Lib.wpList_append_own_string _ rfl _ _ 22 9 rfl B 5 i0 Tryz.underlying22 Tryz.underlying9 hi hz0 hz1 hz2 _ _ _ rfl hown s rfl ?c3 ?c4 ?c5 ?_)
  case c3 => unfold maxLen; omega
  case c4 => omega
  case c5 => omega
  intro v' w2 hown' hgrow _
  have hlt : b < w1.heap.size := by
    rcases Nat.lt_or_ge b w1.heap.size with h' | h'
    · exact h'
    · simp [Array.getElem?_eq_none h'] at hbk
  have hb2 : w2.heap[b]? = some (.cells #[.pointer (some ⟨b, 0, none⟩), v] 109 (0, 0)) := by
    rw [hgrow.block b hlt (fun e => hne e.symm)]
    exact hbk
  have d0 : w2.cell? ⟨b, 0, none⟩ = some (.pointer (some ⟨b, 0, none⟩)) := by rw [Lib.cell_of_heap hb2]; rfl
  have d1 : w2.cell? ⟨b, 1, none⟩ = some v := by rw [Lib.cell_of_heap hb2]; rfl
  have f1 : w2.frozen? ⟨b, 1, none⟩ = false := Lib.frozen_of_heap hb2 1
  obtain ⟨ao, n', cap, rfl⟩ : ∃ ao n' cap, v' = .slice ao n' cap := by
    rcases hown'.2 with ⟨hv, _⟩ | ⟨g, cap, cur, hv, _⟩
    · exact ⟨_, _, _, hv⟩
    · exact ⟨_, _, _, hv⟩
  go_wp2
  go_ret2
  refine ⟨rfl, ?_, ?_⟩
  · exact Lib.BuilderAt.put (T := 109) (e := 5) hB hb2 (bs' := bs ++ Lib.strCells s) (by simpa [Lib.strCells_length] using hown') (by decide)
  · exact (hb1.grown hgrow (by omega) (fun k hk => (hown.lt k hk).1)).setCell (p := ⟨b, 1, none⟩) hB _
theorem builderString_any (B b : Nat) (l : List UInt8) (w : World) (h : Lib.IsBuilder 109 5 B b (Lib.byteCells l) w) (hBw : B ≤ w.heap.size) :
    Calls Tryz.prog 71 #[.pointer (some ⟨b, 0, none⟩)] w fun e w' => e = .returned (.string ⟨l.toArray⟩) ∧ Below B w w' :=
  Any.Builder_String_any Tryz.laysSt Tryz.extraSt B b l w h hBw
theorem builder_new (w : World) : Lib.IsBuilder 109 5 w.heap.size w.heap.size [] (w.alloc (.cells #[.pointer none, .slice none 0 0] 109)) := by
  refine .inl ⟨Nat.le_refl _, .slice none 0 0, (World.alloc_heap_new w _), World.ownsRow_nil _ _ _ _, by simp [Value.ownBlock]⟩

/-- The keys with no two alike side by side. -/
def uniqL : List ByteArray → Nat → List ByteArray
  | l, 0 => []
  | l, i + 1 => uniqL l i ++ (if i = 0 ∨ l.getD (i - 1) ⟨#[]⟩ ≠ l.getD i ⟨#[]⟩ then [l.getD i ⟨#[]⟩] else [])
theorem uniq_len (l : List ByteArray) (i : Nat) : (uniqL l i).length ≤ i := by
  induction i with
  | zero => simp [uniqL]
  | succ i ih => unfold uniqL; rw [List.length_append]; split <;> simp <;> omega
theorem ba_data_inj {a b : ByteArray} (h : a.data.toList = b.data.toList) : a = b := ByteArray.ext (Array.toList_inj.1 h)
theorem compact_uniq (l : List ByteArray) : Lib.compact (Lib.strsOf (fun i => l.getD i ⟨#[]⟩) l.length) = (uniqL l l.length).map (fun s => s.data.toList) := by
  have key : ∀ i, i ≤ l.length → Lib.compactUpTo (Lib.strsOf (fun i => l.getD i ⟨#[]⟩) l.length).toArray i = (uniqL l i).map (fun s => s.data.toList) := by
    intro i
    induction i with
    | zero => intro _; simp [Lib.compactUpTo, uniqL]
    | succ i ih =>
      intro hi
      have hat : ∀ j, j < l.length → (Lib.strsOf (fun i => l.getD i ⟨#[]⟩) l.length).toArray[j]! = (l.getD j ⟨#[]⟩).data.toList := by
        intro j hj
        simp [Lib.strsOf, hj]
      have hk : Lib.keeps (Lib.strsOf (fun i => l.getD i ⟨#[]⟩) l.length).toArray i = decide (i = 0 ∨ l.getD (i - 1) ⟨#[]⟩ ≠ l.getD i ⟨#[]⟩) := by
        unfold Lib.keeps
        rw [hat i (by omega), hat (i - 1) (by omega), decide_eq_decide]
        constructor
        · rintro (h | h)
          · exact .inl h
          · exact .inr fun e => h (by rw [e])
        · rintro (h | h)
          · exact .inl h
          · exact .inr fun e => h (ba_data_inj e.symm)
      rw [Lib.compactUpTo_succ, ih (by omega), uniqL, List.map_append, hk, hat i (by omega)]
      congr 1
      by_cases h : i = 0 ∨ l.getD (i - 1) ⟨#[]⟩ ≠ l.getD i ⟨#[]⟩
      · rw [decide_eq_true h, if_pos rfl, if_pos h]; rfl
      · rw [decide_eq_false h, if_neg h]; rfl
  have h1 := Lib.strsOf_length (fun i => l.getD i (⟨#[]⟩ : ByteArray)) l.length
  unfold Lib.compact
  rw [h1]
  exact key _ (Nat.le_refl _)

theorem below_cells {B : Nat} {a : World} (b : Nat) (hb : B ≤ b) : ∀ (vs : List Value) (o : Nat) {w : World}, Below B a w → Below B a (w.setCells b o vs)
  | [], _, _, h => h
  | v :: r, o, _, h => below_cells b hb r (o + 1) (h.setCell (p := ⟨b, o, none⟩) hb v)
theorem below_dn {B : Nat} {a w : World} (h : Below B a w) (n : Nat) : Below B a (w.drewN n) := h.trans ⟨rfl, rfl, rfl, Nat.le_refl _, fun _ _ => rfl⟩
theorem compact_any (base : Nat) (v : Value) (l : List ByteArray) (w : World) (hv : w.ownsRow base 9 1 v l.length (l.map Value.string)) (hl : l.length ≤ 1048576) :
    Calls Tryz.prog 110 #[v] w fun e w' => ∃ v', e = .returned v' ∧ SL w' v' (uniqL l l.length) ∧ Below base w w' := by
  by_cases h0 : l = []
  · subst h0
    rcases hv.2 with ⟨rfl, _⟩ | ⟨g, cap, cur, rfl, hb, hg, hc⟩
    · refine (Any.slices_Compact_string_empty Tryz.laysCo none 0 w).mono ?_
      rintro e w' ⟨rfl, rfl⟩
      exact ⟨_, rfl, ⟨none, 0, rfl, fun h => absurd rfl h⟩, Below.refl _ _⟩
    · refine (Any.slices_Compact_string_empty Tryz.laysCo _ cap w).mono ?_
      rintro e w' ⟨rfl, rfl⟩
      exact ⟨_, rfl, ⟨_, cap, rfl, fun h => absurd rfl h⟩, Below.refl _ _⟩
  · obtain ⟨g, cap, rfl, hgb, hlt⟩ := hv.form (by cases l with | nil => exact absurd rfl h0 | cons a r => simp)
    have hcp : l.length ≤ cap := by
      rcases hv.2 with ⟨h, _⟩ | ⟨g', cap', cur, h, hb, hg, hc, _⟩
      · cases h
      · cases h; exact hc
    have hcell : ∀ i, i < l.length → w.cell? ⟨g, 0 + i, none⟩ = some (.string (l.getD i ⟨#[]⟩)) := by
      intro i hi
      rw [Nat.zero_add, hv.cellAt i (by omega)]
      simp [hi]
    have hfz : ∀ i, i < l.length → w.frozen? ⟨g, 0 + i, none⟩ = false := fun i _ => hv.frozenAt _
    refine (Any.slices_Compact_string_cells Tryz.laysCo g 0 l.length cap (fun i => l.getD i ⟨#[]⟩) w (by omega) hcp hcell hfz).mono ?_
    rintro e w' ⟨rfl, q, rfl⟩
    rw [compact_uniq]
    have hul := uniq_len l l.length
    refine ⟨_, rfl, ⟨some ⟨g, 0, none⟩, cap, by rw [List.length_map], fun _ => ⟨g, 0, rfl, ?_, ?_⟩⟩, ?_⟩
    · exact Nat.lt_of_lt_of_le hlt (below_cells g hgb _ _ (below_dn (Below.refl base w) q)).size
    · intro i hi
      have hlen : i < (((uniqL l l.length).map (fun s : ByteArray => s.data.toList) ++ List.replicate (l.length - ((uniqL l l.length).map (fun s : ByteArray => s.data.toList)).length) []).map encStr).length := by simp; omega
      rw [World.cell?_setCells_in g _ 0 (w.drewN q) (by
        intro j hj
        have hj' : j < l.length := by simp at hj; omega
        show (w.cell? ⟨g, 0 + j, none⟩).isSome = true
        rw [hcell j hj']; rfl) i hlen]
      congr 1
      rw [List.getElem_map, List.getElem_append_left (by simpa using hi), List.getElem_map]
    · exact below_cells g hgb _ _ (below_dn (Below.refl base w) q)
end YtfdaffnkgpdhhaaGreat
end Go.Proofs
