/-
  A struct of four stored; a key's bytes: cut by a third index, more put behind, as a text.
-/
import Derived.Test.YtfdaffnkgpdhhaaGreatD2
import Derived.Test.YtfdaffnkgpdhhaaGreatBx
import Derived.Lib.AppendStr
import Derived.Lib.AppendZeros
import Derived.Deep.RegionHeld3
namespace Go.Proofs.YtfdaffnkgpdhhaaGreat
open Go.RowKit Go.Lib
set_option linter.unusedVariables false
set_option maxRecDepth 100000

def put4 (w : World) (b : Nat) (x1 x2 x3 x4 : Value) : World := (((w.setCell ⟨b, 0, none⟩ x1).setCell ⟨b, 1, none⟩ x2).setCell ⟨b, 2, none⟩ x3).setCell ⟨b, 3, none⟩ x4
theorem put4_chg (w : World) (b : Nat) (x1 x2 x3 x4 : Value) : Chg (· = b) w (put4 w b x1 x2 x3 x4) :=
  ((((Chg.refl (· = b) w).setCell (p := ⟨b, 0, none⟩) rfl _).setCell (p := ⟨b, 1, none⟩) rfl _).setCell (p := ⟨b, 2, none⟩) rfl _).setCell (p := ⟨b, 3, none⟩) rfl _
theorem put4_box {w : World} {b : Nat} {y1 y2 y3 y4 : Value} (h : Box w b [y1, y2, y3, y4]) (x1 x2 x3 x4 : Value) : Box (put4 w b x1 x2 x3 x4) b [x1, x2, x3, x4] :=
  (((h.set 0 x1 (by simp)).set 1 x2 (by simp)).set 2 x3 (by simp)).set 3 x4 (by simp)
theorem put4_ok {w w2 : World} {b : Nat} {y1 y2 y3 y4 : Value} (hb : Below w.heap.size w w2) (hB : w.heap.size ≤ b) (hx : Box w2 b [y1, y2, y3, y4]) (x1 x2 x3 x4 : Value) :
    ((put4 w2 b x1 x2 x3 x4).cell? ⟨b, 0, none⟩ = some x1 ∧ (put4 w2 b x1 x2 x3 x4).cell? ⟨b, 1, none⟩ = some x2 ∧ (put4 w2 b x1 x2 x3 x4).cell? ⟨b, 2, none⟩ = some x3 ∧ (put4 w2 b x1 x2 x3 x4).cell? ⟨b, 3, none⟩ = some x4) ∧ Below w.heap.size w (put4 w2 b x1 x2 x3 x4) :=
  ⟨(put4_box hx x1 x2 x3 x4).c4.2, hb.trans ((put4_chg w2 b x1 x2 x3 x4).below hb.size (fun k hk => by omega))⟩
theorem Box.f4 {w : World} {b : Nat} {v0 v1 v2 v3 : Value} (h : Box w b [v0, v1, v2, v3]) : (w.frozen? ⟨b, 0, none⟩ = false ∧ w.frozen? ⟨b, 1, none⟩ = false ∧ w.frozen? ⟨b, 2, none⟩ = false ∧ w.frozen? ⟨b, 3, none⟩ = false) ∧ b < w.heap.size ∧ w.cell? ⟨b, 0, none⟩ = some v0 ∧ w.cell? ⟨b, 1, none⟩ = some v1 ∧ w.cell? ⟨b, 2, none⟩ = some v2 ∧ w.cell? ⟨b, 3, none⟩ = some v3 :=
  ⟨⟨h.2.2 0, h.2.2 1, h.2.2 2, h.2.2 3⟩, h.c4⟩

/-- The value v is a key's bytes: none, or a block of its own. -/
def KY (w : World) (v : Value) (l : List UInt8) : Prop := (v = .slice none 0 0 ∧ l = []) ∨ ∃ g cap, v = .slice (some ⟨g, 0, none⟩) l.length cap ∧ l.length ≤ cap ∧ Wr w g l
theorem KY_nil (w : World) : KY w (.slice none 0 0) [] := .inl ⟨rfl, rfl⟩
theorem KY.below {w w' : World} {v : Value} {l : List UInt8} (h : KY w v l) (hb : Below w.heap.size w w') : KY w' v l := by
  rcases h with h | ⟨g, cap, h1, h2, h3⟩
  · exact .inl h
  · exact .inr ⟨g, cap, h1, h2, h3.below hb⟩
theorem Wr.take {w : World} {g : Nat} {m : List UInt8} (h : Wr w g m) (c : Nat) : Wr w g (m.take c) :=
  ⟨h.1, fun j hj => by
    have hj' : j < m.length := by rw [List.length_take] at hj; omega
    rw [List.getElem_take]
    exact h.2 j hj'⟩
theorem KY.chg {w w' : World} {v : Value} {l : List UInt8} {S : Nat → Prop} (h : KY w v l) (hc : Chg S w w') (hs : ∀ g n c, v = .slice (some ⟨g, 0, none⟩) n c → ¬ S g) : KY w' v l := by
  rcases h with h | ⟨g, cap, h1, h2, h3⟩
  · exact .inl h
  · refine .inr ⟨g, cap, h1, h2, Nat.lt_of_lt_of_le h3.1 hc.size, fun j hj => ?_⟩
    have hb := hc.block g h3.1 (hs g _ _ h1)
    obtain ⟨a, b⟩ := h3.2 j hj
    constructor
    · rw [← a]; simp [World.cell?, hb]
    · rw [← b]; simp [World.frozen?, hb]
theorem KY_conv {w : World} {v : Value} {l : List UInt8} (h : KY w v l) : (convert 22 9 v).run Tryz.prog w = .ok (.string (tx l)) w := by
  rcases h with ⟨rfl, rfl⟩ | ⟨g, cap, rfl, h2, h3⟩
  · rw [run_convert_bytes_string w 22 9 5 none 0 0 Tryz.underlying22 Tryz.underlying5 Tryz.underlying9]
    rfl
  · exact conv_wr h3 rfl
theorem Wr_new (w : World) (l : List UInt8) (z : Array Value) : Wr (w.drew.alloc (.cells ((bcs l).toArray ++ z) 5)) w.heap.size l := by
  have hb := Box.new w.drew ((bcs l).toArray ++ z) 5
  refine ⟨by simp, fun j hj => ⟨?_, hb.2.2 j⟩⟩
  refine hb.2.1 j _ ?_
  rw [Array.toList_append, List.getElem?_append_left (by simp [bcs, hj])]
  simp [bcs, hj]
theorem strCells_bcs (s : ByteArray) : strCells s = bcs (bl s) := rfl
/-- 'append(key[:c:c], t...)' with something in t, the key a block of its own. -/
theorem KY_grow {w : World} {g cap c : Nat} {l : List UInt8} (h : Wr w g l) (hc : c ≤ l.length) (t : ByteArray) (ht : 0 < t.size) (hs : c + t.size ≤ 4194304) (ty : TypeId) :
    ∃ v' w', (Builtin.append_ #[22, 9] ty #[.slice (some ⟨g, 0, none⟩) c c, .string t]).run Tryz.prog w = .ok v' w' ∧ KY w' v' (l.take c ++ bl t) ∧ Below w.heap.size w w' := by
  obtain ⟨i0, hi, hz0, hzs, hzb⟩ := info_parts Tryz.info5
  have hlen : (l.take c).length = c := by rw [List.length_take]; omega
  have hn : Builtin.nextslicecap (c + t.size) c * i0.bytes ≤ 281474976710656 := by
    rw [hzb, Nat.mul_one]
    have := nextslicecap_le (need := c + t.size) (old := c) (by omega)
    omega
  have hr := run_append_grow_string (P := Tryz.prog) w 22 9 ty 5 i0 (.int .u8 0) Tryz.underlying22 Tryz.underlying9 hi hz0 ⟨g, 0, none⟩ c c (bcs (l.take c)) (by rw [bcs_length, hlen, hzs, Nat.mul_one]) (by
    intro j u hj
    have hj' : j < (l.take c).length := by have := (List.getElem?_eq_some_iff.1 hj).1; rwa [bcs_length] at this
    rw [show (⟨g, 0, none⟩ : Addr).add j = ⟨g, j, none⟩ from by simp [Addr.add]; omega, ((h.take c).2 j hj').1]
    rw [← hj, bcs, List.getElem?_map, List.getElem?_eq_getElem hj']; rfl) t (by omega) (by omega) hn
  refine ⟨_, _, hr, ?_, (Below.refl _ _).drew.alloc (Nat.le_refl _) _⟩
  refine Or.inr ⟨w.heap.size, grownCap w (c + t.size) c 5, ?_, ?_, ?_⟩
  · rw [List.length_append, hlen, bl_len]
  · rw [List.length_append, hlen, bl_len]; exact grownCap_ge w _ _ _
  · rw [strCells_bcs]
    have : (bcs (l.take c)).toArray ++ (bcs (bl t)).toArray = (bcs (l.take c ++ bl t)).toArray := by rw [bcs_append]; simp
    rw [this]
    exact Wr_new w _ _
/-- .. with something in t, no key ahead. -/
theorem KY_first (w : World) (t : ByteArray) (ht : 0 < t.size) (hs : t.size ≤ 4194304) (ty : TypeId) :
    ∃ v' w', (Builtin.append_ #[22, 9] ty #[.slice none 0 0, .string t]).run Tryz.prog w = .ok v' w' ∧ KY w' v' (bl t) ∧ Below w.heap.size w w' := by
  obtain ⟨i0, hi, hz0, hzs, hzb⟩ := info_parts Tryz.info5
  have hr := run_append_nil_string (P := Tryz.prog) w 22 9 ty 5 i0 (.int .u8 0) Tryz.underlying22 Tryz.underlying9 hi hz0 t ht (by omega) (by rw [hzb]; omega)
  refine ⟨_, _, hr, ?_, (Below.refl _ _).drew.alloc (Nat.le_refl _) _⟩
  refine Or.inr ⟨w.heap.size, grownCap w t.size 0 5, ?_, ?_, ?_⟩
  · rw [bl_len]
  · rw [bl_len]; exact grownCap_ge w _ _ _
  · have : t.data.map (fun b => Value.int .u8 b.toNat) = (bcs (bl t)).toArray := by apply Array.ext'; simp [bcs, bl]
    rw [this]
    exact Wr_new w _ _
/-- .. with nothing in t. -/
theorem KY_none {w : World} {g c : Nat} {l : List UInt8} (h : Wr w g l) (hc : c ≤ l.length) (t : ByteArray) (ht : t.size = 0) (ty : TypeId) :
    (Builtin.append_ #[22, 9] ty #[.slice (some ⟨g, 0, none⟩) c c, .string t]).run Tryz.prog w = .ok (.slice (some ⟨g, 0, none⟩) c c) w ∧ KY w (.slice (some ⟨g, 0, none⟩) c c) (l.take c ++ bl t) := by
  obtain ⟨i0, hi, hz0, hzs, hzb⟩ := info_parts Tryz.info5
  have hlen : (l.take c).length = c := by rw [List.length_take]; omega
  have hbt : bl t = [] := List.eq_nil_of_length_eq_zero (by rw [bl_len]; exact ht)
  constructor
  · have hf := run_firstCells_string (P := Tryz.prog) w 1 t
    rw [ht] at hf
    have hst : strCells t = [] := by rw [strCells_bcs, hbt]; rfl
    rw [hst] at hf
    simp [Builtin.append_, run_underlying Tryz.underlying22, run_underlying Tryz.underlying9, sizeOf, typeInfo, hi, hzs, Builtin.lenOf, ht, hf, storeCells]
  · rw [hbt, List.append_nil]
    exact .inr ⟨g, c, by rw [hlen], by omega, h.take c⟩
theorem KY_none2 (w : World) (t : ByteArray) (ht : t.size = 0) (ty : TypeId) :
    (Builtin.append_ #[22, 9] ty #[.slice none 0 0, .string t]).run Tryz.prog w = .ok (.slice none 0 0) w ∧ KY w (.slice none 0 0) (bl t) := by
  obtain ⟨i0, hi, hz0, hzs, hzb⟩ := info_parts Tryz.info5
  have hbt : bl t = [] := List.eq_nil_of_length_eq_zero (by rw [bl_len]; exact ht)
  constructor
  · have hf := run_firstCells_string (P := Tryz.prog) w 1 t
    rw [ht] at hf
    have hst : strCells t = [] := by rw [strCells_bcs, hbt]; rfl
    rw [hst] at hf
    simp [Builtin.append_, run_underlying Tryz.underlying22, run_underlying Tryz.underlying9, sizeOf, typeInfo, hi, hzs, Builtin.lenOf, ht, hf]
  · exact .inl ⟨rfl, hbt⟩
/-- '[]byte(s)'. -/
theorem KY_bytes (s : ByteArray) (w : World) : ∃ v W', (convert 9 22 (.string s)).run Tryz.prog w = .ok v W' ∧ KY W' v (bl s) ∧ Below w.heap.size w W' := by
  obtain ⟨cap, W', h1, h2, h3⟩ := bytes_of s w
  have hr := run_bytes_of_string (P := Tryz.prog) w 9 22 5 s Tryz.underlying9 Tryz.underlying22 Tryz.underlying5
  rw [h1] at hr
  injection hr with hv hw
  refine ⟨_, _, h1, .inr ⟨w.heap.size, cap, by rw [bl_len], ?_, h2⟩, h3⟩
  rw [bl_len]
  injection hv with _ _ hcap
  rw [hcap]
  exact grownCap_ge w _ _ _
end Go.Proofs.YtfdaffnkgpdhhaaGreat
