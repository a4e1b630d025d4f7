/-
  Places of an index in rows of cells; the texts of a table's parts: impl.placeText, the four text methods.
  A builder of text and slices.Compact, laid at this program from the shelf.
  The parts of a table, and their bytes one behind the other: impl.bytesOf.
-/
import Derived.Test.YtfdaffnkgpdhhaaGreatP7
import Derived.Test.YtfdaffnkgpdhhaaGreatBx
import Derived.Test.YtfdaffnkgpdhhaaGreatM1
import Derived.BigQuiet
import Derived.Test.YtfdaffnkgpdhhaaGreatH1
import Derived.RangeFuncBox
import Derived.Lib.AppendStr
import Derived.Shelf.Lay
import Derived.Shelf.Strings.Builder1
import Derived.Shelf.Slices.Cells
import Derived.Laws.OwnMore
import Derived.Deep.AppendLies
import Derived.Ground.NamesProg
namespace Go.Proofs.YtfdaffnkgpdhhaaGreat
open Go.RowKit
set_option linter.unusedVariables false
set_option maxRecDepth 100000

/-- A place of an index. -/
structure Pl where
  k : ByteArray
  n : Int
  a : Int
  z : Int
def Pl.zero : Pl := ⟨⟨#[]⟩, 0, 0, 0⟩
instance : Inhabited Pl := ⟨Pl.zero⟩
def flatP : List Pl → List Value
  | [] => []
  | x :: r => .string x.k :: .int .i64 x.n :: .int .i64 x.a :: .int .i64 x.z :: flatP r
theorem flatP_length (l : List Pl) : (flatP l).length = l.length * 4 := by
  induction l with
  | nil => rfl
  | cons x r ih => simp [flatP, ih]; omega
theorem flatP_append (l m : List Pl) : flatP (l ++ m) = flatP l ++ flatP m := by
  induction l with
  | nil => rfl
  | cons x r ih => simp [flatP, ih]
theorem flatP_get (l : List Pl) (i : Nat) (h : i < l.length) : (flatP l)[i * 4]? = some (.string l[i].k) ∧ (flatP l)[i * 4 + 1]? = some (.int .i64 l[i].n) ∧ (flatP l)[i * 4 + 2]? = some (.int .i64 l[i].a) ∧ (flatP l)[i * 4 + 3]? = some (.int .i64 l[i].z) := by
  induction l generalizing i with
  | nil => simp at h
  | cons x r ih =>
    cases i with
    | zero => exact ⟨rfl, rfl, rfl, rfl⟩
    | succ i =>
      have := ih i (by simpa using h)
      rw [show (i + 1) * 4 = i * 4 + 4 from by omega]
      exact this
/-- A slice of places. -/
def PR (w : World) (v : Value) (l : List Pl) : Prop :=
  ∃ a cap, v = .slice a l.length cap ∧ (l ≠ [] → ∃ b off, a = some ⟨b, off, none⟩ ∧ b < w.heap.size ∧ ∀ i (h : i < l.length), w.cell? ⟨b, off + i * 4, none⟩ = some (.string l[i].k) ∧ w.cell? ⟨b, off + i * 4 + 1, none⟩ = some (.int .i64 l[i].n) ∧ w.cell? ⟨b, off + i * 4 + 2, none⟩ = some (.int .i64 l[i].a) ∧ w.cell? ⟨b, off + i * 4 + 3, none⟩ = some (.int .i64 l[i].z))
theorem PR.below {w w' : World} {v : Value} {l : List Pl} (h : PR w v l) (hb : Below w.heap.size w w') : PR w' v l := by
  obtain ⟨a, cap, rfl, hc⟩ := h
  refine ⟨a, cap, rfl, fun hne => ?_⟩
  obtain ⟨b, off, rfl, hlt, hcell⟩ := hc hne
  refine ⟨b, off, rfl, Nat.lt_of_lt_of_le hlt hb.size, fun i hi => ?_⟩
  obtain ⟨h0, h1, h2, h3⟩ := hcell i hi
  exact ⟨(hb.cell (p := ⟨b, _, none⟩) hlt).trans h0, (hb.cell (p := ⟨b, _, none⟩) hlt).trans h1, (hb.cell (p := ⟨b, _, none⟩) hlt).trans h2, (hb.cell (p := ⟨b, _, none⟩) hlt).trans h3⟩
theorem PR_nil (w : World) : PR w (.slice none 0 0) [] := ⟨none, 0, rfl, fun h => absurd rfl h⟩
theorem PR_of_owns {w : World} {base n : Nat} {e : TypeId} {v : Value} {l : List Pl} (h : w.ownsRow base e 4 v n (flatP l)) (hn : n = l.length) : PR w v l := by
  subst hn
  rcases h.2 with ⟨rfl, h0⟩ | ⟨g, cap, cur, rfl, hb, hg, hcap, hm, hs, ht⟩
  · have : l = [] := List.eq_nil_of_length_eq_zero h0
    subst this
    exact PR_nil w
  · refine ⟨some ⟨g, 0, none⟩, cap, rfl, fun hne => ⟨g, 0, rfl, (Array.getElem?_eq_some_iff.1 hg).1, fun i hi => ?_⟩⟩
    obtain ⟨h0, h1, h2, h3⟩ := flatP_get l i hi
    have hc : ∀ j, j < l.length * 4 → w.cell? ⟨g, j, none⟩ = (flatP l)[j]? := fun j hj => h.cellAt j hj
    simp only [Nat.zero_add]
    exact ⟨by rw [hc _ (by omega), h0], by rw [hc _ (by omega), h1], by rw [hc _ (by omega), h2], by rw [hc _ (by omega), h3]⟩

/-- The bytes of a place, of places. -/
def plT (p : Pl) : List UInt8 := varL p.k.size ++ bl p.k ++ varL p.n.toNat ++ varL p.a.toNat ++ varL p.z.toNat
def catP : List Pl → Nat → List UInt8
  | _, 0 => []
  | l, i + 1 => catP l i ++ plT (l.getD i default)
/-- The place of the block at i; all of them. -/
def plc (l : List It) (i : Nat) : Pl := ⟨(lastI l i).k, (lastI l i).n, ((bsL l i).length : Nat), ((blkL (chk l i)).length : Nat)⟩
def plsL (l : List It) (n : Nat) : List Pl := (List.range n).map (plc l)
theorem plT_plc (l : List It) (i : Nat) : plT (plc l i) = plcL l i := by simp [plT, plc, plcL]
theorem plsL_succ (l : List It) (n : Nat) : plsL l (n + 1) = plsL l n ++ [plc l n] := by simp [plsL, List.range_succ]
theorem plsL_len (l : List It) (n : Nat) : (plsL l n).length = n := by simp [plsL]
theorem catP_pls (l : List It) (n : Nat) : ∀ i, i ≤ n → catP (plsL l n) i = ixL l i := by
  intro i
  induction i with
  | zero => intro _; rfl
  | succ i ih =>
    intro hi
    rw [catP, ih (by omega), ixL, ← plT_plc]
    congr 2
    simp [plsL, List.getD_eq_getElem?_getD, List.getElem?_map, List.getElem?_range (show i < n by omega)]
/-- A place whose numbers have bytes. -/
def okPl (p : Pl) : Prop := p.k.size ≤ 16 ∧ 0 ≤ p.n ∧ p.n ≤ 1000000000 ∧ 0 ≤ p.a ∧ p.a ≤ 65535 ∧ 0 ≤ p.z ∧ p.z ≤ 65535
theorem plT_len {p : Pl} (h : okPl p) : (plT p).length ≤ 35 := by
  obtain ⟨h0, h1, h2, h3, h4, h5, h6⟩ := h
  have v1 := varL_len 0 p.k.size (by simp; omega)
  have v2 := varL_len 4 p.n.toNat (by simp; omega)
  have v3 := varL_len 2 p.a.toNat (by simp; omega)
  have v4 := varL_len 2 p.z.toNat (by simp; omega)
  simp only [plT, List.length_append, bl_len]
  omega
theorem catP_len (l : List Pl) (h : ∀ i, i < l.length → okPl (l.getD i default)) : ∀ i, i ≤ l.length → (catP l i).length ≤ 35 * i := by
  intro i
  induction i with
  | zero => intro _; simp [catP]
  | succ i ih =>
    intro hi
    have := ih (by omega)
    have := plT_len (h i (by omega))
    simp only [catP, List.length_append]; omega

theorem tx_cat3 (a b c d e : List UInt8) : tx a ++ tx b ++ (tx c ++ tx d) ++ tx e = tx (a ++ b ++ c ++ d ++ e) := by
  rw [tx_cat, tx_cat, tx_cat, tx_cat]; simp
set_option maxHeartbeats 1000000 in
theorem placeText_any (p : Pl) (w : World) (hp : okPl p) :
    Calls Tryz.prog 159 #[.agg #[.string p.k, .int .i64 p.n, .int .i64 p.a, .int .i64 p.z]] w fun e w' => e = .returned (.string (tx (plT p))) ∧ Below w.heap.size w w' := by
  obtain ⟨h0, h1, h2, h3, h4, h5, h6⟩ := hp
  obtain ⟨k, n, a, z⟩ := p
  dsimp only at *
  obtain ⟨n, rfl⟩ := Int.eq_ofNat_of_zero_le h1
  obtain ⟨a, rfl⟩ := Int.eq_ofNat_of_zero_le h3
  obtain ⟨z, rfl⟩ := Int.eq_ofNat_of_zero_le h5
  have HF : Hid (tx (plT ⟨k, (n : Int), (a : Int), (z : Int)⟩) = tx (varL k.size) ++ k ++ (tx (varL n) ++ tx (varL a)) ++ tx (varL z)) := by
    show _ = _
    rw [← tx_bl k, tx_cat3]; simp [plT, bl_tx, tx_size, bl_len]
  generalize tx (plT ⟨k, (n : Int), (a : Int), (z : Int)⟩) = R at *
  have e1 : (tx (varL k.size)).size ≤ 9 := by rw [tx_size]; exact varL_len 8 _ (by simp; omega)
  have e2 : (tx (varL n) ++ tx (varL a)).size ≤ 18 := by
    have b1 : (varL n).length ≤ 9 := varL_len 8 n (by simp; omega)
    have b2 : (varL a).length ≤ 9 := varL_len 8 a (by simp; omega)
    rw [ByteArray.size_append, tx_size, tx_size]; omega
  have e3 : (tx (varL z)).size ≤ 9 := by rw [tx_size]; exact varL_len 8 _ (by simp; omega)
  have KV := fun (n : Nat) (h : n ≤ 1000000000) w => implVar_any (n : Int) w (by omega) (by omega)
  have KT := fun w => twoNumbers_any n a w (by omega) (by omega)
  have X0 := Box.new w #[.string k, .int .i64 (n : Int), .int .i64 (a : Int), .int .i64 (z : Int)] 50
  have hb0 := below_alloc w (.cells #[.string k, .int .i64 (n : Int), .int .i64 (a : Int), .int .i64 (z : Int)] 50)
  have hk1 : k.size ≤ 1000000000 := by omega
  have hz1 : z ≤ 1000000000 := by omega
  go_enter Tryz.func159, Tryz.ntmps159
  go_wp2_with fail
  refine (KV k.size hk1 _).mono ?_
  rw [varT_nat]
  rintro e w1 ⟨rfl, hb1⟩
  have X1 := X0.below hb1
  have hB1 := below_then hb0 hb1
  clear X0 hb0 hb1
  obtain ⟨_, x0, x1, x2, x3⟩ := X1.c4
  generalize tx (varL n) ++ tx (varL a) = A at *
  have et : (⟨(varL k.size).toArray⟩ : ByteArray) = tx (varL k.size) := rfl
  rw [et]
  generalize tx (varL k.size) = K at *
  clear et
  go_wp2_with fail
  refine (KV z hz1 _).mono ?_
  rw [varT_nat]
  rintro e w2 ⟨rfl, hb2⟩
  have et : (⟨(varL z).toArray⟩ : ByteArray) = tx (varL z) := rfl
  rw [et]
  generalize tx (varL z) = Z at *
  have X2 := X1.below hb2
  have hB2 := below_then hB1 hb2
  clear X1 hB1 hb2 x0 x1 x2 x3 et KV
  have hz2 := hB2.size
  have p0 := fun x : WC w2.heap.size w2 => (X2.below x.ok).2.1 0 _ rfl
  have p1 := fun x : WC w2.heap.size w2 => (X2.below x.ok).2.1 1 _ rfl
  have p2 := fun x : WC w2.heap.size w2 => (X2.below x.ok).2.1 2 _ rfl
  have hne : Nonempty (WC w2.heap.size w2) := ⟨⟨_, Below.refl _ _⟩⟩
  go_wp2_with fail
  refine wp_region_calm (B := w2.heap.size) (W := w2) (by kernel_rfl) (by kernel_rfl) (Below.refl _ _) ?_
  repeat (go_big_quiet_step (first | (go_at_call 130; with_reducible exact calm_of_below (Nat.le_refl _) (KT _))))
  refine wpQuiet_nil ?_
  intro _ hw'
  obtain ⟨x, hx⟩ := hw'
  subst hx
  have hB3 := hB2.trans (x.ok.mono hz2)
  go_wp2
  go_ret
  exact ⟨by rw [HF.out]; rfl, hB3⟩

/-- The texts of the parts. -/
theorem blockText_any (v : Value) (s : ByteArray) (w : World) :
    Calls Tryz.prog 161 #[.agg #[v, .string s]] w fun e w' => e = .returned (.string s) ∧ Below w.heap.size w w' := by
  have hb0 := below_alloc w (.cells #[v, .string s] 104)
  go_enter Tryz.func161, Tryz.ntmps161
  go_wp2
  go_ret
  exact ⟨rfl, hb0⟩
theorem filterText_any (n m : Int) (s : ByteArray) (w : World) (hs : s.size ≤ 1000) :
    Calls Tryz.prog 162 #[.agg #[.int .i64 n, .string s, .int .i64 m]] w fun e w' => e = .returned (.string (frameT s)) ∧ Below w.heap.size w w' := by
  have hb0 := below_alloc w (.cells #[.int .i64 n, .string s, .int .i64 m] 105)
  have KF := fun w => implFrame_any s w (by unfold maxLen; omega)
  go_enter Tryz.func162, Tryz.ntmps162
  go_wp2_with fail
  refine (KF _).mono ?_
  rintro e w1 ⟨rfl, hb1⟩
  have hB1 := below_then hb0 hb1
  go_wp2
  go_ret
  exact ⟨rfl, hB1⟩
set_option maxHeartbeats 1000000 in
theorem endText_any (n : Nat) (w : World) (hn : n < 4294967296) :
    Calls Tryz.prog 163 #[.int .i64 n] w fun e w' => e = .returned (.string (tx (endL n))) ∧ Below w.heap.size w w' := by
  have HF : Hid (tx (endL n) = tx (wordL n) ++ tx (wordL (csum (wordL n)))) := by show _ = _; rw [tx_cat]; rfl
  have KW := fun w => wordBytes_any n w hn
  have KS := fun w => implSum_any (tx (wordL n)) w (by rw [tx_size]; show 4 ≤ _; omega)
  have KW2 := fun w => wordBytes_any (csum (wordL n)) w (csum_lt _)
  have e1 : (tx (wordL n)).size = 4 := rfl
  have e2 : (tx (wordL (csum (wordL n)))).size = 4 := rfl
  change ∀ w, Calls _ _ _ w fun e w' => e = .returned (.string (tx (wordL n))) ∧ _ at KW
  change ∀ w, Calls _ _ _ w fun e w' => e = .returned (.int .u32 ((csum (wordL n) : Nat) : Int)) ∧ _ at KS
  change ∀ w, Calls _ _ _ w fun e w' => e = .returned (.string (tx (wordL (csum (wordL n))))) ∧ _ at KW2
  generalize tx (endL n) = R at *
  generalize csum (wordL n) = c at *
  generalize tx (wordL c) = C at *
  generalize tx (wordL n) = N at *
  go_enter Tryz.func163, Tryz.ntmps163
  go_wp2_with fail
  refine (KW _).mono ?_
  rintro e w1 ⟨rfl, hb1⟩
  go_wp2_with fail
  refine (KS _).mono ?_
  rintro e w2 ⟨rfl, hb2⟩
  go_wp2_with fail
  refine (KW2 _).mono ?_
  rintro e w3 ⟨rfl, hb3⟩
  go_wp2
  go_ret
  exact ⟨by rw [HF.out]; rfl, below_then (below_then hb1 hb2) hb3⟩
theorem catP_succ_tx (l : List Pl) (i : Nat) : tx (catP l (i + 1)) = tx (catP l i) ++ tx (plT (l.getD i default)) := by rw [tx_cat]; rfl
set_option maxHeartbeats 2000000 in
theorem indexText_any (v : Value) (l : List Pl) (w : World) (hv : PR w v l) (hn : l.length ≤ 28) (ho : ∀ i, i < l.length → okPl (l.getD i default)) :
    Calls Tryz.prog 158 #[v] w fun e w' => e = .returned (.string (frameT (tx (catP l l.length)))) ∧ Below w.heap.size w w' := by
  obtain ⟨a, cap, rfl, hc⟩ := hv
  have hlen := catP_len l ho
  have KF := fun w => implFrame_any (tx (catP l l.length)) w (by rw [tx_size]; have := hlen _ (Nat.le_refl _); unfold maxLen; omega)
  have hR : Hid (catP l 0 = []) := rfl
  go_enter Tryz.func158, Tryz.ntmps158
  go_wp2_with fail
  go_loopw [3, 10] (fun sv i wr => ∃ k : Nat, k ≤ l.length ∧ sv = .string (tx (catP l k)) ∧ i = .int .i64 k ∧ Below w.heap.size w wr) (fun _ i _ => l.length - (intOf i).toNat)
  case atStart => exact ⟨0, Nat.zero_le _, rfl, rfl, Below.refl _ _⟩
  case round =>
    obtain ⟨k, hk, rfl, rfl, hB⟩ := hrel
    by_cases hlt : k < l.length
    · obtain ⟨b, off, rfl, hbl, hcell⟩ := hc (by intro e; simp [e] at hlt)
      obtain ⟨c0, c1, c2, c3⟩ := hcell k hlt
      have d0 := (hB.cell (p := ⟨b, _, none⟩) hbl).trans c0
      have d1 := (hB.cell (p := ⟨b, _, none⟩) hbl).trans c1
      have d2 := (hB.cell (p := ⟨b, _, none⟩) hbl).trans c2
      have d3 := (hB.cell (p := ⟨b, _, none⟩) hbl).trans c3
      have hok := ho k hlt
      have hsz1 : (tx (catP l k)).size ≤ 35 * k := by rw [tx_size]; exact hlen k hk
      have hsz2 : (tx (plT (l.getD k default))).size ≤ 35 := by rw [tx_size]; exact plT_len hok
      have HS : Hid (tx (catP l (k + 1)) = tx (catP l k) ++ tx (plT (l.getD k default))) := catP_succ_tx l k
      have KP := fun w => placeText_any (l.getD k default) w hok
      have hg : l.getD k default = l[k] := by rw [List.getD_eq_getElem?_getD, List.getElem?_eq_getElem hlt]; rfl
      rw [hg] at KP HS hsz2
      clear hcell c0 c1 c2 c3 hc hlen KF hR hg hok ho
      obtain ⟨p, hp⟩ : ∃ p, p = l[k] := ⟨_, rfl⟩
      rw [← hp] at KP HS hsz2 d0 d1 d2 d3
      clear hp
      obtain ⟨pk, pn, pa, pz⟩ := p
      dsimp only at d0 d1 d2 d3 KP
      generalize tx (plT ⟨pk, pn, pa, pz⟩) = T at *
      generalize tx (catP l k) = S at *
      obtain ⟨W0, hW0⟩ : ∃ W0, W0 = wr.alloc (.cells #[.string pk, .int .i64 pn, .int .i64 pa, .int .i64 pz] 50) := ⟨_, rfl⟩
      have X0 : Box W0 wr.heap.size [.string pk, .int .i64 pn, .int .i64 pa, .int .i64 pz] := by rw [hW0]; exact Box.new wr #[.string pk, .int .i64 pn, .int .i64 pa, .int .i64 pz] 50
      have hB0 : Below w.heap.size w W0 := by rw [hW0]; exact hB.alloc hB.size _
      obtain ⟨_, x0, x1, x2, x3⟩ := X0.c4
      rw [hW0] at x0 x1 x2 x3
      go_wp2_with fail
      rw [← hW0]; clear hW0 x0 x1 x2 x3
      refine (KP _).mono ?_
      rintro e w2 ⟨rfl, hb2⟩
      have hB2 := below_then hB0 hb2
      clear KP hB0 hb2 X0 d0 d1 d2 d3 hB
      go_wp2
      go_roundw
      case rel => exact ⟨k + 1, by omega, by rw [HS.out], by go_num, hB2⟩
      case measure => simp [intOf]; omega
    · obtain rfl : k = l.length := by omega
      clear hc hlen ho
      go_wp2_with fail
      refine (KF _).mono ?_
      rintro e w2 ⟨rfl, hb2⟩
      have hB2 := below_then hB hb2
      go_wp2
      go_ret
      exact ⟨rfl, hB2⟩
end Go.Proofs.YtfdaffnkgpdhhaaGreat

namespace Go.Proofs
open Go.Shelf Go.RowKit Go.Lib Go.Sort
shelf_lay Lays.n169 Nm 169 at Tryz as Tryz.laysSt
shelf_lay Lays.n194 Nm 194 at Tryz as Tryz.laysCo
set_option maxRecDepth 100000
theorem Tryz.extraSt : Builder.Extra Tryz.prog Tryz.laysSt_ren where
  sizeBuilder := by kernel_rfl
  liesBuilder := by kernel_rfl
  t5 := Tryz.underlying5
  a5 := Tryz.isAgg5
  z5 := Tryz.sizeOf5
  v5 := Tryz.zeroValue5
  infoByte := by kernel_rfl
  cellsByte := by kernel_rfl
  sizeByte := by kernel_rfl
  neB5 := by decide
namespace YtfdaffnkgpdhhaaGreat
set_option linter.unusedVariables false
set_option maxRecDepth 100000

theorem Tryz.size109 : (Tryz.prog.info? 109).map (·.size) = some 2 := by kernel_rfl
theorem Tryz.lies109 : liesAt Tryz.prog Tryz.prog.depth 109 (2 / Tryz.prog.cellsOf 109) 0 109 1 = true := by kernel_rfl
set_option maxHeartbeats 1000000 in
theorem copyUsed_any (b : Nat) (w : World) (h0 : w.cell? ⟨b, 0, none⟩ = some (.pointer (some ⟨b, 0, none⟩))) :
    Calls Tryz.prog 111 #[.pointer (some ⟨b, 0, none⟩)] w fun e w' => e = .returned (.tuple #[]) ∧ w' = w := by
  obtain ⟨j, hj, _⟩ := Option.map_eq_some_iff.1 Tryz.size109
  go_enter Tryz.func111, Tryz.ntmps111
  go_wp2
  rw [Lib.run_neq_ptr_same w _ Tryz.underlying107 hj]
  go_wp2
  go_end0
  exact ⟨rfl, rfl⟩
set_option maxHeartbeats 1000000 in
theorem copyFresh_any (b : Nat) (w : World) (h0 : w.cell? ⟨b, 0, none⟩ = some (.pointer none)) (hsh : w.shape? b = some (109, 2)) (hfz : w.frozen? ⟨b, 0, none⟩ = false) :
    Calls Tryz.prog 111 #[.pointer (some ⟨b, 0, none⟩)] w fun e w' => e = .returned (.tuple #[]) ∧ w' = w.setCell ⟨b, 0, none⟩ (.pointer (some ⟨b, 0, none⟩)) := by
  obtain ⟨j, hj, hjs⟩ := Option.map_eq_some_iff.1 Tryz.size109
  go_enter Tryz.func111, Tryz.ntmps111
  go_wp2
  rw [Lib.run_to_unsafe w ⟨b, 0, none⟩ Tryz.underlying107 Tryz.underlying167 hj (by rw [hjs]; decide) hsh (Nat.zero_lt_succ 1)]
  simp only [Result.andThen]
  rw [Oper.upon_value]
  go_wp2
  rw [run_callFunc_extern Tryz.func133 (by kernel_rfl) (by kernel_rfl) (by kernel_rfl) (e := Extern.AbiNoEscape.same) (by kernel_rfl)]
  rw [Lib.run_noEscape]
  simp only [Result.andThen]
  rw [Oper.upon_value]
  go_wp2
  rw [Lib.run_from_unsafe w ⟨b, 0, none⟩ Tryz.underlying167 Tryz.underlying107 hj hsh Tryz.lies109]
  simp only [Result.andThen]
  rw [Oper.upon_value]
  go_wp2
  go_end0
  exact ⟨rfl, rfl⟩
theorem copyCheck_any (B b : Nat) (bs : List Value) (w : World) (h : Lib.IsBuilder 109 5 B b bs w) :
    Calls Tryz.prog 111 #[.pointer (some ⟨b, 0, none⟩)] w fun e w' => e = .returned (.tuple #[]) ∧ (Lib.BuilderAt 109 5 B b (.pointer (some ⟨b, 0, none⟩)) bs w' ∧ Below B w w') := by
  rcases h with h | h
  · refine (copyFresh_any b w h.cell0 h.shape h.frozen0).mono ?_
    rintro e w' ⟨rfl, rfl⟩
    exact ⟨rfl, h.used _, (Below.refl B w).setCell (p := ⟨b, 0, none⟩) h.1 _⟩
  · refine (copyUsed_any b w h.cell0).mono ?_
    rintro e w' ⟨rfl, rfl⟩
    exact ⟨rfl, h, Below.refl B _⟩
set_option maxHeartbeats 2000000 in
theorem writeString_any (B b : Nat) (bs : List Value) (s : ByteArray) (w : World) (h : Lib.IsBuilder 109 5 B b bs w) (hlen : bs.length + s.size ≤ 1073741824) (hBw : B ≤ w.heap.size) :
    Calls Tryz.prog 70 #[.pointer (some ⟨b, 0, none⟩), .string s] w fun e w' => e = .returned (.tuple #[.int .i64 s.size, .nilIface]) ∧ (Lib.BuilderAt 109 5 B b (.pointer (some ⟨b, 0, none⟩)) (bs ++ Lib.strCells s) w' ∧ Below B w w') := by
  obtain ⟨i0, hi, hz0, hz1, hz2⟩ := info_parts Tryz.info5
  go_enter Tryz.func70, Tryz.ntmps70
  go_wp2_with fail
  refine (copyCheck_any B b bs _ h).mono ?_
  rintro e w1 ⟨rfl, h1, hb1⟩
  obtain ⟨hB, v, hbk, hown, hne⟩ := h1
  have c0 : w1.cell? ⟨b, 0, none⟩ = some (.pointer (some ⟨b, 0, none⟩)) := by rw [Lib.cell_of_heap hbk]; rfl
  have c1 : w1.cell? ⟨b, 1, none⟩ = some v := by rw [Lib.cell_of_heap hbk]; rfl
  have hz1w := hb1.size
  clear h
  go_wp2_with (at_builtin; refine Lib.wpList_append_own_string _ rfl _ _ 22 9 rfl B 5 i0 Tryz.underlying22 Tryz.underlying9 hi hz0 hz1 hz2 _ _ _ rfl hown s rfl ?c3 ?c4 ?c5 ?_)
  case c3 => unfold maxLen; omega
  case c4 => omega
  case c5 => omega
  intro v' w2 hown' hgrow _
  have hlt : b < w1.heap.size := by
    rcases Nat.lt_or_ge b w1.heap.size with h' | h'
    · exact h'
    · simp [Array.getElem?_eq_none h'] at hbk
  have hb2 : w2.heap[b]? = some (.cells #[.pointer (some ⟨b, 0, none⟩), v] 109 (0, 0)) := by
    rw [hgrow.block b hlt (fun e => hne e.symm)]
    exact hbk
  have d0 : w2.cell? ⟨b, 0, none⟩ = some (.pointer (some ⟨b, 0, none⟩)) := by rw [Lib.cell_of_heap hb2]; rfl
  have d1 : w2.cell? ⟨b, 1, none⟩ = some v := by rw [Lib.cell_of_heap hb2]; rfl
  have f1 : w2.frozen? ⟨b, 1, none⟩ = false := Lib.frozen_of_heap hb2 1
  obtain ⟨ao, n', cap, rfl⟩ : ∃ ao n' cap, v' = .slice ao n' cap := by
    rcases hown'.2 with ⟨hv, _⟩ | ⟨g, cap, cur, hv, _⟩
    · exact ⟨_, _, _, hv⟩
    · exact ⟨_, _, _, hv⟩
  go_wp2
  go_ret2
  refine ⟨rfl, ?_, ?_⟩
  · exact Lib.BuilderAt.put (T := 109) (e := 5) hB hb2 (bs' := bs ++ Lib.strCells s) (by simpa [Lib.strCells_length] using hown') (by decide)
  · exact (hb1.grown hgrow (by omega) (fun k hk => (hown.lt k hk).1)).setCell (p := ⟨b, 1, none⟩) hB _
theorem builderString_any (B b : Nat) (l : List UInt8) (w : World) (h : Lib.IsBuilder 109 5 B b (Lib.byteCells l) w) (hBw : B ≤ w.heap.size) :
    Calls Tryz.prog 71 #[.pointer (some ⟨b, 0, none⟩)] w fun e w' => e = .returned (.string ⟨l.toArray⟩) ∧ Below B w w' :=
  Any.Builder_String_any Tryz.laysSt Tryz.extraSt B b l w h hBw
theorem builder_new (w : World) : Lib.IsBuilder 109 5 w.heap.size w.heap.size [] (w.alloc (.cells #[.pointer none, .slice none 0 0] 109)) := by
  refine .inl ⟨Nat.le_refl _, .slice none 0 0, (World.alloc_heap_new w _), World.ownsRow_nil _ _ _ _, by simp [Value.ownBlock]⟩

/-- The keys with no two alike side by side. -/
def uniqL : List ByteArray → Nat → List ByteArray
  | l, 0 => []
  | l, i + 1 => uniqL l i ++ (if i = 0 ∨ l.getD (i - 1) ⟨#[]⟩ ≠ l.getD i ⟨#[]⟩ then [l.getD i ⟨#[]⟩] else [])
theorem uniq_len (l : List ByteArray) (i : Nat) : (uniqL l i).length ≤ i := by
  induction i with
  | zero => simp [uniqL]
  | succ i ih => unfold uniqL; rw [List.length_append]; split <;> simp <;> omega
theorem ba_data_inj {a b : ByteArray} (h : a.data.toList = b.data.toList) : a = b := ByteArray.ext (Array.toList_inj.1 h)
theorem compact_uniq (l : List ByteArray) : Lib.compact (Lib.strsOf (fun i => l.getD i ⟨#[]⟩) l.length) = (uniqL l l.length).map (fun s => s.data.toList) := by
  have key : ∀ i, i ≤ l.length → Lib.compactUpTo (Lib.strsOf (fun i => l.getD i ⟨#[]⟩) l.length).toArray i = (uniqL l i).map (fun s => s.data.toList) := by
    intro i
    induction i with
    | zero => intro _; simp [Lib.compactUpTo, uniqL]
    | succ i ih =>
      intro hi
      have hat : ∀ j, j < l.length → (Lib.strsOf (fun i => l.getD i ⟨#[]⟩) l.length).toArray[j]! = (l.getD j ⟨#[]⟩).data.toList := by
        intro j hj
        simp [Lib.strsOf, hj]
      have hk : Lib.keeps (Lib.strsOf (fun i => l.getD i ⟨#[]⟩) l.length).toArray i = decide (i = 0 ∨ l.getD (i - 1) ⟨#[]⟩ ≠ l.getD i ⟨#[]⟩) := by
        unfold Lib.keeps
        rw [hat i (by omega), hat (i - 1) (by omega), decide_eq_decide]
        constructor
        · rintro (h | h)
          · exact .inl h
          · exact .inr fun e => h (by rw [e])
        · rintro (h | h)
          · exact .inl h
          · exact .inr fun e => h (ba_data_inj e.symm)
      rw [Lib.compactUpTo_succ, ih (by omega), uniqL, List.map_append, hk, hat i (by omega)]
      congr 1
      by_cases h : i = 0 ∨ l.getD (i - 1) ⟨#[]⟩ ≠ l.getD i ⟨#[]⟩
      · rw [decide_eq_true h, if_pos rfl, if_pos h]; rfl
      · rw [decide_eq_false h, if_neg h]; rfl
  have h1 := Lib.strsOf_length (fun i => l.getD i (⟨#[]⟩ : ByteArray)) l.length
  unfold Lib.compact
  rw [h1]
  exact key _ (Nat.le_refl _)

theorem below_cells {B : Nat} {a : World} (b : Nat) (hb : B ≤ b) : ∀ (vs : List Value) (o : Nat) {w : World}, Below B a w → Below B a (w.setCells b o vs)
  | [], _, _, h => h
  | v :: r, o, _, h => below_cells b hb r (o + 1) (h.setCell (p := ⟨b, o, none⟩) hb v)
theorem below_dn {B : Nat} {a w : World} (h : Below B a w) (n : Nat) : Below B a (w.drewN n) := h.trans ⟨rfl, rfl, rfl, Nat.le_refl _, fun _ _ => rfl⟩
theorem compact_any (base : Nat) (v : Value) (l : List ByteArray) (w : World) (hv : w.ownsRow base 9 1 v l.length (l.map Value.string)) (hl : l.length ≤ 1048576) :
    Calls Tryz.prog 110 #[v] w fun e w' => ∃ v', e = .returned v' ∧ SL w' v' (uniqL l l.length) ∧ Below base w w' := by
  by_cases h0 : l = []
  · subst h0
    rcases hv.2 with ⟨rfl, _⟩ | ⟨g, cap, cur, rfl, hb, hg, hc⟩
    · refine (Any.slices_Compact_string_empty Tryz.laysCo none 0 w).mono ?_
      rintro e w' ⟨rfl, rfl⟩
      exact ⟨_, rfl, ⟨none, 0, rfl, fun h => absurd rfl h⟩, Below.refl _ _⟩
    · refine (Any.slices_Compact_string_empty Tryz.laysCo _ cap w).mono ?_
      rintro e w' ⟨rfl, rfl⟩
      exact ⟨_, rfl, ⟨_, cap, rfl, fun h => absurd rfl h⟩, Below.refl _ _⟩
  · obtain ⟨g, cap, rfl, hgb, hlt⟩ := hv.form (by cases l with | nil => exact absurd rfl h0 | cons a r => simp)
    have hcp : l.length ≤ cap := by
      rcases hv.2 with ⟨h, _⟩ | ⟨g', cap', cur, h, hb, hg, hc, _⟩
      · cases h
      · cases h; exact hc
    have hcell : ∀ i, i < l.length → w.cell? ⟨g, 0 + i, none⟩ = some (.string (l.getD i ⟨#[]⟩)) := by
      intro i hi
      rw [Nat.zero_add, hv.cellAt i (by omega)]
      simp [hi]
    have hfz : ∀ i, i < l.length → w.frozen? ⟨g, 0 + i, none⟩ = false := fun i _ => hv.frozenAt _
    refine (Any.slices_Compact_string_cells Tryz.laysCo g 0 l.length cap (fun i => l.getD i ⟨#[]⟩) w (by omega) hcp hcell hfz).mono ?_
    rintro e w' ⟨rfl, q, rfl⟩
    rw [compact_uniq]
    have hul := uniq_len l l.length
    refine ⟨_, rfl, ⟨some ⟨g, 0, none⟩, cap, by rw [List.length_map], fun _ => ⟨g, 0, rfl, ?_, ?_⟩⟩, ?_⟩
    · exact Nat.lt_of_lt_of_le hlt (below_cells g hgb _ _ (below_dn (Below.refl base w) q)).size
    · intro i hi
      have hlen : i < (((uniqL l l.length).map (fun s : ByteArray => s.data.toList) ++ List.replicate (l.length - ((uniqL l l.length).map (fun s : ByteArray => s.data.toList)).length) []).map encStr).length := by simp; omega
      rw [World.cell?_setCells_in g _ 0 (w.drewN q) (by
        intro j hj
        have hj' : j < l.length := by simp at hj; omega
        show (w.cell? ⟨g, 0 + j, none⟩).isSome = true
        rw [hcell j hj']; rfl) i hlen]
      congr 1
      rw [List.getElem_map, List.getElem_append_left (by simpa using hi), List.getElem_map]
    · exact below_cells g hgb _ _ (below_dn (Below.refl base w) q)
end YtfdaffnkgpdhhaaGreat
end Go.Proofs

namespace Go.Proofs.YtfdaffnkgpdhhaaGreat
open Go.RowKit
set_option linter.unusedVariables false
set_option maxRecDepth 100000

/-- A part: a block's items and bytes, an index, a filter, where the index begins. -/
inductive Part where
  | blk (v : Value) (l : List It) (s : ByteArray)
  | idx (v : Value) (l : List Pl)
  | flt (n : Int) (s : ByteArray) (m : Int)
  | fin (n : Nat)
def encP : Part → Value
  | .blk v _ s => .iface 104 (.agg #[v, .string s])
  | .idx v _ => .iface 99 v
  | .flt n s m => .iface 105 (.agg #[.int .i64 n, .string s, .int .i64 m])
  | .fin n => .iface 106 (.int .i64 (n : Nat))
def txP : Part → ByteArray
  | .blk _ _ s => s
  | .idx _ l => frameT (tx (catP l l.length))
  | .flt _ s _ => frameT s
  | .fin n => tx (endL n)
def okP (w : World) : Part → Prop
  | .blk v l s => IR w v l ∧ s.size ≤ 1000
  | .idx v l => PR w v l ∧ l.length ≤ 28 ∧ ∀ i, i < l.length → okPl (l.getD i default)
  | .flt _ s _ => s.size ≤ 1000
  | .fin n => n < 4294967296
theorem okP.below {w w' : World} {p : Part} (h : okP w p) (hb : Below w.heap.size w w') : okP w' p := by
  cases p with
  | blk v l s => exact ⟨h.1.below hb, h.2⟩
  | idx v l => exact ⟨h.1.below hb, h.2⟩
  | flt n s m => exact h
  | fin n => exact h
def catT : List Part → Nat → List UInt8
  | _, 0 => []
  | l, i + 1 => catT l i ++ bl (txP (l.getD i (.fin 0)))
theorem frameT_size (s : ByteArray) (h : s.size ≤ 1000) : (frameT s).size ≤ 1013 := by
  unfold frameT
  rw [if_pos h]
  have h1 : (varL s.data.toList.length).length ≤ 9 := varL_len 8 _ (by simp; omega)
  have h2 : s.data.toList.length = s.size := by simp
  show (frameL s.data.toList).toArray.size ≤ 1013
  simp only [frameL, List.size_toArray, List.length_append, wordL, List.length_cons, List.length_nil]
  omega
theorem txP_size {w : World} {p : Part} (h : okP w p) : (txP p).size ≤ 1013 := by
  cases p with
  | blk v l s => have := h.2; show s.size ≤ 1013; omega
  | idx v l =>
    have := catP_len l h.2.2 _ (Nat.le_refl _)
    have := h.2.1
    exact frameT_size _ (by rw [tx_size]; omega)
  | flt n s m => exact frameT_size _ h
  | fin n => show (tx (endL n)).size ≤ 1013; rw [tx_size, endL_len]; omega
theorem catT_len {w : World} (l : List Part) (h : ∀ i, i < l.length → okP w (l.getD i (.fin 0))) : ∀ i, i ≤ l.length → (catT l i).length ≤ 1013 * i := by
  intro i
  induction i with
  | zero => intro _; simp [catT]
  | succ i ih =>
    intro hi
    have := ih (by omega)
    have := txP_size (h i (by omega))
    simp only [catT, List.length_append, bl_len]; omega
/-- A slice of parts. -/
def QR (w : World) (v : Value) (l : List Part) : Prop :=
  ∃ a cap, v = .slice a l.length cap ∧ (l ≠ [] → ∃ b off, a = some ⟨b, off, none⟩ ∧ b < w.heap.size ∧ ∀ i (h : i < l.length), w.cell? ⟨b, off + i, none⟩ = some (encP l[i]))
theorem QR.below {w w' : World} {v : Value} {l : List Part} (h : QR w v l) (hb : Below w.heap.size w w') : QR w' v l := by
  obtain ⟨a, cap, rfl, hc⟩ := h
  refine ⟨a, cap, rfl, fun hne => ?_⟩
  obtain ⟨b, off, rfl, hlt, hcell⟩ := hc hne
  exact ⟨b, off, rfl, Nat.lt_of_lt_of_le hlt hb.size, fun i hi => (hb.cell (p := ⟨b, _, none⟩) hlt).trans (hcell i hi)⟩
theorem QR_nil (w : World) : QR w (.slice none 0 0) [] := ⟨none, 0, rfl, fun h => absurd rfl h⟩
theorem QR_of_owns {w : World} {base n : Nat} {e : TypeId} {v : Value} {l : List Part} (h : w.ownsRow base e 1 v n (l.map encP)) (hn : n = l.length) : QR w v l := by
  subst hn
  rcases h.2 with ⟨rfl, h0⟩ | ⟨g, cap, cur, rfl, hb, hg, hcap, hm, hs, ht⟩
  · have : l = [] := List.eq_nil_of_length_eq_zero h0
    subst this
    exact QR_nil w
  · refine ⟨some ⟨g, 0, none⟩, cap, rfl, fun hne => ⟨g, 0, rfl, (Array.getElem?_eq_some_iff.1 hg).1, fun i hi => ?_⟩⟩
    rw [Nat.zero_add, h.cellAt i (by omega)]
    simp [hi]

theorem builder_below {T e : TypeId} {B b : Nat} {bs : List Value} {w w' : World} (h : Lib.IsBuilder T e B b bs w) (hb : Below w.heap.size w w') : Lib.IsBuilder T e B b bs w' := by
  have key : ∀ p, Lib.BuilderAt T e B b p bs w → Lib.BuilderAt T e B b p bs w' := by
    rintro p ⟨h1, v, h2, h3, h4⟩
    exact ⟨h1, v, (hb.block b (Array.getElem?_eq_some_iff.1 h2).1).trans h2, owns_below h3 hb, h4⟩
  rcases h with h | h
  · exact .inl (key _ h)
  · exact .inr (key _ h)
theorem cells_cat (a : List UInt8) (s : ByteArray) : Lib.byteCells a ++ Lib.strCells s = Lib.byteCells (a ++ bl s) := by simp [Lib.byteCells, Lib.strCells, bl]
theorem Tryz.method104 (v : Value) (s : ByteArray) (w : World) : (method 190 104 (.agg #[v, .string s]) "loop.example/g00224/impl.text").run Tryz.prog w = .ok (161, .agg #[v, .string s]) w := by kernel_rfl
theorem Tryz.method99 (v : Value) (w : World) : (method 190 99 v "loop.example/g00224/impl.text").run Tryz.prog w = .ok (158, v) w := by kernel_rfl
theorem Tryz.method105 (n m : Int) (s : ByteArray) (w : World) : (method 190 105 (.agg #[.int .i64 n, .string s, .int .i64 m]) "loop.example/g00224/impl.text").run Tryz.prog w = .ok (162, .agg #[.int .i64 n, .string s, .int .i64 m]) w := by kernel_rfl
theorem Tryz.method106 (n : Int) (w : World) : (method 190 106 (.int .i64 n) "loop.example/g00224/impl.text").run Tryz.prog w = .ok (163, .int .i64 n) w := by kernel_rfl

set_option maxHeartbeats 4000000 in
theorem bytesOf_any (v : Value) (l : List Part) (w : World) (hv : QR w v l) (hn : l.length ≤ 100) (ho : ∀ i, i < l.length → okP w (l.getD i (.fin 0))) :
    Calls Tryz.prog 34 #[v] w fun e w' => e = .returned (.string (tx (catT l l.length))) ∧ Below w.heap.size w w' := by
  obtain ⟨a, cap, rfl, hc⟩ := hv
  have hlen := catT_len l ho
  have N0 := builder_new w
  have hb0 := below_alloc w (.cells #[.pointer none, .slice none 0 0] 109)
  go_enter Tryz.func34, Tryz.ntmps34
  go_wp2_with fail
  go_loopw [8] (fun i wr => ∃ k : Nat, k ≤ l.length ∧ i = .int .i64 k ∧ Lib.IsBuilder 109 5 w.heap.size w.heap.size (Lib.byteCells (catT l k)) wr ∧ Below w.heap.size w wr) (fun i _ => l.length - (intOf i).toNat)
  case atStart => exact ⟨0, Nat.zero_le _, rfl, N0, hb0⟩
  case round =>
    obtain ⟨k, hk, rfl, N, hB⟩ := hrel
    clear N0 hb0
    have hzB := hB.size
    by_cases hlt : k < l.length
    · obtain ⟨b, off, rfl, hbl, hcell⟩ := hc (by intro e; simp [e] at hlt)
      have d0 := (hB.cell (p := ⟨b, _, none⟩) hbl).trans (hcell k hlt)
      have hok := (ho k hlt).below hB
      have hsz1 : (catT l k).length ≤ 1013 * k := hlen k hk
      have hsz2 := txP_size hok
      have hg : l.getD k (.fin 0) = l[k] := by rw [List.getD_eq_getElem?_getD, List.getElem?_eq_getElem hlt]; rfl
      have HS : Hid (catT l (k + 1) = catT l k ++ bl (txP l[k])) := by show _ = _; rw [← hg]; rfl
      rw [hg] at hok hsz2
      clear hcell hc hlen hg ho
      have KW : Hid (∀ w2 : World, Lib.IsBuilder 109 5 w.heap.size w.heap.size (Lib.byteCells (catT l k)) w2 → w.heap.size ≤ w2.heap.size → Calls Tryz.prog 70 #[.pointer (some ⟨w.heap.size, 0, none⟩), .string (txP l[k])] w2 fun e w' => (∃ z, e = .returned (.tuple #[z, .nilIface])) ∧ Lib.IsBuilder 109 5 w.heap.size w.heap.size (Lib.byteCells (catT l (k + 1))) w' ∧ Below w.heap.size w2 w') := by
        intro w2 h hz
        refine (writeString_any w.heap.size w.heap.size _ (txP l[k]) w2 h (by simp only [Lib.byteCells, List.length_map]; omega) hz).mono ?_
        rintro e w' ⟨rfl, h1, h2⟩
        refine ⟨⟨_, rfl⟩, ?_, h2⟩
        rw [cells_cat, ← HS.out] at h1
        exact .inr h1
      obtain ⟨p, hp⟩ : ∃ p, p = l[k] := ⟨_, rfl⟩
      rw [← hp] at KW d0 hok
      clear hp HS hsz1 hsz2
      have fin : ∀ w3, Lib.IsBuilder 109 5 w.heap.size w.heap.size (Lib.byteCells (catT l (k + 1))) w3 → Below w.heap.size w w3 → True := fun _ _ _ => trivial
      clear fin
      cases p with
      | blk v' m s =>
        have hm := Tryz.method104 v' s
        have KT := fun w => blockText_any v' s w
        simp only [encP, txP] at d0 KW
        go_wp2_with fail
        refine (KT _).mono ?_
        rintro e w2 ⟨rfl, hb2⟩
        have N2 := builder_below N hb2
        have hB2 := below_then hB hb2
        clear N hB hb2 d0 KT
        go_wp2_with fail
        refine (KW.out _ N2 hB2.size).mono ?_
        rintro e w3 ⟨⟨z, rfl⟩, N3, hb3⟩
        have hB3 := hB2.trans hb3
        clear N2 hB2 hb3 KW
        go_wp2
        go_roundw
        case rel => exact ⟨k + 1, by omega, by go_num, N3, hB3⟩
        case measure => simp [intOf]; omega
      | idx v' m =>
        have hm := Tryz.method99 v'
        have KT := fun w h => indexText_any v' m w h hok.2.1 hok.2.2
        have hPR := hok.1
        simp only [encP, txP] at d0 KW
        go_wp2_with fail
        refine (KT _ hPR).mono ?_
        rintro e w2 ⟨rfl, hb2⟩
        have N2 := builder_below N hb2
        have hB2 := below_then hB hb2
        clear N hB hb2 d0 KT hPR hok
        go_wp2_with fail
        refine (KW.out _ N2 hB2.size).mono ?_
        rintro e w3 ⟨⟨z, rfl⟩, N3, hb3⟩
        have hB3 := hB2.trans hb3
        clear N2 hB2 hb3 KW
        go_wp2
        go_roundw
        case rel => exact ⟨k + 1, by omega, by go_num, N3, hB3⟩
        case measure => simp [intOf]; omega
      | flt n s m =>
        have hm := Tryz.method105 n m s
        have KT := fun w => filterText_any n m s w hok
        simp only [encP, txP] at d0 KW
        go_wp2_with fail
        refine (KT _).mono ?_
        rintro e w2 ⟨rfl, hb2⟩
        have N2 := builder_below N hb2
        have hB2 := below_then hB hb2
        clear N hB hb2 d0 KT
        go_wp2_with fail
        refine (KW.out _ N2 hB2.size).mono ?_
        rintro e w3 ⟨⟨z, rfl⟩, N3, hb3⟩
        have hB3 := hB2.trans hb3
        clear N2 hB2 hb3 KW
        go_wp2
        go_roundw
        case rel => exact ⟨k + 1, by omega, by go_num, N3, hB3⟩
        case measure => simp [intOf]; omega
      | fin n =>
        have hm := Tryz.method106 n
        have KT := fun w => endText_any n w hok
        simp only [encP, txP] at d0 KW
        go_wp2_with fail
        refine (KT _).mono ?_
        rintro e w2 ⟨rfl, hb2⟩
        have N2 := builder_below N hb2
        have hB2 := below_then hB hb2
        clear N hB hb2 d0 KT
        go_wp2_with fail
        refine (KW.out _ N2 hB2.size).mono ?_
        rintro e w3 ⟨⟨z, rfl⟩, N3, hb3⟩
        have hB3 := hB2.trans hb3
        clear N2 hB2 hb3 KW
        go_wp2
        go_roundw
        case rel => exact ⟨k + 1, by omega, by go_num, N3, hB3⟩
        case measure => simp [intOf]; omega
    · obtain rfl : k = l.length := by omega
      clear hc hlen ho
      have KS := fun w1 h => builderString_any w.heap.size w.heap.size (catT l l.length) w1 h
      go_wp2_with fail
      refine (KS _ N hzB).mono ?_
      rintro e w2 ⟨rfl, hb2⟩
      have hB2 := hB.trans hb2
      go_wp2
      go_ret
      exact ⟨rfl, hB2⟩
end Go.Proofs.YtfdaffnkgpdhhaaGreat

