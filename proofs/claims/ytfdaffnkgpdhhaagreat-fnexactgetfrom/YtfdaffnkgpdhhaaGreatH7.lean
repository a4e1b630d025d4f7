/-
  Places of an index in rows of cells; the texts of a table's parts: impl.placeText, the four text methods.
-/
import Derived.Test.YtfdaffnkgpdhhaaGreatP7
import Derived.Test.YtfdaffnkgpdhhaaGreatBx
import Derived.Test.YtfdaffnkgpdhhaaGreatM1
import Derived.BigQuiet
namespace Go.Proofs.YtfdaffnkgpdhhaaGreat
open Go.RowKit
set_option linter.unusedVariables false
set_option maxRecDepth 100000

/-- A place of an index. -/
structure Pl where
  k : ByteArray
  n : Int
  a : Int
  z : Int
def Pl.zero : Pl := ⟨⟨#[]⟩, 0, 0, 0⟩
instance : Inhabited Pl := ⟨Pl.zero⟩
def flatP : List Pl → List Value
  | [] => []
  | x :: r => .string x.k :: .int .i64 x.n :: .int .i64 x.a :: .int .i64 x.z :: flatP r
theorem flatP_length (l : List Pl) : (flatP l).length = l.length * 4 := by
  induction l with
  | nil => rfl
  | cons x r ih => simp [flatP, ih]; omega
theorem flatP_append (l m : List Pl) : flatP (l ++ m) = flatP l ++ flatP m := by
  induction l with
  | nil => rfl
  | cons x r ih => simp [flatP, ih]
theorem flatP_get (l : List Pl) (i : Nat) (h : i < l.length) : (flatP l)[i * 4]? = some (.string l[i].k) ∧ (flatP l)[i * 4 + 1]? = some (.int .i64 l[i].n) ∧ (flatP l)[i * 4 + 2]? = some (.int .i64 l[i].a) ∧ (flatP l)[i * 4 + 3]? = some (.int .i64 l[i].z) := by
  induction l generalizing i with
  | nil => simp at h
  | cons x r ih =>
    cases i with
    | zero => exact ⟨rfl, rfl, rfl, rfl⟩
    | succ i =>
      have := ih i (by simpa using h)
      rw [show (i + 1) * 4 = i * 4 + 4 from by omega]
      exact this
/-- A slice of places. -/
def PR (w : World) (v : Value) (l : List Pl) : Prop :=
  ∃ a cap, v = .slice a l.length cap ∧ (l ≠ [] → ∃ b off, a = some ⟨b, off, none⟩ ∧ b < w.heap.size ∧ ∀ i (h : i < l.length), w.cell? ⟨b, off + i * 4, none⟩ = some (.string l[i].k) ∧ w.cell? ⟨b, off + i * 4 + 1, none⟩ = some (.int .i64 l[i].n) ∧ w.cell? ⟨b, off + i * 4 + 2, none⟩ = some (.int .i64 l[i].a) ∧ w.cell? ⟨b, off + i * 4 + 3, none⟩ = some (.int .i64 l[i].z))
theorem PR.below {w w' : World} {v : Value} {l : List Pl} (h : PR w v l) (hb : Below w.heap.size w w') : PR w' v l := by
  obtain ⟨a, cap, rfl, hc⟩ := h
  refine ⟨a, cap, rfl, fun hne => ?_⟩
  obtain ⟨b, off, rfl, hlt, hcell⟩ := hc hne
  refine ⟨b, off, rfl, Nat.lt_of_lt_of_le hlt hb.size, fun i hi => ?_⟩
  obtain ⟨h0, h1, h2, h3⟩ := hcell i hi
  exact ⟨(hb.cell (p := ⟨b, _, none⟩) hlt).trans h0, (hb.cell (p := ⟨b, _, none⟩) hlt).trans h1, (hb.cell (p := ⟨b, _, none⟩) hlt).trans h2, (hb.cell (p := ⟨b, _, none⟩) hlt).trans h3⟩
theorem PR_nil (w : World) : PR w (.slice none 0 0) [] := ⟨none, 0, rfl, fun h => absurd rfl h⟩
theorem PR_of_owns {w : World} {base n : Nat} {e : TypeId} {v : Value} {l : List Pl} (h : w.ownsRow base e 4 v n (flatP l)) (hn : n = l.length) : PR w v l := by
  subst hn
  rcases h.2 with ⟨rfl, h0⟩ | ⟨g, cap, cur, rfl, hb, hg, hcap, hm, hs, ht⟩
  · have : l = [] := List.eq_nil_of_length_eq_zero h0
    subst this
    exact PR_nil w
  · refine ⟨some ⟨g, 0, none⟩, cap, rfl, fun hne => ⟨g, 0, rfl, (Array.getElem?_eq_some_iff.1 hg).1, fun i hi => ?_⟩⟩
    obtain ⟨h0, h1, h2, h3⟩ := flatP_get l i hi
    have hc : ∀ j, j < l.length * 4 → w.cell? ⟨g, j, none⟩ = (flatP l)[j]? := fun j hj => h.cellAt j hj
    simp only [Nat.zero_add]
    exact ⟨by rw [hc _ (by omega), h0], by rw [hc _ (by omega), h1], by rw [hc _ (by omega), h2], by rw [hc _ (by omega), h3]⟩

/-- The bytes of a place, of places. -/
def plT (p : Pl) : List UInt8 := varL p.k.size ++ bl p.k ++ varL p.n.toNat ++ varL p.a.toNat ++ varL p.z.toNat
def catP : List Pl → Nat → List UInt8
  | _, 0 => []
  | l, i + 1 => catP l i ++ plT (l.getD i default)
/-- The place of the block at i; all of them. -/
def plc (l : List It) (i : Nat) : Pl := ⟨(lastI l i).k, (lastI l i).n, ((bsL l i).length : Nat), ((blkL (chk l i)).length : Nat)⟩
def plsL (l : List It) (n : Nat) : List Pl := (List.range n).map (plc l)
theorem plT_plc (l : List It) (i : Nat) : plT (plc l i) = plcL l i := by simp [plT, plc, plcL]
theorem plsL_succ (l : List It) (n : Nat) : plsL l (n + 1) = plsL l n ++ [plc l n] := by simp [plsL, List.range_succ]
theorem plsL_len (l : List It) (n : Nat) : (plsL l n).length = n := by simp [plsL]
theorem catP_pls (l : List It) (n : Nat) : ∀ i, i ≤ n → catP (plsL l n) i = ixL l i := by
  intro i
  induction i with
  | zero => intro _; rfl
  | succ i ih =>
    intro hi
    rw [catP, ih (by omega), ixL, ← plT_plc]
    congr 2
    simp [plsL, List.getD_eq_getElem?_getD, List.getElem?_map, List.getElem?_range (show i < n by omega)]
/-- A place whose numbers have bytes. -/
def okPl (p : Pl) : Prop := p.k.size ≤ 16 ∧ 0 ≤ p.n ∧ p.n ≤ 1000000000 ∧ 0 ≤ p.a ∧ p.a ≤ 65535 ∧ 0 ≤ p.z ∧ p.z ≤ 65535
theorem plT_len {p : Pl} (h : okPl p) : (plT p).length ≤ 35 := by
  obtain ⟨h0, h1, h2, h3, h4, h5, h6⟩ := h
  have v1 := varL_len 0 p.k.size (by simp; omega)
  have v2 := varL_len 4 p.n.toNat (by simp; omega)
  have v3 := varL_len 2 p.a.toNat (by simp; omega)
  have v4 := varL_len 2 p.z.toNat (by simp; omega)
  simp only [plT, List.length_append, bl_len]
  omega
theorem catP_len (l : List Pl) (h : ∀ i, i < l.length → okPl (l.getD i default)) : ∀ i, i ≤ l.length → (catP l i).length ≤ 35 * i := by
  intro i
  induction i with
  | zero => intro _; simp [catP]
  | succ i ih =>
    intro hi
    have := ih (by omega)
    have := plT_len (h i (by omega))
    simp only [catP, List.length_append]; omega

theorem tx_cat3 (a b c d e : List UInt8) : tx a ++ tx b ++ (tx c ++ tx d) ++ tx e = tx (a ++ b ++ c ++ d ++ e) := by
  rw [tx_cat, tx_cat, tx_cat, tx_cat]; simp
set_option maxHeartbeats 1000000 in
theorem placeText_any (p : Pl) (w : World) (hp : okPl p) :
    Calls Tryz.prog 159 #[.agg #[.string p.k, .int .i64 p.n, .int .i64 p.a, .int .i64 p.z]] w fun e w' => e = .returned (.string (tx (plT p))) ∧ Below w.heap.size w w' := by
  obtain ⟨h0, h1, h2, h3, h4, h5, h6⟩ := hp
  obtain ⟨k, n, a, z⟩ := p
  dsimp only at *
  obtain ⟨n, rfl⟩ := Int.eq_ofNat_of_zero_le h1
  obtain ⟨a, rfl⟩ := Int.eq_ofNat_of_zero_le h3
  obtain ⟨z, rfl⟩ := Int.eq_ofNat_of_zero_le h5
  have HF : Hid (tx (plT ⟨k, (n : Int), (a : Int), (z : Int)⟩) = tx (varL k.size) ++ k ++ (tx (varL n) ++ tx (varL a)) ++ tx (varL z)) := by
    show _ = _
    rw [← tx_bl k, tx_cat3]; simp [plT, bl_tx, tx_size, bl_len]
  generalize tx (plT ⟨k, (n : Int), (a : Int), (z : Int)⟩) = R at *
  have e1 : (tx (varL k.size)).size ≤ 9 := by rw [tx_size]; exact varL_len 8 _ (by simp; omega)
  have e2 : (tx (varL n) ++ tx (varL a)).size ≤ 18 := by
    have b1 : (varL n).length ≤ 9 := varL_len 8 n (by simp; omega)
    have b2 : (varL a).length ≤ 9 := varL_len 8 a (by simp; omega)
    rw [ByteArray.size_append, tx_size, tx_size]; omega
  have e3 : (tx (varL z)).size ≤ 9 := by rw [tx_size]; exact varL_len 8 _ (by simp; omega)
  have KV := fun (n : Nat) (h : n ≤ 1000000000) w => implVar_any (n : Int) w (by omega) (by omega)
  have KT := fun w => twoNumbers_any n a w (by omega) (by omega)
  have X0 := Box.new w #[.string k, .int .i64 (n : Int), .int .i64 (a : Int), .int .i64 (z : Int)] 50
  have hb0 := below_alloc w (.cells #[.string k, .int .i64 (n : Int), .int .i64 (a : Int), .int .i64 (z : Int)] 50)
  have hk1 : k.size ≤ 1000000000 := by omega
  have hz1 : z ≤ 1000000000 := by omega
  go_enter Tryz.func159, Tryz.ntmps159
  go_wp2_with fail
  refine (KV k.size hk1 _).mono ?_
  rw [varT_nat]
  rintro e w1 ⟨rfl, hb1⟩
  have X1 := X0.below hb1
  have hB1 := below_then hb0 hb1
  clear X0 hb0 hb1
  obtain ⟨_, x0, x1, x2, x3⟩ := X1.c4
  generalize tx (varL n) ++ tx (varL a) = A at *
  have et : (⟨(varL k.size).toArray⟩ : ByteArray) = tx (varL k.size) := rfl
  rw [et]
  generalize tx (varL k.size) = K at *
  clear et
  go_wp2_with fail
  refine (KV z hz1 _).mono ?_
  rw [varT_nat]
  rintro e w2 ⟨rfl, hb2⟩
  have et : (⟨(varL z).toArray⟩ : ByteArray) = tx (varL z) := rfl
  rw [et]
  generalize tx (varL z) = Z at *
  have X2 := X1.below hb2
  have hB2 := below_then hB1 hb2
  clear X1 hB1 hb2 x0 x1 x2 x3 et KV
  have hz2 := hB2.size
  have p0 := fun x : WC w2.heap.size w2 => (X2.below x.ok).2.1 0 _ rfl
  have p1 := fun x : WC w2.heap.size w2 => (X2.below x.ok).2.1 1 _ rfl
  have p2 := fun x : WC w2.heap.size w2 => (X2.below x.ok).2.1 2 _ rfl
  have hne : Nonempty (WC w2.heap.size w2) := ⟨⟨_, Below.refl _ _⟩⟩
  go_wp2_with fail
  refine wp_region_calm (B := w2.heap.size) (W := w2) (by kernel_rfl) (by kernel_rfl) (Below.refl _ _) ?_
  repeat (go_big_quiet_step (first | (go_at_call 130; with_reducible exact calm_of_below (Nat.le_refl _) (KT _))))
  refine wpQuiet_nil ?_
  intro _ hw'
  obtain ⟨x, hx⟩ := hw'
  subst hx
  have hB3 := hB2.trans (x.ok.mono hz2)
  go_wp2
  go_ret
  exact ⟨by rw [HF.out]; rfl, hB3⟩

/-- The texts of the parts. -/
theorem blockText_any (v : Value) (s : ByteArray) (w : World) :
    Calls Tryz.prog 161 #[.agg #[v, .string s]] w fun e w' => e = .returned (.string s) ∧ Below w.heap.size w w' := by
  have hb0 := below_alloc w (.cells #[v, .string s] 104)
  go_enter Tryz.func161, Tryz.ntmps161
  go_wp2
  go_ret
  exact ⟨rfl, hb0⟩
theorem filterText_any (n m : Int) (s : ByteArray) (w : World) (hs : s.size ≤ 1000) :
    Calls Tryz.prog 162 #[.agg #[.int .i64 n, .string s, .int .i64 m]] w fun e w' => e = .returned (.string (frameT s)) ∧ Below w.heap.size w w' := by
  have hb0 := below_alloc w (.cells #[.int .i64 n, .string s, .int .i64 m] 105)
  have KF := fun w => implFrame_any s w (by unfold maxLen; omega)
  go_enter Tryz.func162, Tryz.ntmps162
  go_wp2_with fail
  refine (KF _).mono ?_
  rintro e w1 ⟨rfl, hb1⟩
  have hB1 := below_then hb0 hb1
  go_wp2
  go_ret
  exact ⟨rfl, hB1⟩
set_option maxHeartbeats 1000000 in
theorem endText_any (n : Nat) (w : World) (hn : n < 4294967296) :
    Calls Tryz.prog 163 #[.int .i64 n] w fun e w' => e = .returned (.string (tx (endL n))) ∧ Below w.heap.size w w' := by
  have HF : Hid (tx (endL n) = tx (wordL n) ++ tx (wordL (csum (wordL n)))) := by show _ = _; rw [tx_cat]; rfl
  have KW := fun w => wordBytes_any n w hn
  have KS := fun w => implSum_any (tx (wordL n)) w (by rw [tx_size]; show 4 ≤ _; omega)
  have KW2 := fun w => wordBytes_any (csum (wordL n)) w (csum_lt _)
  have e1 : (tx (wordL n)).size = 4 := rfl
  have e2 : (tx (wordL (csum (wordL n)))).size = 4 := rfl
  change ∀ w, Calls _ _ _ w fun e w' => e = .returned (.string (tx (wordL n))) ∧ _ at KW
  change ∀ w, Calls _ _ _ w fun e w' => e = .returned (.int .u32 ((csum (wordL n) : Nat) : Int)) ∧ _ at KS
  change ∀ w, Calls _ _ _ w fun e w' => e = .returned (.string (tx (wordL (csum (wordL n))))) ∧ _ at KW2
  generalize tx (endL n) = R at *
  generalize csum (wordL n) = c at *
  generalize tx (wordL c) = C at *
  generalize tx (wordL n) = N at *
  go_enter Tryz.func163, Tryz.ntmps163
  go_wp2_with fail
  refine (KW _).mono ?_
  rintro e w1 ⟨rfl, hb1⟩
  go_wp2_with fail
  refine (KS _).mono ?_
  rintro e w2 ⟨rfl, hb2⟩
  go_wp2_with fail
  refine (KW2 _).mono ?_
  rintro e w3 ⟨rfl, hb3⟩
  go_wp2
  go_ret
  exact ⟨by rw [HF.out]; rfl, below_then (below_then hb1 hb2) hb3⟩
theorem catP_succ_tx (l : List Pl) (i : Nat) : tx (catP l (i + 1)) = tx (catP l i) ++ tx (plT (l.getD i default)) := by rw [tx_cat]; rfl
set_option maxHeartbeats 2000000 in
theorem indexText_any (v : Value) (l : List Pl) (w : World) (hv : PR w v l) (hn : l.length ≤ 28) (ho : ∀ i, i < l.length → okPl (l.getD i default)) :
    Calls Tryz.prog 158 #[v] w fun e w' => e = .returned (.string (frameT (tx (catP l l.length)))) ∧ Below w.heap.size w w' := by
  obtain ⟨a, cap, rfl, hc⟩ := hv
  have hlen := catP_len l ho
  have KF := fun w => implFrame_any (tx (catP l l.length)) w (by rw [tx_size]; have := hlen _ (Nat.le_refl _); unfold maxLen; omega)
  have hR : Hid (catP l 0 = []) := rfl
  go_enter Tryz.func158, Tryz.ntmps158
  go_wp2_with fail
  go_loopw [3, 10] (fun sv i wr => ∃ k : Nat, k ≤ l.length ∧ sv = .string (tx (catP l k)) ∧ i = .int .i64 k ∧ Below w.heap.size w wr) (fun _ i _ => l.length - (intOf i).toNat)
  case atStart => exact ⟨0, Nat.zero_le _, rfl, rfl, Below.refl _ _⟩
  case round =>
    obtain ⟨k, hk, rfl, rfl, hB⟩ := hrel
    by_cases hlt : k < l.length
    · obtain ⟨b, off, rfl, hbl, hcell⟩ := hc (by intro e; simp [e] at hlt)
      obtain ⟨c0, c1, c2, c3⟩ := hcell k hlt
      have d0 := (hB.cell (p := ⟨b, _, none⟩) hbl).trans c0
      have d1 := (hB.cell (p := ⟨b, _, none⟩) hbl).trans c1
      have d2 := (hB.cell (p := ⟨b, _, none⟩) hbl).trans c2
      have d3 := (hB.cell (p := ⟨b, _, none⟩) hbl).trans c3
      have hok := ho k hlt
      have hsz1 : (tx (catP l k)).size ≤ 35 * k := by rw [tx_size]; exact hlen k hk
      have hsz2 : (tx (plT (l.getD k default))).size ≤ 35 := by rw [tx_size]; exact plT_len hok
      have HS : Hid (tx (catP l (k + 1)) = tx (catP l k) ++ tx (plT (l.getD k default))) := catP_succ_tx l k
      have KP := fun w => placeText_any (l.getD k default) w hok
      have hg : l.getD k default = l[k] := by rw [List.getD_eq_getElem?_getD, List.getElem?_eq_getElem hlt]; rfl
      rw [hg] at KP HS hsz2
      clear hcell c0 c1 c2 c3 hc hlen KF hR hg hok ho
      obtain ⟨p, hp⟩ : ∃ p, p = l[k] := ⟨_, rfl⟩
      rw [← hp] at KP HS hsz2 d0 d1 d2 d3
      clear hp
      obtain ⟨pk, pn, pa, pz⟩ := p
      dsimp only at d0 d1 d2 d3 KP
      generalize tx (plT ⟨pk, pn, pa, pz⟩) = T at *
      generalize tx (catP l k) = S at *
      obtain ⟨W0, hW0⟩ : ∃ W0, W0 = wr.alloc (.cells #[.string pk, .int .i64 pn, .int .i64 pa, .int .i64 pz] 50) := ⟨_, rfl⟩
      have X0 : Box W0 wr.heap.size [.string pk, .int .i64 pn, .int .i64 pa, .int .i64 pz] := by rw [hW0]; exact Box.new wr #[.string pk, .int .i64 pn, .int .i64 pa, .int .i64 pz] 50
      have hB0 : Below w.heap.size w W0 := by rw [hW0]; exact hB.alloc hB.size _
      obtain ⟨_, x0, x1, x2, x3⟩ := X0.c4
      rw [hW0] at x0 x1 x2 x3
      go_wp2_with fail
      rw [← hW0]; clear hW0 x0 x1 x2 x3
      refine (KP _).mono ?_
      rintro e w2 ⟨rfl, hb2⟩
      have hB2 := below_then hB0 hb2
      clear KP hB0 hb2 X0 d0 d1 d2 d3 hB
      go_wp2
      go_roundw
      case rel => exact ⟨k + 1, by omega, by rw [HS.out], by go_num, hB2⟩
      case measure => simp [intOf]; omega
    · obtain rfl : k = l.length := by omega
      clear hc hlen ho
      go_wp2_with fail
      refine (KF _).mono ?_
      rintro e w2 ⟨rfl, hb2⟩
      have hB2 := below_then hB hb2
      go_wp2
      go_ret
      exact ⟨rfl, hB2⟩
end Go.Proofs.YtfdaffnkgpdhhaaGreat
