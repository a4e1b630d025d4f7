/-
  OverlapsIn, both.
-/
import Derived.Test.YtenbdjlhcadhaaaE9
import Derived.Test.YtenbdjlhcadhaaaK9
import Derived.Test.YtenbdjlhcadhaaaA9
namespace Go.Proofs.Ytenbdjlhcadhaaa
open Go.RowKit
set_option linter.unusedVariables false
set_option maxRecDepth 100000

/-- The numbers of those of the first k that have a key in common with what is asked. -/
def ovN (lev : Int) (a b : ByteArray) (l : List Mt) (k : Nat) : List Int := ((l.take k).filter (ovl ⟨0, lev, a, b⟩)).map (·.n)
def ovB (nx sq lev : Int) (a b : ByteArray) (l : List Mt) : Bool := goodV nx sq l && okRg lev a b
def ovZ (nx sq lev : Int) (a b : ByteArray) (l : List Mt) : List Int := if ovB nx sq lev a b l then ovN lev a b l l.length else []
theorem ovl_symm (m o : Mt) : ovl m o = ovl o m := by
  unfold ovl
  have : decide (m.d = o.d) = decide (o.d = m.d) := by by_cases h : m.d = o.d <;> simp [h, eq_comm]
  rw [this]
  cases decide (o.d = m.d) <;> cases leK o.k m.v <;> cases leK m.k o.v <;> rfl
theorem ovN_zero (lev : Int) (a b : ByteArray) (l : List Mt) : ovN lev a b l 0 = [] := rfl
theorem ovN_yes (lev : Int) (a b : ByteArray) (l : List Mt) (k : Nat) (h : k < l.length) (hy : ovl ⟨0, lev, a, b⟩ l[k] = true) : ovN lev a b l (k + 1) = ovN lev a b l k ++ [l[k].n] := by
  unfold ovN; rw [List.take_succ_eq_append_getElem h, List.filter_append, List.map_append]; simp [hy]
theorem ovN_no (lev : Int) (a b : ByteArray) (l : List Mt) (k : Nat) (h : k < l.length) (hy : ovl ⟨0, lev, a, b⟩ l[k] = false) : ovN lev a b l (k + 1) = ovN lev a b l k := by
  unfold ovN; rw [List.take_succ_eq_append_getElem h, List.filter_append, List.map_append]; simp [hy]
theorem ovN_len (lev : Int) (a b : ByteArray) (l : List Mt) (k : Nat) : (ovN lev a b l k).length ≤ k := by
  unfold ovN
  rw [List.length_map]
  exact Nat.le_trans (List.length_filter_le _ _) (by simp; omega)
theorem owns_mono {w : World} {base base' : Nat} {e : TypeId} {size : Nat} {v : Value} {n : Nat} {xs : List Value} (h : w.ownsRow base e size v n xs) (hb : base' ≤ base) : w.ownsRow base' e size v n xs := by
  refine ⟨h.1, ?_⟩
  rcases h.2 with h0 | ⟨g, cap, cur, hv, hbg, r⟩
  · exact .inl h0
  · exact .inr ⟨g, cap, cur, hv, Nat.le_trans hb hbg, r⟩
theorem okRg_le {d : Int} {k v : ByteArray} (h : okRg d k v = true) : leK k v = true := by
  unfold okRg at h
  simp only [Bool.and_eq_true] at h
  exact h.2
theorem goodV_ms {nx sq : Int} {l : List Mt} (h : goodV nx sq l = true) : goodMs l = true := by
  unfold goodV okMs at h
  simp only [Bool.and_eq_true] at h
  exact h.1.2.2
theorem goodV_len {nx sq : Int} {l : List Mt} (h : goodV nx sq l = true) : l.length ≤ 30 := by
  unfold goodV okMs at h
  simp only [Bool.and_eq_true, decide_eq_true_eq] at h
  omega

set_option maxHeartbeats 4000000 in
theorem implOverlaps_any (nx sq lev : Int) (ka kb : ByteArray) (v : Value) (l : List Mt) (w : World) (HV : IX w v l) (hn : l.length ≤ 1048576) (hs : ∀ i (h : i < l.length), l[i].k.size ≤ 1048576 ∧ l[i].v.size ≤ 1048576) (ha : ka.size ≤ 1048576) (hb : kb.size ≤ 1048576) :
    Calls Try.prog 20 #[.agg #[.int .i64 nx, .int .i64 sq, v], .int .i64 lev, .string ka, .string kb] w fun e w' => ∃ u, e = .returned (.tuple #[u, .bool (ovB nx sq lev ka kb l)]) ∧ w'.ownsRow w.heap.size 3 1 u (ovZ nx sq lev ka kb l).length ((ovZ nx sq lev ka kb l).map (.int .i64)) ∧ Below w.heap.size w w' := by
  obtain ⟨i0, hi, hz0, hzs, hzb⟩ := info_parts Try.info3
  obtain ⟨W0, hW0⟩ : ∃ W0, W0 = (w.alloc (.cells #[.int .i64 nx, .int .i64 sq, v] 25)).alloc (.cells #[.int .i64 0, .int .i64 lev, .string ka, .string kb] 82) := ⟨_, rfl⟩
  have hB0 : Below w.heap.size w W0 := by rw [hW0]; exact below2 _ _ _
  have X0 : Box W0 w.heap.size [.int .i64 nx, .int .i64 sq, v] := by rw [hW0]; exact (Box.new w #[.int .i64 nx, .int .i64 sq, v] 25).alloc _
  have Y0 : Box W0 (w.heap.size + 1) [.int .i64 0, .int .i64 lev, .string ka, .string kb] := by
    rw [hW0]
    have := Box.new (w.alloc (.cells #[.int .i64 nx, .int .i64 sq, v] 25)) #[.int .i64 0, .int .i64 lev, .string ka, .string kb] 82
    simpa using this
  have K := implGoodV_any nx sq v l _ (HV.below hB0) hn hs
  have R := fun w => goodRange_any 0 lev ka kb w ha hb
  have HP : Hid (ovZ nx sq lev ka kb l = (if goodV nx sq l && okRg lev ka kb then ovN lev ka kb l l.length else []) ∧ ovB nx sq lev ka kb l = (goodV nx sq l && okRg lev ka kb)) := ⟨rfl, rfl⟩
  have HGM : Hid (goodV nx sq l = true → okRg lev ka kb = true → (∀ i (h : i < l.length), ovI l[i] ⟨0, lev, ka, kb⟩ = ovl ⟨0, lev, ka, kb⟩ l[i]) ∧ l.length ≤ 30) := fun h1 h2 => ⟨fun i h => by rw [ovI_eq _ _ (okMt_le (goodMs_ok (goodV_ms h1) h)) (okRg_le h2), ovl_symm], goodV_len h1⟩
  generalize ovZ nx sq lev ka kb l = Z at *
  generalize ovB nx sq lev ka kb l = B at *
  generalize goodV nx sq l = g at *
  generalize okRg lev ka kb = r at *
  obtain ⟨hv, _⟩ := HV
  obtain ⟨a, cap, rfl, hc⟩ := hv
  clear hs
  obtain ⟨_, c0, c1, c2, _⟩ := X0.c3
  go_enter Try.func20, Try.ntmps20
  go_wp2_with fail
  rw [← hW0]; clear hW0
  refine K.mono ?_
  rintro e w1 ⟨rfl, hb1⟩
  have hB1 := below_then hB0 hb1
  have X1 := X0.below hb1
  have Y1 := Y0.below hb1
  clear K hB0 hb1 X0 Y0 c0 c1 c2
  obtain ⟨hyl, y0, y1, y2, y3⟩ := Y1.c4
  cases g
  · have HF : Hid (Z = [] ∧ B = false) := ⟨by rw [HP.out.1]; rfl, by rw [HP.out.2]; rfl⟩
    obtain ⟨rfl, rfl⟩ := HF.out
    clear HP HF HGM hc
    go_wp2
    exact bodyPost_ret (v := .tuple #[.slice none 0 0, .bool false]) (by simp [results, Try.results20, go_sem]) rfl ⟨_, rfl, World.ownsRow_nil _ _ _ _, hB1⟩
  go_wp2_with fail
  refine (R _).mono ?_
  rintro e w2 ⟨rfl, hb2⟩
  have hB2 := below_then hB1 hb2
  have X2 := X1.below hb2
  have Y2 := Y1.below hb2
  clear R hB1 hb2 X1 Y1 hyl y0 y1 y2 y3
  cases r
  · have HF : Hid (Z = [] ∧ B = false) := ⟨by rw [HP.out.1]; rfl, by rw [HP.out.2]; rfl⟩
    obtain ⟨rfl, rfl⟩ := HF.out
    clear HP HF HGM hc
    go_wp2
    exact bodyPost_ret (v := .tuple #[.slice none 0 0, .bool false]) (by simp [results, Try.results20, go_sem]) rfl ⟨_, rfl, World.ownsRow_nil _ _ _ _, hB2⟩
  have HF : Hid (Z = ovN lev ka kb l l.length ∧ B = true) := ⟨by rw [HP.out.1]; rfl, by rw [HP.out.2]; rfl⟩
  obtain ⟨HO, h30⟩ := HGM.out (by trivial) (by trivial)
  have HO : Hid (∀ i (h : i < l.length), ovI l[i] ⟨0, lev, ka, kb⟩ = ovl ⟨0, lev, ka, kb⟩ l[i]) := HO
  obtain ⟨_, c0, c1, c2, _⟩ := X2.c3
  have hz2 := hB2.size
  clear HP HGM
  go_wp2
  clear c0 c1 c2 X2
  go_loopw [11, 29] (fun u i wr => ∃ k : Nat, k ≤ l.length ∧ i = .int .i64 k ∧ wr.ownsRow w2.heap.size 3 1 u (ovN lev ka kb l k).length ((ovN lev ka kb l k).map (.int .i64)) ∧ Below w2.heap.size w2 wr) (fun _ i _ => l.length - (intOf i).toNat)
  case atStart => exact ⟨0, Nat.zero_le _, rfl, by rw [ovN_zero]; exact World.ownsRow_nil _ _ _ _, Below.refl _ _⟩
  case round =>
    obtain ⟨k, hk, rfl, hown, hbr⟩ := hrel
    have hzr := hbr.size
    have hBr := hB2.trans (hbr.mono hz2)
    by_cases hlt : k < l.length
    · obtain ⟨b, off, rfl, hbl, hcell⟩ := hc (by intro e; simp [e] at hlt)
      have hc0 := (hBr.cell (p := ⟨b, off + k * 4, none⟩) hbl).trans (hcell k hlt).1
      have hc1 := (hBr.cell (p := ⟨b, off + k * 4 + 1, none⟩) hbl).trans (hcell k hlt).2.1
      have hc2 := (hBr.cell (p := ⟨b, off + k * 4 + 2, none⟩) hbl).trans (hcell k hlt).2.2.1
      have hc3 := (hBr.cell (p := ⟨b, off + k * 4 + 3, none⟩) hbl).trans (hcell k hlt).2.2.2
      have hbl2 : b < wr.heap.size := by omega
      have HV1 := HO.out k hlt
      have HY : Hid (ovl ⟨0, lev, ka, kb⟩ l[k] = true → ovN lev ka kb l (k + 1) = ovN lev ka kb l k ++ [l[k].n]) := ovN_yes lev ka kb l k hlt
      have HN : Hid (ovl ⟨0, lev, ka, kb⟩ l[k] = false → ovN lev ka kb l (k + 1) = ovN lev ka kb l k) := ovN_no lev ka kb l k hlt
      obtain ⟨W1, hW1⟩ : ∃ W1, W1 = wr.alloc (.cells #[.int .i64 l[k].n, .int .i64 l[k].d, .string l[k].k, .string l[k].v] 82) := ⟨_, rfl⟩
      have T1 : Box W1 wr.heap.size [.int .i64 l[k].n, .int .i64 l[k].d, .string l[k].k, .string l[k].v] := by rw [hW1]; exact Box.new wr #[.int .i64 l[k].n, .int .i64 l[k].d, .string l[k].k, .string l[k].v] 82
      have hBW : Below w2.heap.size w2 W1 := by rw [hW1]; exact hbr.alloc hzr _
      have hzW := hBW.size
      have Yr := Y2.below hbr
      have OW : W1.ownsRow w2.heap.size 3 1 u11 (ovN lev ka kb l k).length ((ovN lev ka kb l k).map (.int .i64)) := by rw [hW1]; exact owns_below hown (below_alloc _ _)
      have KO := overlaps_any l[k].n l[k].d l[k].k l[k].v 0 lev ka kb W1
      have hmk : Hid (ovI ⟨l[k].n, l[k].d, l[k].k, l[k].v⟩ ⟨0, lev, ka, kb⟩ = ovI l[k] ⟨0, lev, ka, kb⟩) := rfl
      rw [hmk.out, HV1] at KO
      have hol := ovN_len lev ka kb l k
      clear hcell hc HV1 hmk HO hown
      generalize ovl ⟨0, lev, ka, kb⟩ l[k] = c at *
      generalize l[k] = t at *
      obtain ⟨tn, td, tk, tv⟩ := t
      dsimp only at *
      obtain ⟨hyl, y0, y1, y2, y3⟩ := Yr.c4
      generalize ovN lev ka kb l k = zs at *
      go_wp2_with fail
      rw [← hW1]
      clear hc0 hc1 hc2 hc3
      refine KO.mono ?_
      rintro e w3 ⟨rfl, hb3⟩
      have hB3 := hBW.trans (hb3.mono hzW)
      have T3 := T1.below hb3
      have O3 := owns_below OW hb3
      have hz3 := hB3.size
      clear KO hb3 T1 OW y0 y1 y2 y3 hyl hBW Yr hW1 hzW
      cases c
      · have HN2 : Hid (ovN lev ka kb l (k + 1) = zs) := HN.out rfl
        clear HN HY
        go_wp2
        go_roundw
        case rel => exact ⟨k + 1, by omega, by go_num, by rw [HN2.out]; exact O3, hB3⟩
        case measure => simp [intOf]; omega
      · have HY2 : Hid (ovN lev ka kb l (k + 1) = zs ++ [tn]) := HY.out rfl
        clear HN HY
        obtain ⟨ht3, t0, _⟩ := T3.c4
        go_wp2_with (at_builtin; refine wpList_append_own _ rfl _ _ 28 rfl w2.heap.size 3 i0 (.int .i64 0) 1 8 Try.underlying28 hi hz0 hzs hzb rfl (by decide) _ zs.length (zs.map (.int .i64)) rfl (owns_below O3 (below_alloc _ _)) ⟨w3.heap.size, 0, none⟩ 1 1 [.int .i64 tn] rfl rfl (one_new w3 tn) (by intro u hu; simp at hu; subst hu; rfl) (by unfold maxLen; omega) (by omega) (by simp; omega) ?_; intro v' w4 hown4 hgrow4 _)
        go_roundw
        case rel =>
          refine ⟨k + 1, by omega, by go_num, ?_, ?_⟩
          · rw [HY2.out, List.map_append, List.length_append]; exact hown4
          · exact (hB3.alloc hz3 _).grown hgrow4 (by simp; omega) (owns_ge O3)
        case measure => simp [intOf]; omega
    · obtain rfl : k = l.length := by omega
      obtain ⟨hZ, hBt⟩ := HF.out
      have hZ : Hid (Z = ovN lev ka kb l l.length) := hZ
      have hBt : Hid (B = true) := hBt
      clear hc HO HF
      go_wp2
      exact bodyPost_ret (v := .tuple #[u11, .bool true]) (by simp [results, Try.results20, go_sem]) rfl ⟨_, by rw [hBt.out], by rw [hZ.out]; exact owns_mono hown hz2, hBr⟩
end Go.Proofs.Ytenbdjlhcadhaaa
