/-
  Versions that are good: the specification's side.
  OverlapsIn, both.
  Small facts for the laws of versions: Bools held against themselves, structs put whole.
-/
import Derived.Test.YtenbdjlhcadhaaaGreatD9
import Derived.Test.YtenbdjlhcadhaaaGreatK9ToM0
import Derived.Test.YtenbdjlhcadhaaaGreatQ1ToC9
namespace Go.Proofs.YtenbdjlhcadhaaaGreat
open Go.RowKit
set_option linter.unusedVariables false
set_option maxRecDepth 100000

set_option maxHeartbeats 8000000 in
theorem specGoodV_any (nx sq : Int) (v : Value) (l : List Mt) (w : World) (HV : IX w v l) (hn : l.length ≤ 1048576) (hs : ∀ i (h : i < l.length), l[i].k.size ≤ 1048576 ∧ l[i].v.size ≤ 1048576) :
    Calls Tryz.prog 65 #[.agg #[.int .i64 nx, .int .i64 sq, v]] w fun e w' => e = .returned (.bool (goodV nx sq l)) ∧ Below w.heap.size w w' := by
  obtain ⟨hv, a', cap', hve, hcap⟩ := HV
  have hB0 := below_alloc w (.cells #[.int .i64 nx, .int .i64 sq, v] 35)
  have X0 := Box.new w #[.int .i64 nx, .int .i64 sq, v] 35
  have A := fun w => l9Counts_any nx sq w
  have C := l9Metas_any v l _ (hv.below hB0) hn hs
  have HG : Hid (goodV nx sq l = (okNext nx && okSeq sq && okMs l && mayTo nx l l.length)) := rfl
  obtain ⟨a, cap, rfl, hc⟩ := hv
  simp only [Value.slice.injEq, true_and] at hve
  obtain ⟨rfl, rfl⟩ := hve
  clear hs
  generalize (okNext nx && okSeq sq) = b1 at *
  generalize okMs l = b3 at *
  go_enter Tryz.func65, Tryz.ntmps65
  go_wp2_with fail
  refine (A _).mono ?_
  rintro e w1 ⟨rfl, rfl⟩
  cases b1
  · have HF : Hid (goodV nx sq l = false) := by show _ = _; rw [HG.out]; rfl
    clear HG hc
    go_wp2
    go_ret
    exact ⟨by rw [HF.out]; rfl, hB0⟩
  go_wp2_with fail
  refine C.mono ?_
  rintro e w1 ⟨rfl, hb1⟩
  have hB1 := below_then hB0 hb1
  have X1 := X0.below hb1
  clear C A hB0 hb1 X0
  obtain ⟨hx0, c0, c1, c2⟩ : w.heap.size < w1.heap.size ∧ w1.cell? ⟨w.heap.size, 0, none⟩ = some (.int .i64 nx) ∧ w1.cell? ⟨w.heap.size, 1, none⟩ = some (.int .i64 sq) ∧ w1.cell? ⟨w.heap.size, 2, none⟩ = some (.slice a l.length cap) := ⟨X1.1, X1.2.1 0 _ rfl, X1.2.1 1 _ rfl, X1.2.1 2 _ rfl⟩
  cases b3
  · have HF : Hid (goodV nx sq l = false) := by show _ = _; rw [HG.out]; rfl
    clear HG hc
    go_wp2
    go_ret
    exact ⟨by rw [HF.out]; rfl, hB1⟩
  have HG2 : Hid (goodV nx sq l = mayTo nx l l.length) := by show _ = _; rw [HG.out]; rfl
  clear HG
  go_wp2
  go_loopw [22] (fun i wr => ∃ k : Nat, k ≤ l.length ∧ i = .int .i64 k ∧ mayTo nx l k = true ∧ Below w1.heap.size w1 wr) (fun i _ => l.length - (intOf i).toNat)
  case atStart => exact ⟨0, Nat.zero_le _, rfl, rfl, Below.refl _ _⟩
  case round =>
    clear c0 c1 c2
    obtain ⟨k, hk, rfl, hg, hb⟩ := hrel
    by_cases hlt : k < l.length
    · obtain ⟨b, off, rfl, hbl, hcell⟩ := hc (by intro e; simp [e] at hlt)
      have hz1 := hB1.size
      have hBr := hB1.trans (hb.mono hz1)
      have hc0 := (hBr.cell (p := ⟨b, off + k * 4, none⟩) hbl).trans (hcell k hlt).1
      have hc1 := (hBr.cell (p := ⟨b, off + k * 4 + 1, none⟩) hbl).trans (hcell k hlt).2.1
      have hc2 := (hBr.cell (p := ⟨b, off + k * 4 + 2, none⟩) hbl).trans (hcell k hlt).2.2.1
      have hc3 := (hBr.cell (p := ⟨b, off + k * 4 + 3, none⟩) hbl).trans (hcell k hlt).2.2.2
      have HAT : Hid (mayAt nx l k = (decide (l[k].n < nx) && !((l.take k).any (cls l[k])))) := mayAt_eq nx l k hlt
      have hz := hb.size
      have hbl2 : b < wr.heap.size := by omega
      obtain ⟨W0, hW0⟩ : ∃ W0, W0 = wr.alloc (.cells #[.int .i64 l[k].n, .int .i64 l[k].d, .string l[k].k, .string l[k].v] 71) := ⟨_, rfl⟩
      have Y0 : Box W0 wr.heap.size [.int .i64 l[k].n, .int .i64 l[k].d, .string l[k].k, .string l[k].v] := by rw [hW0]; exact Box.new wr #[.int .i64 l[k].n, .int .i64 l[k].d, .string l[k].k, .string l[k].v] 71
      have hBW : Below w1.heap.size w1 W0 := by rw [hW0]; exact hb.alloc hz _
      have hBw : Below w.heap.size w W0 := hB1.trans (hBW.mono hz1)
      have hzW := hBW.size
      have XW : Box W0 w.heap.size [.int .i64 nx, .int .i64 sq, .slice (some ⟨b, off, none⟩) l.length cap] := X1.below hBW
      have hkc : (k : Int) ≤ (cap : Int) := by omega
      have hkc2 : k ≤ cap := by omega
      have x0 := (X1.below hb).2.1 0 _ rfl
      have x2 := (X1.below hb).2.1 2 _ rfl
      have hxr := (X1.below hb).1
      by_cases hnum : l[k].n < nx
      · have HCL : Hid (∀ o, cls l[k] o = (decide (0 < l[k].d) && (decide (o.d = l[k].d) && (Op.bytesLess o.k.toList l[k].v.toList || o.k.toList == l[k].v.toList) && (Op.bytesLess l[k].k.toList o.v.toList || l[k].k.toList == o.v.toList)))) := fun o => rfl
        have HNX : Hid ((l.take k).any (cls l[k]) = false → mayTo nx l (k + 1) = true) := fun h => by rw [mayTo_succ, hg, HAT.out, h, decide_eq_true hnum]; rfl
        have HFX : Hid ((l.take k).any (cls l[k]) = true → goodV nx sq l = false) := fun h => goodV_false k hlt (by rw [HAT.out, h]; simp)
        have HC2 : Hid (∀ i (h : i < l.length), w.cell? ⟨b, off + i * 4, none⟩ = some (.int .i64 l[i].n) ∧ w.cell? ⟨b, off + i * 4 + 1, none⟩ = some (.int .i64 l[i].d) ∧ w.cell? ⟨b, off + i * 4 + 2, none⟩ = some (.string l[i].k) ∧ w.cell? ⟨b, off + i * 4 + 3, none⟩ = some (.string l[i].v)) := hcell
        have HAS : Hid (∀ j (h : j < k), (l.take (j + 1)).any (cls l[k]) = ((l.take j).any (cls l[k]) || cls l[k] (l[j]'(Nat.lt_trans h hlt)))) := fun j h => any_take_succ _ l j (by omega)
        have HAN : Hid (∀ j (h : j < k), cls l[k] (l[j]'(Nat.lt_trans h hlt)) = true → (l.take k).any (cls l[k]) = true) := fun j h hh => List.any_eq_true.2 ⟨l[j], by rw [List.mem_take_iff_getElem]; exact ⟨j, by omega, rfl⟩, hh⟩
        clear hcell hc HAT hg HG2
        generalize l[k] = s at *
        obtain ⟨sn, sd, sk, sv⟩ := s
        dsimp only at *
        go_wp2
        rw [← hW0]; clear hW0 hc0 hc1 hc2 hc3 x0 x2 hxr
        go_loopw [37] (fun i w2 => ∃ j : Nat, j ≤ k ∧ i = .int .i64 j ∧ (l.take j).any (cls ⟨sn, sd, sk, sv⟩) = false ∧ Below W0.heap.size W0 w2) (fun i _ => k - (intOf i).toNat)
        case atStart => exact ⟨0, Nat.zero_le _, rfl, rfl, Below.refl _ _⟩
        case round =>
          obtain ⟨j, hj, rfl, hgj, hbj⟩ := hrel
          have hBj := hBw.trans (hbj.mono hBw.size)
          by_cases hjk : j < k
          · have hjl : j < l.length := by omega
            have hd0 := (hBj.cell (p := ⟨b, off + j * 4, none⟩) hbl).trans (HC2.out j hjl).1
            have hd1 := (hBj.cell (p := ⟨b, off + j * 4 + 1, none⟩) hbl).trans (HC2.out j hjl).2.1
            have hd2 := (hBj.cell (p := ⟨b, off + j * 4 + 2, none⟩) hbl).trans (HC2.out j hjl).2.2.1
            have hd3 := (hBj.cell (p := ⟨b, off + j * 4 + 3, none⟩) hbl).trans (HC2.out j hjl).2.2.2
            have hzj := hbj.size
            have hbj2 : b < wr.heap.size := by have := hBw.size; omega
            have Yj := Y0.below hbj
            have y1 := Yj.2.1 1 _ rfl
            have y2 := Yj.2.1 2 _ rfl
            have y3 := Yj.2.1 3 _ rfl
            have hyl := Yj.1
            have HA1 := HAS.out j hjk
            rw [hgj, HCL.out] at HA1
            have HA2 := HAN.out j hjk
            rw [HCL.out] at HA2
            have hBE := hbj.alloc hzj (.cells #[.int .i64 l[j].n, .int .i64 l[j].d, .string l[j].k, .string l[j].v] 71)
            have hBE2 := hBw.trans (hBE.mono hBw.size)
            clear HC2 HAS HAN HCL hgj hBj hbj
            generalize l[j] = t at *
            obtain ⟨tn, td, tk, tv⟩ := t
            dsimp only at *
            have HA1 : Hid _ := HA1
            have HA2 : Hid _ := HA2
            by_cases g1 : 0 < sd
            · by_cases g2 : td = sd
              · subst g2
                cases g3 : (Op.bytesLess tk.toList sv.toList || tk.toList == sv.toList) with
                | true =>
                  cases g4 : (Op.bytesLess sk.toList tv.toList || sk.toList == tv.toList) with
                  | true =>
                    have HF : Hid (goodV nx sq l = false) := HFX.out (HA2.out (by rw [g3, g4]; simp [g1]))
                    clear HA1 HA2 HFX HNX
                    go_wp2
                    go_ret
                    exact ⟨by rw [HF.out]; rfl, hBE2⟩
                  | false =>
                    have HN : Hid ((l.take (j + 1)).any (cls ⟨sn, td, sk, sv⟩) = false) := by show _ = _; rw [HA1.out, g4]; simp
                    clear HA1 HA2
                    go_wp2
                    go_roundw
                    case rel => exact ⟨j + 1, by omega, by go_num, HN.out, hBE⟩
                    case measure => simp [intOf]; omega
                | false =>
                  have HN : Hid ((l.take (j + 1)).any (cls ⟨sn, td, sk, sv⟩) = false) := by show _ = _; rw [HA1.out, g3]; simp
                  clear HA1 HA2
                  go_wp2
                  go_roundw
                  case rel => exact ⟨j + 1, by omega, by go_num, HN.out, hBE⟩
                  case measure => simp [intOf]; omega
              · have HN : Hid ((l.take (j + 1)).any (cls ⟨sn, sd, sk, sv⟩) = false) := by show _ = _; rw [HA1.out]; simp [g2]
                clear HA1 HA2
                go_wp2
                go_roundw
                case rel => exact ⟨j + 1, by omega, by go_num, HN.out, hBE⟩
                case measure => simp [intOf]; omega
            · have HN : Hid ((l.take (j + 1)).any (cls ⟨sn, sd, sk, sv⟩) = false) := by show _ = _; rw [HA1.out]; simp [g1]
              clear HA1 HA2
              go_wp2
              go_roundw
              case rel => exact ⟨j + 1, by omega, by go_num, HN.out, hBE⟩
              case measure => simp [intOf]; omega
          · obtain rfl : j = k := by omega
            have HN : Hid (mayTo nx l (j + 1) = true) := HNX.out hgj
            have hB2 := hBW.trans (hbj.mono hzW)
            clear HC2 HAS HAN HCL hgj hBj hbj HNX HFX
            go_wp2
            go_roundw
            case rel => exact ⟨j + 1, by omega, by go_num, HN.out, hB2⟩
            case measure => simp [intOf]; omega
      · have HF : Hid (goodV nx sq l = false) := goodV_false k hlt (by rw [HAT.out, decide_eq_false hnum]; rfl)
        clear hcell hc HAT hg HG2 Y0 XW
        generalize l[k] = s at *
        obtain ⟨sn, sd, sk, sv⟩ := s
        dsimp only at *
        go_wp2
        rw [← hW0]; clear hW0
        go_ret
        exact ⟨by rw [HF.out]; rfl, hBw⟩
    · obtain rfl : k = l.length := by omega
      have HT : Hid (goodV nx sq l = true) := by show _ = _; rw [HG2.out]; exact hg
      have hBr := hB1.trans (hb.mono hB1.size)
      clear hc hg HG2
      go_wp2
      go_ret
      exact ⟨by rw [HT.out]; rfl, hBr⟩
end Go.Proofs.YtenbdjlhcadhaaaGreat

namespace Go.Proofs.YtenbdjlhcadhaaaGreat
open Go.RowKit
set_option linter.unusedVariables false
set_option maxRecDepth 100000

/-- The numbers of those of the first k that have a key in common with what is asked. -/
def ovN (lev : Int) (a b : ByteArray) (l : List Mt) (k : Nat) : List Int := ((l.take k).filter (ovl ⟨0, lev, a, b⟩)).map (·.n)
def ovB (nx sq lev : Int) (a b : ByteArray) (l : List Mt) : Bool := goodV nx sq l && okRg lev a b
def ovZ (nx sq lev : Int) (a b : ByteArray) (l : List Mt) : List Int := if ovB nx sq lev a b l then ovN lev a b l l.length else []
theorem ovl_symm (m o : Mt) : ovl m o = ovl o m := by
  unfold ovl
  have : decide (m.d = o.d) = decide (o.d = m.d) := by by_cases h : m.d = o.d <;> simp [h, eq_comm]
  rw [this]
  cases decide (o.d = m.d) <;> cases leK o.k m.v <;> cases leK m.k o.v <;> rfl
theorem ovN_zero (lev : Int) (a b : ByteArray) (l : List Mt) : ovN lev a b l 0 = [] := rfl
theorem ovN_yes (lev : Int) (a b : ByteArray) (l : List Mt) (k : Nat) (h : k < l.length) (hy : ovl ⟨0, lev, a, b⟩ l[k] = true) : ovN lev a b l (k + 1) = ovN lev a b l k ++ [l[k].n] := by
  unfold ovN; rw [List.take_succ_eq_append_getElem h, List.filter_append, List.map_append]; simp [hy]
theorem ovN_no (lev : Int) (a b : ByteArray) (l : List Mt) (k : Nat) (h : k < l.length) (hy : ovl ⟨0, lev, a, b⟩ l[k] = false) : ovN lev a b l (k + 1) = ovN lev a b l k := by
  unfold ovN; rw [List.take_succ_eq_append_getElem h, List.filter_append, List.map_append]; simp [hy]
theorem ovN_len (lev : Int) (a b : ByteArray) (l : List Mt) (k : Nat) : (ovN lev a b l k).length ≤ k := by
  unfold ovN
  rw [List.length_map]
  exact Nat.le_trans (List.length_filter_le _ _) (by simp; omega)
theorem owns_mono {w : World} {base base' : Nat} {e : TypeId} {size : Nat} {v : Value} {n : Nat} {xs : List Value} (h : w.ownsRow base e size v n xs) (hb : base' ≤ base) : w.ownsRow base' e size v n xs := by
  refine ⟨h.1, ?_⟩
  rcases h.2 with h0 | ⟨g, cap, cur, hv, hbg, r⟩
  · exact .inl h0
  · exact .inr ⟨g, cap, cur, hv, Nat.le_trans hb hbg, r⟩
theorem okRg_le {d : Int} {k v : ByteArray} (h : okRg d k v = true) : leK k v = true := by
  unfold okRg at h
  simp only [Bool.and_eq_true] at h
  exact h.2
theorem goodV_ms {nx sq : Int} {l : List Mt} (h : goodV nx sq l = true) : goodMs l = true := by
  unfold goodV okMs at h
  simp only [Bool.and_eq_true] at h
  exact h.1.2.2
theorem goodV_len {nx sq : Int} {l : List Mt} (h : goodV nx sq l = true) : l.length ≤ 30 := by
  unfold goodV okMs at h
  simp only [Bool.and_eq_true, decide_eq_true_eq] at h
  omega

end Go.Proofs.YtenbdjlhcadhaaaGreat

namespace Go.Proofs.YtenbdjlhcadhaaaGreat
open Go.RowKit
set_option linter.unusedVariables false
set_option maxRecDepth 100000
theorem run_neq_bool_same (w : World) (b : Bool) : (binOp .neq 4 (.bool b) (.bool b)).run Tryz.prog w = .ok (.bool false) w := by
  cases b <;> kernel_rfl
def put3 (w : World) (b : Nat) (v0 v1 v2 : Value) : World := ((w.setCell ⟨b, 0, none⟩ v0).setCell ⟨b, 1, none⟩ v1).setCell ⟨b, 2, none⟩ v2
theorem put3_chg (w : World) (b : Nat) (v0 v1 v2 : Value) : Chg (· = b) w (put3 w b v0 v1 v2) := Chg.setCell (S := fun k => k = b) (p := ⟨b, 2, none⟩) (Chg.setCell (S := fun k => k = b) (p := ⟨b, 1, none⟩) (Chg.setCell (S := fun k => k = b) (p := ⟨b, 0, none⟩) (Chg.refl _ _) rfl _) rfl _) rfl _
theorem put3_box {w : World} {b : Nat} {u0 u1 u2 : Value} (h : Box w b [u0, u1, u2]) (v0 v1 v2 : Value) : Box (put3 w b v0 v1 v2) b [v0, v1, v2] := h.put3 v0 v1 v2
end Go.Proofs.YtenbdjlhcadhaaaGreat
