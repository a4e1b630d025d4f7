/-
  Slices of texts: eqStringS, markStringS, heldStringS.
  spec.NamesOf, impl.NamesOf.
  impl.liveFiles, impl.crashedFiles: rows of files, each an interface value.
-/
import Derived.Test.YtbgemebpfcbloaaM2
namespace Go.Proofs.Ytbgemebpfcbloaa
open Go.RowKit
set_option maxRecDepth 100000
set_option linter.unusedVariables false

/-- The value v is a slice whose elements are the texts l. -/
def SL (w : World) (v : Value) (l : List ByteArray) : Prop :=
  ∃ a cap, v = .slice a l.length cap ∧ (l ≠ [] → ∃ b off, a = some ⟨b, off, none⟩ ∧ b < w.heap.size ∧ ∀ i (h : i < l.length), w.cell? ⟨b, off + i, none⟩ = some (.string l[i]))
theorem SL_of_owns {w : World} {base : Nat} {e : TypeId} {v : Value} {l : List ByteArray} (h : w.ownsRow base e 1 v l.length (l.map Value.string)) : SL w v l := by
  have h' := h
  obtain ⟨hl, h⟩ := h
  rcases h with ⟨rfl, h0⟩ | ⟨g, cap, cur, rfl, hbg, hh, hcap, hm, hsz, htk⟩
  · exact ⟨none, 0, by rw [h0], fun hne => absurd (List.length_eq_zero_iff.1 h0) hne⟩
  · refine ⟨_, cap, rfl, fun _ => ⟨g, 0, rfl, (Array.getElem?_eq_some_iff.1 hh).1, fun i hi => ?_⟩⟩
    rw [Nat.zero_add, h'.cellAt i (by omega)]
    simp [hi]

/-- Marks of a row of texts. -/
def mkLS (k : Int) (l : List ByteArray) : Nat → List ByteArray
  | 0 => l
  | j + 1 => (mkLS k l j).set j (mkT (k + j))
theorem mkLS_length (k : Int) (l : List ByteArray) (j : Nat) : (mkLS k l j).length = l.length := by
  induction j with
  | zero => rfl
  | succ j ih => simp [mkLS, ih]
theorem mkLS_get (k : Int) (l : List ByteArray) (j i : Nat) (hi : i < l.length) : (mkLS k l j)[i]? = if i < j then some (mkT (k + i)) else l[i]? := by
  induction j with
  | zero => simp [mkLS]
  | succ j ih =>
    simp only [mkLS]
    by_cases h : i = j
    · subst h
      rw [List.getElem?_set_self (by rw [mkLS_length]; exact hi), if_pos (by omega)]
    · rw [List.getElem?_set_ne (by omega), ih]
      by_cases h2 : i < j
      · rw [if_pos h2, if_pos (by omega)]
      · rw [if_neg h2, if_neg (by omega)]
def mkAllS (k : Int) (n : Nat) : List ByteArray := (List.range n).map fun i : Nat => mkT (k + (i : Int))
theorem mkAllS_length (k : Int) (n : Nat) : (mkAllS k n).length = n := by simp [mkAllS]
theorem mkLS_all (k : Int) (l : List ByteArray) : mkLS k l l.length = mkAllS k l.length := by
  apply List.ext_getElem?
  intro i
  by_cases hi : i < l.length
  · rw [mkLS_get k l _ i hi, if_pos hi]; simp [mkAllS, hi]
  · rw [List.getElem?_eq_none (by rw [mkLS_length]; omega), List.getElem?_eq_none (by rw [mkAllS_length]; omega)]

end Go.Proofs.Ytbgemebpfcbloaa

namespace Go.Proofs.Ytbgemebpfcbloaa
open Go.RowKit
set_option maxRecDepth 100000
set_option linter.unusedVariables false

theorem Try.info9 : (Try.prog.info? 9).map (fun i => (i.zero, i.size, i.bytes)) = some (some (.string ⟨#[]⟩), 1, 16) := by kernel_rfl
/-- What NamesOf answers. -/
def namesOr (bl lv sf : List (ByteArray × Int)) (r : Int) : List ByteArray := if goodD bl lv sf r then lv.map Prod.fst else []
theorem namesOr_no {bl lv sf : List (ByteArray × Int)} {r : Int} (h : false = goodD bl lv sf r) : namesOr bl lv sf r = [] := by simp [namesOr, ← h]
theorem namesOr_yes {bl lv sf : List (ByteArray × Int)} {r : Int} (h : true = goodD bl lv sf r) : namesOr bl lv sf r = lv.map Prod.fst := by simp [namesOr, ← h]

theorem owns_ge {w : World} {base : Nat} {e : TypeId} {size : Nat} {v : Value} {n : Nat} {xs : List Value} (h : w.ownsRow base e size v n xs) : ∀ g, v.ownBlock = some g → base ≤ g := by
  intro g hg
  rcases h.2 with ⟨rfl, _⟩ | ⟨g', cap, cur, rfl, hb, _⟩
  · simp [Value.ownBlock] at hg
  · simp only [Value.ownBlock, Option.some.injEq] at hg
    omega

theorem owns_blk {w : World} {base : Nat} {e : TypeId} {size : Nat} {v : Value} {n : Nat} {xs : List Value} (h : w.ownsRow base e size v n xs) : ∀ g, v.ownBlock = some g → g < w.heap.size := by
  intro g hg
  rcases h.2 with ⟨rfl, _⟩ | ⟨g', cap, cur, rfl, _, hh, _⟩
  · simp [Value.ownBlock] at hg
  · simp only [Value.ownBlock, Option.some.injEq] at hg
    rw [← hg]; exact (Array.getElem?_eq_some_iff.1 hh).1
theorem namesOr_len (bl lv sf : List (ByteArray × Int)) (r : Int) : (namesOr bl lv sf r).length ≤ lv.length := by
  unfold namesOr; split <;> simp

set_option maxHeartbeats 1000000 in
theorem implNamesOf_any (v1 v2 v3 : Value) (bl lv sf : List (ByteArray × Int)) (r : Int) (w : World) (h1 : PL w v1 bl) (h2 : PL w v2 lv) (h3 : PL w v3 sf)
    (hn1 : tot bl + bl.length ≤ 1048576) (hn2 : tot lv + lv.length ≤ 1048576) (hn3 : tot sf + sf.length ≤ 1048576) (hs1 : ∀ i (h : i < bl.length), bl[i].1.size ≤ 1048576) (hs2 : ∀ i (h : i < lv.length), lv[i].1.size ≤ 1048576) (hs3 : ∀ i (h : i < sf.length), sf[i].1.size ≤ 1048576) :
    Calls Try.prog 16 #[.agg #[v1, v2, v3, .int .i64 r]] w fun e w' => ∃ v, e = .returned (.tuple #[v, .bool (goodD bl lv sf r)]) ∧ w'.ownsRow w.heap.size 9 1 v (namesOr bl lv sf r).length ((namesOr bl lv sf r).map Value.string) ∧ Below w.heap.size w w' := by
  obtain ⟨i0, hi, hz0, hzs, hzb⟩ := info_parts Try.info9
  go_enter Try.func16, Try.ntmps16
  go_wp2_with fail
  refine (implGood_any _ _ _ bl lv sf _ _ (h1.alloc _) (h2.alloc _) (h3.alloc _) hn1 hn2 hn3 hs1 hs2 hs3).mono ?_
  rintro e w1 ⟨rfl, hb1⟩
  have hB1 := below_then (below_alloc _ _) hb1
  have X1 := (Box.new w #[v1, v2, v3, .int .i64 r] 26).below hb1
  obtain ⟨hz1, p0, p1, p2, p3⟩ := X1.c4
  clear hb1
  obtain ⟨g, hg⟩ : ∃ g, g = goodD bl lv sf r := ⟨_, rfl⟩
  rw [← hg]
  have HG : Hid (g = goodD bl lv sf r) := hg
  clear hg hs1 hs3 h1 h3
  cases g with
  | false =>
    go_wp2
    go_ret2
    refine ⟨.slice none 0 0, by rw [← HG.out]; rfl, ?_, hB1⟩
    rw [namesOr_no HG.out]
    exact World.ownsRow_nil _ _ _ _
  | true =>
    obtain ⟨a2, c2, rfl, hc2⟩ := h2
    go_wp2
    go_loopw [4, 13] (fun v i wr => ∃ k : Nat, k ≤ lv.length ∧ i = .int .i64 k ∧ wr.ownsRow w.heap.size 9 1 v ((lv.take k).map Prod.fst).length (((lv.take k).map Prod.fst).map Value.string) ∧ Below w.heap.size w wr) (fun _ i _ => lv.length - (intOf i).toNat)
    case atStart => exact ⟨0, Nat.zero_le _, rfl, World.ownsRow_nil _ _ _ _, hB1⟩
    case round =>
      clear X1 hz1 p0 p1 p2 p3 hB1
      obtain ⟨k, hk, rfl, hown, hb⟩ := hrel
      by_cases hlt : k < lv.length
      · obtain ⟨b, off, rfl, hbl, hcell⟩ := hc2 (by intro e; simp [e] at hlt)
        obtain ⟨s, hse⟩ : ∃ s, s = lv[k].1 := ⟨_, rfl⟩
        obtain ⟨m, hme⟩ : ∃ m, m = lv[k].2 := ⟨_, rfl⟩
        have e0 : wr.cell? ⟨b, off + k * 2, none⟩ = some (.string s) := by rw [hse]; exact (hb.cell (p := ⟨b, off + k * 2, none⟩) hbl).trans (hcell k hlt).1
        have e1 : wr.cell? ⟨b, off + k * 2 + 1, none⟩ = some (.int .i64 m) := by rw [hme]; exact (hb.cell (p := ⟨b, off + k * 2 + 1, none⟩) hbl).trans (hcell k hlt).2
        have HT : Hid ((lv.take (k + 1)).map Prod.fst = (lv.take k).map Prod.fst ++ [s]) := by
          show _ = _
          rw [hse, List.take_succ_eq_append_getElem hlt, List.map_append]; rfl
        have hlen : ((lv.take k).map Prod.fst).length = k := by simp; omega
        have HL : Hid (((lv.take k).map Prod.fst).length = k) := hlen
        have hz := hb.size
        clear hcell hse hme hc2
        rw [hlen] at hown
        clear hlen
        generalize (lv.take k).map Prod.fst = L at *
        have HO : Hid _ := hown
        go_wp2_with (at_builtin; refine wpList_append_own _ rfl _ _ 35 rfl w.heap.size 9 i0 (.string ⟨#[]⟩) 1 16 Try.underlying35 hi hz0 hzs hzb rfl (by decide) _ k (L.map Value.string) rfl (owns_below (owns_below hown (below_alloc _ _)) (below_alloc _ _)) ⟨wr.heap.size + 1, 0, none⟩ 1 1 [.string s] rfl rfl (by intro j u hj; match j, hj with | 0, hj => simp at hj; subst hj; simp [Addr.add]) (by intro u hu; simp at hu; subst hu; rfl) (by unfold maxLen; omega) (by omega) (by simp; omega) ?_; intro v' w2 hown2 hgrow2 _)
        go_roundw
        case rel =>
          refine ⟨k + 1, by omega, by go_num, ?_, ?_⟩
          · rw [HT.out, List.length_append, HL.out, List.map_append]; exact hown2
          · exact ((hb.alloc hz _).alloc (by simp; omega) _).grown hgrow2 (by simp; omega) (owns_ge hown)
        case measure => simp [intOf]; omega
      · have hkk : k = lv.length := by omega
        subst hkk
        rw [List.take_length] at hown
        go_wp2
        go_ret2
        refine ⟨_, by rw [← HG.out]; rfl, ?_, hb⟩
        rw [namesOr_yes HG.out]
        exact hown

end Go.Proofs.Ytbgemebpfcbloaa

namespace Go.Proofs.Ytbgemebpfcbloaa
open Go.RowKit
set_option maxRecDepth 100000
set_option linter.unusedVariables false

theorem Try.info148 : (Try.prog.info? 148).map (fun i => (i.zero, i.size, i.bytes)) = some (some .nilIface, 1, 16) := by kernel_rfl

/-- A file as it is now; as a crash leaves it. -/
def liveV (x : ByteArray × Int) : Value := .iface 152 (.agg #[.string x.1, .int .i64 x.2])
def crashV (keep : Int) (x : ByteArray × Int) : Value := .iface 150 (.agg #[.string x.1, .int .i64 x.2, .int .i64 keep])

set_option maxRecDepth 100000 in
set_option maxHeartbeats 1000000 in
theorem liveFiles_any (v : Value) (l : List (ByteArray × Int)) (w : World) (hv : PL w v l) (hn : l.length ≤ 1048576) :
    Calls Try.prog 66 #[v] w fun e w' => ∃ u, e = .returned u ∧ w'.ownsRow w.heap.size 148 1 u l.length (l.map liveV) ∧ Below w.heap.size w w' := by
  obtain ⟨i0, hi, hz0, hzs, hzb⟩ := info_parts Try.info148
  obtain ⟨a, cap, rfl, hc⟩ := hv
  go_enter Try.func66, Try.ntmps66
  go_wp2
  go_loopw [3, 8] (fun v i wr => ∃ k : Nat, k ≤ l.length ∧ i = .int .i64 k ∧ wr.ownsRow w.heap.size 148 1 v (l.take k).length ((l.take k).map liveV) ∧ Below w.heap.size w wr) (fun _ i _ => l.length - (intOf i).toNat)
  case atStart => exact ⟨0, Nat.zero_le _, rfl, World.ownsRow_nil _ _ _ _, Below.refl _ _⟩
  case round =>
    obtain ⟨k, hk, rfl, hown, hb⟩ := hrel
    by_cases hlt : k < l.length
    · obtain ⟨b, off, rfl, hbl, hcell⟩ := hc (by intro e; simp [e] at hlt)
      obtain ⟨s, hse⟩ : ∃ s, s = l[k].1 := ⟨_, rfl⟩
      obtain ⟨m, hme⟩ : ∃ m, m = l[k].2 := ⟨_, rfl⟩
      have e0 : wr.cell? ⟨b, off + k * 2, none⟩ = some (.string s) := by rw [hse]; exact (hb.cell (p := ⟨b, off + k * 2, none⟩) hbl).trans (hcell k hlt).1
      have e1 : wr.cell? ⟨b, off + k * 2 + 1, none⟩ = some (.int .i64 m) := by rw [hme]; exact (hb.cell (p := ⟨b, off + k * 2 + 1, none⟩) hbl).trans (hcell k hlt).2
      have HT : Hid ((l.take (k + 1)).map liveV = (l.take k).map liveV ++ [.iface 152 (.agg #[.string s, .int .i64 m])]) := by
        show _ = _
        rw [hse, hme, List.take_succ_eq_append_getElem hlt, List.map_append]; rfl
      have hlen : (l.take k).length = k := by simp; omega
      have HL : Hid ((l.take (k + 1)).length = k + 1) := by show _ = _; simp; omega
      have hz := hb.size
      rw [hlen] at hown
      clear hcell hse hme hc hlen
      generalize (l.take k).map liveV = L at *
      go_wp2_with (at_builtin; refine wpList_append_own _ rfl _ _ 104 rfl w.heap.size 148 i0 .nilIface 1 16 Try.underlying104 hi hz0 hzs hzb rfl (by decide) _ k L rfl (owns_below (owns_below hown (below_alloc _ _)) (below_alloc _ _)) ⟨wr.heap.size + 1, 0, none⟩ 1 1 [.iface 152 (.agg #[.string s, .int .i64 m])] rfl rfl (by intro j u hj; match j, hj with | 0, hj => simp at hj; subst hj; simp [Addr.add]) (by intro u hu; simp at hu; subst hu; rfl) (by unfold maxLen; omega) (by omega) (by simp; omega) ?_; intro v' w2 hown2 hgrow2 _)
      go_roundw
      case rel =>
        refine ⟨k + 1, by omega, by go_num, ?_, ?_⟩
        · rw [HT.out, HL.out]; exact hown2
        · exact ((hb.alloc hz _).alloc (by simp; omega) _).grown hgrow2 (by simp; omega) (owns_ge hown)
      case measure => simp [intOf]; omega
    · have hkk : k = l.length := by omega
      subst hkk
      rw [List.take_length] at hown
      go_wp2
      go_ret
      exact ⟨_, rfl, hown, hb⟩

set_option maxRecDepth 100000 in
set_option maxHeartbeats 1000000 in
theorem crashedFiles_any (v : Value) (l : List (ByteArray × Int)) (keep : Int) (w : World) (hv : PL w v l) (hn : l.length ≤ 1048576) :
    Calls Try.prog 65 #[v, .int .i64 keep] w fun e w' => ∃ u, e = .returned u ∧ w'.ownsRow w.heap.size 148 1 u l.length (l.map (crashV keep)) ∧ Below w.heap.size w w' := by
  obtain ⟨i0, hi, hz0, hzs, hzb⟩ := info_parts Try.info148
  obtain ⟨a, cap, rfl, hc⟩ := hv
  go_enter Try.func65, Try.ntmps65
  go_wp2
  go_loopw [5, 10] (fun v i wr => ∃ k : Nat, k ≤ l.length ∧ i = .int .i64 k ∧ wr.ownsRow w.heap.size 148 1 v (l.take k).length ((l.take k).map (crashV keep)) ∧ Below w.heap.size w wr) (fun _ i _ => l.length - (intOf i).toNat)
  case atStart => exact ⟨0, Nat.zero_le _, rfl, World.ownsRow_nil _ _ _ _, Below.refl _ _⟩
  case round =>
    obtain ⟨k, hk, rfl, hown, hb⟩ := hrel
    by_cases hlt : k < l.length
    · obtain ⟨b, off, rfl, hbl, hcell⟩ := hc (by intro e; simp [e] at hlt)
      obtain ⟨s, hse⟩ : ∃ s, s = l[k].1 := ⟨_, rfl⟩
      obtain ⟨m, hme⟩ : ∃ m, m = l[k].2 := ⟨_, rfl⟩
      have e0 : wr.cell? ⟨b, off + k * 2, none⟩ = some (.string s) := by rw [hse]; exact (hb.cell (p := ⟨b, off + k * 2, none⟩) hbl).trans (hcell k hlt).1
      have e1 : wr.cell? ⟨b, off + k * 2 + 1, none⟩ = some (.int .i64 m) := by rw [hme]; exact (hb.cell (p := ⟨b, off + k * 2 + 1, none⟩) hbl).trans (hcell k hlt).2
      have HT : Hid ((l.take (k + 1)).map (crashV keep) = (l.take k).map (crashV keep) ++ [.iface 150 (.agg #[.string s, .int .i64 m, .int .i64 keep])]) := by
        show _ = _
        rw [hse, hme, List.take_succ_eq_append_getElem hlt, List.map_append]; rfl
      have hlen : (l.take k).length = k := by simp; omega
      have HL : Hid ((l.take (k + 1)).length = k + 1) := by show _ = _; simp; omega
      have hz := hb.size
      rw [hlen] at hown
      clear hcell hse hme hc hlen
      generalize (l.take k).map (crashV keep) = L at *
      go_wp2_with (at_builtin; refine wpList_append_own _ rfl _ _ 104 rfl w.heap.size 148 i0 .nilIface 1 16 Try.underlying104 hi hz0 hzs hzb rfl (by decide) _ k L rfl (owns_below (owns_below hown (below_alloc _ _)) (below_alloc _ _)) ⟨wr.heap.size + 1, 0, none⟩ 1 1 [.iface 150 (.agg #[.string s, .int .i64 m, .int .i64 keep])] rfl rfl (by intro j u hj; match j, hj with | 0, hj => simp at hj; subst hj; simp [Addr.add]) (by intro u hu; simp at hu; subst hu; rfl) (by unfold maxLen; omega) (by omega) (by simp; omega) ?_; intro v' w2 hown2 hgrow2 _)
      go_roundw
      case rel =>
        refine ⟨k + 1, by omega, by go_num, ?_, ?_⟩
        · rw [HT.out, HL.out]; exact hown2
        · exact ((hb.alloc hz _).alloc (by simp; omega) _).grown hgrow2 (by simp; omega) (owns_ge hown)
      case measure => simp [intOf]; omega
    · have hkk : k = l.length := by omega
      subst hkk
      rw [List.take_length] at hown
      go_wp2
      go_ret
      exact ⟨_, rfl, hown, hb⟩

end Go.Proofs.Ytbgemebpfcbloaa
