/-
  spec.NamesOf, impl.NamesOf.
-/
import Derived.Test.YtbgemebpfcbloaaS1
namespace Go.Proofs.Ytbgemebpfcbloaa
open Go.RowKit
set_option maxRecDepth 100000
set_option linter.unusedVariables false

theorem Try.info9 : (Try.prog.info? 9).map (fun i => (i.zero, i.size, i.bytes)) = some (some (.string ⟨#[]⟩), 1, 16) := by kernel_rfl
/-- What NamesOf answers. -/
def namesOr (bl lv sf : List (ByteArray × Int)) (r : Int) : List ByteArray := if goodD bl lv sf r then lv.map Prod.fst else []
theorem namesOr_no {bl lv sf : List (ByteArray × Int)} {r : Int} (h : false = goodD bl lv sf r) : namesOr bl lv sf r = [] := by simp [namesOr, ← h]
theorem namesOr_yes {bl lv sf : List (ByteArray × Int)} {r : Int} (h : true = goodD bl lv sf r) : namesOr bl lv sf r = lv.map Prod.fst := by simp [namesOr, ← h]

theorem owns_ge {w : World} {base : Nat} {e : TypeId} {size : Nat} {v : Value} {n : Nat} {xs : List Value} (h : w.ownsRow base e size v n xs) : ∀ g, v.ownBlock = some g → base ≤ g := by
  intro g hg
  rcases h.2 with ⟨rfl, _⟩ | ⟨g', cap, cur, rfl, hb, _⟩
  · simp [Value.ownBlock] at hg
  · simp only [Value.ownBlock, Option.some.injEq] at hg
    omega

theorem owns_blk {w : World} {base : Nat} {e : TypeId} {size : Nat} {v : Value} {n : Nat} {xs : List Value} (h : w.ownsRow base e size v n xs) : ∀ g, v.ownBlock = some g → g < w.heap.size := by
  intro g hg
  rcases h.2 with ⟨rfl, _⟩ | ⟨g', cap, cur, rfl, _, hh, _⟩
  · simp [Value.ownBlock] at hg
  · simp only [Value.ownBlock, Option.some.injEq] at hg
    rw [← hg]; exact (Array.getElem?_eq_some_iff.1 hh).1
theorem namesOr_len (bl lv sf : List (ByteArray × Int)) (r : Int) : (namesOr bl lv sf r).length ≤ lv.length := by
  unfold namesOr; split <;> simp

set_option maxHeartbeats 1000000 in
theorem implNamesOf_any (v1 v2 v3 : Value) (bl lv sf : List (ByteArray × Int)) (r : Int) (w : World) (h1 : PL w v1 bl) (h2 : PL w v2 lv) (h3 : PL w v3 sf)
    (hn1 : tot bl + bl.length ≤ 1048576) (hn2 : tot lv + lv.length ≤ 1048576) (hn3 : tot sf + sf.length ≤ 1048576) (hs1 : ∀ i (h : i < bl.length), bl[i].1.size ≤ 1048576) (hs2 : ∀ i (h : i < lv.length), lv[i].1.size ≤ 1048576) (hs3 : ∀ i (h : i < sf.length), sf[i].1.size ≤ 1048576) :
    Calls Try.prog 16 #[.agg #[v1, v2, v3, .int .i64 r]] w fun e w' => ∃ v, e = .returned (.tuple #[v, .bool (goodD bl lv sf r)]) ∧ w'.ownsRow w.heap.size 9 1 v (namesOr bl lv sf r).length ((namesOr bl lv sf r).map Value.string) ∧ Below w.heap.size w w' := by
  obtain ⟨i0, hi, hz0, hzs, hzb⟩ := info_parts Try.info9
  go_enter Try.func16, Try.ntmps16
  go_wp2_with fail
  refine (implGood_any _ _ _ bl lv sf _ _ (h1.alloc _) (h2.alloc _) (h3.alloc _) hn1 hn2 hn3 hs1 hs2 hs3).mono ?_
  rintro e w1 ⟨rfl, hb1⟩
  have hB1 := below_then (below_alloc _ _) hb1
  have X1 := (Box.new w #[v1, v2, v3, .int .i64 r] 26).below hb1
  obtain ⟨hz1, p0, p1, p2, p3⟩ := X1.c4
  clear hb1
  obtain ⟨g, hg⟩ : ∃ g, g = goodD bl lv sf r := ⟨_, rfl⟩
  rw [← hg]
  have HG : Hid (g = goodD bl lv sf r) := hg
  clear hg hs1 hs3 h1 h3
  cases g with
  | false =>
    go_wp2
    go_ret2
    refine ⟨.slice none 0 0, by rw [← HG.out]; rfl, ?_, hB1⟩
    rw [namesOr_no HG.out]
    exact World.ownsRow_nil _ _ _ _
  | true =>
    obtain ⟨a2, c2, rfl, hc2⟩ := h2
    go_wp2
    go_loopw [4, 13] (fun v i wr => ∃ k : Nat, k ≤ lv.length ∧ i = .int .i64 k ∧ wr.ownsRow w.heap.size 9 1 v ((lv.take k).map Prod.fst).length (((lv.take k).map Prod.fst).map Value.string) ∧ Below w.heap.size w wr) (fun _ i _ => lv.length - (intOf i).toNat)
    case atStart => exact ⟨0, Nat.zero_le _, rfl, World.ownsRow_nil _ _ _ _, hB1⟩
    case round =>
      clear X1 hz1 p0 p1 p2 p3 hB1
      obtain ⟨k, hk, rfl, hown, hb⟩ := hrel
      by_cases hlt : k < lv.length
      · obtain ⟨b, off, rfl, hbl, hcell⟩ := hc2 (by intro e; simp [e] at hlt)
        obtain ⟨s, hse⟩ : ∃ s, s = lv[k].1 := ⟨_, rfl⟩
        obtain ⟨m, hme⟩ : ∃ m, m = lv[k].2 := ⟨_, rfl⟩
        have e0 : wr.cell? ⟨b, off + k * 2, none⟩ = some (.string s) := by rw [hse]; exact (hb.cell (p := ⟨b, off + k * 2, none⟩) hbl).trans (hcell k hlt).1
        have e1 : wr.cell? ⟨b, off + k * 2 + 1, none⟩ = some (.int .i64 m) := by rw [hme]; exact (hb.cell (p := ⟨b, off + k * 2 + 1, none⟩) hbl).trans (hcell k hlt).2
        have HT : Hid ((lv.take (k + 1)).map Prod.fst = (lv.take k).map Prod.fst ++ [s]) := by
          show _ = _
          rw [hse, List.take_succ_eq_append_getElem hlt, List.map_append]; rfl
        have hlen : ((lv.take k).map Prod.fst).length = k := by simp; omega
        have HL : Hid (((lv.take k).map Prod.fst).length = k) := hlen
        have hz := hb.size
        clear hcell hse hme hc2
        rw [hlen] at hown
        clear hlen
        generalize (lv.take k).map Prod.fst = L at *
        have HO : Hid _ := hown
        go_wp2_with (at_builtin; refine wpList_append_own _ rfl _ _ 35 rfl w.heap.size 9 i0 (.string ⟨#[]⟩) 1 16 Try.underlying35 hi hz0 hzs hzb rfl (by decide) _ k (L.map Value.string) rfl (owns_below (owns_below hown (below_alloc _ _)) (below_alloc _ _)) ⟨wr.heap.size + 1, 0, none⟩ 1 1 [.string s] rfl rfl (by intro j u hj; match j, hj with | 0, hj => simp at hj; subst hj; simp [Addr.add]) (by intro u hu; simp at hu; subst hu; rfl) (by unfold maxLen; omega) (by omega) (by simp; omega) ?_; intro v' w2 hown2 hgrow2 _)
        go_roundw
        case rel =>
          refine ⟨k + 1, by omega, by go_num, ?_, ?_⟩
          · rw [HT.out, List.length_append, HL.out, List.map_append]; exact hown2
          · exact ((hb.alloc hz _).alloc (by simp; omega) _).grown hgrow2 (by simp; omega) (owns_ge hown)
        case measure => simp [intOf]; omega
      · have hkk : k = lv.length := by omega
        subst hkk
        rw [List.take_length] at hown
        go_wp2
        go_ret2
        refine ⟨_, by rw [← HG.out]; rfl, ?_, hb⟩
        rw [namesOr_yes HG.out]
        exact hown

end Go.Proofs.Ytbgemebpfcbloaa
