/-
  spec.DrawJoinFilters, spec.DrawAddKey, spec.DrawMayHave.
-/
import Derived.Test.YtdcglghmhjbkkaaD6
namespace Go.Proofs.Ytdcglghmhjbkkaa
open Go.RowKit
set_option linter.unusedVariables false
set_option maxRecDepth 100000

set_option maxHeartbeats 4000000 in
theorem drawJoin_any (v : Value) (l : List UInt8) (w : World) (hv : YL w v l) (hl : l.length ≤ 9223372036854775807) :
    Calls Try.prog 22 #[v] w fun e w' => (∃ (n : Int) (s : ByteArray) (m : Int) (n2 : Int) (s2 : ByteArray) (m2 : Int), e = .returned (.tuple #[.agg #[.int .i64 n, .string s, .int .i64 m], .agg #[.int .i64 n2, .string s2, .int .i64 m2]])) ∧ Below w.heap.size w w' := by
  have hv' := hv
  obtain ⟨a, cap, rfl, _⟩ := hv'
  obtain ⟨X, Z⟩ := two_boxes w (.int .i64 0) (.string ⟨#[]⟩) (.int .i64 0) (.int .i64 0) (.string ⟨#[]⟩) (.int .i64 0)
  have hB := below2 w (.cells #[.int .i64 0, .string ⟨#[]⟩, .int .i64 0] 24) (.cells #[.int .i64 0, .string ⟨#[]⟩, .int .i64 0] 24)
  have hC := cur_new (hv.below hB)
  have hA := below_alloc ((w.alloc (.cells #[.int .i64 0, .string ⟨#[]⟩, .int .i64 0] 24)).alloc (.cells #[.int .i64 0, .string ⟨#[]⟩, .int .i64 0] 24)) (.cells #[.slice a l.length cap, .int .i64 0, .int .u64 0] 64)
  replace X := X.below hA
  replace Z := Z.below hA
  replace hB := below_then hB hA
  have hzz : ((w.alloc (.cells #[.int .i64 0, .string ⟨#[]⟩, .int .i64 0] 24)).alloc (.cells #[.int .i64 0, .string ⟨#[]⟩, .int .i64 0] 24)).heap.size = w.heap.size + 1 + 1 := by simp
  rw [hzz] at hC
  clear hzz hA
  go_enter Try.func22, Try.ntmps22
  go_wp2_with fail
  refine (filter_any _ l 0 _ hC hl (by omega)).mono ?_
  rintro e w1 ⟨⟨n, s, m, rfl⟩, hC1, hch1⟩
  replace X := hch1.box X (by omega)
  replace Z := hch1.box Z (by omega)
  replace hB := hB.trans (hch1.below (B := w.heap.size) hB.size (fun k hk => by omega))
  clear hC hch1
  go_wp2_with fail
  refine (filter_any _ l _ _ hC1 hl (by omega)).mono ?_
  rintro e w2 ⟨⟨n2, s2, m2, rfl⟩, hC2, hch2⟩
  replace X := hch2.box X (by omega)
  replace Z := hch2.box Z (by omega)
  replace hB := hB.trans (hch2.below (B := w.heap.size) hB.size (fun k hk => by omega))
  clear hC1 hch2 hC2
  obtain ⟨⟨f0, f1, f2⟩, zx, x0, x1, x2⟩ := X.f3
  obtain ⟨⟨j0, j1, j2⟩, zz, z0, z1, z2⟩ := Z.f3
  have hB1 := (put3_ok hB (Nat.le_refl _) X (.int .i64 n) (.string s) (.int .i64 m)).2
  have X1 := put3_box X (.int .i64 n) (.string s) (.int .i64 m)
  have Z1 := (put3_chg w2 w.heap.size (.int .i64 n) (.string s) (.int .i64 m)).box Z (by omega)
  obtain ⟨⟨t0, t1, t2⟩, hB2⟩ := put3_ok hB1 (by omega) Z1 (.int .i64 n2) (.string s2) (.int .i64 m2)
  obtain ⟨_, r0, r1, r2⟩ := ((put3_chg (put3 w2 w.heap.size (.int .i64 n) (.string s) (.int .i64 m)) (w.heap.size + 1) (.int .i64 n2) (.string s2) (.int .i64 m2)).box X1 (by omega)).c3
  clear X Z X1 Z1 hB hB1
  go_wp2
  change bodyPost _ _ _ _ _ (put3 (put3 w2 w.heap.size (.int .i64 n) (.string s) (.int .i64 m)) (w.heap.size + 1) (.int .i64 n2) (.string s2) (.int .i64 m2))
  generalize put3 (put3 w2 w.heap.size (.int .i64 n) (.string s) (.int .i64 m)) (w.heap.size + 1) (.int .i64 n2) (.string s2) (.int .i64 m2) = W at *
  exact bodyPost_ret (v := .tuple #[.agg #[.int .i64 n, .string s, .int .i64 m], .agg #[.int .i64 n2, .string s2, .int .i64 m2]]) (by simp [results, Try.results22, go_sem, t0, t1, t2, r0, r1, r2]) rfl ⟨⟨_, _, _, _, _, _, rfl⟩, hB2⟩

set_option maxHeartbeats 4000000 in
theorem drawAdd_any (v : Value) (l : List UInt8) (w : World) (hv : YL w v l) (hl : l.length ≤ 9223372036854775807) :
    Calls Try.prog 13 #[v] w fun e w' => (∃ (n : Int) (s : ByteArray) (m : Int) (k : ByteArray), e = .returned (.tuple #[.agg #[.int .i64 n, .string s, .int .i64 m], .string k]) ∧ k.size ≤ 17) ∧ Below w.heap.size w w' := by
  have hv' := hv
  obtain ⟨a, cap, rfl, _⟩ := hv'
  have X := Box.new w #[.int .i64 0, .string ⟨#[]⟩, .int .i64 0] 24
  have hB := below_alloc w (.cells #[.int .i64 0, .string ⟨#[]⟩, .int .i64 0] 24)
  have hC := cur_new (hv.below hB)
  have hA := below_alloc (w.alloc (.cells #[.int .i64 0, .string ⟨#[]⟩, .int .i64 0] 24)) (.cells #[.slice a l.length cap, .int .i64 0, .int .u64 0] 64)
  replace X := X.below hA
  replace hB := below_then hB hA
  have hzz : (w.alloc (.cells #[.int .i64 0, .string ⟨#[]⟩, .int .i64 0] 24)).heap.size = w.heap.size + 1 := by simp
  rw [hzz] at hC
  clear hzz hA
  go_enter Try.func13, Try.ntmps13
  go_wp2_with fail
  refine (filter_any _ l 0 _ hC hl (by omega)).mono ?_
  rintro e w1 ⟨⟨n, s, m, rfl⟩, hC1, hch1⟩
  replace X := hch1.box X (by omega)
  replace hB := hB.trans (hch1.below (B := w.heap.size) hB.size (fun k hk => by omega))
  clear hC hch1
  go_wp2_with fail
  refine (key_any _ l _ _ hC1 hl (by omega)).mono ?_
  rintro e w2 ⟨⟨k, rfl, hk⟩, hC2, hch2⟩
  replace X := hch2.box X (by omega)
  replace hB := hB.trans (hch2.below (B := w.heap.size) hB.size (fun k hk => by omega))
  clear hC1 hch2 hC2
  have HK : Hid (k.size ≤ 17) := hk
  clear hk
  obtain ⟨⟨f0, f1, f2⟩, zx, x0, x1, x2⟩ := X.f3
  obtain ⟨⟨t0, t1, t2⟩, hB2⟩ := put3_ok hB (Nat.le_refl _) X (.int .i64 n) (.string s) (.int .i64 m)
  clear X hB
  go_wp2
  change bodyPost _ _ _ _ _ (put3 w2 w.heap.size (.int .i64 n) (.string s) (.int .i64 m))
  generalize put3 w2 w.heap.size (.int .i64 n) (.string s) (.int .i64 m) = W at *
  exact bodyPost_ret (v := .tuple #[.agg #[.int .i64 n, .string s, .int .i64 m], .string k]) (by simp [results, Try.results13, go_sem, t0, t1, t2]) rfl ⟨⟨_, _, _, _, rfl, HK.out⟩, hB2⟩
set_option maxHeartbeats 4000000 in
theorem drawMay_any (v : Value) (l : List UInt8) (w : World) (hv : YL w v l) (hl : l.length ≤ 9223372036854775807) :
    Calls Try.prog 25 #[v] w fun e w' => (∃ (n : Int) (s : ByteArray) (m : Int) (k : ByteArray), e = .returned (.tuple #[.agg #[.int .i64 n, .string s, .int .i64 m], .string k]) ∧ k.size ≤ 17) ∧ Below w.heap.size w w' := by
  have hv' := hv
  obtain ⟨a, cap, rfl, _⟩ := hv'
  have X := Box.new w #[.int .i64 0, .string ⟨#[]⟩, .int .i64 0] 24
  have hB := below_alloc w (.cells #[.int .i64 0, .string ⟨#[]⟩, .int .i64 0] 24)
  have hv1 := hv.below hB
  go_enter Try.func25, Try.ntmps25
  go_wp2_with fail
  refine (drawAdd_any _ l _ hv1 hl).mono ?_
  rintro e w1 ⟨⟨n, s, m, k, rfl, hk⟩, hb1⟩
  replace X := X.below hb1
  replace hB := below_then hB hb1
  have HK : Hid (k.size ≤ 17) := hk
  clear hk hb1 hv1
  obtain ⟨⟨f0, f1, f2⟩, zx, x0, x1, x2⟩ := X.f3
  obtain ⟨⟨t0, t1, t2⟩, hB2⟩ := put3_ok hB (Nat.le_refl _) X (.int .i64 n) (.string s) (.int .i64 m)
  clear X hB
  go_wp2
  change bodyPost _ _ _ _ _ (put3 w1 w.heap.size (.int .i64 n) (.string s) (.int .i64 m))
  generalize put3 w1 w.heap.size (.int .i64 n) (.string s) (.int .i64 m) = W at *
  exact bodyPost_ret (v := .tuple #[.agg #[.int .i64 n, .string s, .int .i64 m], .string k]) (by simp [results, Try.results25, go_sem, t0, t1, t2]) rfl ⟨⟨_, _, _, _, rfl, HK.out⟩, hB2⟩
end Go.Proofs.Ytdcglghmhjbkkaa
