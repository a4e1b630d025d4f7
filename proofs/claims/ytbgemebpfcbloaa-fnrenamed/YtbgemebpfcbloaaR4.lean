/-
  A file read through its interface; impl.readNamed.
-/
import Derived.Test.YtbgemebpfcbloaaR2ToR3
import Derived.WalkLawsBesides
namespace Go.Proofs.Ytbgemebpfcbloaa
open Go.RowKit Go.Maps
set_option maxRecDepth 100000
set_option linter.unusedVariables false

set_option maxHeartbeats 400000 in
theorem liveRead_any (s : ByteArray) (m : Int) (w : World) :
    Calls Try.prog 173 #[.agg #[.string s, .int .i64 m]] w fun e w' => e = .returned (.string s) ∧ Below w.heap.size w w' := by
  go_enter Try.func173, Try.ntmps173
  go_wp2
  go_ret
  exact ⟨rfl, below_alloc _ _⟩

theorem method_live (s : ByteArray) (m : Int) (w : World) : (method 214 152 (.agg #[.string s, .int .i64 m]) "loop.example/g00224/impl.read").run Try.prog w = .ok (173, .agg #[.string s, .int .i64 m]) w := by kernel_rfl
theorem method_crash (s : ByteArray) (m k : Int) (w : World) : (method 214 150 (.agg #[.string s, .int .i64 m, .int .i64 k]) "loop.example/g00224/impl.read").run Try.prog w = .ok (172, .agg #[.string s, .int .i64 m, .int .i64 k]) w := by kernel_rfl

set_option maxRecDepth 100000 in
set_option maxHeartbeats 1000000 in
theorem readLive_yes (u v : Value) (bl lv : List (ByteArray × Int)) (base : Nat) (nm : ByteArray) (cn : Nat) (w : World) (ho : w.ownsRow base 148 1 u bl.length (bl.map liveV)) (hv : PL w v lv) (hn : lv.length ≤ 1048576) (hnb : bl.length ≤ 1048576)
    (hs : ∀ i (h : i < lv.length), lv[i].1.size ≤ 1048576) (hi2 : ∀ i (h : i < lv.length), 0 ≤ lv[i].2 ∧ lv[i].2 < bl.length) (hnm : nm.size ≤ 1048576) (hlk : lkp nm none lv = some (cn : Int)) (hcn : cn < bl.length) :
    Calls Try.prog 64 #[u, v, .string nm] w fun e w' => e = .returned (.tuple #[.string bl[cn].1, .bool true]) ∧ Below w.heap.size w w' := by
  have hkey : keyOf Try.prog 9 (.string nm) = some (keyL nm) := WideMaps.keyOf_string_mk Try.underlying9 (by unfold maxLen; omega)
  rcases ho.2 with ⟨_, h0⟩ | ⟨g, cap, cur, rfl, _⟩
  · omega
  · have HLK : Hid (lkp nm none lv = some (cn : Int)) := hlk
    have hhas : Maps.has (mapD lv) (keyL nm) = true := by rw [mapD_has, hlk]; rfl
    have HAT : Hid (∀ c : Int, (mapD lv).atKey (keyL nm) (.lit (.int .i64 0)) = .lit (.int .i64 c) → c = (cn : Int)) := by
      intro c h; rw [mapD_at nm lv _ hlk] at h; injection h with h; injection h with _ h; exact h.symm
    obtain ⟨s, hse⟩ : ∃ s, s = bl[cn].1 := ⟨_, rfl⟩
    obtain ⟨m, hme⟩ : ∃ m, m = bl[cn].2 := ⟨_, rfl⟩
    have HC : Hid (∀ w1 : World, Below w.heap.size w w1 → w1.cell? ⟨g, cn, none⟩ = some (.iface 152 (.agg #[.string s, .int .i64 m]))) := by
      intro w1 hb
      rw [(owns_below ho hb).cellAt cn (by omega)]
      rw [hse, hme]; simp [hcn, liveV]
    rw [← hse]
    clear hlk hse hme
    go_enter Try.func64, Try.ntmps64
    go_wp2_with fail
    refine (meaningOf_any _ lv _ hv hn hs (fun i h => ⟨(hi2 i h).1, by have := (hi2 i h).2; omega⟩)).mono ?_
    rintro e w1 ⟨rfl, hown, hb1⟩
    have hcell := HC.out w1 hb1
    have hmt := method_live s m
    generalize mapD lv = D at *
    go_wp2_with (at_lookup; refine wpList_lookup_own_ok_int _ rfl _ _ 94 rfl 9 3 .i64 law9 Try.underlying94 Try.underlying3 (zero3 _) w.heap.size lv.length D rfl hown _ _ rfl hkey ?_; intro c hat hwc; have hce := HAT.out c hat; subst hce)
    refine (liveRead_any _ _ _).mono ?_
    rintro e w2 ⟨rfl, hb2⟩
    go_wp2
    go_ret2
    exact ⟨rfl, below_then hb1 hb2⟩

set_option maxRecDepth 100000 in
set_option maxHeartbeats 1000000 in
theorem readNamed_no (u v : Value) (n : Nat) (lv : List (ByteArray × Int)) (nm : ByteArray) (w : World) (hv : PL w v lv) (hn : lv.length ≤ 1048576) (hnb : n ≤ 1048576)
    (hs : ∀ i (h : i < lv.length), lv[i].1.size ≤ 1048576) (hi2 : ∀ i (h : i < lv.length), 0 ≤ lv[i].2 ∧ lv[i].2 < n) (hnm : nm.size ≤ 1048576) (hlk : lkp nm none lv = none) :
    Calls Try.prog 64 #[u, v, .string nm] w fun e w' => e = .returned (.tuple #[.string ⟨#[]⟩, .bool false]) ∧ Below w.heap.size w w' := by
  have hkey : keyOf Try.prog 9 (.string nm) = some (keyL nm) := WideMaps.keyOf_string_mk Try.underlying9 (by unfold maxLen; omega)
  have hhas : Maps.has (mapD lv) (keyL nm) = false := by rw [mapD_has, hlk]; rfl
  clear hlk
  go_enter Try.func64, Try.ntmps64
  go_wp2_with fail
  refine (meaningOf_any _ lv _ hv hn hs (fun i h => ⟨(hi2 i h).1, by have := (hi2 i h).2; omega⟩)).mono ?_
  rintro e w1 ⟨rfl, hown, hb1⟩
  generalize mapD lv = D at *
  go_wp2_with (at_lookup; refine wpList_lookup_own_ok_int _ rfl _ _ 94 rfl 9 3 .i64 law9 Try.underlying94 Try.underlying3 (zero3 _) w.heap.size lv.length D rfl hown _ _ rfl hkey ?_; intro c hat hwc)
  go_ret2
  exact ⟨rfl, hb1⟩

set_option maxHeartbeats 1000000 in
theorem crashRead_any (s : ByteArray) (m k : Nat) (w : World) (hs : s.size ≤ 1048576) (hm : m ≤ 1048576) (hk : k ≤ 1048576) :
    Calls Try.prog 172 #[.agg #[.string s, .int .i64 m, .int .i64 k]] w fun e w' => e = .returned (.string (s.extract 0 (min s.size (m + k)))) ∧ Below w.heap.size w w' := by
  by_cases h : (s.size : Int) ≤ (m : Int) + (k : Int)
  · go_enter Try.func172, Try.ntmps172
    go_wp2
    go_ret
    exact ⟨by rw [Nat.min_eq_left (by omega)]; simp, below_alloc _ _⟩
  · go_enter Try.func172, Try.ntmps172
    go_wp2
    go_ret
    exact ⟨by rw [Nat.min_eq_right (by omega)]; rfl, below_alloc _ _⟩

set_option maxRecDepth 100000 in
set_option maxHeartbeats 1000000 in
theorem readCrash_yes (u v : Value) (bl lv : List (ByteArray × Int)) (base : Nat) (nm : ByteArray) (cn mn kn : Nat) (w : World) (ho : w.ownsRow base 148 1 u bl.length (bl.map (crashV kn))) (hv : PL w v lv) (hn : lv.length ≤ 1048576) (hnb : bl.length ≤ 1048576)
    (hs : ∀ i (h : i < lv.length), lv[i].1.size ≤ 1048576) (hi2 : ∀ i (h : i < lv.length), 0 ≤ lv[i].2 ∧ lv[i].2 < bl.length) (hnm : nm.size ≤ 1048576) (hlk : lkp nm none lv = some (cn : Int)) (hcn : cn < bl.length)
    (hmn : bl[cn].2 = (mn : Int)) (hm : mn ≤ 1048576) (hkn : kn ≤ 1048576) (hss : bl[cn].1.size ≤ 1048576) :
    Calls Try.prog 64 #[u, v, .string nm] w fun e w' => e = .returned (.tuple #[.string (bl[cn].1.extract 0 (min bl[cn].1.size (mn + kn))), .bool true]) ∧ Below w.heap.size w w' := by
  have hkey : keyOf Try.prog 9 (.string nm) = some (keyL nm) := WideMaps.keyOf_string_mk Try.underlying9 (by unfold maxLen; omega)
  rcases ho.2 with ⟨_, h0⟩ | ⟨g, cap, cur, rfl, _⟩
  · omega
  · have hhas : Maps.has (mapD lv) (keyL nm) = true := by rw [mapD_has, hlk]; rfl
    have HAT : Hid (∀ c : Int, (mapD lv).atKey (keyL nm) (.lit (.int .i64 0)) = .lit (.int .i64 c) → c = (cn : Int)) := by
      intro c h; rw [mapD_at nm lv _ hlk] at h; injection h with h; injection h with _ h; exact h.symm
    obtain ⟨s, hse⟩ : ∃ s, s = bl[cn].1 := ⟨_, rfl⟩
    have HC : Hid (∀ w1 : World, Below w.heap.size w w1 → w1.cell? ⟨g, cn, none⟩ = some (.iface 150 (.agg #[.string s, .int .i64 mn, .int .i64 kn]))) := by
      intro w1 hb
      rw [(owns_below ho hb).cellAt cn (by omega)]
      rw [hse, ← hmn]; simp [hcn, crashV]
    rw [← hse] at hss ⊢
    clear hlk hse hmn
    go_enter Try.func64, Try.ntmps64
    go_wp2_with fail
    refine (meaningOf_any _ lv _ hv hn hs (fun i h => ⟨(hi2 i h).1, by have := (hi2 i h).2; omega⟩)).mono ?_
    rintro e w1 ⟨rfl, hown, hb1⟩
    have hcell := HC.out w1 hb1
    have hmt := method_crash s mn kn
    generalize mapD lv = D at *
    go_wp2_with (at_lookup; refine wpList_lookup_own_ok_int _ rfl _ _ 94 rfl 9 3 .i64 law9 Try.underlying94 Try.underlying3 (zero3 _) w.heap.size lv.length D rfl hown _ _ rfl hkey ?_; intro c hat hwc; have hce := HAT.out c hat; subst hce)
    refine (crashRead_any _ _ _ _ hss hm hkn).mono ?_
    rintro e w2 ⟨rfl, hb2⟩
    go_wp2
    go_ret2
    exact ⟨rfl, below_then hb1 hb2⟩
end Go.Proofs.Ytbgemebpfcbloaa
