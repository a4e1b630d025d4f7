/-
  Chunks of files: the specification's side.
-/
import Derived.Test.YtocaigffikdlhaaX4
namespace Go.Proofs.Ytocaigffikdlhaa
open Go.RowKit Go.Maps
set_option linter.unusedVariables false
set_option maxRecDepth 100000

set_option maxHeartbeats 16000000 in
theorem l13Chunks_any (v : Value) (L : List ByteArray) (w : World) (hv : SL w v L) (hg : gfB L = true) :
    Calls Try.prog 71 #[v] w fun e w' => ∃ u, e = .returned u ∧ w'.ownsRow w.heap.size 37 4 u (ckL L).length (flat4 (ckL L)) ∧ Below w.heap.size w w' := by
  obtain ⟨a, cap, rfl, hc⟩ := hv
  obtain ⟨h12, HSZ⟩ := (gfB_iff L).1 hg
  have hok := wtL_ok hg
  have HL := fun k hk => plTo_len hok k hk
  have HS := fun k hk => plTo_succ (wtL L) k hk
  have HWL : ∀ i (hi : i < L.length), ∃ h2 : i < (wtL L).length, ((wtL L)[i].t = (L[i].size : Int)) := fun i hi => ⟨by rw [wtL_length]; exact hi, by simp [wtL]⟩
  have hwl := wtL_length L
  have HEND : Hid ((plTo (wtL L) L.length).map (fil L) = ckL L) := by show _ = _; unfold ckL plL; rw [hwl]
  have HFI := fun i j (hi : i < L.length) => fil_at L i j hi
  clear hok hg
  generalize wtL L = Wl at *
  go_enter Try.func71, Try.ntmps71
  go_wp2
  go_loopw [3, 10] (fun z i wr => ∃ (k : Nat), k ≤ L.length ∧ i = .int .i64 k ∧ wr.ownsRow w.heap.size 37 4 z (plTo Wl k).length (flat4 ((plTo Wl k).map (fil L))) ∧ Below w.heap.size w wr) (fun _ i _ => L.length - (intOf i).toNat)
  case atStart => exact ⟨0, Nat.zero_le _, rfl, World.ownsRow_nil _ _ _ _, Below.refl _ _⟩
  case round =>
    obtain ⟨k, hk, rfl, hown, hb⟩ := hrel
    by_cases hlt : k < L.length
    · obtain ⟨b, off, rfl, hbl, hcell⟩ := hc (by intro e; simp [e] at hlt)
      have hc0 := (hb.cell (p := ⟨b, off + k, none⟩) hbl).trans (hcell k hlt)
      have hsz := HSZ k hlt
      obtain ⟨hk2, hwt⟩ := HWL k hlt
      have hl := HL k (by omega)
      have hw := HS k hk2
      have HFK := fun j => HFI k j hlt
      rw [hwt] at hw
      have hnp := np_le (show ((L[k].size : Nat) : Int) ≤ 4000 from by omega)
      have HNP : Hid (∀ j : Nat, 64 * (j : Int) < (L[k].size : Int) ↔ j < np (L[k].size : Int)) := fun j => np_lt j (by omega)
      have HW : Hid (plTo Wl (k + 1) = plTo Wl k ++ plF k (np (L[k].size : Int))) := hw
      clear hcell hc HL HS HWL HFI HSZ hwt hw HEND hwl
      generalize L[k] = s at *
      generalize plTo Wl k = T at *
      generalize HT2 : plTo Wl (k + 1) = T2 at *
      have HE2 : Hid (plTo Wl (k + 1) = T2) := HT2
      clear HT2
      generalize hnpe : np (s.size : Int) = N at *
      have HNE : Hid (np (s.size : Int) = N) := hnpe
      clear hnpe
      obtain ⟨za, zc, rfl⟩ := owns_shape hown
      have hz := hb.size
      go_wp2
      clear hc0
      go_loopw [3, 6] (fun z i wx => ∃ (j : Nat), j ≤ N ∧ i = .int .i64 (64 * (j : Int)) ∧ wx.ownsRow w.heap.size 37 4 z (T.length + j) (flat4 ((T ++ plF k j).map (fil L))) ∧ Below w.heap.size w wx) (fun _ i _ => 64 * N - (intOf i).toNat)
      case atStart => exact ⟨0, Nat.zero_le _, rfl, by simpa [plF] using hown, hb⟩
      case round =>
        clear hown hb
        obtain ⟨j, hj, rfl, hown, hb⟩ := hrel
        have hnj := HNP.out j
        by_cases hjl : j < N
        · have hlt2 := hnj.2 hjl
          obtain ⟨za, zc, rfl⟩ := owns_shape hown
          have hge := owns_ge hown
          have hz2 := hb.size
          have hfk := HFK j
          obtain ⟨en, hen⟩ : ∃ en, en = 64 * j + min 64 (s.size - 64 * j) := ⟨_, rfl⟩
          rw [← hen] at hfk
          have hen1 : 64 * j ≤ en := by omega
          have hen2 : en ≤ s.size := by omega
          have hmin : min 64 ((s.size : Int) - 64 * (j : Int)) = (en : Int) - 64 * (j : Int) := by omega
          have KS := fun w => l13Size_any (s.size : Int) (64 * (j : Int)) w (by omega) (by omega) (by omega) (by omega)
          rw [hmin] at KS
          have SL1 := fun w => slice_at s w (64 * j) en hen1 hen2 hsz
          have hxs : (s.extract (64 * j) en).size ≤ 4000 := by rw [ByteArray.size_extract]; omega
          have KC := fun w => l13Sum_any (k : Int) (64 * (j : Int)) (s.extract (64 * j) en) w (by omega) (by omega) (by omega) (by omega) (by omega)
          generalize s.extract (64 * j) en = D at *
          generalize cks k (64 * (j : Int)) D = r at *
          have e64 : ((64 * j : Nat) : Int) = 64 * (j : Int) := by omega
          rw [e64] at SL1
          have HPS : Hid ((T ++ plF k (j + 1)).map (fil L) = ((T ++ plF k j).map (fil L)) ++ [⟨(k : Int), 64 * (j : Int), D, (r : Int)⟩]) := by
            show _ = _
            rw [plF_succ, ← List.append_assoc, List.map_append (l₁ := T ++ plF k j), List.map_singleton, hfk]
          have hwr1 : IntKind.i64.wrap (64 * (j : Int) + ((en : Int) - 64 * (j : Int))) = (en : Int) := by rw [IntKind.wrap_i64]; omega
          clear hnj hfk hen hmin e64
          generalize (T ++ plF k j).map (fil L) = T3 at *
          go_wp2_with fail
          refine (KS _).mono ?_
          rintro e w2 ⟨rfl, hw2⟩
          have hb2 := hb
          rw [← hw2] at hown hb2 hz2
          clear hw2 hb KS
          go_wp2_with fail
          refine (KC _).mono ?_
          rintro e w4 ⟨rfl, hb4⟩
          replace hown := owns_below hown hb4
          replace hb2 := hb2.trans (hb4.mono hz2)
          have hz4 := hb2.size
          clear hb4 KC
          go_wp2_with (at_builtin; refine wpList_append_ck _ rfl _ _ rfl rfl w.heap.size _ (T.length + j) T3 rfl (owns_below hown (below_alloc _ _)) w4.heap.size ⟨(k : Int), 64 * (j : Int), D, (r : Int)⟩ rfl (Box.new w4 #[.int .i64 k, .int .i64 (64 * (j : Int)), .string D, .int .u32 r] 37) (by omega) (by simp; omega) ?_; intro v' w3 hown3 hgr3)
          obtain ⟨va, vc, rfl⟩ := owns_shape hown3
          have hb3 : Below w.heap.size w w3 := (hb2.alloc hz4 _).grown hgr3 (by simp; omega) hge
          have HO : Hid _ := hown3
          clear hown hgr3 hb2 hge hown3 SL1
          go_wp2
          go_roundw
          case rel => exact ⟨j + 1, by omega, by go_num, by rw [HPS.out]; exact HO.out, hb3⟩
          case measure => simp [intOf]; omega
        · obtain rfl : j = N := by omega
          have hlt2 : ¬ 64 * (j : Int) < (s.size : Int) := fun h => by have := hnj.1 h; omega
          obtain ⟨za, zc, rfl⟩ := owns_shape hown
          clear hnj HFK
          go_wp2
          go_roundw
          case rel => exact ⟨k + 1, by omega, by go_num, by rw [HE2.out, HW.out, List.length_append, plF_length]; exact hown, hb⟩
          case measure => simp [intOf]; omega
    · obtain rfl : k = L.length := by omega
      have HLE : Hid ((plTo Wl L.length).length = (ckL L).length) := by show _ = _; rw [← HEND.out]; simp
      rw [HEND.out] at hown
      obtain ⟨za, zc, rfl⟩ := owns_shape hown
      clear hc HL HS HWL HFI HSZ
      go_wp2
      go_ret
      exact ⟨_, rfl, by rw [← HLE.out]; exact hown, hb⟩

set_option maxHeartbeats 8000000 in
theorem specChunks_any (v : Value) (L : List ByteArray) (w : World) (hv : SL w v L) (hn : L.length ≤ 1048576) (hs : ∀ i (h : i < L.length), L[i].size ≤ 1048576) :
    Calls Try.prog 19 #[v] w fun e w' => ∃ u, e = .returned (.tuple #[u, .bool (ckB L)]) ∧ w'.ownsRow w.heap.size 37 4 u (ckR L).length (flat4 (ckR L)) ∧ Below w.heap.size w w' := by
  have KF := l13Files_any v L w hv hn hs
  have KC := fun (h : gfB L = true) W (hb : Below w.heap.size w W) => l13Chunks_any v L W (hv.below hb) h
  obtain ⟨a, cap, rfl, hc⟩ := hv
  have hlen : (ckL L).length = (plL (wtL L)).length := by simp [ckL]
  have hB0 : ckB L = (gfB L && decide ((ckL L).length ≤ 200)) := by rw [hlen]; rfl
  have hm : gfB L = true → (ckL L).length ≤ 756 := fun h => by rw [hlen]; exact plL_len (wtL_ok h)
  clear hc hs
  cases hg : gfB L with
  | false =>
    have HR : Hid (ckR L = []) := by show _ = _; unfold ckR; rw [hB0, hg]; rfl
    have HB : Hid (ckB L = false) := by show _ = _; rw [hB0, hg]; rfl
    rw [HR.out, HB.out]
    rw [hg] at KF
    clear KC hm hB0 hlen
    go_enter Try.func19, Try.ntmps19
    go_wp2_with fail
    refine KF.mono ?_
    rintro e w1 ⟨rfl, hb⟩
    clear KF
    go_wp2
    go_ret2
    exact ⟨_, rfl, World.ownsRow_nil _ _ _ _, hb⟩
  | true =>
    have HB : Hid (ckB L = decide ((ckL L).length ≤ 200)) := by show _ = _; rw [hB0, hg]; rfl
    have h756 := hm hg
    rw [hg] at KF
    by_cases hle : (ckL L).length ≤ 200
    · have HR : Hid (ckR L = ckL L) := by show _ = _; unfold ckR; rw [HB.out]; simp [hle]
      have HB2 : Hid (ckB L = true) := by show _ = _; rw [HB.out]; simp [hle]
      rw [HR.out, HB2.out]
      have KC2 := KC hg
      clear KC hm hB0 hlen HB hg
      generalize ckL L = Z at *
      go_enter Try.func19, Try.ntmps19
      go_wp2_with fail
      refine KF.mono ?_
      rintro e w1 ⟨rfl, hb⟩
      have hz1 := hb.size
      clear KF
      go_wp2_with fail
      refine (KC2 _ hb).mono ?_
      rintro e w2 ⟨u, rfl, O2, hb2⟩
      obtain ⟨ua, uc, rfl⟩ := owns_shape O2
      have hB := below_then hb hb2
      clear KC2 hb2
      go_wp2
      go_ret2
      exact ⟨_, rfl, owns_mono' O2 hz1, hB⟩
    · have HR : Hid (ckR L = []) := by show _ = _; unfold ckR; rw [HB.out]; simp [hle]
      have HB2 : Hid (ckB L = false) := by show _ = _; rw [HB.out]; simp [hle]
      rw [HR.out, HB2.out]
      have KC2 := KC hg
      clear KC hm hB0 hlen HB hg
      generalize ckL L = Z at *
      go_enter Try.func19, Try.ntmps19
      go_wp2_with fail
      refine KF.mono ?_
      rintro e w1 ⟨rfl, hb⟩
      have hz1 := hb.size
      clear KF
      go_wp2_with fail
      refine (KC2 _ hb).mono ?_
      rintro e w2 ⟨u, rfl, O2, hb2⟩
      obtain ⟨ua, uc, rfl⟩ := owns_shape O2
      have hB := below_then hb hb2
      clear KC2 hb2 O2
      go_wp2
      go_ret2
      exact ⟨_, rfl, World.ownsRow_nil _ _ _ _, hB⟩
end Go.Proofs.Ytocaigffikdlhaa
