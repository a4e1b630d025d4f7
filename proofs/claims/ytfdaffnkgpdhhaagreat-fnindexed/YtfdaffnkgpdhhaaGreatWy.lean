/-
  Filters: hashes by a closure; impl.PlacesOf.
  Filters: impl.PlacesOf of what is not good; spec.l5Places, spec.PlacesOf.
  Filters: spec.PlacesOf; marks of no numbers.
-/
import Derived.Test.YtfdaffnkgpdhhaaGreatWx
import Derived.Test.YtfdaffnkgpdhhaaGreatK2
namespace Go.Proofs.YtfdaffnkgpdhhaaGreat
open Go.RowKit
set_option linter.unusedVariables false
set_option maxRecDepth 100000

theorem Tryz.info3F : (Tryz.prog.info? 3).map (fun i => (i.zero, i.size, i.bytes)) = some (some (.int .i64 0), 1, 8) := by kernel_rfl
theorem Tryz.zero119 : (Tryz.prog.info? 119).map (fun i => (i.zero, i.size, i.bytes)) = some (some (.int .u32 0), 1, 4) := by kernel_rfl
theorem or_valF (x : Nat) (h : x < 4294967296) : bits BinOp.or IntKind.u32 (x : Int) 1 = ((x ||| 1 : Nat) : Int) := by
  have h1 : x ||| 1 < 2 ^ 32 := Nat.or_lt_two_pow (n := 32) h (by omega)
  simp [bits]
  rw [Nat.mod_eq_of_lt (by simpa [IntKind.bits] using h), Nat.mod_eq_of_lt (by simp [IntKind.bits])]
  have h2 : x ||| 1 < 4294967296 := by simpa using h1
  simp [IntKind.wrap, IntKind.bits, IntKind.signed]
  omega

set_option maxHeartbeats 1000000 in
theorem hashesOf_any (s : ByteArray) (w : World) (hs : s.size ≤ 1048576) :
    Calls Tryz.prog 95 #[.string s] w fun e w' => ∃ g1 g2, e = .returned (.func (.func 125) #[] #[.pointer (some ⟨g1, 0, none⟩), .pointer (some ⟨g2, 0, none⟩)]) ∧
      Box w' g1 [.int .u32 ((csum s.data.toList : Nat) : Int)] ∧ Box w' g2 [.int .u32 ((con 0 s.data.toList ||| 1 : Nat) : Int)] ∧ g1 ≠ g2 ∧ w.heap.size ≤ g1 ∧ w.heap.size ≤ g2 ∧ Below w.heap.size w w' := by
  have hmf : ∀ (fn : Fn) (first cap : Array Value) (w : World), (Instr.makeFunc fn first cap).run Tryz.prog w = .ok (.func fn first cap) w := fun _ _ _ _ => rfl
  have HO := or_valF (con 0 s.data.toList) (con_lt _ _ (by omega))
  have S := fun w => implSum_any s w hs
  have T := fun w => implOn_any 0 s w hs (by omega)
  generalize csum s.data.toList = a at *
  generalize con 0 s.data.toList = b at *
  go_enter Tryz.func95, Tryz.ntmps95
  go_wp2_with fail
  refine (S _).mono ?_
  rintro e w1 ⟨rfl, hb1⟩
  have B1 := Box.new w1 #[.int .u32 (a : Int)] 119
  have hz1 := hb1.size
  have hB1 := hb1.alloc hb1.size (.cells #[.int .u32 (a : Int)] 119)
  clear S hb1
  go_wp2_with fail
  refine (T _).mono ?_
  rintro e w2 ⟨rfl, hb2⟩
  have B2 := B1.below hb2
  have hB2 := below_then hB1 hb2
  have hz2 := B2.1
  clear T B1 hB1 hb2
  go_wp2
  go_ret
  exact ⟨_, _, rfl, B2.alloc _, Box.new w2 #[.int .u32 ((b ||| 1 : Nat) : Int)] 119, by omega, by omega, by omega, hB2.alloc hB2.size _⟩

set_option maxHeartbeats 1000000 in
theorem nextHash_any (g1 g2 : Nat) (a b : Nat) (w : World) (ha : a < 4294967296) (hb : b < 4294967296) (h1 : Box w g1 [.int .u32 (a : Int)]) (h2 : Box w g2 [.int .u32 (b : Int)]) :
    Calls Tryz.prog 125 #[.pointer (some ⟨g1, 0, none⟩), .pointer (some ⟨g2, 0, none⟩)] w fun e w' => e = .returned (.int .u32 (a : Int)) ∧ w' = w.setCell ⟨g1, 0, none⟩ (.int .u32 (((a + b) % 4294967296 : Nat) : Int)) := by
  have c1 := h1.2.1 0 _ rfl
  have c2 := h2.2.1 0 _ rfl
  have f1 := h1.2.2 0
  have z1 := h1.1
  have z2 := h2.1
  clear h1 h2
  go_enter Tryz.func125, Tryz.ntmps125
  go_wp2
  go_ret
  exact ⟨rfl, by rw [Int.natCast_emod]; rfl⟩

/-- The first k of them, zeros behind. -/
def partZ (l : List Int) (k : Nat) : List Int := l.take k ++ List.replicate (l.length - k) 0
theorem partZ_zero (l : List Int) : partZ l 0 = List.replicate l.length 0 := by simp [partZ]
theorem partZ_all (l : List Int) : partZ l l.length = l := by simp [partZ]
theorem partZ_set (l : List Int) (k : Nat) (h : k < l.length) : (partZ l k).set k l[k] = partZ l (k + 1) := by
  unfold partZ
  have h1 : (l.take k).length = k := by simp; omega
  obtain ⟨m, hm⟩ : ∃ m, l.length - k = m + 1 := ⟨l.length - k - 1, by omega⟩
  rw [List.set_append_right _ _ (by omega), h1, Nat.sub_self, hm, List.replicate_succ, List.set_cons_zero, List.take_succ_eq_append_getElem h, List.append_assoc, show l.length - (k + 1) = m from by omega]
  rfl
theorem zerosZ (n : Nat) : (madeCells (Value.int .i64 0).cells (n * 1)).toList = (List.replicate n (0 : Int)).map (.int .i64) := by
  have hcs : (Value.int .i64 0).cells = #[.int .i64 0] := rfl
  rw [hcs]
  apply List.ext_getElem?
  intro i
  by_cases hi : i < n
  · simp [madeCells, hi, Nat.mod_one]
  · rw [List.getElem?_eq_none (by simp [madeCells]; omega), List.getElem?_eq_none (by simp; omega)]
/-- The places as numbers. -/
def plZ (s : ByteArray) (h : Nat) : List Int := (plK s h).map Int.ofNat
theorem plZ_length (s : ByteArray) (h : Nat) : (plZ s h).length = h := by simp [plZ, plK_length]
theorem plZ_at (s : ByteArray) (h k : Nat) (hk : k < h) : (plZ s h)[k]? = some ((goA (csum s.data.toList) (con 0 s.data.toList ||| 1) k % 256 : Nat) : Int) := by
  rw [List.getElem?_eq_getElem (by rw [plZ_length]; exact hk)]
  simp only [plZ, List.getElem_map, plK_at s h k hk]; rfl
theorem goodK_size {s : ByteArray} (h : goodK s = true) : 1 ≤ s.size ∧ s.size ≤ 16 := by
  unfold goodK at h
  simp at h; omega
theorem goodH_nat {n : Int} (h : goodH n = true) : ∃ m : Nat, n = m ∧ 1 ≤ m ∧ m ≤ 8 := by
  unfold goodH at h
  simp at h
  exact ⟨n.toNat, by omega, by omega, by omega⟩
theorem goodH_of (m : Nat) (h1 : 1 ≤ m) (h2 : m ≤ 8) : goodH (m : Int) = true := by
  unfold goodH; simp; omega

set_option maxHeartbeats 2000000 in
theorem implPlaces_good (s : ByteArray) (h : Nat) (w : World) (hk : goodK s = true) (h1 : 1 ≤ h) (h8 : h ≤ 8) :
    Calls Tryz.prog 53 #[.string s, .int .i64 (h : Int)] w fun e w' => ∃ g, e = .returned (.tuple #[.slice (some ⟨g, 0, none⟩) h h, .bool true]) ∧
      w'.ownsRow w.heap.size 3 1 (.slice (some ⟨g, 0, none⟩) h h) h ((plZ s h).map (.int .i64)) ∧ Below w.heap.size w w' := by
  obtain ⟨i0, hi, hz0, hz1, hz2⟩ := info_parts Tryz.info3F
  have hsz := goodK_size hk
  have KK := fun w => goodKeyF_any s w
  have HH := fun w => goodHashes_any (h : Int) w
  have SH := fun w => hashesOf_any s w (by omega)
  have HL := plZ_length s h
  have HA := plZ_at s h
  have hal := csum_lt s.data.toList
  have hbl := odd_lt s
  have HA0 := goA_zero (csum s.data.toList) (con 0 s.data.toList ||| 1) hal
  rw [hk] at KK
  rw [goodH_of h h1 h8] at HH
  generalize csum s.data.toList = a at *
  generalize con 0 s.data.toList ||| 1 = b at *
  generalize plZ s h = zs at *
  go_enter Tryz.func53, Tryz.ntmps53
  go_wp2_with fail
  refine (KK _).mono ?_
  rintro e w1 ⟨rfl, hw⟩
  rw [hw]; clear hw
  go_wp2_with fail
  refine (HH _).mono ?_
  rintro e w1 ⟨rfl, hw⟩
  rw [hw]; clear hw
  go_wp2_with fail
  refine (SH _).mono ?_
  rintro e w1 ⟨g1, g2, rfl, X1, X2, hne, hg1, hg2, hb1⟩
  clear KK HH SH
  go_wp2_with (at_make; refine wpList_make_full _ rfl _ _ 83 rfl w.heap.size 3 i0 _ 1 Tryz.underlying83 hi hz0 hz1 .i64 .i64 _ _ h rfl rfl rfl rfl (by rw [hz2]; omega) (by unfold maxLen; omega) hb1.size ?_; intro w0 hown0 hgr0)
  rw [zerosZ, ← HL, ← partZ_zero, HL] at hown0
  have hb01 : Below w1.heap.size w1 w0 := (Below.refl _ _).grown hgr0 (Nat.le_refl _) (by simp)
  have hb0 := below_then hb1 hb01
  have Y1 := X1.below hb01
  have Y2 := X2.below hb01
  have hg1' := X1.1
  have hg2' := X2.1
  have hlt0 : w1.heap.size < w0.heap.size := (owns_lt hown0).2
  rw [← HA0] at Y1
  clear hgr0 hi hz0 hz1 hz2 X1 X2 HA0 hb01
  go_loopw [23] (fun i wr => ∃ k : Nat, k ≤ h ∧ i = .int .i64 k ∧ wr.ownsRow w.heap.size 3 1 (.slice (some ⟨w1.heap.size, 0, none⟩) h h) h ((partZ zs k).map (.int .i64)) ∧ Box wr g1 [.int .u32 ((goA a b k : Nat) : Int)] ∧ Box wr g2 [.int .u32 (b : Int)] ∧ Below w.heap.size w wr ∧ w1.heap.size < wr.heap.size) (fun i _ => h - (intOf i).toNat)
  case atStart => exact ⟨0, Nat.zero_le _, rfl, hown0, Y1, Y2, hb0, hlt0⟩
  case round =>
    obtain ⟨k, hk, rfl, hown, Z1, Z2, hb, hlt1⟩ := hrel
    clear hown0 hb0 hlt0 Y1 Y2
    by_cases hlt : k < h
    · have HS : Hid (((partZ zs k).map (Value.int .i64)).set k (.int .i64 ((goA a b k % 256 : Nat) : Int)) = (partZ zs (k + 1)).map (.int .i64)) := by
        show _ = _
        have e := HA k hlt
        rw [List.getElem?_eq_getElem (by omega)] at e
        rw [← List.map_set, ← Option.some.inj e, partZ_set zs k (by omega)]
      have HG : Hid ((goA a b k + b) % 4294967296 = goA a b (k + 1)) := goA_succ a b k
      have hgl := goA_lt a b k
      have NX := nextHash_any g1 g2 (goA a b k) b wr hgl hbl Z1 Z2
      have ZZ1 := Z1.set 0 (.int .u32 (((goA a b k + b) % 4294967296 : Nat) : Int)) (by simp)
      have ZZ2 := Z2.setOther ⟨g1, 0, none⟩ (.int .u32 (((goA a b k + b) % 4294967296 : Nat) : Int)) hne
      have hbb := hb.setCell (p := ⟨g1, 0, none⟩) hg1 (.int .u32 (((goA a b k + b) % 4294967296 : Nat) : Int))
      have oo := (Chg.setCell (Chg.refl (· = g1) wr) (p := ⟨g1, 0, none⟩) rfl (.int .u32 (((goA a b k + b) % 4294967296 : Nat) : Int))).owns hown (fun g hg => by simp [Value.ownBlock] at hg; omega)
      have hsz2 : w1.heap.size < (wr.setCell ⟨g1, 0, none⟩ (.int .u32 (((goA a b k + b) % 4294967296 : Nat) : Int))).heap.size := by simpa using hlt1
      rw [HG.out] at ZZ1 ZZ2 hbb oo NX hsz2
      generalize wr.setCell ⟨g1, 0, none⟩ (.int .u32 ((goA a b (k + 1) : Nat) : Int)) = w3 at *
      have hl1 := oo.1
      have d0 : ∃ u, w3.cell? ⟨w1.heap.size, k, none⟩ = some u := by
        rw [oo.cellAt k (by omega)]
        exact ⟨_, List.getElem?_eq_getElem (by simp [partZ]; omega)⟩
      obtain ⟨u, d0⟩ := d0
      have f0 : w3.frozen? ⟨w1.heap.size, k, none⟩ = false := oo.frozenAt _
      clear Z1 Z2 hown hb hl1 HA hlt1
      generalize goA a b k = x at *
      go_wp2_with (go_at_call 125; refine NX.mono ?_; rintro e w4 ⟨rfl, hw4⟩; subst hw4)
      go_roundw
      case rel => exact ⟨k + 1, by omega, by go_num, by rw [← HS.out]; exact (oo.stored k _).1, ZZ1.setOther _ _ (by simp; omega), ZZ2.setOther _ _ (by simp; omega), hbb.setCell hb1.size _, by simpa using hsz2⟩
      case measure => simp [intOf]; omega
    · obtain rfl : k = h := by omega
      rw [← HL, partZ_all, HL] at hown
      go_wp2
      go_ret2
      exact ⟨_, rfl, hown, hb⟩
end Go.Proofs.YtfdaffnkgpdhhaaGreat

namespace Go.Proofs.YtfdaffnkgpdhhaaGreat
open Go.RowKit
set_option linter.unusedVariables false
set_option maxRecDepth 100000

set_option maxHeartbeats 1000000 in
theorem implPlaces_bad (s : ByteArray) (n : Int) (w : World) (hg : (goodK s && goodH n) = false) :
    Calls Tryz.prog 53 #[.string s, .int .i64 n] w fun e w' => e = .returned (.tuple #[.slice none 0 0, .bool false]) ∧ Below w.heap.size w w' := by
  have KK := fun w => goodKeyF_any s w
  have HH := fun w => goodHashes_any n w
  generalize goodK s = k at *
  generalize goodH n = h at *
  cases k
  · go_enter Tryz.func53, Tryz.ntmps53
    go_wp2_with fail
    refine (KK _).mono ?_
    rintro e w1 ⟨rfl, hw⟩
    rw [hw]; clear hw KK HH
    go_wp2
    go_ret2
    exact ⟨rfl, Below.refl _ _⟩
  · obtain rfl : h = false := by simpa using hg
    go_enter Tryz.func53, Tryz.ntmps53
    go_wp2_with fail
    refine (KK _).mono ?_
    rintro e w1 ⟨rfl, hw⟩
    rw [hw]; clear hw
    go_wp2_with fail
    refine (HH _).mono ?_
    rintro e w1 ⟨rfl, hw⟩
    rw [hw]; clear hw KK HH
    go_wp2
    go_ret2
    exact ⟨rfl, Below.refl _ _⟩

set_option maxHeartbeats 2000000 in
theorem l5Places_any (s : ByteArray) (nh : Nat) (w : World) (hk : goodK s = true) (h8 : nh ≤ 8) :
    Calls Tryz.prog 98 #[.string s, .int .i64 (nh : Int)] w fun e w' => ∃ v, e = .returned v ∧ w'.ownsRow w.heap.size 3 1 v nh ((plZ s nh).map (.int .i64)) ∧ Below w.heap.size w w' := by
  obtain ⟨i0, hi, hz0, hzs, hzb⟩ := info_parts Tryz.info3F
  have hsz := goodK_size hk
  have HL := plZ_length s nh
  have HA := plZ_at s nh
  have T1 := fun v w hv => l2On_any v 4294967295 s w hv (by omega) (by omega)
  have T2 := fun v w hv => l2On_any v 0 s w hv (by omega) (by omega)
  have HO := or_valF (con 0 s.data.toList) (con_lt _ _ (by omega))
  have HN := not_val (con 4294967295 s.data.toList) (con_lt _ _ (by omega))
  have hal := csum_lt s.data.toList
  have hbl := odd_lt s
  have HA0 := goA_zero (csum s.data.toList) (con 0 s.data.toList ||| 1) hal
  have hc1 := con_lt s.data.toList 4294967295 (by omega)
  rw [show 4294967295 - con 4294967295 s.data.toList = csum s.data.toList from rfl] at HN
  generalize csum s.data.toList = a at *
  generalize con 4294967295 s.data.toList = a0 at *
  generalize con 0 s.data.toList = b0 at *
  generalize b0 ||| 1 = b at *
  generalize plZ s nh = zs at *
  go_enter Tryz.func98, Tryz.ntmps98
  go_wp2_with fail
  refine (l2Table_any _).mono ?_
  rintro e w1 ⟨g, rfl, ho, hb1⟩
  have tl := TL_of_owns ho
  go_wp2_with fail
  refine (T1 _ _ tl).mono ?_
  rintro e w2 ⟨rfl, hw⟩
  rw [hw]; clear hw
  go_wp2_with fail
  refine (T2 _ _ tl).mono ?_
  rintro e w2 ⟨rfl, hw⟩
  rw [hw]; clear hw T1 T2 tl ho
  go_wp2_with fail
  go_loopw [6, 8, 9] (fun x v i wr => ∃ k : Nat, k ≤ nh ∧ i = .int .i64 k ∧ x = .int .u32 ((goA a b k : Nat) : Int) ∧ wr.ownsRow w.heap.size 3 1 v k ((zs.take k).map (.int .i64)) ∧ Below w.heap.size w wr) (fun _ _ i _ => nh - (intOf i).toNat)
  case atStart => exact ⟨0, Nat.zero_le _, rfl, by rw [HA0], World.ownsRow_nil _ _ _ _, hb1⟩
  case round =>
    obtain ⟨k, hk, rfl, rfl, hown, hb⟩ := hrel
    by_cases hlt : k < nh
    · have HS : Hid ((zs.take k).map (Value.int .i64) ++ [.int .i64 ((goA a b k : Int) % 256)] = (zs.take (k + 1)).map (.int .i64)) := by
        show _ = _
        have e := HA k hlt
        rw [List.getElem?_eq_getElem (by omega)] at e
        rw [List.take_succ_eq_append_getElem (by omega), List.map_append, Option.some.inj e]; rfl
      have HG : Hid ((goA a b k + b) % 4294967296 = goA a b (k + 1)) := goA_succ a b k
      have hgl := goA_lt a b k
      have hz := hb.size
      clear HA HA0
      generalize (zs.take k).map (Value.int .i64) = L at *
      generalize goA a b k = x at *
      go_wp2_with (at_builtin; refine wpList_append_own _ rfl _ _ 83 rfl w.heap.size 3 i0 (.int .i64 0) 1 8 Tryz.underlying83 hi hz0 hzs hzb rfl (by decide) _ k L rfl (owns_below hown (below_alloc _ _)) ⟨wr.heap.size, 0, none⟩ 1 1 [.int .i64 ((x : Int) % 256)] rfl rfl (by intro j u hj; match j, hj with | 0, hj => simp at hj; subst hj; simp [Addr.add]) (by intro u hu; simp at hu; subst hu; rfl) (by unfold maxLen; omega) (by omega) (by simp; omega) ?_; intro v' w2 hown2 hgrow2 _)
      go_roundw
      case rel =>
        refine ⟨k + 1, by omega, by go_num, by rw [← HG.out]; go_num, ?_, (hb.alloc hz _).grown hgrow2 (by simp; omega) (owns_ge hown)⟩
        rw [← HS.out]; exact hown2
      case measure => simp [intOf]; omega
    · obtain rfl : k = nh := by omega
      rw [← HL, List.take_length, HL] at hown
      go_wp2
      go_ret
      exact ⟨_, rfl, hown, hb⟩
end Go.Proofs.YtfdaffnkgpdhhaaGreat

namespace Go.Proofs.YtfdaffnkgpdhhaaGreat
open Go.RowKit
set_option linter.unusedVariables false
set_option maxRecDepth 100000

theorem IL_nil (w : World) : IL w (.slice none 0 0) [] := ⟨none, 0, rfl, fun h => absurd rfl h⟩
theorem owns_lt' {w : World} {base e s n : Nat} {v : Value} {xs : List Value} (h : w.ownsRow base e s v n xs) : ∀ g, v.ownBlock = some g → g < w.heap.size := by
  intro g hg
  rcases h.2 with ⟨rfl, _⟩ | ⟨g', cap, cur, rfl, hb, hh, _⟩
  · simp [Value.ownBlock] at hg
  · simp only [Value.ownBlock, Option.some.injEq] at hg
    subst hg
    exact (Array.getElem?_eq_some_iff.1 hh).1
/-- A row that was made, as a box. -/
theorem box_of_owns {w : World} {base e g n c : Nat} {xs : List Value} (h : w.ownsRow base e 1 (.slice (some ⟨g, 0, none⟩) n c) n xs) (hl : xs.length = n) : Box w g xs :=
  ⟨(owns_lt h).2, fun j v hv => by
    have hj := (List.getElem?_eq_some_iff.1 hv).1
    rw [h.cellAt j (by omega)]; exact hv, fun j => h.frozenAt _⟩
end Go.Proofs.YtfdaffnkgpdhhaaGreat

