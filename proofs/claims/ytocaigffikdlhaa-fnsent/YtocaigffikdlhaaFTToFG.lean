/-
  A chunk that fits what is wanted: plainly; impl.fits.
  A chunk that fits what is wanted: spec.l13Good.
-/
import Derived.Test.YtocaigffikdlhaaX6
import Derived.Test.YtocaigffikdlhaaPC
import Derived.Deep.Cut
namespace Go.Proofs.Ytocaigffikdlhaa
open Go.RowKit Go.Maps
set_option linter.unusedVariables false
set_option maxRecDepth 100000

/-- The chunk is good for what is wanted. -/
def ftB (W : List Wt) (c : Ck) : Bool := decide (0 ≤ c.n ∧ c.n < W.length ∧ 0 ≤ c.d ∧ c.d < (W.getD c.n.toNat default).t ∧ c.d % 64 = 0 ∧ (c.k.size : Int) = min 64 ((W.getD c.n.toNat default).t - c.d) ∧ c.v = ((cks c.n c.d c.k : Nat) : Int))
theorem ftB_iff (W : List Wt) (c : Ck) : ftB W c = true ↔ (0 ≤ c.n ∧ c.n < W.length ∧ 0 ≤ c.d ∧ c.d < (W.getD c.n.toNat default).t ∧ c.d % 64 = 0 ∧ (c.k.size : Int) = min 64 ((W.getD c.n.toNat default).t - c.d) ∧ c.v = ((cks c.n c.d c.k : Nat) : Int)) := by
  unfold ftB; rw [decide_eq_true_eq]
theorem ftB_no {W : List Wt} {c : Ck} (h : ¬ (0 ≤ c.n ∧ c.n < W.length ∧ 0 ≤ c.d ∧ c.d < (W.getD c.n.toNat default).t ∧ c.d % 64 = 0 ∧ (c.k.size : Int) = min 64 ((W.getD c.n.toNat default).t - c.d) ∧ c.v = ((cks c.n c.d c.k : Nat) : Int))) : ftB W c = false := by
  unfold ftB; rw [decide_eq_false_iff_not]; exact h

set_option maxHeartbeats 16000000 in
theorem fits_any (a c : Value) (W : List Wt) (G : List Ck) (x : Ck) (w : World) (h : TR w a c W G) (hok : wOk W) (hx : x.k.size ≤ 1048576) :
    Calls Try.prog 99 #[.agg #[a, c], .agg #[.int .i64 x.n, .int .i64 x.d, .string x.k, .int .u32 x.v]] w fun e w' => e = .returned (.bool (ftB W x)) ∧ Below w.heap.size w w' := by
  obtain ⟨⟨wa, wb, rfl, hwc⟩, ca, cb, rfl, _⟩ := h
  have HN := @ftB_no W x
  have HI := ftB_iff W x
  have h12 := hok.1
  have hok2 := hok.2
  clear hok
  generalize ftB W x = res at *
  obtain ⟨n, d, k, v⟩ := x
  dsimp only at *
  have B0 := below2 w (.cells #[.slice wa W.length wb, .slice ca G.length cb] 41) (.cells #[.int .i64 n, .int .i64 d, .string k, .int .u32 v] 37)
  by_cases hn0 : n < 0
  · obtain rfl : res = false := HN (by omega)
    clear HN HI hwc
    go_enter Try.func99, Try.ntmps99
    go_wp2
    go_ret
    exact ⟨rfl, B0⟩
  by_cases hn1 : (W.length : Int) ≤ n
  · obtain rfl : res = false := HN (by omega)
    clear HN HI hwc
    go_enter Try.func99, Try.ntmps99
    go_wp2
    go_ret
    exact ⟨rfl, B0⟩
  obtain ⟨i, rfl⟩ := Int.eq_ofNat_of_zero_le (show 0 ≤ n from by omega)
  have hi : i < W.length := by omega
  rw [show ((i : Int)).toNat = i from by omega, show W.getD i default = W[i] from by simp [List.getD_eq_getElem?_getD, hi]] at HN HI
  obtain ⟨b, off, rfl, hbl, hcell⟩ := hwc (by intro e; simp [e] at hi)
  obtain ⟨y0, y1⟩ := hcell i hi
  have ht := hok2 i hi
  clear hwc hcell hok2
  generalize W[i] = s at *
  obtain ⟨t, sd⟩ := s
  dsimp only at *
  have KS := fun (h0 : 0 ≤ d) (h1 : d < t) w => sizeAt_any t sd d w ht.1 ht.2 h0 (by omega)
  have KC := fun (h0 : 0 ≤ d) (h1 : d < t) w => implCks_any (i : Int) d k w (by omega) (by omega) (by omega) (by omega) hx
  generalize cks (i : Int) d k = cs at *
  have z0 := (B0.cell (p := ⟨b, off + i * 2, none⟩) hbl).trans y0
  have z1 := (B0.cell (p := ⟨b, off + i * 2 + 1, none⟩) hbl).trans y1
  have X0 := (Box.new w #[.slice (some ⟨b, off, none⟩) W.length wb, .slice ca G.length cb] 41).alloc (.cells #[.int .i64 i, .int .i64 d, .string k, .int .u32 v] 37)
  have Y0 := Box.new (w.alloc (.cells #[.slice (some ⟨b, off, none⟩) W.length wb, .slice ca G.length cb] 41)) #[.int .i64 i, .int .i64 d, .string k, .int .u32 v] 37
  simp only [World.size_alloc] at Y0
  have Z0 := Box.new ((w.alloc (.cells #[.slice (some ⟨b, off, none⟩) W.length wb, .slice ca G.length cb] 41)).alloc (.cells #[.int .i64 i, .int .i64 d, .string k, .int .u32 v] 37)) #[.int .i64 t, .int .u32 sd] 54
  simp only [World.size_alloc] at Z0
  have B1 := below_then B0 (below_alloc _ (.cells #[.int .i64 t, .int .u32 sd] 54))
  replace Y0 := Y0.alloc (.cells #[.int .i64 t, .int .u32 sd] 54)
  obtain ⟨W0, hW0⟩ : ∃ W0, W0 = ((w.alloc (.cells #[.slice (some ⟨b, off, none⟩) W.length wb, .slice ca G.length cb] 41)).alloc (.cells #[.int .i64 i, .int .i64 d, .string k, .int .u32 v] 37)).alloc (.cells #[.int .i64 t, .int .u32 sd] 54) := ⟨_, rfl⟩
  rw [← hW0] at Y0 Z0 B1
  have HW0 : Hid _ := hW0
  clear hW0 B0 y0 y1 X0
  obtain ⟨hy, p0, p1, p2, p3⟩ := Y0.c4
  obtain ⟨hz, r0, r1⟩ := Z0.c2
  have qp0 := fun x : WC W0.heap.size W0 => (x.ok.cell (p := ⟨w.heap.size + 1, 0, none⟩) hy).trans p0
  have qp1 := fun x : WC W0.heap.size W0 => (x.ok.cell (p := ⟨w.heap.size + 1, 1, none⟩) hy).trans p1
  have qp2 := fun x : WC W0.heap.size W0 => (x.ok.cell (p := ⟨w.heap.size + 1, 2, none⟩) hy).trans p2
  have qp3 := fun x : WC W0.heap.size W0 => (x.ok.cell (p := ⟨w.heap.size + 1, 3, none⟩) hy).trans p3
  have qr0 := fun x : WC W0.heap.size W0 => (x.ok.cell (p := ⟨w.heap.size + 1 + 1, 0, none⟩) hz).trans r0
  have qr1 := fun x : WC W0.heap.size W0 => (x.ok.cell (p := ⟨w.heap.size + 1 + 1, 1, none⟩) hz).trans r1
  have hne : Nonempty (WC W0.heap.size W0) := ⟨⟨_, Below.refl _ _⟩⟩
  clear Y0 Z0 p0 p1 p2 p3 r0 r1 hy hz
  by_cases hd0 : d < 0
  · obtain rfl : res = false := HN (by omega)
    have g0 : decide (0 ≤ d) = false := decide_eq_false (by omega)
    clear KS KC
    clear HN HI
    go_enter Try.func99, Try.ntmps99
    go_upto_region 4 with fail
    have hw0 := HW0.out.symm
    rw [hw0]
    clear hw0 HW0 z0 z1
    refine wp_region_calm (B := W0.heap.size) (W := W0) (by kernel_rfl) (by kernel_rfl) (Below.refl _ _) ?_
    repeat (go_big_quiet_step (fail))
    refine wpQuiet_nil ?_
    intro _ hw'
    obtain ⟨x, hx⟩ := hw'
    subst hx
    have hB2 := below_then B1 x.ok
    clear qp0 qp1 qp2 qp3 qr0 qr1 hne
    generalize x.w = w3 at *
    clear x
    go_wp2
    go_ret
    exact ⟨rfl, hB2⟩
  by_cases hd1 : t ≤ d
  · obtain rfl : res = false := HN (by omega)
    have g0 : decide (0 ≤ d) = true := decide_eq_true (by omega)
    have g1 : decide (d < t) = false := decide_eq_false (by omega)
    clear KS KC
    clear HN HI
    go_enter Try.func99, Try.ntmps99
    go_upto_region 4 with fail
    have hw0 := HW0.out.symm
    rw [hw0]
    clear hw0 HW0 z0 z1
    refine wp_region_calm (B := W0.heap.size) (W := W0) (by kernel_rfl) (by kernel_rfl) (Below.refl _ _) ?_
    repeat (go_big_quiet_step (fail))
    refine wpQuiet_nil ?_
    intro _ hw'
    obtain ⟨x, hx⟩ := hw'
    subst hx
    have hB2 := below_then B1 x.ok
    clear qp0 qp1 qp2 qp3 qr0 qr1 hne
    generalize x.w = w3 at *
    clear x
    go_wp2
    go_ret
    exact ⟨rfl, hB2⟩
  have hd2 : d < t := by omega
  have hd3 : 0 ≤ d := by omega
  have KS2 := KS hd3 hd2
  have KC2 := KC hd3 hd2
  clear KS KC
  have htm : d.tmod 64 = d % 64 := Int.tmod_eq_emod_of_nonneg hd3
  by_cases hd4 : d % 64 = 0
  rotate_left
  · obtain rfl : res = false := HN (by omega)
    have g4 : (d % 64 == 0) = false := beq_false_of_ne hd4
    clear KS2 KC2
    clear HN HI
    go_enter Try.func99, Try.ntmps99
    go_upto_region 4 with fail
    have hw0 := HW0.out.symm
    rw [hw0]
    clear hw0 HW0 z0 z1
    refine wp_region_calm (B := W0.heap.size) (W := W0) (by kernel_rfl) (by kernel_rfl) (Below.refl _ _) ?_
    repeat (go_big_quiet_step (fail))
    refine wpQuiet_nil ?_
    intro _ hw'
    obtain ⟨x, hx⟩ := hw'
    subst hx
    have hB2 := below_then B1 x.ok
    clear qp0 qp1 qp2 qp3 qr0 qr1 hne
    generalize x.w = w3 at *
    clear x
    go_wp2
    go_ret
    exact ⟨rfl, hB2⟩
  by_cases hd5 : (k.size : Int) = min 64 (t - d)
  rotate_left
  · obtain rfl : res = false := HN (by omega)
    generalize min 64 (t - d) = mn at *
    have gk : ((k.size : Int) == mn) = false := beq_false_of_ne hd5
    have g4 : (d % 64 == 0) = true := by rw [hd4]; rfl
    clear KC2 hd5 hd4
    clear HN HI
    go_enter Try.func99, Try.ntmps99
    go_upto_region 4 with fail
    have hw0 := HW0.out.symm
    rw [hw0]
    clear hw0 HW0 z0 z1
    refine wp_region_calm (B := W0.heap.size) (W := W0) (by kernel_rfl) (by kernel_rfl) (Below.refl _ _) ?_
    repeat (go_big_quiet_step (first | (go_at_call 69; with_reducible exact calm_of_below (Nat.le_refl _) (KS2 _))))
    refine wpQuiet_nil ?_
    intro _ hw'
    obtain ⟨x, hx⟩ := hw'
    subst hx
    have hB2 := below_then B1 x.ok
    clear qp0 qp1 qp2 qp3 qr0 qr1 hne
    generalize x.w = w3 at *
    clear x
    go_wp2
    go_ret
    exact ⟨rfl, hB2⟩
  by_cases hd6 : v = (cs : Int)
  rotate_left
  · obtain rfl : res = false := HN (by omega)
    generalize min 64 (t - d) = mn at *
    have gk : ((k.size : Int) == mn) = true := by rw [hd5]; exact beq_self_eq_true _
    have gv : (v == (cs : Int)) = false := beq_false_of_ne hd6
    have g4 : (d % 64 == 0) = true := by rw [hd4]; rfl
    clear hd4 hd5 hd6
    clear HN HI
    go_enter Try.func99, Try.ntmps99
    go_upto_region 4 with fail
    have hw0 := HW0.out.symm
    rw [hw0]
    clear hw0 HW0 z0 z1
    refine wp_region_calm (B := W0.heap.size) (W := W0) (by kernel_rfl) (by kernel_rfl) (Below.refl _ _) ?_
    repeat (go_big_quiet_step (first | (go_at_call 69; with_reducible exact calm_of_below (Nat.le_refl _) (KS2 _)) | (go_at_call 43; with_reducible exact calm_of_below (Nat.le_refl _) (KC2 _))))
    refine wpQuiet_nil ?_
    intro _ hw'
    obtain ⟨x, hx⟩ := hw'
    subst hx
    have hB2 := below_then B1 x.ok
    clear qp0 qp1 qp2 qp3 qr0 qr1 hne
    generalize x.w = w3 at *
    clear x
    go_wp2
    go_ret
    exact ⟨rfl, hB2⟩
  · obtain rfl : res = true := HI.2 (by omega)
    generalize min 64 (t - d) = mn at *
    have gk : ((k.size : Int) == mn) = true := by rw [hd5]; exact beq_self_eq_true _
    have gv : (v == (cs : Int)) = true := by rw [hd6]; exact beq_self_eq_true _
    have g4 : (d % 64 == 0) = true := by rw [hd4]; rfl
    clear hd4 hd5 hd6
    clear HN HI
    go_enter Try.func99, Try.ntmps99
    go_upto_region 4 with fail
    have hw0 := HW0.out.symm
    rw [hw0]
    clear hw0 HW0 z0 z1
    refine wp_region_calm (B := W0.heap.size) (W := W0) (by kernel_rfl) (by kernel_rfl) (Below.refl _ _) ?_
    repeat (go_big_quiet_step (first | (go_at_call 69; with_reducible exact calm_of_below (Nat.le_refl _) (KS2 _)) | (go_at_call 43; with_reducible exact calm_of_below (Nat.le_refl _) (KC2 _))))
    refine wpQuiet_nil ?_
    intro _ hw'
    obtain ⟨x, hx⟩ := hw'
    subst hx
    have hB2 := below_then B1 x.ok
    clear qp0 qp1 qp2 qp3 qr0 qr1 hne
    generalize x.w = w3 at *
    clear x
    go_wp2
    go_ret
    exact ⟨rfl, hB2⟩
end Go.Proofs.Ytocaigffikdlhaa

namespace Go.Proofs.Ytocaigffikdlhaa
open Go.RowKit Go.Maps
set_option linter.unusedVariables false
set_option maxRecDepth 100000

set_option maxHeartbeats 16000000 in
theorem l13Good_any (a c : Value) (W : List Wt) (G : List Ck) (x : Ck) (w : World) (h : TR w a c W G) (hok : wOk W) (hx : x.k.size ≤ 1048576) :
    Calls Try.prog 91 #[.agg #[a, c], .agg #[.int .i64 x.n, .int .i64 x.d, .string x.k, .int .u32 x.v]] w fun e w' => e = .returned (.bool (ftB W x)) ∧ Below w.heap.size w w' := by
  obtain ⟨⟨wa, wb, rfl, hwc⟩, ca, cb, rfl, _⟩ := h
  have HN := @ftB_no W x
  have HI := ftB_iff W x
  have h12 := hok.1
  have hok2 := hok.2
  clear hok
  generalize ftB W x = res at *
  obtain ⟨n, d, k, v⟩ := x
  dsimp only at *
  have B0 := below2 w (.cells #[.slice wa W.length wb, .slice ca G.length cb] 41) (.cells #[.int .i64 n, .int .i64 d, .string k, .int .u32 v] 37)
  have X0 := (Box.new w #[.slice wa W.length wb, .slice ca G.length cb] 41).alloc (.cells #[.int .i64 n, .int .i64 d, .string k, .int .u32 v] 37)
  have Y0 := Box.new (w.alloc (.cells #[.slice wa W.length wb, .slice ca G.length cb] 41)) #[.int .i64 n, .int .i64 d, .string k, .int .u32 v] 37
  simp only [World.size_alloc] at Y0
  obtain ⟨W0, hW0⟩ : ∃ W0, W0 = (w.alloc (.cells #[.slice wa W.length wb, .slice ca G.length cb] 41)).alloc (.cells #[.int .i64 n, .int .i64 d, .string k, .int .u32 v] 37) := ⟨_, rfl⟩
  rw [← hW0] at X0 Y0 B0
  have HW0 : Hid (W0 = (w.alloc (.cells #[.slice wa W.length wb, .slice ca G.length cb] 41)).alloc (.cells #[.int .i64 n, .int .i64 d, .string k, .int .u32 v] 37)) := hW0
  clear hW0
  obtain ⟨hxl, s0, s1⟩ := X0.c2
  obtain ⟨hy, p0, p1, p2, p3⟩ := Y0.c4
  have qs0 := fun x : WC W0.heap.size W0 => (x.ok.cell (p := ⟨w.heap.size, 0, none⟩) hxl).trans s0
  have qp0 := fun x : WC W0.heap.size W0 => (x.ok.cell (p := ⟨w.heap.size + 1, 0, none⟩) hy).trans p0
  have qp1 := fun x : WC W0.heap.size W0 => (x.ok.cell (p := ⟨w.heap.size + 1, 1, none⟩) hy).trans p1
  have hne : Nonempty (WC W0.heap.size W0) := ⟨⟨_, Below.refl _ _⟩⟩
  have KI := fun w => l1In_any n 0 ((W.length : Int) - 1) w
  clear s0 s1 p0 p1 p2 p3
  have hwl : IntKind.i64.wrap ((W.length : Int) - 1) = (W.length : Int) - 1 := by rw [IntKind.wrap_i64]; omega
  by_cases hn0 : 0 ≤ n ∧ n < W.length
  rotate_left
  · obtain rfl : res = false := HN (by omega)
    rw [show (decide ((0 : Int) ≤ n) && decide (n ≤ (W.length : Int) - 1)) = false from by simp only [Bool.and_eq_false_iff, decide_eq_false_iff_not]; omega] at KI
    clear hn0
    clear HN HI hwc
    go_enter Try.func91, Try.ntmps91
    go_upto_region 1 with fail
    have hw0 := HW0.out.symm
    rw [hw0]
    clear hw0 HW0
    refine wp_region_calm (B := W0.heap.size) (W := W0) (by kernel_rfl) (by kernel_rfl) (Below.refl _ _) ?_
    repeat (go_big_quiet_step (first | (go_at_call 65; with_reducible exact calm_of_same (KI _))))
    refine wpQuiet_nil ?_
    intro _ hw'
    obtain ⟨x, hx⟩ := hw'
    subst hx
    have hB2 := below_then B0 x.ok
    clear qs0 qp0 qp1 hne X0 Y0 hxl hy
    generalize x.w = w3 at *
    clear x
    go_wp2
    go_ret
    exact ⟨rfl, hB2⟩
  rw [show (decide ((0 : Int) ≤ n) && decide (n ≤ (W.length : Int) - 1)) = true from by simp only [Bool.and_eq_true, decide_eq_true_eq]; omega] at KI
  obtain ⟨i, rfl⟩ := Int.eq_ofNat_of_zero_le hn0.1
  have hi : i < W.length := by omega
  rw [show ((i : Int)).toNat = i from by omega, show W.getD i default = W[i] from by simp [List.getD_eq_getElem?_getD, hi]] at HN HI
  obtain ⟨b, off, rfl, hbl, hcell⟩ := hwc (by intro e; simp [e] at hi)
  obtain ⟨y0, y1⟩ := hcell i hi
  have ht := hok2 i hi
  clear hwc hcell hok2 hn0
  generalize W[i] = s at *
  obtain ⟨t, sd⟩ := s
  dsimp only at *
  have hbl0 : b < W0.heap.size := Nat.lt_of_lt_of_le hbl B0.size
  have z0 := (B0.cell (p := ⟨b, off + i * 2, none⟩) hbl).trans y0
  have qz0 := fun x : WC W0.heap.size W0 => (x.ok.cell (p := ⟨b, off + i * 2, none⟩) hbl0).trans z0
  clear y0 y1
  by_cases hd0 : d < 0
  · obtain rfl : res = false := HN (by omega)
    have g0 : decide (d < 0) = true := decide_eq_true hd0
    clear HN HI
    go_enter Try.func91, Try.ntmps91
    go_upto_region 1 with fail
    have hw0 := HW0.out.symm
    rw [hw0]
    clear hw0 HW0
    refine wp_region_calm (B := W0.heap.size) (W := W0) (by kernel_rfl) (by kernel_rfl) (Below.refl _ _) ?_
    repeat (go_big_quiet_step (first | (go_at_call 65; with_reducible exact calm_of_same (KI _))))
    refine wpQuiet_nil ?_
    intro _ hw'
    obtain ⟨x, hx⟩ := hw'
    subst hx
    have hB2 := below_then B0 x.ok
    clear qs0 qp0 qp1 hne X0 Y0 hxl hy
    generalize x.w = w3 at *
    clear x
    go_wp2
    go_ret
    exact ⟨rfl, hB2⟩
  have hd3 : 0 ≤ d := by omega
  have htm : d.tmod 64 = d % 64 := Int.tmod_eq_emod_of_nonneg hd3
  by_cases hd4 : d % 64 = 0
  rotate_left
  · obtain rfl : res = false := HN (by omega)
    have g4 : (d % 64 != 0) = true := by simp [hd4]
    clear HN HI
    go_enter Try.func91, Try.ntmps91
    go_upto_region 1 with fail
    have hw0 := HW0.out.symm
    rw [hw0]
    clear hw0 HW0
    refine wp_region_calm (B := W0.heap.size) (W := W0) (by kernel_rfl) (by kernel_rfl) (Below.refl _ _) ?_
    repeat (go_big_quiet_step (first | (go_at_call 65; with_reducible exact calm_of_same (KI _))))
    refine wpQuiet_nil ?_
    intro _ hw'
    obtain ⟨x, hx⟩ := hw'
    subst hx
    have hB2 := below_then B0 x.ok
    clear qs0 qp0 qp1 hne X0 Y0 hxl hy
    generalize x.w = w3 at *
    clear x
    go_wp2
    go_ret
    exact ⟨rfl, hB2⟩
  have g4 : (d % 64 != 0) = false := by simp [hd4]
  have HD4 : Hid (d % 64 = 0) := hd4
  clear hd4
  by_cases hd1 : t ≤ d
  · obtain rfl : res = false := HN (by omega)
    have g1 : decide (t ≤ d) = true := decide_eq_true hd1
    clear HN HI
    go_enter Try.func91, Try.ntmps91
    go_upto_region 1 with fail
    have hw0 := HW0.out.symm
    rw [hw0]
    clear hw0 HW0
    refine wp_region_calm (B := W0.heap.size) (W := W0) (by kernel_rfl) (by kernel_rfl) (Below.refl _ _) ?_
    repeat (go_big_quiet_step (first | (go_at_call 65; with_reducible exact calm_of_same (KI _))))
    refine wpQuiet_nil ?_
    intro _ hw'
    obtain ⟨x, hx⟩ := hw'
    subst hx
    have hB2 := below_then B0 x.ok
    clear qs0 qp0 qp1 hne X0 Y0 hxl hy
    generalize x.w = w3 at *
    clear x
    go_wp2
    go_ret
    exact ⟨rfl, hB2⟩
  have g1 : decide (t ≤ d) = false := decide_eq_false hd1
  have KS := fun w => l13Size_any t d w ht.1 ht.2 hd3 (by omega)
  have KC := fun w => l13Sum_any (i : Int) d k w (by omega) (by omega) (by omega) (by omega) hx
  generalize cks (i : Int) d k = cs at *
  go_enter Try.func91, Try.ntmps91
  go_upto_region 1 with fail
  have hw0 := HW0.out.symm
  rw [hw0]
  clear hw0 HW0
  refine wp_region_calm (B := W0.heap.size) (W := W0) (by kernel_rfl) (by kernel_rfl) (Below.refl _ _) ?_
  repeat (go_big_quiet_step (first | (go_at_call 65; with_reducible exact calm_of_same (KI _))))
  refine wpQuiet_nil ?_
  intro _ hw'
  obtain ⟨x, hx⟩ := hw'
  subst hx
  have hB2 := below_then B0 x.ok
  have Y3 := Y0.below x.ok
  have X3 := X0.below x.ok
  have z3 := (x.ok.cell (p := ⟨b, off + i * 2, none⟩) hbl0).trans z0
  have hz3 := x.ok.size
  clear qs0 qp0 qp1 hne X0 Y0 hxl hy z0 qz0 B0 KI
  generalize x.w = w3 at *
  clear x
  have hbl3 : b < w3.heap.size := by omega
  obtain ⟨hxl, s0, s1⟩ := X3.c2
  obtain ⟨hy, p0, p1, p2, p3⟩ := Y3.c4
  have qs0 := fun x : WC w3.heap.size w3 => (x.ok.cell (p := ⟨w.heap.size, 0, none⟩) hxl).trans s0
  have qp0 := fun x : WC w3.heap.size w3 => (x.ok.cell (p := ⟨w.heap.size + 1, 0, none⟩) hy).trans p0
  have qp1 := fun x : WC w3.heap.size w3 => (x.ok.cell (p := ⟨w.heap.size + 1, 1, none⟩) hy).trans p1
  have qp2 := fun x : WC w3.heap.size w3 => (x.ok.cell (p := ⟨w.heap.size + 1, 2, none⟩) hy).trans p2
  have qp3 := fun x : WC w3.heap.size w3 => (x.ok.cell (p := ⟨w.heap.size + 1, 3, none⟩) hy).trans p3
  have qz0 := fun x : WC w3.heap.size w3 => (x.ok.cell (p := ⟨b, off + i * 2, none⟩) hbl3).trans z3
  have hne : Nonempty (WC w3.heap.size w3) := ⟨⟨_, Below.refl _ _⟩⟩
  clear X3 Y3 z3 s0 s1 p0 p1 p2 p3
  by_cases hd5 : (k.size : Int) = min 64 (t - d)
  rotate_left
  · obtain rfl : res = false := HN (by omega)
    generalize min 64 (t - d) = mn at *
    have gk : ((k.size : Int) == mn) = false := beq_false_of_ne hd5
    clear hd5 KC HN HI
    go_upto_region 3 with fail
    refine wp_region_calm (B := w3.heap.size) (W := w3) (by kernel_rfl) (by kernel_rfl) (Below.refl _ _) ?_
    repeat (go_big_quiet_step (first | (go_at_call 98; with_reducible exact calm_of_same (KS _))))
    refine wpQuiet_nil ?_
    intro _ hw'
    obtain ⟨x, hx⟩ := hw'
    subst hx
    have hB3 := below_then hB2 x.ok
    clear qs0 qp0 qp1 qp2 qp3 qz0 hne hxl hy
    generalize x.w = w4 at *
    clear x
    go_wp2
    go_ret
    exact ⟨rfl, hB3⟩
  by_cases hd6 : v = (cs : Int)
  rotate_left
  · obtain rfl : res = false := HN (by omega)
    generalize min 64 (t - d) = mn at *
    have gk : ((k.size : Int) == mn) = true := by rw [hd5]; exact beq_self_eq_true _
    have gv : (v == (cs : Int)) = false := beq_false_of_ne hd6
    clear hd5 hd6 HN HI
    go_upto_region 3 with fail
    refine wp_region_calm (B := w3.heap.size) (W := w3) (by kernel_rfl) (by kernel_rfl) (Below.refl _ _) ?_
    repeat (go_big_quiet_step (first | (go_at_call 98; with_reducible exact calm_of_same (KS _)) | (go_at_call 85; with_reducible exact calm_of_below (Nat.le_refl _) (KC _))))
    refine wpQuiet_nil ?_
    intro _ hw'
    obtain ⟨x, hx⟩ := hw'
    subst hx
    have hB3 := below_then hB2 x.ok
    clear qs0 qp0 qp1 qp2 qp3 qz0 hne hxl hy
    generalize x.w = w4 at *
    clear x
    go_wp2
    go_ret
    exact ⟨rfl, hB3⟩
  · obtain rfl : res = true := HI.2 (by have := HD4.out; omega)
    generalize min 64 (t - d) = mn at *
    have gk : ((k.size : Int) == mn) = true := by rw [hd5]; exact beq_self_eq_true _
    have gv : (v == (cs : Int)) = true := by rw [hd6]; exact beq_self_eq_true _
    clear hd5 hd6 HN HI
    go_upto_region 3 with fail
    refine wp_region_calm (B := w3.heap.size) (W := w3) (by kernel_rfl) (by kernel_rfl) (Below.refl _ _) ?_
    repeat (go_big_quiet_step (first | (go_at_call 98; with_reducible exact calm_of_same (KS _)) | (go_at_call 85; with_reducible exact calm_of_below (Nat.le_refl _) (KC _))))
    refine wpQuiet_nil ?_
    intro _ hw'
    obtain ⟨x, hx⟩ := hw'
    subst hx
    have hB3 := below_then hB2 x.ok
    clear qs0 qp0 qp1 qp2 qp3 qz0 hne hxl hy
    generalize x.w = w4 at *
    clear x
    go_wp2
    go_ret
    exact ⟨rfl, hB3⟩
end Go.Proofs.Ytocaigffikdlhaa
