/-
  impl.overfills, impl.refusalOf.
-/
import Derived.Test.YtbgemebpfcbloaaQ2
import Derived.Test.YtbgemebpfcbloaaG10
namespace Go.Proofs.Ytbgemebpfcbloaa
open Go.RowKit Go.Maps
set_option linter.unusedVariables false
set_option maxRecDepth 100000

theorem map_below {w w' : World} {b n : Nat} {D : DataW Unit} (h : w.ownsMap Try.prog 9 (plainElem Try.prog 3) b n D) (hb : Below w.heap.size w w') : w'.ownsMap Try.prog 9 (plainElem Try.prog 3) b n D := by
  have hlt := h.lt
  obtain ⟨es, clock, hh, F, hs, hD⟩ := h
  exact ⟨es, clock, by rw [hb.block b hlt]; exact hh, F, hs, hD⟩
theorem Box.c5 {w : World} {b : Nat} {v0 v1 v2 v3 v4 : Value} (h : Box w b [v0, v1, v2, v3, v4]) : b < w.heap.size ∧ w.cell? ⟨b, 0, none⟩ = some v0 ∧ w.cell? ⟨b, 1, none⟩ = some v1 ∧ w.cell? ⟨b, 2, none⟩ = some v2 ∧ w.cell? ⟨b, 3, none⟩ = some v3 ∧ w.cell? ⟨b, 4, none⟩ = some v4 :=
  ⟨h.1, h.2.1 0 _ rfl, h.2.1 1 _ rfl, h.2.1 2 _ rfl, h.2.1 3 _ rfl, h.2.1 4 _ rfl⟩

/-- The blob that a name means, where it means one. -/
def cbOf (nm : ByteArray) (lv : List (ByteArray × Int)) : Nat := ((lkp nm none lv).getD 0).toNat
def overB (k : Int) (nm da : ByteArray) (bl lv sf : List (ByteArray × Int)) (r : Int) : Bool :=
  if k == 1 then decide (20 ≤ (lv.length : Int)) || decide (60 ≤ (bl.length : Int)) else if k == 5 then decide (20 ≤ (lv.length : Int)) else
  if k == 2 then decide (4000 < ((bl.getD (cbOf nm lv) default).1.size : Int) + da.size) || decide (r < (used bl lv sf : Int) + da.size) else false

set_option maxHeartbeats 2000000 in
theorem overfills_app (v1 v2 v3 : Value) (bl lv sf : List (ByteArray × Int)) (r : Int) (b : Nat) (nm ot da : ByteArray) (kp : Int) (cb : Nat) (w : World) (h1 : PL w v1 bl) (h2 : PL w v2 lv) (h3 : PL w v3 sf) (hn1 : tot bl + bl.length ≤ 1048576) (hn2 : lv.length ≤ 1048576) (hn3 : sf.length ≤ 1048576)
    (hg : goodD bl lv sf r = true) (hown : w.ownsMap Try.prog 9 (plainElem Try.prog 3) b lv.length (mapD lv)) (hnm : nm.size ≤ 1048576) (hda : da.size ≤ 1048576) (hlk : lkp nm none lv = some (cb : Int)) (hcb : cb < bl.length) :
    Calls Try.prog 102 #[.agg #[v1, v2, v3, .int .i64 r], .map (some b), .agg #[.int .i64 2, .string nm, .string ot, .string da, .int .i64 kp]] w fun e w' => e = .returned (.bool (decide (4000 < (bl[cb].1.size : Int) + da.size) || decide (r < (used bl lv sf : Int) + da.size))) ∧ Below w.heap.size w w' := by
  obtain ⟨g1, g2, g3, g4, g5, g6⟩ := (goodD_iff _ _ _ _).1 hg
  have hbs := (okBs_iff _).1 g1 bl[cb] (List.getElem_mem _)
  have hv1 := h1
  obtain ⟨a1, c1, rfl, hc1⟩ := h1
  obtain ⟨b1, off, rfl, hb1, hcell⟩ := hc1 (by intro e; simp [e] at hcb)
  have hkey := key9 nm hnm
  obtain ⟨s, hse⟩ : ∃ s, s = bl[cb].1 := ⟨_, rfl⟩
  have h20 := hcell cb hcb
  rw [← hse] at h20 hbs ⊢
  obtain ⟨W0, hW0⟩ : ∃ W0, W0 = (w.alloc (.cells #[.slice (some ⟨b1, off, none⟩) bl.length c1, v2, v3, .int .i64 r] 26)).alloc (.cells #[.int .i64 2, .string nm, .string ot, .string da, .int .i64 kp] 28) := ⟨_, rfl⟩
  have hB0 : Below w.heap.size w W0 := by rw [hW0]; exact below2 _ _ _
  have X0 : Box W0 w.heap.size [.slice (some ⟨b1, off, none⟩) bl.length c1, v2, v3, .int .i64 r] := by rw [hW0]; exact (Box.new w _ _).alloc _
  have Y0 : Box W0 (w.heap.size + 1) [.int .i64 2, .string nm, .string ot, .string da, .int .i64 kp] := by
    rw [hW0]
    have := Box.new (w.alloc (.cells #[.slice (some ⟨b1, off, none⟩) bl.length c1, v2, v3, .int .i64 r] 26)) #[.int .i64 2, .string nm, .string ot, .string da, .int .i64 kp] 28
    simpa using this
  have hzz := hB0.size
  have X : ∀ x : WC W0.heap.size W0, Box x.w w.heap.size [.slice (some ⟨b1, off, none⟩) bl.length c1, v2, v3, .int .i64 r] := fun x => X0.below x.ok
  have Y : ∀ x : WC W0.heap.size W0, Box x.w (w.heap.size + 1) [.int .i64 2, .string nm, .string ot, .string da, .int .i64 kp] := fun x => Y0.below x.ok
  have p0 := fun x => (X x).2.1 0 _ rfl
  have p1 := fun x => (X x).2.1 1 _ rfl
  have p2 := fun x => (X x).2.1 2 _ rfl
  have p3 := fun x => (X x).2.1 3 _ rfl
  have q1 := fun x => (Y x).2.1 1 _ rfl
  have q3 := fun x => (Y x).2.1 3 _ rfl
  have ps : ∀ x : WC W0.heap.size W0, x.w.cell? ⟨b1, off + cb * 2, none⟩ = some (.string s) := fun x => ((hB0.trans (x.ok.mono hzz)).cell (p := ⟨b1, off + cb * 2, none⟩) hb1).trans h20.1
  have pl : ∀ x : WC W0.heap.size W0, (Instr.lookup 94 (.map (some b)) (.string nm) false).run Try.prog x.w = .ok (.int .i64 (cb : Int)) x.w := fun x => by
    obtain ⟨c, hrun, hat, _⟩ := (map_below hown (hB0.trans (x.ok.mono hzz))).lookup_int law9 Try.underlying94 Try.underlying3 (zero3 _) hkey
    rw [mapD_at nm lv _ hlk] at hat
    injection hat with hat
    injection hat with _ hat
    rw [← hat] at hrun; exact hrun
  have KU : Hid (∀ x : WC W0.heap.size W0, Calls Try.prog 63 #[.agg #[.slice (some ⟨b1, off, none⟩) bl.length c1, v2, v3, .int .i64 r]] x.w fun e w'' => e = .returned (.int .i64 (used bl lv sf : Nat)) ∧ ∃ m : WC W0.heap.size W0, w'' = m.w) :=
    fun x => calm_of_below (Nat.le_refl _) (usedBytes_any _ _ _ bl lv sf _ _ (hv1.below (hB0.trans (x.ok.mono hzz))) (h2.below (hB0.trans (x.ok.mono hzz))) (h3.below (hB0.trans (x.ok.mono hzz))) hn1 hn2 hn3 (fun i h => okNs_range g3 i h) (fun i h => okNs_range g4 i h))
  have hu : used bl lv sf ≤ 100000 := by omega
  generalize used bl lv sf = U at *
  obtain ⟨x0, y0⟩ : Box W0 w.heap.size [.slice (some ⟨b1, off, none⟩) bl.length c1, v2, v3, .int .i64 r] ∧ Box W0 (w.heap.size + 1) [.int .i64 2, .string nm, .string ot, .string da, .int .i64 kp] := ⟨X0, Y0⟩
  have HK : Hid (∀ x : WC W0.heap.size W0, Below w.heap.size w x.w) := fun x => hB0.trans (x.ok.mono hzz)
  have hne : Nonempty (WC W0.heap.size W0) := ⟨⟨_, Below.refl _ _⟩⟩
  have hcbi : (cb : Int) < bl.length := by omega
  clear hse hcell hc1 hv1 h2 h3 hg g1 g3 g4 h20 hown hlk X0 Y0 x0 y0 X Y hkey
  go_enter Try.func102, Try.ntmps102
  go_wp2_with fail
  rw [← hW0]
  clear hW0
  refine wp_region_calm (B := W0.heap.size) (W := W0) (by kernel_rfl) (by kernel_rfl) (Below.refl _ _) ?_
  repeat (go_big_quiet_step (fail))
  refine wpQuiet_nil ?_
  intro _ hw'
  obtain ⟨x, hx⟩ := hw'
  subst hx
  cases hd : decide ((4000 : Int) < (s.size : Int) + da.size) with
  | true =>
    go_wp2_with fail
    refine wp_region_calm (B := W0.heap.size) (W := W0) (by kernel_rfl) (by kernel_rfl) x.ok ?_
    repeat (go_big_quiet_step (fail))
    refine wpQuiet_nil ?_
    intro _ hw'
    obtain ⟨y, hy⟩ := hw'
    subst hy
    go_wp2
    go_ret
    exact ⟨by rw [hd]; rfl, HK.out y⟩
  | false =>
    go_wp2_with fail
    refine wp_region_calm (B := W0.heap.size) (W := W0) (by kernel_rfl) (by kernel_rfl) x.ok ?_
    repeat (go_big_quiet_step ((go_at_call 63; exact KU.out _)))
    refine wpQuiet_nil ?_
    intro _ hw'
    obtain ⟨y, hy⟩ := hw'
    subst hy
    go_wp2
    go_ret
    exact ⟨by rw [hd]; rfl, HK.out y⟩

set_option maxHeartbeats 2000000 in
theorem overfills_any (v1 v2 v3 : Value) (bl lv sf : List (ByteArray × Int)) (r : Int) (b : Nat) (k : Int) (nm ot da : ByteArray) (kp : Int) (w : World) (h1 : PL w v1 bl) (h2 : PL w v2 lv) (h3 : PL w v3 sf) (hn1 : tot bl + bl.length ≤ 1048576) (hn2 : lv.length ≤ 1048576) (hn3 : sf.length ≤ 1048576)
    (hg : goodD bl lv sf r = true) (hown : w.ownsMap Try.prog 9 (plainElem Try.prog 3) b lv.length (mapD lv)) (hnm : nm.size ≤ 1048576) (hda : da.size ≤ 1048576) (hlk : lacks k (lkp nm none lv).isSome = false) :
    Calls Try.prog 102 #[.agg #[v1, v2, v3, .int .i64 r], .map (some b), .agg #[.int .i64 k, .string nm, .string ot, .string da, .int .i64 kp]] w fun e w' => e = .returned (.bool (overB k nm da bl lv sf r)) ∧ Below w.heap.size w w' := by
  have hsz : Maps.size (mapD lv) = lv.length := size_mapD (ris_of_ok ((goodD_iff _ _ _ _).1 hg).2.2.1)
  rcases kinds k with rfl | rfl | rfl | rfl | rfl | rfl | rfl | rfl | ⟨k1, k2, k3, k4, k5, k6, k7, k8⟩
  case inr.inr.inr.inr.inr.inr.inr.inr =>
    rw [show overB k nm da bl lv sf r = false from by simp [overB, k1, k2, k5]]
    clear h1 h2 h3 hown hg hlk
    go_enter Try.func102, Try.ntmps102
    go_wp2
    go_ret
    exact ⟨rfl, below2 _ _ _⟩
  case inl =>
    rw [show overB 1 nm da bl lv sf r = (decide (20 ≤ (lv.length : Int)) || decide (60 ≤ (bl.length : Int))) from rfl]
    obtain ⟨a1, c1, rfl, hc1⟩ := h1
    clear h2 h3 hg hlk hc1
    cases hd : decide (20 ≤ (lv.length : Int)) with
    | true =>
      go_enter Try.func102, Try.ntmps102
      go_wp2_with (at_len; refine wpList_len_own _ rfl _ 94 rfl 9 3 Try.underlying94 _ b lv.length _ rfl ((hown.alloc _).alloc _) ?_; rw [hsz])
      go_ret
      exact ⟨rfl, below2 _ _ _⟩
    | false =>
      go_enter Try.func102, Try.ntmps102
      go_wp2_with (at_len; refine wpList_len_own _ rfl _ 94 rfl 9 3 Try.underlying94 _ b lv.length _ rfl ((hown.alloc _).alloc _) ?_; rw [hsz])
      go_ret
      exact ⟨rfl, below2 _ _ _⟩
  case inr.inr.inr.inr.inl =>
    rw [show overB 5 nm da bl lv sf r = decide (20 ≤ (lv.length : Int)) from rfl]
    clear h1 h2 h3 hg hlk
    go_enter Try.func102, Try.ntmps102
    go_wp2_with (at_len; refine wpList_len_own _ rfl _ 94 rfl 9 3 Try.underlying94 _ b lv.length _ rfl ((hown.alloc _).alloc _) ?_; rw [hsz])
    go_ret
    exact ⟨rfl, below2 _ _ _⟩
  case inr.inl =>
    cases hv : lkp nm none lv with
    | none => rw [hv] at hlk; simp [lacks, named] at hlk
    | some c =>
      obtain ⟨cb, rfl, hcb, _⟩ := blob_of hg hv
      rw [show overB 2 nm da bl lv sf r = (decide (4000 < ((bl.getD (cbOf nm lv) default).1.size : Int) + da.size) || decide (r < (used bl lv sf : Int) + da.size)) from rfl]
      rw [show cbOf nm lv = cb from by simp [cbOf, hv], getD_lt _ _ hcb]
      exact overfills_app v1 v2 v3 bl lv sf r b nm ot da kp cb w h1 h2 h3 hn1 hn2 hn3 hg hown hnm hda hv hcb
  all_goals
    clear h1 h2 h3 hown hg hlk
    go_enter Try.func102, Try.ntmps102
    go_wp2
    go_ret
    exact ⟨rfl, below2 _ _ _⟩

/-- The code of a step: 0 where it is not refused. -/
def refuse (k : Int) (nm ot da : ByteArray) (kp : Int) (bl lv sf : List (ByteArray × Int)) (r : Int) : Int :=
  if !goodS k nm ot da kp then 1 else if lacks k (lkp nm none lv).isSome then 2 else if taken k (lkp nm none lv).isSome (lkp ot none lv).isSome then 3 else if overB k nm da bl lv sf r then 4 else 0

set_option maxHeartbeats 2000000 in
theorem refusalOf_any (v1 v2 v3 : Value) (bl lv sf : List (ByteArray × Int)) (r : Int) (b : Nat) (k : Int) (nm ot da : ByteArray) (kp : Int) (w : World) (h1 : PL w v1 bl) (h2 : PL w v2 lv) (h3 : PL w v3 sf) (hn1 : tot bl + bl.length ≤ 1048576) (hn2 : lv.length ≤ 1048576) (hn3 : sf.length ≤ 1048576)
    (hg : goodD bl lv sf r = true) (hown : w.ownsMap Try.prog 9 (plainElem Try.prog 3) b lv.length (mapD lv)) (hnm : nm.size ≤ 1048576) (hot : ot.size ≤ 1048576) (hda : da.size ≤ 1048576) :
    Calls Try.prog 53 #[.agg #[v1, v2, v3, .int .i64 r], .map (some b), .agg #[.int .i64 k, .string nm, .string ot, .string da, .int .i64 kp]] w fun e w' => e = .returned (.int .i64 (refuse k nm ot da kp bl lv sf r)) ∧ Below w.heap.size w w' := by
  obtain ⟨W0, hW0⟩ : ∃ W0, W0 = (w.alloc (.cells #[v1, v2, v3, .int .i64 r] 26)).alloc (.cells #[.int .i64 k, .string nm, .string ot, .string da, .int .i64 kp] 28) := ⟨_, rfl⟩
  have hB0 : Below w.heap.size w W0 := by rw [hW0]; exact below2 _ _ _
  have X0 : Box W0 w.heap.size [v1, v2, v3, .int .i64 r] := by rw [hW0]; exact (Box.new w _ _).alloc _
  have Y0 : Box W0 (w.heap.size + 1) [.int .i64 k, .string nm, .string ot, .string da, .int .i64 kp] := by
    rw [hW0]
    have := Box.new (w.alloc (.cells #[v1, v2, v3, .int .i64 r] 26)) #[.int .i64 k, .string nm, .string ot, .string da, .int .i64 kp] 28
    simpa using this
  have K1 := fun w => goodStep_any k nm ot da kp w hnm hot hda
  have K2 : ∀ w', Below w.heap.size w w' → Calls Try.prog 100 #[.map (some b), .agg #[.int .i64 k, .string nm, .string ot, .string da, .int .i64 kp]] w' fun e w'' => e = .returned (.bool (lacks k (lkp nm none lv).isSome)) ∧ Below w'.heap.size w' w'' := fun w' hb => lacksName_any b lv.length (mapD lv) k nm ot da kp _ w' hnm (map_below hown hb) (mapD_has nm lv)
  have K3 : ∀ w', Below w.heap.size w w' → Calls Try.prog 101 #[.map (some b), .agg #[.int .i64 k, .string nm, .string ot, .string da, .int .i64 kp]] w' fun e w'' => e = .returned (.bool (taken k (lkp nm none lv).isSome (lkp ot none lv).isSome)) ∧ Below w'.heap.size w' w'' := fun w' hb => takenName_any b lv.length (mapD lv) k nm ot da kp _ _ w' hnm hot (map_below hown hb) (mapD_has nm lv) (mapD_has ot lv)
  have K4 : lacks k (lkp nm none lv).isSome = false → ∀ w', Below w.heap.size w w' → Calls Try.prog 102 #[.agg #[v1, v2, v3, .int .i64 r], .map (some b), .agg #[.int .i64 k, .string nm, .string ot, .string da, .int .i64 kp]] w' fun e w'' => e = .returned (.bool (overB k nm da bl lv sf r)) ∧ Below w'.heap.size w' w'' := fun hl w' hb => overfills_any v1 v2 v3 bl lv sf r b k nm ot da kp w' (h1.below hb) (h2.below hb) (h3.below hb) hn1 hn2 hn3 hg (map_below hown hb) hnm hda hl
  have HR : Hid (refuse k nm ot da kp bl lv sf r = if !goodS k nm ot da kp then 1 else if lacks k (lkp nm none lv).isSome then 2 else if taken k (lkp nm none lv).isSome (lkp ot none lv).isSome then 3 else if overB k nm da bl lv sf r then 4 else 0) := rfl
  clear h1 h2 h3 hg hown
  obtain ⟨_, y0, y1, y2, y3, y4⟩ := Y0.c5
  generalize refuse k nm ot da kp bl lv sf r = RR at *
  generalize lacks k (lkp nm none lv).isSome = L at *
  generalize taken k (lkp nm none lv).isSome (lkp ot none lv).isSome = T at *
  generalize overB k nm da bl lv sf r = O at *
  generalize goodS k nm ot da kp = G at *
  cases hG : G with
  | false =>
    have hr : RR = 1 := by rw [HR.out, hG]; rfl
    subst hr
    subst hG
    clear HR K2 K3 K4
    go_enter Try.func53, Try.ntmps53
    go_wp2_with fail
    rw [← hW0]
    clear hW0
    refine (K1 _).mono ?_
    rintro e w1 ⟨rfl, hb1⟩
    go_wp2
    go_ret
    exact ⟨rfl, below_then hB0 hb1⟩
  | true =>
    subst hG
    go_enter Try.func53, Try.ntmps53
    go_wp2_with fail
    rw [← hW0]
    clear hW0
    refine (K1 _).mono ?_
    rintro e w1 ⟨rfl, hb1⟩
    have hB1 := below_then hB0 hb1
    have Y1 := Y0.below hb1
    have X1 := X0.below hb1
    clear hb1 K1 y0 y1 y2 y3 y4 X0 Y0 hB0
    obtain ⟨_, y0, y1, y2, y3, y4⟩ := Y1.c5
    go_wp2_with fail
    refine (K2 _ hB1).mono ?_
    rintro e w2 ⟨rfl, hb2⟩
    have hB2 := below_then hB1 hb2
    have Y2 := Y1.below hb2
    have X2 := X1.below hb2
    clear hb2 K2 y0 y1 y2 y3 y4 X1 Y1 hB1
    cases hL : L with
    | true =>
      have hr : RR = 2 := by rw [HR.out, hL]; rfl
      subst hr
      clear HR K3 K4
      go_wp2
      go_ret
      exact ⟨rfl, hB2⟩
    | false =>
      have K4' := K4 hL
      clear K4
      obtain ⟨_, y0, y1, y2, y3, y4⟩ := Y2.c5
      go_wp2_with fail
      refine (K3 _ hB2).mono ?_
      rintro e w3 ⟨rfl, hb3⟩
      have hB3 := below_then hB2 hb3
      have Y3 := Y2.below hb3
      have X3 := X2.below hb3
      clear hb3 K3 y0 y1 y2 y3 y4 X2 Y2 hB2
      cases hT : T with
      | true =>
        have hr : RR = 3 := by rw [HR.out, hL, hT]; rfl
        subst hr
        clear HR K4'
        go_wp2
        go_ret
        exact ⟨rfl, hB3⟩
      | false =>
        obtain ⟨_, y0, y1, y2, y3, y4⟩ := Y3.c5
        obtain ⟨_, x0, x1, x2, x3⟩ := X3.c4
        go_wp2_with fail
        refine (K4' _ hB3).mono ?_
        rintro e w4 ⟨rfl, hb4⟩
        have hB4 := below_then hB3 hb4
        cases hO : O with
        | true =>
          have hr : RR = 4 := by rw [HR.out, hL, hT, hO]; rfl
          subst hr
          clear HR
          go_wp2
          go_ret
          exact ⟨rfl, hB4⟩
        | false =>
          have hr : RR = 0 := by rw [HR.out, hL, hT, hO]; rfl
          subst hr
          clear HR
          go_wp2
          go_ret
          exact ⟨rfl, hB4⟩
end Go.Proofs.Ytbgemebpfcbloaa
