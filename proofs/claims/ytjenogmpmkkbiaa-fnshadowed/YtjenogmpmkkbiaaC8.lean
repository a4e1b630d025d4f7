/-
  Drawn runs for chapter 8: the cursor's oneRun and the draws.
-/
import Derived.Test.YtjenogmpmkkbiaaX4
import Derived.Test.YtjenogmpmkkbiaaU8
namespace Go.Proofs.Ytjenogmpmkkbiaa
open Go.RowKit
set_option linter.unusedVariables false
set_option maxRecDepth 100000

def OnePost (b : Nat) (l : List UInt8) (K : Nat) (w : World) (e : Ending) (w' : World) : Prop := ∃ a c L, e = .returned (.agg #[.slice a (List.length L) c]) ∧ w'.ownsRow w.heap.size 83 4 (.slice a L.length c) L.length (flat4 L) ∧ small L ∧ L.length ≤ 14 ∧ Cur w' b l K ∧ Chg (· = b) w w'
theorem OnePost.mk {b : Nat} {l : List UInt8} {K : Nat} {w w' : World} {a : Option Addr} {c : Nat} {L : List It} (h1 : w'.ownsRow w.heap.size 83 4 (.slice a L.length c) L.length (flat4 L)) (h2 : small L) (h3 : L.length ≤ 14) (h4 : Cur w' b l K) (h5 : Chg (· = b) w w') : OnePost b l K w (.returned (.agg #[.slice a L.length c])) w' := ⟨a, c, L, rfl, h1, h2, h3, h4, h5⟩
theorem owns_setOther {w : World} {base : Nat} {e : TypeId} {size : Nat} {v : Value} {n : Nat} {xs : List Value} (h : w.ownsRow base e size v n xs) {b : Nat} (hb : b < base) (u : Value) : (w.setCell ⟨b, 0, none⟩ u).ownsRow base e size v n xs := by
  have c : Chg (fun k => k = b) w (w.setCell ⟨b, 0, none⟩ u) := (Chg.refl (fun k => k = b) w).setCell (p := ⟨b, 0, none⟩) rfl _
  exact c.owns h (fun g hg hh => by have := owns_ge h g hg; omega)

set_option maxHeartbeats 4000000 in
theorem oneRun_any (b : Nat) (l : List UInt8) (K : Nat) (w : World) (h : Cur w b l K) (hl : l.length ≤ 9223372036854775807) (hK : K ≤ 10000) :
    Calls Try.prog 46 #[.pointer (some ⟨b, 0, none⟩)] w fun e w' => OnePost b l (K + 600) w e w' := by
  have hbw := h.lt
  have hb0 := below_alloc w (.cells #[.slice none 0 0] 25)
  have C0 := h.chg hb0
  have R0 := Boxed.new w 25 (.slice none 0 0)
  have G0 : Chg (· = b) w (w.alloc (.cells #[.slice none 0 0] 25)) := Chg.of_below hb0
  have hz0 : (w.alloc (.cells #[.slice none 0 0] 25)).heap.size = w.heap.size + 1 := by simp
  clear h hb0
  go_enter Try.func46, Try.ntmps46
  go_wp2_with fail
  refine (pick_any b l K 14 _ C0 hl (by omega) (by omega)).mono ?_
  rintro e w1 ⟨⟨n, rfl, hn⟩, C1, G1⟩
  have hn14 : n ≤ 14 := by omega
  have hz1 := G1.size
  rw [hz0] at hz1
  have R1 : Boxed w1 w.heap.size 25 (.slice none 0 0) := (G1.block _ R0.lt (by omega)).trans R0
  have GG1 := G0.trans G1
  clear C0 R0 G0 G1 hn hz0
  go_wp2_with fail
  refine (run_any b l (K + 2) n _ C1 hl (by omega) (by omega)).mono ?_
  rintro e w2 ⟨u, L, rfl, hD, hle, C2, G2⟩
  have R2 : Boxed w2 w.heap.size 25 (.slice none 0 0) := (G2.block _ R1.lt (by omega)).trans R1
  have GG2 := GG1.trans G2
  have hz2 := G2.size
  obtain ⟨hown, hnil, hsm⟩ := hD
  obtain ⟨av, cv, rfl, hcv⟩ := IR_of_owns hown rfl
  clear C1 R1 GG1 G2 hnil
  have HZ : w.heap.size ≤ w1.heap.size := by omega
  by_cases hL : (1 : Int) < L.length
  · go_wp2_with fail
    refine (one_any b l (K + 2 + 40 * n) 40 _ C2 hl (by omega) (by omega)).mono ?_
    rintro e w3 ⟨⟨x, rfl⟩, C3, G3⟩
    have R3 : Boxed w3 w.heap.size 25 (.slice none 0 0) := (G3.block _ R2.lt (by omega)).trans R2
    have GG3 := GG2.trans G3
    have hz3 := G3.size
    have hown3 := G3.owns hown (fun g hg e => by have := owns_ge hown g hg; omega)
    clear C2 R2 GG2 G3 hown hcv
    cases x with
    | false =>
      have C4 := cur_set C3 (show K + 2 + 40 * n + 2 ≤ K + 600 from by omega) ⟨w.heap.size, 0, none⟩ hbw (.slice av L.length cv)
      have G4 := chg_new GG3 ⟨w.heap.size, 0, none⟩ (Nat.le_refl _) (.slice av L.length cv)
      have O4 := owns_mono (owns_setOther hown3 (show w.heap.size < w1.heap.size from by omega) (.slice av L.length cv)) HZ
      have c3 := R3.cell
      have f3 := R3.frozen
      have n3 := R3.lt
      have HP := OnePost.mk O4 hsm (by omega) C4 G4
      clear C3 GG3 hown3 O4 C4 G4 hsm
      go_wp2
      exact bodyPost_ret (v := .agg #[.slice av L.length cv]) (by simp [results, Try.results46, go_sem, c3]) rfl HP
    | true =>
      rcases hown3.2 with ⟨_, h0⟩ | ⟨g, cp, cur, hg, hbg, hh, _⟩
      · omega
      · simp only [Value.slice.injEq, true_and] at hg
        obtain ⟨rfl, rfl⟩ := hg
        clear hh
        obtain ⟨s0, hs0⟩ : ∃ s, s = L[0]'(by omega) := ⟨_, rfl⟩
        obtain ⟨g0, g1, g2, g3⟩ := flat4_get L 0 (by omega)
        have q0 := (hown3.cellAt 0 (by omega)).trans g0
        have q1 := (hown3.cellAt 1 (by omega)).trans g1
        have q2 := (hown3.cellAt 2 (by omega)).trans g2
        have q3 := (hown3.cellAt 3 (by omega)).trans g3
        rw [← hs0] at q0 q1 q2 q3
        obtain ⟨⟨u4, d4⟩, f4⟩ := owns4_at hown3 1 (by omega) 0 (by omega)
        obtain ⟨⟨u5, d5⟩, f5⟩ := owns4_at hown3 1 (by omega) 1 (by omega)
        obtain ⟨⟨u6, d6⟩, f6⟩ := owns4_at hown3 1 (by omega) 2 (by omega)
        obtain ⟨⟨u7, d7⟩, f7⟩ := owns4_at hown3 1 (by omega) 3 (by omega)
        simp only [Nat.one_mul, Nat.add_zero, Nat.reduceAdd] at d4 f4 d5 f5 d6 f6 d7 f7
        have hgl := (owns_lt hown3).2
        have HS : small (L.set 1 s0) := by
          apply small_of
          intro x hx
          have := List.mem_or_eq_of_mem_set hx
          rcases this with h | h
          · exact small_mem hsm x h
          · rw [h, hs0]; exact hsm 0 (by omega)
        have HF : Hid (((((flat4 L).set 4 (.string s0.k)).set 5 (.int .i64 s0.n)).set 6 (.int .i64 s0.d)).set 7 (.string s0.v) = flat4 (L.set 1 s0)) := flat4_set L 1 s0
        have HLN : (L.set 1 s0).length = L.length := List.length_set
        obtain ⟨sk, sn, sd, sv⟩ := s0
        dsimp only at q0 q1 q2 q3 HF
        have HO := ((((hown3.stored 4 (.string sk)).1.stored 5 (.int .i64 sn)).1.stored 6 (.int .i64 sd)).1.stored 7 (.string sv)).1
        rw [HF.out] at HO
        have C4 := cur_set (cur_set (cur_set (cur_set (cur_set C3 (show K + 2 + 40 * n + 2 ≤ K + 600 from by omega) ⟨g, 4, none⟩ (by simp; omega) (.string sk)) (Nat.le_refl _) ⟨g, 5, none⟩ (by simp; omega) (.int .i64 sn)) (Nat.le_refl _) ⟨g, 6, none⟩ (by simp; omega) (.int .i64 sd)) (Nat.le_refl _) ⟨g, 7, none⟩ (by simp; omega) (.string sv)) (Nat.le_refl _) ⟨w.heap.size, 0, none⟩ hbw (.slice (some ⟨g, 0, none⟩) L.length cv)
        have G4 := chg_new (chg_new (chg_new (chg_new (chg_new GG3 ⟨g, 4, none⟩ (by simp; omega) (.string sk)) ⟨g, 5, none⟩ (by simp; omega) (.int .i64 sn)) ⟨g, 6, none⟩ (by simp; omega) (.int .i64 sd)) ⟨g, 7, none⟩ (by simp; omega) (.string sv)) ⟨w.heap.size, 0, none⟩ (Nat.le_refl _) (.slice (some ⟨g, 0, none⟩) L.length cv)
        have O4 := owns_mono (owns_setOther HO (show w.heap.size < w1.heap.size from by omega) (.slice (some ⟨g, 0, none⟩) L.length cv)) HZ
        have c3 := R3.cell
        have f3 := R3.frozen
        have n3 := R3.lt
        have hgn : w.heap.size < g := by omega
        rw [← HLN] at O4 C4 G4
        have HP := OnePost.mk O4 HS (by omega) C4 G4
        rw [HLN] at HP
        clear C3 GG3 hown3 O4 C4 G4 hsm HS HF HO hs0 HLN g0 g1 g2 g3
        go_wp2
        exact bodyPost_ret (v := .agg #[.slice (some ⟨g, 0, none⟩) L.length cv]) (by simp [results, Try.results46, go_sem, c3]) rfl HP
  · have C4 := cur_set C2 (show K + 2 + 40 * n ≤ K + 600 from by omega) ⟨w.heap.size, 0, none⟩ hbw (.slice av L.length cv)
    have G4 := chg_new GG2 ⟨w.heap.size, 0, none⟩ (Nat.le_refl _) (.slice av L.length cv)
    have O4 := owns_mono (owns_setOther hown (show w.heap.size < w1.heap.size from by omega) (.slice av L.length cv)) HZ
    have c3 := R2.cell
    have f3 := R2.frozen
    have n3 := R2.lt
    have hLd : decide ((1 : Int) < L.length) = false := decide_eq_false hL
    have HP := OnePost.mk O4 hsm (by omega) C4 G4
    clear C2 GG2 hown O4 C4 G4 hsm hcv
    go_wp2
    exact bodyPost_ret (v := .agg #[.slice av L.length cv]) (by simp [results, Try.results46, go_sem, c3]) rfl HP

/-- A drawn run in a row of its own. -/
def RunAt (w : World) (base : Nat) (u : Value) (L : List It) : Prop := (∃ a c, u = .slice a L.length c) ∧ w.ownsRow base 83 4 u L.length (flat4 L) ∧ small L ∧ L.length ≤ 14
theorem chg_boxed {S : Nat → Prop} {w w' : World} (h : Chg S w w') {B : Nat} {t : TypeId} {v : Value} (hb : Boxed w B t v) (hs : ¬ S B) : Boxed w' B t v := (h.block _ hb.lt hs).trans hb

set_option maxHeartbeats 4000000 in
theorem drawLook_any (v : Value) (l : List UInt8) (w : World) (hv : YL w v l) (hl : l.length ≤ maxLen) :
    Calls Try.prog 20 #[v] w fun e w' => ∃ (u : Value) (L : List It) (key : ByteArray) (q : Nat), e = .returned (.tuple #[.agg #[u], .string key, .int .i64 q]) ∧ RunAt w' w.heap.size u L ∧ key.size ≤ 17 ∧ q ≤ 24 ∧ Below w.heap.size w w' := by
  unfold maxLen at hl
  have hbA := below_alloc w (.cells #[.slice none 0 0] 25)
  have hc0 := cur_new (hv.below hbA)
  have hv0 := hv
  obtain ⟨av, cv, rfl, _⟩ := hv0
  have hb0 : Below w.heap.size w ((w.alloc (.cells #[.slice none 0 0] 25)).alloc (.cells #[.slice av l.length cv, .int .i64 0, .int .u64 0] 77)) := below2 _ _ _
  have R0 := (Boxed.new w 25 (.slice none 0 0)).alloc (.cells #[.slice av l.length cv, .int .i64 0, .int .u64 0] 77)
  simp only [World.size_alloc] at hc0
  have hz : ((w.alloc (.cells #[.slice none 0 0] 25)).alloc (.cells #[.slice av l.length cv, .int .i64 0, .int .u64 0] 77)).heap.size = w.heap.size + 2 := by simp
  clear hv hbA
  go_enter Try.func20, Try.ntmps20
  go_wp2_with fail
  refine (oneRun_any (w.heap.size + 1) l 0 _ hc0 (by omega) (by omega)).mono ?_
  rintro e w1 ⟨a1, c1, L, rfl, O1, hsm, hle, C1, G1⟩
  have R1 := chg_boxed G1 R0 (by omega)
  rw [hz] at O1
  have hB1 := hb0.trans (G1.below (B := w.heap.size) (by omega) (fun k hk => by omega))
  clear hc0 R0 G1 hb0
  go_wp2_with fail
  refine (key_any (w.heap.size + 1) l (0 + 600) _ C1 (by omega) (by omega)).mono ?_
  rintro e w2 ⟨⟨key, rfl, hk⟩, C2, G2⟩
  have R2 := chg_boxed G2 R1 (by omega)
  replace O1 := G2.owns O1 (fun g hg e => by have := owns_ge O1 g hg; omega)
  have hB2 := hB1.trans (G2.below (B := w.heap.size) hB1.size (fun k hk => by omega))
  clear C1 R1 G2 hB1
  go_wp2_with fail
  refine (pick_any (w.heap.size + 1) l (0 + 600 + 4) 24 _ C2 (by omega) (by omega) (by omega)).mono ?_
  rintro e w3 ⟨⟨q, rfl, hq⟩, C3, G3⟩
  have R3 := chg_boxed G3 R2 (by omega)
  replace O1 := G3.owns O1 (fun g hg e => by have := owns_ge O1 g hg; omega)
  have hB3 := hB2.trans (G3.below (B := w.heap.size) hB2.size (fun k hk => by omega))
  have hq24 : q ≤ 24 := by omega
  have c3 := R3.cell
  have f3 := R3.frozen
  have n3 := R3.lt
  have HR : RunAt (w3.setCell ⟨w.heap.size, 0, none⟩ (.slice a1 L.length c1)) w.heap.size (.slice a1 L.length c1) L := ⟨⟨_, _, rfl⟩, owns_mono (owns_setOther O1 (by omega) _) (by omega), hsm, hle⟩
  have hB4 : Below w.heap.size w (w3.setCell ⟨w.heap.size, 0, none⟩ (.slice a1 L.length c1)) := hB3.setCell (by simp) _
  clear C2 C3 G3 hq O1 hsm hB2 hB3 hz
  go_wp2
  exact bodyPost_ret (v := .tuple #[.agg #[.slice a1 L.length c1], .string key, .int .i64 (q : Int)]) (by simp [results, Try.results20, go_sem, c3]) rfl ⟨_, L, key, q, rfl, HR, hk, hq24, hB4⟩

set_option maxHeartbeats 4000000 in
theorem drawDrop_any (v : Value) (l : List UInt8) (w : World) (hv : YL w v l) (hl : l.length ≤ maxLen) :
    Calls Try.prog 12 #[v] w fun e w' => ∃ (u : Value) (L : List It) (q : Nat) (bot : Bool), e = .returned (.tuple #[.agg #[u], .int .i64 q, .bool bot]) ∧ RunAt w' w.heap.size u L ∧ q ≤ 24 ∧ Below w.heap.size w w' := by
  unfold maxLen at hl
  have hbA := below_alloc w (.cells #[.slice none 0 0] 25)
  have hc0 := cur_new (hv.below hbA)
  have hv0 := hv
  obtain ⟨av, cv, rfl, _⟩ := hv0
  have hb0 : Below w.heap.size w ((w.alloc (.cells #[.slice none 0 0] 25)).alloc (.cells #[.slice av l.length cv, .int .i64 0, .int .u64 0] 77)) := below2 _ _ _
  have R0 := (Boxed.new w 25 (.slice none 0 0)).alloc (.cells #[.slice av l.length cv, .int .i64 0, .int .u64 0] 77)
  simp only [World.size_alloc] at hc0
  have hz : ((w.alloc (.cells #[.slice none 0 0] 25)).alloc (.cells #[.slice av l.length cv, .int .i64 0, .int .u64 0] 77)).heap.size = w.heap.size + 2 := by simp
  clear hv hbA
  go_enter Try.func12, Try.ntmps12
  go_wp2_with fail
  refine (oneRun_any (w.heap.size + 1) l 0 _ hc0 (by omega) (by omega)).mono ?_
  rintro e w1 ⟨a1, c1, L, rfl, O1, hsm, hle, C1, G1⟩
  have R1 := chg_boxed G1 R0 (by omega)
  rw [hz] at O1
  have hB1 := hb0.trans (G1.below (B := w.heap.size) (by omega) (fun k hk => by omega))
  clear hc0 R0 G1 hb0
  go_wp2_with fail
  refine (pick_any (w.heap.size + 1) l (0 + 600) 24 _ C1 (by omega) (by omega) (by omega)).mono ?_
  rintro e w2 ⟨⟨q, rfl, hq⟩, C2, G2⟩
  have R2 := chg_boxed G2 R1 (by omega)
  replace O1 := G2.owns O1 (fun g hg e => by have := owns_ge O1 g hg; omega)
  have hB2 := hB1.trans (G2.below (B := w.heap.size) hB1.size (fun k hk => by omega))
  clear C1 R1 G2 hB1
  go_wp2_with fail
  refine (one_any (w.heap.size + 1) l (0 + 600 + 2) 2 _ C2 (by omega) (by omega) (by omega)).mono ?_
  rintro e w3 ⟨⟨bot, rfl⟩, C3, G3⟩
  have R3 := chg_boxed G3 R2 (by omega)
  replace O1 := G3.owns O1 (fun g hg e => by have := owns_ge O1 g hg; omega)
  have hB3 := hB2.trans (G3.below (B := w.heap.size) hB2.size (fun k hk => by omega))
  have hq24 : q ≤ 24 := by omega
  have c3 := R3.cell
  have f3 := R3.frozen
  have n3 := R3.lt
  have HR : RunAt (w3.setCell ⟨w.heap.size, 0, none⟩ (.slice a1 L.length c1)) w.heap.size (.slice a1 L.length c1) L := ⟨⟨_, _, rfl⟩, owns_mono (owns_setOther O1 (by omega) _) (by omega), hsm, hle⟩
  have hB4 : Below w.heap.size w (w3.setCell ⟨w.heap.size, 0, none⟩ (.slice a1 L.length c1)) := hB3.setCell (by simp) _
  clear C2 C3 G3 hq O1 hsm hB2 hB3 hz
  go_wp2
  exact bodyPost_ret (v := .tuple #[.agg #[.slice a1 L.length c1], .int .i64 (q : Int), .bool bot]) (by simp [results, Try.results12, go_sem, c3]) rfl ⟨_, L, q, bot, rfl, HR, hq24, hB4⟩

set_option maxHeartbeats 4000000 in
theorem drawScan_any (v : Value) (l : List UInt8) (w : World) (hv : YL w v l) (hl : l.length ≤ maxLen) :
    Calls Try.prog 23 #[v] w fun e w' => ∃ (u : Value) (L : List It) (f t : ByteArray) (q : Nat), e = .returned (.tuple #[.agg #[u], .string f, .string t, .int .i64 q]) ∧ RunAt w' w.heap.size u L ∧ f.size ≤ 17 ∧ t.size ≤ 17 ∧ q ≤ 24 ∧ Below w.heap.size w w' := by
  unfold maxLen at hl
  have hbA := below_alloc w (.cells #[.slice none 0 0] 25)
  have hc0 := cur_new (hv.below hbA)
  have hv0 := hv
  obtain ⟨av, cv, rfl, _⟩ := hv0
  have hb0 : Below w.heap.size w ((w.alloc (.cells #[.slice none 0 0] 25)).alloc (.cells #[.slice av l.length cv, .int .i64 0, .int .u64 0] 77)) := below2 _ _ _
  have R0 := (Boxed.new w 25 (.slice none 0 0)).alloc (.cells #[.slice av l.length cv, .int .i64 0, .int .u64 0] 77)
  simp only [World.size_alloc] at hc0
  have hz : ((w.alloc (.cells #[.slice none 0 0] 25)).alloc (.cells #[.slice av l.length cv, .int .i64 0, .int .u64 0] 77)).heap.size = w.heap.size + 2 := by simp
  clear hv hbA
  go_enter Try.func23, Try.ntmps23
  go_wp2_with fail
  refine (key_any (w.heap.size + 1) l 0 _ hc0 (by omega) (by omega)).mono ?_
  rintro e w1 ⟨⟨t0, rfl, ht0⟩, C1, G1⟩
  have R1 := chg_boxed G1 R0 (by omega)
  have hB1 := hb0.trans (G1.below (B := w.heap.size) (by omega) (fun k hk => by omega))
  have hz1 := G1.size
  rw [hz] at hz1
  clear hc0 R0 G1 hb0 hz
  go_wp2_with fail
  refine (one_any (w.heap.size + 1) l (0 + 4) 3 _ C1 (by omega) (by omega) (by omega)).mono ?_
  rintro e w2 ⟨⟨x, rfl⟩, C2, G2⟩
  have R2 := chg_boxed G2 R1 (by omega)
  have hB2 := hB1.trans (G2.below (B := w.heap.size) hB1.size (fun k hk => by omega))
  have hz2 := G2.size
  clear C1 R1 G2 hB1
  obtain ⟨t, ht, htx⟩ : ∃ t : ByteArray, t.size ≤ 17 ∧ t = if x then ⟨#[]⟩ else t0 := by
    cases x
    · exact ⟨t0, ht0, rfl⟩
    · exact ⟨⟨#[]⟩, by decide, rfl⟩
  cases x
  all_goals
    simp only [if_true, if_false, Bool.false_eq_true] at htx
    subst htx
    go_wp2_with fail
    refine (oneRun_any (w.heap.size + 1) l (0 + 4 + 2) _ C2 (by omega) (by omega)).mono ?_
    rintro e w3 ⟨a1, c1, L, rfl, O1, hsm, hle, C3, G3⟩
    have R3 := chg_boxed G3 R2 (by omega)
    have hB3 := hB2.trans (G3.below (B := w.heap.size) hB2.size (fun k hk => by omega))
    clear C2 R2 G3 hB2
    go_wp2_with fail
    refine (key_any (w.heap.size + 1) l (0 + 4 + 2 + 600) _ C3 (by omega) (by omega)).mono ?_
    rintro e w4 ⟨⟨f, rfl, hf⟩, C4, G4⟩
    have R4 := chg_boxed G4 R3 (by omega)
    replace O1 := G4.owns O1 (fun g hg e => by have := owns_ge O1 g hg; omega)
    have hB4 := hB3.trans (G4.below (B := w.heap.size) hB3.size (fun k hk => by omega))
    clear C3 R3 G4 hB3
    go_wp2_with fail
    refine (pick_any (w.heap.size + 1) l (0 + 4 + 2 + 600 + 4) 24 _ C4 (by omega) (by omega) (by omega)).mono ?_
    rintro e w5 ⟨⟨q, rfl, hq⟩, C5, G5⟩
    have R5 := chg_boxed G5 R4 (by omega)
    replace O1 := G5.owns O1 (fun g hg e => by have := owns_ge O1 g hg; omega)
    have hB5 := hB4.trans (G5.below (B := w.heap.size) hB4.size (fun k hk => by omega))
    have hq24 : q ≤ 24 := by omega
    have c3 := R5.cell
    have f3 := R5.frozen
    have n3 := R5.lt
    have HR : RunAt (w5.setCell ⟨w.heap.size, 0, none⟩ (.slice a1 L.length c1)) w.heap.size (.slice a1 L.length c1) L := ⟨⟨_, _, rfl⟩, owns_mono (owns_setOther O1 (by omega) _) (by omega), hsm, hle⟩
    have hB6 : Below w.heap.size w (w5.setCell ⟨w.heap.size, 0, none⟩ (.slice a1 L.length c1)) := hB5.setCell (by simp) _
    clear C4 C5 G5 hq O1 hsm hB4 hB5 hz1 hz2
    go_wp2
  · exact bodyPost_ret (v := .tuple #[.agg #[.slice a1 L.length c1], .string f, .string t, .int .i64 (q : Int)]) (by simp [results, Try.results23, go_sem, c3]) rfl ⟨_, L, f, t, q, rfl, HR, hf, ht, hq24, hB6⟩
  · exact bodyPost_ret (v := .tuple #[.agg #[.slice a1 L.length c1], .string f, .string ⟨#[]⟩, .int .i64 (q : Int)]) (by simp [results, Try.results23, go_sem, c3]) rfl ⟨_, L, f, ⟨#[]⟩, q, rfl, HR, hf, by decide, hq24, hB6⟩
end Go.Proofs.Ytjenogmpmkkbiaa
