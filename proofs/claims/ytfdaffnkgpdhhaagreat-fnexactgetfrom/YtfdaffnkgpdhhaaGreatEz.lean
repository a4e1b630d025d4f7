/-
  The parts of a table's bytes: spec.l7Parts.
  The parts of a table's bytes: spec.l7Parts, walked.
-/
import Derived.Test.YtfdaffnkgpdhhaaGreatXz
import Derived.Test.YtfdaffnkgpdhhaaGreatLz
import Derived.BigQuiet
import Derived.Deep.QuietTactic
namespace Go.Proofs.YtfdaffnkgpdhhaaGreat
open Go.RowKit
set_option linter.unusedVariables false
set_option maxRecDepth 100000

/-- The number in four bytes at i. -/
def lo4 (s : List UInt8) (i : Nat) : Nat := (s.getD i 0).toNat + 256 * (s.getD (i + 1) 0).toNat + 65536 * (s.getD (i + 2) 0).toNat + 16777216 * (s.getD (i + 3) 0).toNat
theorem lo4_lt (s : List UInt8) (i : Nat) : lo4 s i < 4294967296 := by
  have h0 := (s.getD i 0).toNat_lt
  have h1 := (s.getD (i + 1) 0).toNat_lt
  have h2 := (s.getD (i + 2) 0).toNat_lt
  have h3 := (s.getD (i + 3) 0).toNat_lt
  unfold lo4; omega
theorem lo4_word (p q : List UInt8) (n : Nat) (hn : n < 4294967296) : lo4 (p ++ (wordL n ++ q)) p.length = n := by
  have g : ∀ j, j < 4 → (p ++ (wordL n ++ q)).getD (p.length + j) 0 = (wordL n).getD j 0 := by
    intro j hj
    rw [List.getD_eq_getElem?_getD, List.getElem?_append_right (by omega), show p.length + j - p.length = j from by omega, List.getElem?_append_left (by show j < 4; omega), List.getD_eq_getElem?_getD]
  unfold lo4
  have g0 := g 0 (by omega)
  rw [Nat.add_zero] at g0
  rw [g0, g 1 (by omega), g 2 (by omega), g 3 (by omega)]
  simp only [wordL, List.getD_cons_zero, List.getD_cons_succ, UInt8.toNat_ofNat']
  omega
theorem or_join (k x y : Nat) (hx : x < 2 ^ k) (hb : x < 4611686018427387904) (hy : y * 2 ^ k < 4611686018427387904) : bits BinOp.or IntKind.i64 (x : Int) (((y * 2 ^ k : Nat)) : Int) = ((x + y * 2 ^ k : Nat) : Int) := by
  have h1 := (bits_nat .i64 62 (by decide) (fun n h1 h2 => by rw [IntKind.wrap_i64]; omega) x (y * 2 ^ k) (by simpa using hb) (by simpa using hy)).2
  rw [h1, Nat.or_comm, Nat.mul_comm y, ← Nat.two_pow_add_eq_or_of_lt hx, Nat.add_comm]
/-- What l7Parts answers. -/
def PtA (s : ByteArray) (w : World) (e : Ending) (w' : World) : Prop :=
  ∃ (B I F : ByteArray) (ok : Bool), e = .returned (.tuple #[.string B, .string I, .string F, .bool ok]) ∧ Below w.heap.size w w' ∧ B.size ≤ 1048576 ∧ I.size ≤ 1000 ∧ ∀ m, okT m = true → tbL m = bl s → ok = true ∧ bl B = bsL m (nb m) ∧ bl I = ixL m (nb m)
theorem PtA.no {s : ByteArray} {w w' : World} (h : ∀ m, okT m = true → tbL m = bl s → False) (hb : Below w.heap.size w w') : PtA s w (.returned (.tuple #[.string ⟨#[]⟩, .string ⟨#[]⟩, .string ⟨#[]⟩, .bool false])) w' :=
  ⟨_, _, _, false, rfl, hb, by decide, by decide, fun m hm hs => (h m hm hs).elim⟩
theorem tfN_le (s : ByteArray) : tfN s ≤ s.size := by
  unfold tfN
  split
  · rename_i h
    have hf : tfFits s := by
      unfold tfOk at h
      simp only [Bool.and_eq_true, decide_eq_true_eq] at h
      exact h.1
    exact hf.2.2
  · exact Nat.zero_le _
/-- The parts of what is a table. -/
theorem parts_of {s : ByteArray} {m : List It} (hm : okT m = true) (hs : tbL m = bl s) {e : Nat} (he : s.size = e + 8) :
    tx (wordL (csum (bl (s.extract e (e + 4))))) = s.extract (e + 4) s.size ∧ lo4 (bl s) e = (bsL m (nb m)).length ∧ lo4 (bl s) e ≤ e ∧
    (tfOk (s.extract (lo4 (bl s) e) e) = true ∧ bl (tfT (s.extract (lo4 (bl s) e) e)) = ixL m (nb m)) ∧
    (tfOk (s.extract (lo4 (bl s) e + tfN (s.extract (lo4 (bl s) e) e)) e) = true ∧ lo4 (bl s) e + tfN (s.extract (lo4 (bl s) e) e) + tfN (s.extract (lo4 (bl s) e + tfN (s.extract (lo4 (bl s) e) e)) e) = e) ∧
    bl (s.extract 0 (lo4 (bl s) e)) = bsL m (nb m) := by
  obtain ⟨B, I, F, rfl, rfl, rfl, hI, hF, hB, E⟩ := tb_parts hm
  rw [E] at hs
  generalize hb : bsL m (nb m) = B at *
  generalize ixL m (nb m) = I at *
  generalize bl (fbT m) = F at *
  have hsz : e = B.length + ((frameL I).length + (frameL F).length) := by
    have : s.size = B.length + ((frameL I).length + ((frameL F).length + 8)) := by
      rw [← bl_len, ← hs]
      simp only [List.length_append, endL_len]
    omega
  have hs2 : bl s = (B ++ (frameL I ++ frameL F)) ++ endL B.length := by rw [← hs]; simp
  have hs3 : bl s = (B ++ (frameL I ++ frameL F)) ++ (wordL B.length ++ wordL (csum (wordL B.length))) := hs2
  have hel : e = (B ++ (frameL I ++ frameL F)).length := by rw [hsz]; simp only [List.length_append]
  have hN : lo4 (bl s) e = B.length := by rw [hs3, hel]; exact lo4_word _ _ _ (by omega)
  have hw4 : (wordL B.length).length = 4 := rfl
  have h1 : bl (s.extract e (e + 4)) = wordL B.length := by
    rw [bl_ext, hs3, hel, List.drop_left, show (B ++ (frameL I ++ frameL F)).length + 4 - (B ++ (frameL I ++ frameL F)).length = (wordL B.length).length from by rw [hw4]; omega, List.take_left]
  have h2 : bl (s.extract (e + 4) s.size) = wordL (csum (wordL B.length)) := by
    rw [bl_from, hs3, hel, ← List.drop_drop, List.drop_left, show 4 = (wordL B.length).length from rfl, List.drop_left]
  have h3 : (s.extract B.length e).data.toList = frameL I ++ frameL F := by
    show bl (s.extract B.length e) = _
    rw [bl_ext, ← hs, List.drop_left, hsz, show B.length + ((frameL I).length + (frameL F).length) - B.length = (frameL I ++ frameL F).length from by rw [List.length_append]; omega]
    rw [show frameL I ++ (frameL F ++ endL B.length) = (frameL I ++ frameL F) ++ endL B.length from by simp, List.take_left]
  obtain ⟨t1, t2, t3⟩ := tf_front _ _ _ (by omega) h3
  have h4 : (s.extract (B.length + (frameL I).length) e).data.toList = frameL F ++ [] := by
    show bl (s.extract (B.length + (frameL I).length) e) = _
    rw [bl_ext, ← hs, ← List.drop_drop, List.drop_left, List.drop_left, hsz, show B.length + ((frameL I).length + (frameL F).length) - (B.length + (frameL I).length) = (frameL F).length from by omega, List.take_left, List.append_nil]
  obtain ⟨u1, u2, u3⟩ := tf_front _ _ _ (by omega) h4
  rw [hN]
  refine ⟨?_, rfl, by omega, ⟨t1, by rw [t2]; rfl⟩, ?_, ?_⟩
  · apply bl_inj
    rw [bl_tx, h1, h2]
  · rw [t3]
    exact ⟨u1, by rw [u3]; omega⟩
  · rw [bl_to, ← hs, List.take_left]
end Go.Proofs.YtfdaffnkgpdhhaaGreat

namespace Go.Proofs.YtfdaffnkgpdhhaaGreat
open Go.RowKit
set_option linter.unusedVariables false
set_option maxRecDepth 100000

theorem lo4_parts (s : ByteArray) (e : Nat) (h : e + 3 < s.size) :
    bits BinOp.or IntKind.i64 (s[e].toNat : Int) ((s[e + 1].toNat : Int) * 256) = ((s[e].toNat + 256 * s[e + 1].toNat : Nat) : Int) ∧
    bits BinOp.or IntKind.i64 ((s[e].toNat + 256 * s[e + 1].toNat : Nat) : Int) ((s[e + 2].toNat : Int) * 65536) = ((s[e].toNat + 256 * s[e + 1].toNat + 65536 * s[e + 2].toNat : Nat) : Int) ∧
    bits BinOp.or IntKind.i64 ((s[e].toNat + 256 * s[e + 1].toNat + 65536 * s[e + 2].toNat : Nat) : Int) ((s[e + 3].toNat : Int) * 16777216) = ((lo4 (bl s) e : Nat) : Int) := by
  have g : ∀ i (h : i < s.size), (bl s).getD i 0 = s[i] := fun i h => by rw [List.getD_eq_getElem?_getD, bl_at s i h]; rfl
  have hlo : lo4 (bl s) e = s[e].toNat + 256 * s[e + 1].toNat + 65536 * s[e + 2].toNat + 16777216 * s[e + 3].toNat := by
    unfold lo4
    rw [g e (by omega), g (e + 1) (by omega), g (e + 2) (by omega), g (e + 3) (by omega)]
  have c0 := s[e].toNat_lt
  have c1 := s[e + 1].toNat_lt
  have c2 := s[e + 2].toNat_lt
  have c3 := s[e + 3].toNat_lt
  rw [hlo]
  generalize s[e].toNat = a at *
  generalize s[e + 1].toNat = b at *
  generalize s[e + 2].toNat = c at *
  generalize s[e + 3].toNat = d at *
  refine ⟨?_, ?_, ?_⟩
  · have := or_join 8 a b (by omega) (by omega) (by omega)
    rw [show ((b : Int) * 256) = ((b * 2 ^ 8 : Nat) : Int) from by omega, this]; omega
  · have := or_join 16 (a + 256 * b) c (by omega) (by omega) (by omega)
    rw [show ((c : Int) * 65536) = ((c * 2 ^ 16 : Nat) : Int) from by omega, this]; omega
  · have := or_join 24 (a + 256 * b + 65536 * c) d (by omega) (by omega) (by omega)
    rw [show ((d : Int) * 16777216) = ((d * 2 ^ 24 : Nat) : Int) from by omega, this]; omega

set_option maxHeartbeats 8000000 in
theorem l7Parts_any (s : ByteArray) (w : World) (hs : s.size ≤ 1048576) : Calls Tryz.prog 51 #[.string s] w (PtA s w) := by
  have hne : Nonempty (WC w.heap.size w) := ⟨⟨_, Below.refl _ _⟩⟩
  by_cases h8 : 8 ≤ s.size
  · obtain ⟨e, he⟩ : ∃ e, s.size = e + 8 := ⟨s.size - 8, by omega⟩
    have HP : Hid (∀ m, okT m = true → tbL m = bl s → _) := fun m hm hq => parts_of hm hq he
    obtain ⟨f1, hf1⟩ : ∃ f, f = e + 1 := ⟨_, rfl⟩
    obtain ⟨f2, hf2⟩ : ∃ f, f = e + 2 := ⟨_, rfl⟩
    obtain ⟨f3, hf3⟩ : ∃ f, f = e + 3 := ⟨_, rfl⟩
    obtain ⟨d, hd⟩ : ∃ f, f = e + 4 := ⟨_, rfl⟩
    have j0 : e < s.size := by omega
    have j1 : f1 < s.size := by omega
    have j2 : f2 < s.size := by omega
    have j3 : f3 < s.size := by omega
    have j4 : d ≤ s.size := by omega
    have hbits : bits BinOp.or IntKind.i64 (s[e].toNat : Int) ((s[f1].toNat : Int) * 256) = ((s[e].toNat + 256 * s[f1].toNat : Nat) : Int) ∧
        bits BinOp.or IntKind.i64 ((s[e].toNat + 256 * s[f1].toNat : Nat) : Int) ((s[f2].toNat : Int) * 65536) = ((s[e].toNat + 256 * s[f1].toNat + 65536 * s[f2].toNat : Nat) : Int) ∧
        bits BinOp.or IntKind.i64 ((s[e].toNat + 256 * s[f1].toNat + 65536 * s[f2].toNat : Nat) : Int) ((s[f3].toNat : Int) * 16777216) = ((lo4 (bl s) e : Nat) : Int) := by
      subst hf1 hf2 hf3
      exact lo4_parts s e (by omega)
    have hN := lo4_lt (bl s) e
    rw [← hd] at HP
    have E1 : (s.size : Int) - 8 = (e : Int) := by omega
    have E2 : (e : Int) + 4 = (d : Int) := by omega
    have E3 : (e : Int) + 1 = (f1 : Int) := by omega
    have E4 : (e : Int) + 2 = (f2 : Int) := by omega
    have E5 : (e : Int) + 3 = (f3 : Int) := by omega
    have hn0 : decide ((e : Int) < 0) = false := decide_eq_false (by omega)
    have heB : e + 8 ≤ s.size := by omega
    have hed : e ≤ d := by omega
    have hde : d ≤ e + 4 := by omega
    have hSz : (s.extract e d).size ≤ 1048576 := by rw [ByteArray.size_extract]; omega
    have KS := fun w => l2Sum_any (s.extract e d) w hSz
    have KW := fun w => l2Word_any (csum (bl (s.extract e d))) w (csum_lt _)
    rw [show csum (s.extract e d).data.toList = csum (bl (s.extract e d)) from rfl] at KS
    rw [show (⟨(wordL (csum (bl (s.extract e d)))).toArray⟩ : ByteArray) = tx (wordL (csum (bl (s.extract e d)))) from rfl] at KW
    clear hf1 hf2 hf3 hd he h8
    generalize tx (wordL (csum (bl (s.extract e d)))) = T at *
    generalize csum (bl (s.extract e d)) = cs at *
    by_cases hT : T = s.extract d s.size
    · have c0 := s[e].toNat_lt
      have c1 := s[f1].toNat_lt
      have c2 := s[f2].toNat_lt
      have c3 := s[f3].toNat_lt
      have hT2 := tl_eq hT
      obtain ⟨V4, V5, V6⟩ := hbits
      have HB : Hid (bl (s.extract 0 (lo4 (bl s) e)) = bl (s.extract 0 (lo4 (bl s) e))) := rfl
      clear HB
      generalize lo4 (bl s) e = N at *
      have W0 : IntKind.i64.wrap (s[e].toNat : Int) = (s[e].toNat : Int) := by rw [IntKind.wrap_i64]; omega
      have W1 : IntKind.i64.wrap (s[f1].toNat : Int) = (s[f1].toNat : Int) := by rw [IntKind.wrap_i64]; omega
      have W2 : IntKind.i64.wrap (s[f2].toNat : Int) = (s[f2].toNat : Int) := by rw [IntKind.wrap_i64]; omega
      have W3 : IntKind.i64.wrap (s[f3].toNat : Int) = (s[f3].toNat : Int) := by rw [IntKind.wrap_i64]; omega
      have W4 : IntKind.i64.wrap ((s[f1].toNat : Int) * 256) = (s[f1].toNat : Int) * 256 := by rw [IntKind.wrap_i64]; omega
      have W5 : IntKind.i64.wrap ((s[f2].toNat : Int) * 65536) = (s[f2].toNat : Int) * 65536 := by rw [IntKind.wrap_i64]; omega
      have W6 : IntKind.i64.wrap ((s[f3].toNat : Int) * 16777216) = (s[f3].toNat : Int) * 16777216 := by rw [IntKind.wrap_i64]; omega
      have X1 : IntKind.i64.wrap (f1 : Int) = (f1 : Int) := by rw [IntKind.wrap_i64]; omega
      have X2 : IntKind.i64.wrap (f2 : Int) = (f2 : Int) := by rw [IntKind.wrap_i64]; omega
      have X3 : IntKind.i64.wrap (f3 : Int) = (f3 : Int) := by rw [IntKind.wrap_i64]; omega
      generalize (s[e].toNat + 256 * s[f1].toNat + 65536 * s[f2].toNat) = y2 at *
      generalize (s[e].toNat + 256 * s[f1].toNat) = y1 at *
      go_enter Tryz.func51, Tryz.ntmps51
      go_wp2_with fail
      refine wp_region_calm (B := w.heap.size) (W := w) (by kernel_rfl) (by kernel_rfl) (Below.refl _ _) ?_
      repeat (go_big_quiet_step (first | (go_at_call 78; with_reducible exact calm_of_below (Nat.le_refl _) (KS _)) | (go_at_call 77; with_reducible exact calm_of_below (Nat.le_refl _) (KW _))))
      refine wpQuiet_nil ?_
      intro _ hw'
      obtain ⟨x, hx⟩ := hw'
      subst hx
      have hB1 := x.ok
      clear KS KW hne
      generalize x.w = w1 at *
      clear x
      go_wp2_with fail
      go_quiet (fail)
      have hB2 := below_drewN hB1 nq
      generalize w1.drewN nq = w2 at *
      clear hB1 V4 V5 V6 W0 W1 W2 W3 W4 W5 W6 X1 X2 X3 c0 c1 c2 c3 hT hT2
      have hNs : N ≤ 4294967296 := by omega
      by_cases hle : N ≤ e
      · have g1 : decide ((e : Int) < (N : Int)) = false := decide_eq_false (by omega)
        have hx1 : (s.extract N e).size = e - N := by rw [ByteArray.size_extract]; omega
        have KF := fun w => l2TakeFrame_any (s.extract N e) w (by omega)
        have hT1 := tfT_size (s.extract N e)
        have hN1 := tfN_le (s.extract N e)
        have sl1 : ∀ w, (Instr.slice 9 (.string s) (some (.int .i64 (N : Int))) (some (.int .i64 (e : Int))) none).run Tryz.prog w = .ok (.string (s.extract N e)) w := fun w => by
          rw [run_slice_string w 9 s .i64 .i64 _ _ Tryz.underlying9 (by omega) (by omega) (by omega)]
          rfl
        have hBz : (s.extract 0 N).size ≤ 1048576 := by rw [ByteArray.size_extract]; omega
        cases h1 : tfOk (s.extract N e) with
        | false =>
          have HF : Hid (∀ m, okT m = true → tbL m = bl s → False) := fun m hm hq => by
            have := (HP.out m hm hq).2.2.2.1.1
            rw [h1] at this; cases this
          rw [h1] at KF
          clear HP hx1 hT1 hBz h1
          generalize tfN (s.extract N e) = a at *
          generalize tfT (s.extract N e) = I at *
          go_wp2_with fail
          refine (KF _).mono ?_
          rintro e3 w3 ⟨rfl, hb3⟩
          have hB3 := below_then hB2 hb3
          clear KF
          go_wp2
          refine bodyPost_ret (v := .tuple #[.string ⟨#[]⟩, .string ⟨#[]⟩, .string ⟨#[]⟩, .bool false]) ?_ rfl (PtA.no HF.out hB3)
          simp [results, Tryz.results51, go_sem]
        | true =>
          rw [h1] at KF
          rw [hx1] at hN1
          have KG := fun w => l2TakeFrame_any (s.extract (N + tfN (s.extract N e)) e) w (by rw [ByteArray.size_extract]; omega)
          have hN2 := tfN_le (s.extract (N + tfN (s.extract N e)) e)
          rw [ByteArray.size_extract] at hN2
          have HI : Hid (∀ m, okT m = true → tbL m = bl s → bl (tfT (s.extract N e)) = ixL m (nb m) ∧ bl (s.extract 0 N) = bsL m (nb m)) := fun m hm hq => ⟨(HP.out m hm hq).2.2.2.1.2, (HP.out m hm hq).2.2.2.2.2⟩
          have HQ : Hid (∀ m, okT m = true → tbL m = bl s → tfOk (s.extract (N + tfN (s.extract N e)) e) = true ∧ N + tfN (s.extract N e) + tfN (s.extract (N + tfN (s.extract N e)) e) = e) := fun m hm hq => (HP.out m hm hq).2.2.2.2.1
          clear HP h1
          generalize hae : tfN (s.extract N e) = a at *
          clear hae
          generalize tfT (s.extract N e) = I at *
          have sl2 : ∀ w, (Instr.slice 9 (.string s) (some (.int .i64 ((N : Int) + (a : Int)))) (some (.int .i64 (e : Int))) none).run Tryz.prog w = .ok (.string (s.extract (N + a) e)) w := fun w => by
            rw [run_slice_string w 9 s .i64 .i64 _ _ Tryz.underlying9 (by omega) (by omega) (by omega)]
            rfl
          cases h2 : tfOk (s.extract (N + a) e) with
          | false =>
            have HF : Hid (∀ m, okT m = true → tbL m = bl s → False) := fun m hm hq => by
              have := (HQ.out m hm hq).1
              rw [h2] at this; cases this
            rw [h2] at KG
            clear HI HQ h2 hT1 hBz
            generalize tfN (s.extract (N + a) e) = c at *
            generalize tfT (s.extract (N + a) e) = F at *
            go_wp2_with fail
            refine (KF _).mono ?_
            rintro e3 w3 ⟨rfl, hb3⟩
            have hB3 := below_then hB2 hb3
            clear KF hB2 hb3
            go_wp2_with fail
            refine (KG _).mono ?_
            rintro e4 w4 ⟨rfl, hb4⟩
            have hB4 := below_then hB3 hb4
            clear KG hB3 hb4
            go_wp2
            refine bodyPost_ret (v := .tuple #[.string ⟨#[]⟩, .string ⟨#[]⟩, .string ⟨#[]⟩, .bool false]) ?_ rfl (PtA.no HF.out hB4)
            simp [results, Tryz.results51, go_sem]
          | true =>
            rw [h2] at KG
            by_cases h3 : N + a + tfN (s.extract (N + a) e) = e
            · have g3 : (((N : Int) + (a : Int) + ((tfN (s.extract (N + a) e) : Nat) : Int)) == (e : Int)) = true := by rw [beq_iff_eq]; omega
              have g4 : (N : Int) + (a : Int) + ((tfN (s.extract (N + a) e) : Nat) : Int) = (e : Int) := by omega
              have HA : Hid (∀ F w', Below w.heap.size w w' → PtA s w (.returned (.tuple #[.string (s.extract 0 N), .string I, .string F, .bool true])) w') := fun F w' hb => ⟨_, _, _, true, rfl, hb, hBz, hT1, fun m hm hq => ⟨rfl, (HI.out m hm hq).2, (HI.out m hm hq).1⟩⟩
              clear HI HQ h2 hT1 hBz h3
              generalize tfN (s.extract (N + a) e) = c at *
              generalize tfT (s.extract (N + a) e) = F at *
              go_wp2_with fail
              refine (KF _).mono ?_
              rintro e3 w3 ⟨rfl, hb3⟩
              have hB3 := below_then hB2 hb3
              clear KF hB2 hb3
              go_wp2_with fail
              refine (KG _).mono ?_
              rintro e4 w4 ⟨rfl, hb4⟩
              have hB4 := below_then hB3 hb4
              clear KG hB3 hb4
              go_wp2
              refine bodyPost_ret (v := .tuple #[.string (s.extract 0 N), .string I, .string F, .bool true]) ?_ rfl (HA.out F _ hB4)
              simp [results, Tryz.results51, go_sem]
            · have g3 : (((N : Int) + (a : Int) + ((tfN (s.extract (N + a) e) : Nat) : Int)) == (e : Int)) = false := by rw [beq_eq_false_iff_ne]; omega
              have HF : Hid (∀ m, okT m = true → tbL m = bl s → False) := fun m hm hq => h3 (HQ.out m hm hq).2
              clear HI HQ h2 hT1 hBz h3
              generalize tfN (s.extract (N + a) e) = c at *
              generalize tfT (s.extract (N + a) e) = F at *
              go_wp2_with fail
              refine (KF _).mono ?_
              rintro e3 w3 ⟨rfl, hb3⟩
              have hB3 := below_then hB2 hb3
              clear KF hB2 hb3
              go_wp2_with fail
              refine (KG _).mono ?_
              rintro e4 w4 ⟨rfl, hb4⟩
              have hB4 := below_then hB3 hb4
              clear KG hB3 hb4
              go_wp2
              refine bodyPost_ret (v := .tuple #[.string ⟨#[]⟩, .string ⟨#[]⟩, .string ⟨#[]⟩, .bool false]) ?_ rfl (PtA.no HF.out hB4)
              simp [results, Tryz.results51, go_sem]
      · have g1 : decide ((e : Int) < (N : Int)) = true := decide_eq_true (by omega)
        have HF : Hid (∀ m, okT m = true → tbL m = bl s → False) := fun m hm hq => hle (HP.out m hm hq).2.2.1
        clear HP
        go_wp2
        refine bodyPost_ret (v := .tuple #[.string ⟨#[]⟩, .string ⟨#[]⟩, .string ⟨#[]⟩, .bool false]) ?_ rfl (PtA.no HF.out hB2)
        simp [results, Tryz.results51, go_sem]
    · have hT2 := tl_ne hT
      have HF : Hid (∀ m, okT m = true → tbL m = bl s → False) := fun m hm hq => hT (HP.out m hm hq).1
      clear hT HP hbits
      go_enter Tryz.func51, Tryz.ntmps51
      go_wp2_with fail
      refine wp_region_calm (B := w.heap.size) (W := w) (by kernel_rfl) (by kernel_rfl) (Below.refl _ _) ?_
      repeat (go_big_quiet_step (first | (go_at_call 78; with_reducible exact calm_of_below (Nat.le_refl _) (KS _)) | (go_at_call 77; with_reducible exact calm_of_below (Nat.le_refl _) (KW _))))
      refine wpQuiet_nil ?_
      intro _ hw'
      obtain ⟨x, hx⟩ := hw'
      subst hx
      have hB1 := x.ok
      clear KS KW hne
      generalize x.w = w1 at *
      clear x
      go_wp2
      refine bodyPost_ret (v := .tuple #[.string ⟨#[]⟩, .string ⟨#[]⟩, .string ⟨#[]⟩, .bool false]) ?_ rfl (PtA.no HF.out hB1)
      simp [results, Tryz.results51, go_sem]
  · have E2 : decide ((s.size : Int) - 8 < 0) = true := decide_eq_true (by omega)
    have HF : Hid (∀ m, okT m = true → tbL m = bl s → False) := fun m hm hq => by
      have h1 := notold s (by omega) m hm hq
      rw [← h1] at hm
      exact absurd hm (by decide)
    go_enter Tryz.func51, Tryz.ntmps51
    go_wp2_with fail
    refine wp_region_calm (B := w.heap.size) (W := w) (by kernel_rfl) (by kernel_rfl) (Below.refl _ _) ?_
    repeat (go_big_quiet_step (fail))
    refine wpQuiet_nil ?_
    intro _ hw'
    obtain ⟨x, hx⟩ := hw'
    subst hx
    have hB1 := x.ok
    clear hne
    generalize x.w = w1 at *
    clear x
    go_wp2
    refine bodyPost_ret (v := .tuple #[.string ⟨#[]⟩, .string ⟨#[]⟩, .string ⟨#[]⟩, .bool false]) ?_ rfl (PtA.no HF.out hB1)
    simp [results, Tryz.results51, go_sem]
end Go.Proofs.YtfdaffnkgpdhhaaGreat

