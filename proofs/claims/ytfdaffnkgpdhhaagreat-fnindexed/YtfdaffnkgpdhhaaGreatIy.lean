/-
  The parts of a table's bytes: spec.l7Parts.
  The parts of a table's bytes: spec.l7Parts, walked.
  An index that is read: spec.l7Index.
  An index that is read: spec.l7Index, walked.
  What is read of a table: spec.l7Read.
  What is read of a table: spec.ReadTable, spec.IndexOf.
-/
import Derived.Test.YtfdaffnkgpdhhaaGreatXw
import Derived.Test.YtfdaffnkgpdhhaaGreatLz
import Derived.BigQuiet
import Derived.Deep.QuietTactic
namespace Go.Proofs.YtfdaffnkgpdhhaaGreat
open Go.RowKit
set_option linter.unusedVariables false
set_option maxRecDepth 100000

/-- The number in four bytes at i. -/
def lo4 (s : List UInt8) (i : Nat) : Nat := (s.getD i 0).toNat + 256 * (s.getD (i + 1) 0).toNat + 65536 * (s.getD (i + 2) 0).toNat + 16777216 * (s.getD (i + 3) 0).toNat
theorem lo4_lt (s : List UInt8) (i : Nat) : lo4 s i < 4294967296 := by
  have h0 := (s.getD i 0).toNat_lt
  have h1 := (s.getD (i + 1) 0).toNat_lt
  have h2 := (s.getD (i + 2) 0).toNat_lt
  have h3 := (s.getD (i + 3) 0).toNat_lt
  unfold lo4; omega
theorem lo4_word (p q : List UInt8) (n : Nat) (hn : n < 4294967296) : lo4 (p ++ (wordL n ++ q)) p.length = n := by
  have g : ∀ j, j < 4 → (p ++ (wordL n ++ q)).getD (p.length + j) 0 = (wordL n).getD j 0 := by
    intro j hj
    rw [List.getD_eq_getElem?_getD, List.getElem?_append_right (by omega), show p.length + j - p.length = j from by omega, List.getElem?_append_left (by show j < 4; omega), List.getD_eq_getElem?_getD]
  unfold lo4
  have g0 := g 0 (by omega)
  rw [Nat.add_zero] at g0
  rw [g0, g 1 (by omega), g 2 (by omega), g 3 (by omega)]
  simp only [wordL, List.getD_cons_zero, List.getD_cons_succ, UInt8.toNat_ofNat']
  omega
theorem or_join (k x y : Nat) (hx : x < 2 ^ k) (hb : x < 4611686018427387904) (hy : y * 2 ^ k < 4611686018427387904) : bits BinOp.or IntKind.i64 (x : Int) (((y * 2 ^ k : Nat)) : Int) = ((x + y * 2 ^ k : Nat) : Int) := by
  have h1 := (bits_nat .i64 62 (by decide) (fun n h1 h2 => by rw [IntKind.wrap_i64]; omega) x (y * 2 ^ k) (by simpa using hb) (by simpa using hy)).2
  rw [h1, Nat.or_comm, Nat.mul_comm y, ← Nat.two_pow_add_eq_or_of_lt hx, Nat.add_comm]
/-- What l7Parts answers. -/
def PtA (s : ByteArray) (w : World) (e : Ending) (w' : World) : Prop :=
  ∃ (B I F : ByteArray) (ok : Bool), e = .returned (.tuple #[.string B, .string I, .string F, .bool ok]) ∧ Below w.heap.size w w' ∧ B.size ≤ 1048576 ∧ I.size ≤ 1000 ∧ ∀ m, okT m = true → tbL m = bl s → ok = true ∧ bl B = bsL m (nb m) ∧ bl I = ixL m (nb m)
theorem PtA.no {s : ByteArray} {w w' : World} (h : ∀ m, okT m = true → tbL m = bl s → False) (hb : Below w.heap.size w w') : PtA s w (.returned (.tuple #[.string ⟨#[]⟩, .string ⟨#[]⟩, .string ⟨#[]⟩, .bool false])) w' :=
  ⟨_, _, _, false, rfl, hb, by decide, by decide, fun m hm hs => (h m hm hs).elim⟩
theorem tfN_le (s : ByteArray) : tfN s ≤ s.size := by
  unfold tfN
  split
  · rename_i h
    have hf : tfFits s := by
      unfold tfOk at h
      simp only [Bool.and_eq_true, decide_eq_true_eq] at h
      exact h.1
    exact hf.2.2
  · exact Nat.zero_le _
/-- The parts of what is a table. -/
theorem parts_of {s : ByteArray} {m : List It} (hm : okT m = true) (hs : tbL m = bl s) {e : Nat} (he : s.size = e + 8) :
    tx (wordL (csum (bl (s.extract e (e + 4))))) = s.extract (e + 4) s.size ∧ lo4 (bl s) e = (bsL m (nb m)).length ∧ lo4 (bl s) e ≤ e ∧
    (tfOk (s.extract (lo4 (bl s) e) e) = true ∧ bl (tfT (s.extract (lo4 (bl s) e) e)) = ixL m (nb m)) ∧
    (tfOk (s.extract (lo4 (bl s) e + tfN (s.extract (lo4 (bl s) e) e)) e) = true ∧ lo4 (bl s) e + tfN (s.extract (lo4 (bl s) e) e) + tfN (s.extract (lo4 (bl s) e + tfN (s.extract (lo4 (bl s) e) e)) e) = e) ∧
    bl (s.extract 0 (lo4 (bl s) e)) = bsL m (nb m) := by
  obtain ⟨B, I, F, rfl, rfl, rfl, hI, hF, hB, E⟩ := tb_parts hm
  rw [E] at hs
  generalize hb : bsL m (nb m) = B at *
  generalize ixL m (nb m) = I at *
  generalize bl (fbT m) = F at *
  have hsz : e = B.length + ((frameL I).length + (frameL F).length) := by
    have : s.size = B.length + ((frameL I).length + ((frameL F).length + 8)) := by
      rw [← bl_len, ← hs]
      simp only [List.length_append, endL_len]
    omega
  have hs2 : bl s = (B ++ (frameL I ++ frameL F)) ++ endL B.length := by rw [← hs]; simp
  have hs3 : bl s = (B ++ (frameL I ++ frameL F)) ++ (wordL B.length ++ wordL (csum (wordL B.length))) := hs2
  have hel : e = (B ++ (frameL I ++ frameL F)).length := by rw [hsz]; simp only [List.length_append]
  have hN : lo4 (bl s) e = B.length := by rw [hs3, hel]; exact lo4_word _ _ _ (by omega)
  have hw4 : (wordL B.length).length = 4 := rfl
  have h1 : bl (s.extract e (e + 4)) = wordL B.length := by
    rw [bl_ext, hs3, hel, List.drop_left, show (B ++ (frameL I ++ frameL F)).length + 4 - (B ++ (frameL I ++ frameL F)).length = (wordL B.length).length from by rw [hw4]; omega, List.take_left]
  have h2 : bl (s.extract (e + 4) s.size) = wordL (csum (wordL B.length)) := by
    rw [bl_from, hs3, hel, ← List.drop_drop, List.drop_left, show 4 = (wordL B.length).length from rfl, List.drop_left]
  have h3 : (s.extract B.length e).data.toList = frameL I ++ frameL F := by
    show bl (s.extract B.length e) = _
    rw [bl_ext, ← hs, List.drop_left, hsz, show B.length + ((frameL I).length + (frameL F).length) - B.length = (frameL I ++ frameL F).length from by rw [List.length_append]; omega]
    rw [show frameL I ++ (frameL F ++ endL B.length) = (frameL I ++ frameL F) ++ endL B.length from by simp, List.take_left]
  obtain ⟨t1, t2, t3⟩ := tf_front _ _ _ (by omega) h3
  have h4 : (s.extract (B.length + (frameL I).length) e).data.toList = frameL F ++ [] := by
    show bl (s.extract (B.length + (frameL I).length) e) = _
    rw [bl_ext, ← hs, ← List.drop_drop, List.drop_left, List.drop_left, hsz, show B.length + ((frameL I).length + (frameL F).length) - (B.length + (frameL I).length) = (frameL F).length from by omega, List.take_left, List.append_nil]
  obtain ⟨u1, u2, u3⟩ := tf_front _ _ _ (by omega) h4
  rw [hN]
  refine ⟨?_, rfl, by omega, ⟨t1, by rw [t2]; rfl⟩, ?_, ?_⟩
  · apply bl_inj
    rw [bl_tx, h1, h2]
  · rw [t3]
    exact ⟨u1, by rw [u3]; omega⟩
  · rw [bl_to, ← hs, List.take_left]
end Go.Proofs.YtfdaffnkgpdhhaaGreat

namespace Go.Proofs.YtfdaffnkgpdhhaaGreat
open Go.RowKit
set_option linter.unusedVariables false
set_option maxRecDepth 100000

theorem lo4_parts (s : ByteArray) (e : Nat) (h : e + 3 < s.size) :
    bits BinOp.or IntKind.i64 (s[e].toNat : Int) ((s[e + 1].toNat : Int) * 256) = ((s[e].toNat + 256 * s[e + 1].toNat : Nat) : Int) ∧
    bits BinOp.or IntKind.i64 ((s[e].toNat + 256 * s[e + 1].toNat : Nat) : Int) ((s[e + 2].toNat : Int) * 65536) = ((s[e].toNat + 256 * s[e + 1].toNat + 65536 * s[e + 2].toNat : Nat) : Int) ∧
    bits BinOp.or IntKind.i64 ((s[e].toNat + 256 * s[e + 1].toNat + 65536 * s[e + 2].toNat : Nat) : Int) ((s[e + 3].toNat : Int) * 16777216) = ((lo4 (bl s) e : Nat) : Int) := by
  have g : ∀ i (h : i < s.size), (bl s).getD i 0 = s[i] := fun i h => by rw [List.getD_eq_getElem?_getD, bl_at s i h]; rfl
  have hlo : lo4 (bl s) e = s[e].toNat + 256 * s[e + 1].toNat + 65536 * s[e + 2].toNat + 16777216 * s[e + 3].toNat := by
    unfold lo4
    rw [g e (by omega), g (e + 1) (by omega), g (e + 2) (by omega), g (e + 3) (by omega)]
  have c0 := s[e].toNat_lt
  have c1 := s[e + 1].toNat_lt
  have c2 := s[e + 2].toNat_lt
  have c3 := s[e + 3].toNat_lt
  rw [hlo]
  generalize s[e].toNat = a at *
  generalize s[e + 1].toNat = b at *
  generalize s[e + 2].toNat = c at *
  generalize s[e + 3].toNat = d at *
  refine ⟨?_, ?_, ?_⟩
  · have := or_join 8 a b (by omega) (by omega) (by omega)
    rw [show ((b : Int) * 256) = ((b * 2 ^ 8 : Nat) : Int) from by omega, this]; omega
  · have := or_join 16 (a + 256 * b) c (by omega) (by omega) (by omega)
    rw [show ((c : Int) * 65536) = ((c * 2 ^ 16 : Nat) : Int) from by omega, this]; omega
  · have := or_join 24 (a + 256 * b + 65536 * c) d (by omega) (by omega) (by omega)
    rw [show ((d : Int) * 16777216) = ((d * 2 ^ 24 : Nat) : Int) from by omega, this]; omega

set_option maxHeartbeats 8000000 in
theorem l7Parts_any (s : ByteArray) (w : World) (hs : s.size ≤ 1048576) : Calls Tryz.prog 51 #[.string s] w (PtA s w) := by
  have hne : Nonempty (WC w.heap.size w) := ⟨⟨_, Below.refl _ _⟩⟩
  by_cases h8 : 8 ≤ s.size
  · obtain ⟨e, he⟩ : ∃ e, s.size = e + 8 := ⟨s.size - 8, by omega⟩
    have HP : Hid (∀ m, okT m = true → tbL m = bl s → _) := fun m hm hq => parts_of hm hq he
    obtain ⟨f1, hf1⟩ : ∃ f, f = e + 1 := ⟨_, rfl⟩
    obtain ⟨f2, hf2⟩ : ∃ f, f = e + 2 := ⟨_, rfl⟩
    obtain ⟨f3, hf3⟩ : ∃ f, f = e + 3 := ⟨_, rfl⟩
    obtain ⟨d, hd⟩ : ∃ f, f = e + 4 := ⟨_, rfl⟩
    have j0 : e < s.size := by omega
    have j1 : f1 < s.size := by omega
    have j2 : f2 < s.size := by omega
    have j3 : f3 < s.size := by omega
    have j4 : d ≤ s.size := by omega
    have hbits : bits BinOp.or IntKind.i64 (s[e].toNat : Int) ((s[f1].toNat : Int) * 256) = ((s[e].toNat + 256 * s[f1].toNat : Nat) : Int) ∧
        bits BinOp.or IntKind.i64 ((s[e].toNat + 256 * s[f1].toNat : Nat) : Int) ((s[f2].toNat : Int) * 65536) = ((s[e].toNat + 256 * s[f1].toNat + 65536 * s[f2].toNat : Nat) : Int) ∧
        bits BinOp.or IntKind.i64 ((s[e].toNat + 256 * s[f1].toNat + 65536 * s[f2].toNat : Nat) : Int) ((s[f3].toNat : Int) * 16777216) = ((lo4 (bl s) e : Nat) : Int) := by
      subst hf1 hf2 hf3
      exact lo4_parts s e (by omega)
    have hN := lo4_lt (bl s) e
    rw [← hd] at HP
    have E1 : (s.size : Int) - 8 = (e : Int) := by omega
    have E2 : (e : Int) + 4 = (d : Int) := by omega
    have E3 : (e : Int) + 1 = (f1 : Int) := by omega
    have E4 : (e : Int) + 2 = (f2 : Int) := by omega
    have E5 : (e : Int) + 3 = (f3 : Int) := by omega
    have hn0 : decide ((e : Int) < 0) = false := decide_eq_false (by omega)
    have heB : e + 8 ≤ s.size := by omega
    have hed : e ≤ d := by omega
    have hde : d ≤ e + 4 := by omega
    have hSz : (s.extract e d).size ≤ 1048576 := by rw [ByteArray.size_extract]; omega
    have KS := fun w => l2Sum_any (s.extract e d) w hSz
    have KW := fun w => l2Word_any (csum (bl (s.extract e d))) w (csum_lt _)
    rw [show csum (s.extract e d).data.toList = csum (bl (s.extract e d)) from rfl] at KS
    rw [show (⟨(wordL (csum (bl (s.extract e d)))).toArray⟩ : ByteArray) = tx (wordL (csum (bl (s.extract e d)))) from rfl] at KW
    clear hf1 hf2 hf3 hd he h8
    generalize tx (wordL (csum (bl (s.extract e d)))) = T at *
    generalize csum (bl (s.extract e d)) = cs at *
    by_cases hT : T = s.extract d s.size
    · have c0 := s[e].toNat_lt
      have c1 := s[f1].toNat_lt
      have c2 := s[f2].toNat_lt
      have c3 := s[f3].toNat_lt
      have hT2 := tl_eq hT
      obtain ⟨V4, V5, V6⟩ := hbits
      have HB : Hid (bl (s.extract 0 (lo4 (bl s) e)) = bl (s.extract 0 (lo4 (bl s) e))) := rfl
      clear HB
      generalize lo4 (bl s) e = N at *
      have W0 : IntKind.i64.wrap (s[e].toNat : Int) = (s[e].toNat : Int) := by rw [IntKind.wrap_i64]; omega
      have W1 : IntKind.i64.wrap (s[f1].toNat : Int) = (s[f1].toNat : Int) := by rw [IntKind.wrap_i64]; omega
      have W2 : IntKind.i64.wrap (s[f2].toNat : Int) = (s[f2].toNat : Int) := by rw [IntKind.wrap_i64]; omega
      have W3 : IntKind.i64.wrap (s[f3].toNat : Int) = (s[f3].toNat : Int) := by rw [IntKind.wrap_i64]; omega
      have W4 : IntKind.i64.wrap ((s[f1].toNat : Int) * 256) = (s[f1].toNat : Int) * 256 := by rw [IntKind.wrap_i64]; omega
      have W5 : IntKind.i64.wrap ((s[f2].toNat : Int) * 65536) = (s[f2].toNat : Int) * 65536 := by rw [IntKind.wrap_i64]; omega
      have W6 : IntKind.i64.wrap ((s[f3].toNat : Int) * 16777216) = (s[f3].toNat : Int) * 16777216 := by rw [IntKind.wrap_i64]; omega
      have X1 : IntKind.i64.wrap (f1 : Int) = (f1 : Int) := by rw [IntKind.wrap_i64]; omega
      have X2 : IntKind.i64.wrap (f2 : Int) = (f2 : Int) := by rw [IntKind.wrap_i64]; omega
      have X3 : IntKind.i64.wrap (f3 : Int) = (f3 : Int) := by rw [IntKind.wrap_i64]; omega
      generalize (s[e].toNat + 256 * s[f1].toNat + 65536 * s[f2].toNat) = y2 at *
      generalize (s[e].toNat + 256 * s[f1].toNat) = y1 at *
      go_enter Tryz.func51, Tryz.ntmps51
      go_wp2_with fail
      refine wp_region_calm (B := w.heap.size) (W := w) (by kernel_rfl) (by kernel_rfl) (Below.refl _ _) ?_
      repeat (go_big_quiet_step (first | (go_at_call 78; with_reducible exact calm_of_below (Nat.le_refl _) (KS _)) | (go_at_call 77; with_reducible exact calm_of_below (Nat.le_refl _) (KW _))))
      refine wpQuiet_nil ?_
      intro _ hw'
      obtain ⟨x, hx⟩ := hw'
      subst hx
      have hB1 := x.ok
      clear KS KW hne
      generalize x.w = w1 at *
      clear x
      go_wp2_with fail
      go_quiet (fail)
      have hB2 := below_drewN hB1 nq
      generalize w1.drewN nq = w2 at *
      clear hB1 V4 V5 V6 W0 W1 W2 W3 W4 W5 W6 X1 X2 X3 c0 c1 c2 c3 hT hT2
      have hNs : N ≤ 4294967296 := by omega
      by_cases hle : N ≤ e
      · have g1 : decide ((e : Int) < (N : Int)) = false := decide_eq_false (by omega)
        have hx1 : (s.extract N e).size = e - N := by rw [ByteArray.size_extract]; omega
        have KF := fun w => l2TakeFrame_any (s.extract N e) w (by omega)
        have hT1 := tfT_size (s.extract N e)
        have hN1 := tfN_le (s.extract N e)
        have sl1 : ∀ w, (Instr.slice 9 (.string s) (some (.int .i64 (N : Int))) (some (.int .i64 (e : Int))) none).run Tryz.prog w = .ok (.string (s.extract N e)) w := fun w => by
          rw [run_slice_string w 9 s .i64 .i64 _ _ Tryz.underlying9 (by omega) (by omega) (by omega)]
          rfl
        have hBz : (s.extract 0 N).size ≤ 1048576 := by rw [ByteArray.size_extract]; omega
        cases h1 : tfOk (s.extract N e) with
        | false =>
          have HF : Hid (∀ m, okT m = true → tbL m = bl s → False) := fun m hm hq => by
            have := (HP.out m hm hq).2.2.2.1.1
            rw [h1] at this; cases this
          rw [h1] at KF
          clear HP hx1 hT1 hBz h1
          generalize tfN (s.extract N e) = a at *
          generalize tfT (s.extract N e) = I at *
          go_wp2_with fail
          refine (KF _).mono ?_
          rintro e3 w3 ⟨rfl, hb3⟩
          have hB3 := below_then hB2 hb3
          clear KF
          go_wp2
          refine bodyPost_ret (v := .tuple #[.string ⟨#[]⟩, .string ⟨#[]⟩, .string ⟨#[]⟩, .bool false]) ?_ rfl (PtA.no HF.out hB3)
          simp [results, Tryz.results51, go_sem]
        | true =>
          rw [h1] at KF
          rw [hx1] at hN1
          have KG := fun w => l2TakeFrame_any (s.extract (N + tfN (s.extract N e)) e) w (by rw [ByteArray.size_extract]; omega)
          have hN2 := tfN_le (s.extract (N + tfN (s.extract N e)) e)
          rw [ByteArray.size_extract] at hN2
          have HI : Hid (∀ m, okT m = true → tbL m = bl s → bl (tfT (s.extract N e)) = ixL m (nb m) ∧ bl (s.extract 0 N) = bsL m (nb m)) := fun m hm hq => ⟨(HP.out m hm hq).2.2.2.1.2, (HP.out m hm hq).2.2.2.2.2⟩
          have HQ : Hid (∀ m, okT m = true → tbL m = bl s → tfOk (s.extract (N + tfN (s.extract N e)) e) = true ∧ N + tfN (s.extract N e) + tfN (s.extract (N + tfN (s.extract N e)) e) = e) := fun m hm hq => (HP.out m hm hq).2.2.2.2.1
          clear HP h1
          generalize hae : tfN (s.extract N e) = a at *
          clear hae
          generalize tfT (s.extract N e) = I at *
          have sl2 : ∀ w, (Instr.slice 9 (.string s) (some (.int .i64 ((N : Int) + (a : Int)))) (some (.int .i64 (e : Int))) none).run Tryz.prog w = .ok (.string (s.extract (N + a) e)) w := fun w => by
            rw [run_slice_string w 9 s .i64 .i64 _ _ Tryz.underlying9 (by omega) (by omega) (by omega)]
            rfl
          cases h2 : tfOk (s.extract (N + a) e) with
          | false =>
            have HF : Hid (∀ m, okT m = true → tbL m = bl s → False) := fun m hm hq => by
              have := (HQ.out m hm hq).1
              rw [h2] at this; cases this
            rw [h2] at KG
            clear HI HQ h2 hT1 hBz
            generalize tfN (s.extract (N + a) e) = c at *
            generalize tfT (s.extract (N + a) e) = F at *
            go_wp2_with fail
            refine (KF _).mono ?_
            rintro e3 w3 ⟨rfl, hb3⟩
            have hB3 := below_then hB2 hb3
            clear KF hB2 hb3
            go_wp2_with fail
            refine (KG _).mono ?_
            rintro e4 w4 ⟨rfl, hb4⟩
            have hB4 := below_then hB3 hb4
            clear KG hB3 hb4
            go_wp2
            refine bodyPost_ret (v := .tuple #[.string ⟨#[]⟩, .string ⟨#[]⟩, .string ⟨#[]⟩, .bool false]) ?_ rfl (PtA.no HF.out hB4)
            simp [results, Tryz.results51, go_sem]
          | true =>
            rw [h2] at KG
            by_cases h3 : N + a + tfN (s.extract (N + a) e) = e
            · have g3 : (((N : Int) + (a : Int) + ((tfN (s.extract (N + a) e) : Nat) : Int)) == (e : Int)) = true := by rw [beq_iff_eq]; omega
              have g4 : (N : Int) + (a : Int) + ((tfN (s.extract (N + a) e) : Nat) : Int) = (e : Int) := by omega
              have HA : Hid (∀ F w', Below w.heap.size w w' → PtA s w (.returned (.tuple #[.string (s.extract 0 N), .string I, .string F, .bool true])) w') := fun F w' hb => ⟨_, _, _, true, rfl, hb, hBz, hT1, fun m hm hq => ⟨rfl, (HI.out m hm hq).2, (HI.out m hm hq).1⟩⟩
              clear HI HQ h2 hT1 hBz h3
              generalize tfN (s.extract (N + a) e) = c at *
              generalize tfT (s.extract (N + a) e) = F at *
              go_wp2_with fail
              refine (KF _).mono ?_
              rintro e3 w3 ⟨rfl, hb3⟩
              have hB3 := below_then hB2 hb3
              clear KF hB2 hb3
              go_wp2_with fail
              refine (KG _).mono ?_
              rintro e4 w4 ⟨rfl, hb4⟩
              have hB4 := below_then hB3 hb4
              clear KG hB3 hb4
              go_wp2
              refine bodyPost_ret (v := .tuple #[.string (s.extract 0 N), .string I, .string F, .bool true]) ?_ rfl (HA.out F _ hB4)
              simp [results, Tryz.results51, go_sem]
            · have g3 : (((N : Int) + (a : Int) + ((tfN (s.extract (N + a) e) : Nat) : Int)) == (e : Int)) = false := by rw [beq_eq_false_iff_ne]; omega
              have HF : Hid (∀ m, okT m = true → tbL m = bl s → False) := fun m hm hq => h3 (HQ.out m hm hq).2
              clear HI HQ h2 hT1 hBz h3
              generalize tfN (s.extract (N + a) e) = c at *
              generalize tfT (s.extract (N + a) e) = F at *
              go_wp2_with fail
              refine (KF _).mono ?_
              rintro e3 w3 ⟨rfl, hb3⟩
              have hB3 := below_then hB2 hb3
              clear KF hB2 hb3
              go_wp2_with fail
              refine (KG _).mono ?_
              rintro e4 w4 ⟨rfl, hb4⟩
              have hB4 := below_then hB3 hb4
              clear KG hB3 hb4
              go_wp2
              refine bodyPost_ret (v := .tuple #[.string ⟨#[]⟩, .string ⟨#[]⟩, .string ⟨#[]⟩, .bool false]) ?_ rfl (PtA.no HF.out hB4)
              simp [results, Tryz.results51, go_sem]
      · have g1 : decide ((e : Int) < (N : Int)) = true := decide_eq_true (by omega)
        have HF : Hid (∀ m, okT m = true → tbL m = bl s → False) := fun m hm hq => hle (HP.out m hm hq).2.2.1
        clear HP
        go_wp2
        refine bodyPost_ret (v := .tuple #[.string ⟨#[]⟩, .string ⟨#[]⟩, .string ⟨#[]⟩, .bool false]) ?_ rfl (PtA.no HF.out hB2)
        simp [results, Tryz.results51, go_sem]
    · have hT2 := tl_ne hT
      have HF : Hid (∀ m, okT m = true → tbL m = bl s → False) := fun m hm hq => hT (HP.out m hm hq).1
      clear hT HP hbits
      go_enter Tryz.func51, Tryz.ntmps51
      go_wp2_with fail
      refine wp_region_calm (B := w.heap.size) (W := w) (by kernel_rfl) (by kernel_rfl) (Below.refl _ _) ?_
      repeat (go_big_quiet_step (first | (go_at_call 78; with_reducible exact calm_of_below (Nat.le_refl _) (KS _)) | (go_at_call 77; with_reducible exact calm_of_below (Nat.le_refl _) (KW _))))
      refine wpQuiet_nil ?_
      intro _ hw'
      obtain ⟨x, hx⟩ := hw'
      subst hx
      have hB1 := x.ok
      clear KS KW hne
      generalize x.w = w1 at *
      clear x
      go_wp2
      refine bodyPost_ret (v := .tuple #[.string ⟨#[]⟩, .string ⟨#[]⟩, .string ⟨#[]⟩, .bool false]) ?_ rfl (PtA.no HF.out hB1)
      simp [results, Tryz.results51, go_sem]
  · have E2 : decide ((s.size : Int) - 8 < 0) = true := decide_eq_true (by omega)
    have HF : Hid (∀ m, okT m = true → tbL m = bl s → False) := fun m hm hq => by
      have h1 := notold s (by omega) m hm hq
      rw [← h1] at hm
      exact absurd hm (by decide)
    go_enter Tryz.func51, Tryz.ntmps51
    go_wp2_with fail
    refine wp_region_calm (B := w.heap.size) (W := w) (by kernel_rfl) (by kernel_rfl) (Below.refl _ _) ?_
    repeat (go_big_quiet_step (fail))
    refine wpQuiet_nil ?_
    intro _ hw'
    obtain ⟨x, hx⟩ := hw'
    subst hx
    have hB1 := x.ok
    clear hne
    generalize x.w = w1 at *
    clear x
    go_wp2
    refine bodyPost_ret (v := .tuple #[.string ⟨#[]⟩, .string ⟨#[]⟩, .string ⟨#[]⟩, .bool false]) ?_ rfl (PtA.no HF.out hB1)
    simp [results, Tryz.results51, go_sem]
end Go.Proofs.YtfdaffnkgpdhhaaGreat

namespace Go.Proofs.YtfdaffnkgpdhhaaGreat
open Go.RowKit
set_option linter.unusedVariables false
set_option maxRecDepth 100000

/-- The place at the front of a text. -/
def ipA (r : ByteArray) : Nat × Nat := take (bl r)
def ipS (r : ByteArray) : ByteArray := r.extract ((ipA r).2 + (ipA r).1) r.size
def ipB (r : ByteArray) : Nat × Nat := take (bl (ipS r))
def ipC (r : ByteArray) : Nat × Nat := take (bl ((ipS r).extract (ipB r).2 (ipS r).size))
def ipD (r : ByteArray) : Nat × Nat := take (bl ((ipS r).extract ((ipB r).2 + (ipC r).2) (ipS r).size))
def ipP (r : ByteArray) : Pl := ⟨r.extract (ipA r).2 ((ipA r).2 + (ipA r).1), ((ipB r).1 : Nat), ((ipC r).1 : Nat), ((ipD r).1 : Nat)⟩
def ipR (r : ByteArray) : ByteArray := (ipS r).extract ((ipB r).2 + (ipC r).2 + (ipD r).2) (ipS r).size
def ipF (r : ByteArray) : Prop := (ipA r).2 ≠ 0 ∧ (ipA r).1 ≤ r.size - (ipA r).2
def ipO (r : ByteArray) : Prop := ipF r ∧ (ipB r).2 ≠ 0 ∧ (ipC r).2 ≠ 0 ∧ (ipD r).2 ≠ 0
instance (r : ByteArray) : Decidable (ipF r) := by unfold ipF; infer_instance
instance (r : ByteArray) : Decidable (ipO r) := by unfold ipO; infer_instance
theorem take_le (s : ByteArray) : (take (bl s)).2 ≤ s.size ∧ (take (bl s)).2 ≤ 9 ∧ (take (bl s)).1 < 9223372036854775808 := by
  have := take_bound (bl s)
  rw [bl_len] at this
  omega
theorem ip_bounds (r : ByteArray) : (ipA r).2 ≤ r.size ∧ (ipS r).size ≤ r.size - (ipA r).2 ∧ (ipB r).2 ≤ (ipS r).size ∧ (ipB r).2 + (ipC r).2 ≤ (ipS r).size ∧ (ipB r).2 + (ipC r).2 + (ipD r).2 ≤ (ipS r).size := by
  have hA := take_le r
  have hB := take_le (ipS r)
  have hC := take_le ((ipS r).extract (ipB r).2 (ipS r).size)
  have hD := take_le ((ipS r).extract ((ipB r).2 + (ipC r).2) (ipS r).size)
  have hS : (ipS r).size = r.size - ((ipA r).2 + (ipA r).1) := by unfold ipS; rw [ByteArray.size_extract]; omega
  rw [ByteArray.size_extract] at hC hD
  change (ipA r).2 ≤ _ ∧ _ at hA
  change (ipB r).2 ≤ _ ∧ _ at hB
  change (ipC r).2 ≤ _ ∧ _ at hC
  change (ipD r).2 ≤ _ ∧ _ at hD
  omega
theorem ipR_size {r : ByteArray} (h : ipO r) : (ipR r).size < r.size := by
  have hb := ip_bounds r
  have h1 := h.1.1
  have h2 : (ipR r).size = (ipS r).size - ((ipB r).2 + (ipC r).2 + (ipD r).2) := by unfold ipR; rw [ByteArray.size_extract]; omega
  omega
/-- The place of a block is read. -/
theorem ip_place {l : List It} (h : okT l = true) {i : Nat} (hi : i < nb l) {s : ByteArray} {more : List UInt8} (hs : bl s = plcL l i ++ more) : ipO s ∧ ipP s = plc l i ∧ bl (ipR s) = more := by
  obtain ⟨t1, t2, t3, t4, t5, t6⟩ := plc_takes h hi more
  have hp := okT_parts h
  have hok := lastI_ok hp.1 hi
  have hk := okIt_key hok
  have hq := okIt_seq hok
  have v1 := varL_pos (lastI l i).n.toNat
  have v2 := varL_pos (bsL l i).length
  have v3 := varL_pos (blkL (chk l i)).length
  rw [← hs] at t1 t2 t3 t4 t5 t6
  have hA : ipA s = ((lastI l i).k.size, 1) := t1
  have hsz : s.size = (plcL l i).length + more.length := by rw [← bl_len, hs, List.length_append]
  have hpl : (plcL l i).length = 1 + (lastI l i).k.size + (varL (lastI l i).n.toNat).length + (varL (bsL l i).length).length + (varL (blkL (chk l i)).length).length := by
    have := var_small (lastI l i).k.size (by omega)
    simp only [plcL, List.length_append, bl_len, this]
  have hplc : plc l i = ⟨(lastI l i).k, (lastI l i).n, ((bsL l i).length : Nat), ((blkL (chk l i)).length : Nat)⟩ := rfl
  rw [hplc]
  have hn : (lastI l i).n = ((lastI l i).n.toNat : Nat) := by omega
  have hbk : (lastI l i).k = tx ((bl s).drop 1 |>.take (lastI l i).k.size) := by rw [t2, tx_bl]
  rw [hn]
  generalize (lastI l i).n.toNat = N at *
  generalize hK : (lastI l i).k.size = K at *
  generalize (lastI l i).k = kk at *
  generalize (bsL l i).length = Y at *
  generalize (blkL (chk l i)).length = Z at *
  have a1 : (ipA s).1 = K := by rw [hA]
  have a2 : (ipA s).2 = 1 := by rw [hA]
  have hS : bl (ipS s) = (bl s).drop (1 + K) := by unfold ipS; rw [a1, a2, bl_from]
  have hB : ipB s = (N, (varL N).length) := by unfold ipB; rw [hS, t3]
  have b2 : (ipB s).2 = (varL N).length := by rw [hB]
  have hC : ipC s = (Y, (varL Y).length) := by unfold ipC; rw [b2, bl_from, hS, List.drop_drop, t4]
  have c2 : (ipC s).2 = (varL Y).length := by rw [hC]
  have hD : ipD s = (Z, (varL Z).length) := by unfold ipD; rw [b2, c2, bl_from, hS, List.drop_drop, ← Nat.add_assoc, t5]
  have d2 : (ipD s).2 = (varL Z).length := by rw [hD]
  refine ⟨⟨⟨by omega, by omega⟩, by omega, by omega, by omega⟩, ?_, ?_⟩
  · have e0 : s.extract (ipA s).2 ((ipA s).2 + (ipA s).1) = kk := by
      rw [a1, a2, hbk]
      apply bl_inj
      rw [bl_ext, bl_tx, show 1 + K - 1 = K from by omega]
    have b1 : (ipB s).1 = N := by rw [hB]
    have c1 : (ipC s).1 = Y := by rw [hC]
    have d1 : (ipD s).1 = Z := by rw [hD]
    unfold ipP
    rw [e0, b1, c1, d1]
  · unfold ipR
    rw [b2, c2, d2, bl_from, hS, List.drop_drop, ← Nat.add_assoc, ← Nat.add_assoc, t6]
/-- How far an index is read, whatever table's it is. -/
def IxS (s : List UInt8) (r : List UInt8) (acc : List Pl) : Prop := ∀ L, okT L = true → s = ixL L (nb L) → ∃ i, i ≤ nb L ∧ r = ixR L i ∧ acc = plsL L i
theorem IxS.start (s : List UInt8) : IxS s s [] := fun L _ h => ⟨0, Nat.zero_le _, by rw [ixR_zero, h], rfl⟩
theorem IxS.done {s : List UInt8} {acc : List Pl} (h : IxS s [] acc) : ∀ L, okT L = true → s = ixL L (nb L) → acc = plsL L (nb L) := by
  intro L hL hs
  obtain ⟨i, hi, hr, ha⟩ := h L hL hs
  have := ixR_nil hL hi hr.symm
  subst this
  exact ha
theorem IxS.place {s : List UInt8} {r : ByteArray} {acc : List Pl} (h : IxS s (bl r) acc) (hr : r.size ≠ 0) {L : List It} (hL : okT L = true) (hs : s = ixL L (nb L)) : ∃ i, i < nb L ∧ bl r = plcL L i ++ ixR L (i + 1) ∧ acc = plsL L i := by
  obtain ⟨i, hi, hx, ha⟩ := h L hL hs
  have hlt : i < nb L := by
    rcases Nat.lt_or_ge i (nb L) with h1 | h1
    · exact h1
    · obtain rfl : i = nb L := by omega
      rw [ixR_end] at hx
      exact absurd (by rw [← bl_len, hx]; rfl) hr
  exact ⟨i, hlt, by rw [hx, ixR_step hlt], ha⟩
theorem IxS.stop {s : List UInt8} {r : ByteArray} {acc : List Pl} (h : IxS s (bl r) acc) (hr : r.size ≠ 0) (ho : ¬ ipO r) : ∀ L, okT L = true → s = ixL L (nb L) → False := by
  intro L hL hs
  obtain ⟨i, hi, hx, _⟩ := h.place hr hL hs
  exact ho (ip_place hL hi hx).1
theorem IxS.step {s : List UInt8} {r : ByteArray} {acc : List Pl} (h : IxS s (bl r) acc) (hr : r.size ≠ 0) : IxS s (bl (ipR r)) (acc ++ [ipP r]) := by
  intro L hL hs
  obtain ⟨i, hi, hx, ha⟩ := h.place hr hL hs
  obtain ⟨_, h2, h3⟩ := ip_place hL hi hx
  exact ⟨i + 1, hi, h3, by rw [h2, ha, plsL_succ]⟩
/-- What l7Index answers. -/
def NnPl (p : Pl) : Prop := 0 ≤ p.a ∧ p.a < 9223372036854775808 ∧ 0 ≤ p.z ∧ p.z < 9223372036854775808
def IxA (s : ByteArray) (w : World) (e : Ending) (w' : World) : Prop :=
  ∃ v ps ok, e = .returned (.tuple #[v, .bool ok]) ∧ Below w.heap.size w w' ∧ w'.ownsRow w.heap.size 50 4 v ps.length (flatP ps) ∧ ps.length ≤ 1000 ∧ (∀ p ∈ ps, NnPl p) ∧ ∀ L, okT L = true → bl s = ixL L (nb L) → ok = true ∧ ps = plsL L (nb L)
theorem IxA.no {s : ByteArray} {w w' : World} (h : ∀ L, okT L = true → bl s = ixL L (nb L) → False) (hb : Below w.heap.size w w') : IxA s w (.returned (.tuple #[.slice none 0 0, .bool false])) w' :=
  ⟨_, [], false, rfl, hb, World.ownsRow_nil _ _ _ _, by simp, by simp, fun L hL hs => (h L hL hs).elim⟩
end Go.Proofs.YtfdaffnkgpdhhaaGreat

namespace Go.Proofs.YtfdaffnkgpdhhaaGreat
open Go.RowKit
set_option linter.unusedVariables false
set_option maxRecDepth 100000

set_option maxHeartbeats 8000000 in
theorem l7Index_any (s : ByteArray) (w : World) (hs : s.size ≤ 1000) : Calls Tryz.prog 52 #[.string s] w (IxA s w) := by
  obtain ⟨i0, hi, hiz, hzs, hzb⟩ := info_parts Tryz.info50
  have HS0 : Hid (IxS (bl s) (bl s) []) := IxS.start _
  go_enter Tryz.func52, Tryz.ntmps52
  go_wp2_with fail
  go_loopw [0, 4] (fun sv ov wr => ∃ (r : ByteArray) (acc : List Pl), sv = .string r ∧ wr.ownsRow w.heap.size 50 4 ov acc.length (flatP acc) ∧ acc.length + r.size ≤ 1000 ∧ (∀ p ∈ acc, NnPl p) ∧ IxS (bl s) (bl r) acc ∧ Below w.heap.size w wr) (fun sv _ _ => strLen sv)
  case atStart => exact ⟨s, [], rfl, World.ownsRow_nil _ _ _ _, by simp; omega, by simp, HS0.out, Below.refl _ _⟩
  case round =>
    clear HS0
    obtain ⟨r, acc, rfl, hown, hlen, hnn, hst, hB⟩ := hrel
    have HS : Hid (IxS (bl s) (bl r) acc) := hst
    clear hst
    obtain ⟨la, lc, rfl⟩ := slice_form hown
    by_cases hr : r.size = 0
    · obtain rfl := empty_of_size hr
      have HD : Hid _ := HS.out.done
      clear HS
      go_wp2
      go_ret2
      exact ⟨_, acc, true, rfl, hB, hown, by omega, hnn, fun L hL hq => ⟨rfl, HD.out L hL hq⟩⟩
    · have hz' : decide ((0 : Int) < (r.size : Int)) = true := decide_eq_true (by omega)
      obtain ⟨p1, p2, p3, p4, p5⟩ := ip_bounds r
      have KA : ∀ w, Calls Tryz.prog 93 #[.string r] w fun e w' => e = .returned (.tuple #[.int .i64 ((ipA r).1 : Nat), .int .i64 ((ipA r).2 : Nat)]) ∧ w' = w := fun w => l2Take_any r w (by omega)
      have hA := take_le r
      change (ipA r).2 ≤ _ ∧ _ ≤ _ ∧ (ipA r).1 < _ at hA
      by_cases hF : ipF r
      · have KB : ∀ w, Calls Tryz.prog 93 #[.string (ipS r)] w fun e w' => e = .returned (.tuple #[.int .i64 ((ipB r).1 : Nat), .int .i64 ((ipB r).2 : Nat)]) ∧ w' = w := fun w => l2Take_any (ipS r) w (by omega)
        have KC : ∀ w, Calls Tryz.prog 93 #[.string ((ipS r).extract (ipB r).2 (ipS r).size)] w fun e w' => e = .returned (.tuple #[.int .i64 ((ipC r).1 : Nat), .int .i64 ((ipC r).2 : Nat)]) ∧ w' = w := fun w => l2Take_any _ w (by rw [ByteArray.size_extract]; omega)
        have KD : ∀ w, Calls Tryz.prog 93 #[.string ((ipS r).extract ((ipB r).2 + (ipC r).2) (ipS r).size)] w fun e w' => e = .returned (.tuple #[.int .i64 ((ipD r).1 : Nat), .int .i64 ((ipD r).2 : Nat)]) ∧ w' = w := fun w => l2Take_any _ w (by rw [ByteArray.size_extract]; omega)
        have hB1 := take_le (ipS r)
        have hC1 := take_le ((ipS r).extract (ipB r).2 (ipS r).size)
        have hD1 := take_le ((ipS r).extract ((ipB r).2 + (ipC r).2) (ipS r).size)
        change _ ∧ _ ∧ (ipB r).1 < _ at hB1
        change _ ∧ _ ∧ (ipC r).1 < _ at hC1
        change _ ∧ _ ∧ (ipD r).1 < _ at hD1
        have hb9 := hB1.2.2
        have hc9 := hC1.2.2
        have hd9 := hD1.2.2
        clear hB1 hC1 hD1
        have HN : Hid (¬ ipO r → ∀ L, okT L = true → bl s = ixL L (nb L) → False) := HS.out.stop hr
        have HY : Hid (IxS (bl s) (bl (ipR r)) (acc ++ [ipP r])) := HS.out.step hr
        have HZ : Hid (ipO r → (ipR r).size < r.size) := fun h => ipR_size h
        have HO : Hid (ipO r ↔ (ipB r).2 ≠ 0 ∧ (ipC r).2 ≠ 0 ∧ (ipD r).2 ≠ 0) := ⟨fun h => h.2, fun h => ⟨hF, h⟩⟩
        have HP : Hid (ipP r = ⟨r.extract (ipA r).2 ((ipA r).2 + (ipA r).1), ((ipB r).1 : Nat), ((ipC r).1 : Nat), ((ipD r).1 : Nat)⟩) := rfl
        have HR : Hid (ipR r = (ipS r).extract ((ipB r).2 + (ipC r).2 + (ipD r).2) (ipS r).size) := rfl
        have HQ : Hid (ipS r = r.extract ((ipA r).2 + (ipA r).1) r.size) := rfl
        obtain ⟨f1, f2⟩ := hF
        clear HS
        generalize ipO r = OK at *
        generalize ipP r = PP at *
        generalize ipR r = RR at *
        generalize (ipB r).1 = b1 at *
        generalize (ipB r).2 = b2 at *
        generalize (ipC r).1 = c1 at *
        generalize (ipC r).2 = c2 at *
        generalize (ipD r).1 = d1 at *
        generalize (ipD r).2 = d2 at *
        generalize (ipA r).1 = n at *
        generalize (ipA r).2 = a at *
        have hQ2 : r.extract (a + n) r.size = ipS r := HQ.out.symm
        clear HQ
        have g1 : ((a : Int) == 0) = false := by rw [beq_eq_false_iff_ne]; omega
        have g2 : decide ((r.size : Int) - (a : Int) < (n : Int)) = false := decide_eq_false (by omega)
        have sl1 : ∀ w, (Instr.slice 9 (.string r) (some (.int .i64 (a : Int))) (some (.int .i64 ((a : Int) + (n : Int)))) none).run Tryz.prog w = .ok (.string (r.extract a (a + n))) w := fun w => by
          rw [run_slice_string w 9 r .i64 .i64 _ _ Tryz.underlying9 (by omega) (by omega) (by omega)]
          rfl
        generalize ipS r = S at *
        generalize r.extract a (a + n) = K at *
        clear hA f1
        have hrz : r.size ≤ 1000 := by omega
        by_cases ho : b2 ≠ 0 ∧ c2 ≠ 0 ∧ d2 ≠ 0
        · have hm := HZ.out (HO.out.2 ho)
          have k1 : ((b2 : Int) == 0) = false := by rw [beq_eq_false_iff_ne]; omega
          have k2 : ((c2 : Int) == 0) = false := by rw [beq_eq_false_iff_ne]; omega
          have k3 : ((d2 : Int) == 0) = false := by rw [beq_eq_false_iff_ne]; omega
          obtain rfl : PP = ⟨K, b1, c1, d1⟩ := HP.out
          have hnn2 : ∀ p ∈ acc ++ [⟨K, (b1 : Int), (c1 : Int), (d1 : Int)⟩], NnPl p := fun p hp => (List.mem_append.1 hp).elim (hnn p) (fun h => by
            rw [List.mem_singleton.1 h]
            exact ⟨by show (0 : Int) ≤ c1; omega, by show (c1 : Int) < _; omega, by show (0 : Int) ≤ d1; omega, by show (d1 : Int) < _; omega⟩)
          clear HN HZ HO ho hnn HP
          have hRR : S.extract (b2 + c2 + d2) S.size = RR := HR.out.symm
          clear HR
          go_wp2_with fail
          refine (KA _).mono ?_
          rintro e w1 ⟨rfl, hw⟩
          rw [hw]; clear hw KA
          go_wp2_with fail
          rw [hQ2]
          refine (KB _).mono ?_
          rintro e w1 ⟨rfl, hw⟩
          rw [hw]; clear hw KB
          go_wp2_with fail
          refine (KC _).mono ?_
          rintro e w1 ⟨rfl, hw⟩
          rw [hw]; clear hw KC
          go_wp2_with fail
          refine (KD _).mono ?_
          rintro e w1 ⟨rfl, hw⟩
          rw [hw]; clear hw KD
          obtain ⟨W0, hW0⟩ : ∃ W0, W0 = wr.alloc (.cells #[.string K, .int .i64 0, .int .i64 0, .int .i64 0] 50) := ⟨_, rfl⟩
          have X0 : Box W0 wr.heap.size [.string K, .int .i64 0, .int .i64 0, .int .i64 0] := by rw [hW0]; exact Box.new wr #[.string K, .int .i64 0, .int .i64 0, .int .i64 0] 50
          have hb0 : Below wr.heap.size wr W0 := by rw [hW0]; exact below_alloc _ _
          rw [← hW0]
          have hz0 : W0.heap.size = wr.heap.size + 1 := by rw [hW0]; simp
          clear hW0
          obtain ⟨W3, hW3⟩ : ∃ W3, W3 = ((W0.setCell ⟨wr.heap.size, 1, none⟩ (.int .i64 b1)).setCell ⟨wr.heap.size, 2, none⟩ (.int .i64 c1)).setCell ⟨wr.heap.size, 3, none⟩ (.int .i64 d1) := ⟨_, rfl⟩
          have X3 : Box W3 wr.heap.size [.string K, .int .i64 b1, .int .i64 c1, .int .i64 d1] := by
            have := ((X0.set 1 (.int .i64 b1) (by simp)).set 2 (.int .i64 c1) (by simp)).set 3 (.int .i64 d1) (by simp)
            rw [hW3]; simpa using this
          have ch3 : Chg (fun j => j = wr.heap.size) wr W3 := by
            rw [hW3]
            exact Chg.setCell (Chg.setCell (Chg.setCell (S := fun j => j = wr.heap.size) (Chg.of_below hb0) (p := ⟨wr.heap.size, 1, none⟩) rfl _) (p := ⟨wr.heap.size, 2, none⟩) rfl _) (p := ⟨wr.heap.size, 3, none⟩) rfl _
          have hown3 := ch3.owns hown (fun g hg => by have := (hown.lt g hg).2; omega)
          have hB3 : Below w.heap.size w W3 := hB.trans (ch3.below hB.size (fun j hj => by have := hB.size; omega))
          have hz3 : W3.heap.size = W0.heap.size := by rw [hW3]; simp
          have hW0w : w.heap.size ≤ W0.heap.size := by have := hB.size; omega
          obtain ⟨⟨f0, f1', f2', f3⟩, zz, x0, x1, x2, x3⟩ := X0.f4
          have hown4 := hown3.alloc (.cells #[.string K, .int .i64 b1, .int .i64 c1, .int .i64 d1] 50)
          have hcn := cells_newP W3 ⟨K, b1, c1, d1⟩
          dsimp only at hcn
          rw [hz3] at hcn
          have hge := owns_ge hown
          have hzw := hB.size
          have hBz3 : w.heap.size ≤ W3.heap.size := by omega
          obtain ⟨_, y0, y1, y2, y3⟩ := X3.c4
          rw [hW3] at hcn hown4 y0 y1 y2 y3
          have HY2 : Hid (IxS (bl s) (bl RR) (acc ++ [⟨K, (b1 : Int), (c1 : Int), (d1 : Int)⟩])) := HY.out
          clear HY X0 X3 hown3 hb0 ch3 hown hB hz0
          clear hz3
          have HW3 : Hid (W3 = ((W0.setCell ⟨wr.heap.size, 1, none⟩ (.int .i64 b1)).setCell ⟨wr.heap.size, 2, none⟩ (.int .i64 c1)).setCell ⟨wr.heap.size, 3, none⟩ (.int .i64 d1)) := hW3
          clear hW3
          go_wp2_with (at_builtin; refine wpList_append_own _ rfl _ _ 40 rfl w.heap.size 50 i0 (.agg #[.string ⟨#[]⟩, .int .i64 0, .int .i64 0, .int .i64 0]) 4 40 Tryz.underlying40 hi hiz hzs hzb rfl (by decide) _ acc.length (flatP acc) rfl hown4 ⟨W0.heap.size, 0, none⟩ 1 1 [.string K, .int .i64 b1, .int .i64 c1, .int .i64 d1] rfl rfl hcn (by intro u hu; simp at hu; rcases hu with rfl | rfl | rfl | rfl <;> rfl) (by unfold maxLen; omega) (by omega) (by simp; omega) ?_; intro v' w5 hown5 hgrow5 _; refine StopU.go ?_)
          rw [← HW3.out] at hgrow5
          have hB5 : Below w.heap.size w w5 := (hB3.alloc hBz3 _).grown hgrow5 (by simp; omega) hge
          have hown6 : w5.ownsRow w.heap.size 50 4 v' (acc ++ [(⟨K, (b1 : Int), (c1 : Int), (d1 : Int)⟩ : Pl)]).length (flatP (acc ++ [⟨K, (b1 : Int), (c1 : Int), (d1 : Int)⟩])) := by rw [flatP_append, List.length_append]; exact hown5
          have hal : (acc ++ [(⟨K, (b1 : Int), (c1 : Int), (d1 : Int)⟩ : Pl)]).length = acc.length + 1 := by simp
          clear hgrow5 hcn hB3 hown4 hge hown5 y0 y1 y2 y3 x0 x1 x2 x3 f0 f1' f2' f3 hBz3 HW3
          unfold StopU
          go_wp2_with fail
          go_roundw
          case rel =>
            rw [hRR]
            exact ⟨RR, _, rfl, hown6, by omega, hnn2, HY2.out, hB5⟩
          case measure =>
            rw [hRR]
            exact hm
        · have HF : Hid (∀ L, okT L = true → bl s = ixL L (nb L) → False) := HN.out (fun h => ho (HO.out.1 h))
          clear HN HZ HO HY HP HR
          have hbb : ∀ w', Below wr.heap.size wr w' → Below w.heap.size w w' := fun w' h => below_then hB h
          have hb0 := hbb _ (below_alloc wr (.cells #[.string K, .int .i64 0, .int .i64 0, .int .i64 0] 50))
          have hcase : b2 = 0 ∨ (b2 ≠ 0 ∧ c2 = 0) ∨ (b2 ≠ 0 ∧ c2 ≠ 0 ∧ d2 = 0) := by omega
          clear ho hbb
          rcases hcase with rfl | ⟨hb2, rfl⟩ | ⟨hb2, hc2, rfl⟩
          · have hS0 : S.extract 0 S.size = S := by apply bl_inj; rw [bl_from]; simp
            rw [hS0] at KC
            rw [Nat.zero_add] at KD
            clear hS0
            go_wp2_with fail
            refine (KA _).mono ?_
            rintro e w1 ⟨rfl, hw⟩
            rw [hw]; clear hw KA
            go_wp2_with fail
            rw [hQ2]
            refine (KB _).mono ?_
            rintro e w1 ⟨rfl, hw⟩
            rw [hw]; clear hw KB
            go_wp2_with fail
            refine (KC _).mono ?_
            rintro e w1 ⟨rfl, hw⟩
            rw [hw]; clear hw KC
            go_wp2_with fail
            refine (KD _).mono ?_
            rintro e w1 ⟨rfl, hw⟩
            rw [hw]; clear hw KD
            go_wp2
            go_ret2
            exact IxA.no HF.out hb0
          · have k1 : ((b2 : Int) == 0) = false := by rw [beq_eq_false_iff_ne]; omega
            go_wp2_with fail
            refine (KA _).mono ?_
            rintro e w1 ⟨rfl, hw⟩
            rw [hw]; clear hw KA
            go_wp2_with fail
            rw [hQ2]
            refine (KB _).mono ?_
            rintro e w1 ⟨rfl, hw⟩
            rw [hw]; clear hw KB
            go_wp2_with fail
            refine (KC _).mono ?_
            rintro e w1 ⟨rfl, hw⟩
            rw [hw]; clear hw KC
            go_wp2_with fail
            refine (KD _).mono ?_
            rintro e w1 ⟨rfl, hw⟩
            rw [hw]; clear hw KD
            go_wp2
            go_ret2
            exact IxA.no HF.out hb0
          · have k1 : ((b2 : Int) == 0) = false := by rw [beq_eq_false_iff_ne]; omega
            have k2 : ((c2 : Int) == 0) = false := by rw [beq_eq_false_iff_ne]; omega
            go_wp2_with fail
            refine (KA _).mono ?_
            rintro e w1 ⟨rfl, hw⟩
            rw [hw]; clear hw KA
            go_wp2_with fail
            rw [hQ2]
            refine (KB _).mono ?_
            rintro e w1 ⟨rfl, hw⟩
            rw [hw]; clear hw KB
            go_wp2_with fail
            refine (KC _).mono ?_
            rintro e w1 ⟨rfl, hw⟩
            rw [hw]; clear hw KC
            go_wp2_with fail
            refine (KD _).mono ?_
            rintro e w1 ⟨rfl, hw⟩
            rw [hw]; clear hw KD
            go_wp2
            go_ret2
            exact IxA.no HF.out hb0
      · have HF : Hid (∀ L, okT L = true → bl s = ixL L (nb L) → False) := HS.out.stop hr (fun h => hF h.1)
        have hF2 : (ipA r).2 = 0 ∨ ((ipA r).2 ≠ 0 ∧ r.size - (ipA r).2 < (ipA r).1) := by unfold ipF at hF; omega
        clear HS hF p2 p3 p4 p5
        generalize (ipA r).1 = n at *
        generalize (ipA r).2 = a at *
        rcases hF2 with rfl | ⟨h1, h2⟩
        · go_wp2_with fail
          refine (KA _).mono ?_
          rintro e w1 ⟨rfl, hw⟩
          rw [hw]; clear hw KA
          go_wp2
          go_ret2
          exact IxA.no HF.out hB
        · have g1 : ((a : Int) == 0) = false := by rw [beq_eq_false_iff_ne]; omega
          have g2 : decide ((r.size : Int) - (a : Int) < (n : Int)) = true := decide_eq_true (by omega)
          go_wp2_with fail
          refine (KA _).mono ?_
          rintro e w1 ⟨rfl, hw⟩
          rw [hw]; clear hw KA
          go_wp2
          go_ret2
          exact IxA.no HF.out hB
end Go.Proofs.YtfdaffnkgpdhhaaGreat

namespace Go.Proofs.YtfdaffnkgpdhhaaGreat
open Go.RowKit
set_option linter.unusedVariables false
set_option maxRecDepth 100000

theorem tbRes_none {s : List UInt8} (h : ∀ m, okT m = true → tbL m = s → False) : TbRes s [] false := .inr ⟨rfl, rfl, fun m hm he => h m hm he⟩
theorem RdT.no {s : ByteArray} {w w' : World} (h : ∀ m, okT m = true → tbL m = bl s → False) (hb : Below w.heap.size w w') : RdT s w (.returned (.tuple #[.slice none 0 0, .bool false])) w' :=
  ⟨[], false, _, tbRes_none h, rfl, World.ownsRow_nil _ _ _ _, hb⟩
/-- The parts that were read, whatever table's they are; how far. -/
def PsS (s : List UInt8) (B : ByteArray) (ps : List Pl) : Prop := ∀ L, okT L = true → tbL L = s → bl B = bsL L (nb L) ∧ ps = plsL L (nb L)
def AcS (s : List UInt8) (k : Nat) (acc : List It) : Prop := ∀ L, okT L = true → tbL L = s → acc = L.take (8 * k)
theorem bs_at {L : List It} {k : Nat} (hk : k < nb L) : (bsL L (nb L)).drop (bsL L k).length = blkL (chk L k) ++ bsR L (k + 1) := bsR_step hk
theorem PsS.place {s : List UInt8} {B : ByteArray} {ps : List Pl} (h : PsS s B ps) {k : Nat} (hk : k < ps.length) {L : List It} (hL : okT L = true) (hs : tbL L = s) :
    k < nb L ∧ ps[k] = plc L k ∧ ps[k].a + ps[k].z ≤ B.size ∧ bl (B.extract ps[k].a.toNat (ps[k].a.toNat + ps[k].z.toNat)) = blkL (chk L k) := by
  obtain ⟨h1, h2⟩ := h L hL hs
  subst h2
  have hk' : k < nb L := by simpa [plsL] using hk
  have hp : (plsL L (nb L))[k] = plc L k := by simp [plsL]
  rw [hp]
  have hd := bs_at hk'
  have hlen := congrArg List.length hd
  rw [List.length_drop, List.length_append, ← h1, bl_len] at hlen
  have e1 : (plc L k).a = ((bsL L k).length : Nat) := rfl
  have e2 : (plc L k).z = ((blkL (chk L k)).length : Nat) := rfl
  rw [e1, e2]
  have hz : 6 ≤ (blkL (chk L k)).length := (chk_small (okT_parts hL).1 k).2
  refine ⟨hk', rfl, by omega, ?_⟩
  rw [Int.toNat_natCast, Int.toNat_natCast, bl_ext, h1, hd, show (bsL L k).length + (blkL (chk L k)).length - (bsL L k).length = (blkL (chk L k)).length from by omega, List.take_left]
/-- The block at a place, read. -/
theorem AcS.step {s : List UInt8} {B : ByteArray} {ps : List Pl} (h : PsS s B ps) {k : Nat} (hk : k < ps.length) {acc : List It} (ha : AcS s k acc) : AcS s (k + 1) (acc ++ rbL (B.extract ps[k].a.toNat (ps[k].a.toNat + ps[k].z.toNat))) := by
  intro L hL hs
  obtain ⟨h1, h2, h3, h4⟩ := h.place hk hL hs
  have hr := rb_res (B.extract ps[k].a.toNat (ps[k].a.toNat + ps[k].z.toNat))
  rw [h4] at hr
  rw [(rd_chk (okT_parts hL).1 hr).1, ha L hL hs, chk_take]
theorem PsS.good {s : List UInt8} {B : ByteArray} {ps : List Pl} (h : PsS s B ps) {k : Nat} (hk : k < ps.length) (hb : rbOk (B.extract ps[k].a.toNat (ps[k].a.toNat + ps[k].z.toNat)) = false) : ∀ L, okT L = true → tbL L = s → False := by
  intro L hL hs
  obtain ⟨h1, h2, h3, h4⟩ := h.place hk hL hs
  have hr := rb_res (B.extract ps[k].a.toNat (ps[k].a.toNat + ps[k].z.toNat))
  rw [h4] at hr
  rw [(rd_chk (okT_parts hL).1 hr).2] at hb
  cases hb
theorem AcS.len {s : List UInt8} {k : Nat} {acc : List It} (ha : AcS s k acc) (h : 120 < acc.length) : ∀ L, okT L = true → tbL L = s → False := by
  intro L hL hs
  have := okT_parts hL
  rw [ha L hL hs, List.length_take] at h
  omega
theorem AcS.done {s : List UInt8} {B : ByteArray} {ps : List Pl} (h : PsS s B ps) {acc : List It} (ha : AcS s ps.length acc) : ∀ L, okT L = true → tbL L = s → acc = L := by
  intro L hL hs
  have h2 := (h L hL hs).2
  rw [ha L hL hs, h2, plsL_len, take_nb]

set_option maxHeartbeats 8000000 in
theorem l7Read_any (s : ByteArray) (w : World) (hs : s.size ≤ 1048576) : Calls Tryz.prog 50 #[.string s] w (RdT s w) := by
  obtain ⟨i0, hi, hiz, hzs, hzb⟩ := info_parts Tryz.info33
  have KP := fun w => l7Parts_any s w hs
  go_enter Tryz.func50, Tryz.ntmps50
  go_wp2_with fail
  refine (KP _).mono ?_
  clear KP
  rintro e w1 ⟨B, I, F, ok, rfl, hb1, hBz, hIz, hpt⟩
  have HPT : Hid _ := hpt
  clear hpt
  have KI := fun w => l7Index_any I w hIz
  go_wp2_with fail
  refine (KI _).mono ?_
  clear KI
  rintro e w2 ⟨v, ps, is, rfl, hb2, hrow, hpl, hnn, hix⟩
  have hB2 := below_then hb1 hb2
  have HX : Hid _ := hix
  clear hix
  cases ok with
  | false =>
    have HF : Hid (∀ L, okT L = true → tbL L = bl s → False) := fun L hL hq => by have := (HPT.out L hL hq).1; cases this
    obtain ⟨va, vc, rfl⟩ := slice_form hrow
    clear HPT HX hrow hnn
    go_wp2
    go_ret2
    exact RdT.no HF.out hB2
  | true =>
    cases is with
    | false =>
      have HF : Hid (∀ L, okT L = true → tbL L = bl s → False) := fun L hL hq => by
        have h1 := HPT.out L hL hq
        have := (HX.out L hL h1.2.2).1
        cases this
      obtain ⟨va, vc, rfl⟩ := slice_form hrow
      clear HPT HX hrow hnn
      go_wp2
      go_ret2
      exact RdT.no HF.out hB2
    | true =>
      have HS : Hid (PsS (bl s) B ps) := fun L hL hq => by
        have h1 := HPT.out L hL hq
        exact ⟨h1.2.1, (HX.out L hL h1.2.2).2⟩
      have hpr := PR_of_owns hrow rfl
      clear HPT HX hrow hb1 hb2 hIz
      obtain ⟨va, vc, rfl, hc⟩ := hpr
      have HA0 : Hid (AcS (bl s) 0 []) := fun L hL hq => by simp
      go_wp2_with fail
      go_loopw [10, 35] (fun ov i wr => ∃ (k : Nat) (acc : List It), k ≤ ps.length ∧ i = .int .i64 k ∧ wr.ownsRow w2.heap.size 33 4 ov acc.length (flat4 acc) ∧ acc.length ≤ 160 ∧ SmallIts acc ∧ AcS (bl s) k acc ∧ Below w2.heap.size w2 wr) (fun _ i _ => ps.length - (intOf i).toNat)
      case atStart => exact ⟨0, [], Nat.zero_le _, rfl, World.ownsRow_nil _ _ _ _, by simp, by intro x hx; simp at hx, HA0.out, Below.refl _ _⟩
      case round =>
        clear HA0
        obtain ⟨k, acc, hk, rfl, hown, hlen, hsm, hac, hBr⟩ := hrel
        have hB := below_then hB2 hBr
        have HA : Hid (AcS (bl s) k acc) := hac
        clear hac
        obtain ⟨la, lc, rfl⟩ := slice_form hown
        by_cases hlt : k < ps.length
        · obtain ⟨b, off, rfl, hbl, hcell⟩ := hc (by intro e; rw [e] at hlt; simp at hlt)
          obtain ⟨c0, c1, c2, c3⟩ := hcell k hlt
          have d0 := (hBr.cell (p := ⟨b, _, none⟩) hbl).trans c0
          have d1 := (hBr.cell (p := ⟨b, _, none⟩) hbl).trans c1
          have d2 := (hBr.cell (p := ⟨b, _, none⟩) hbl).trans c2
          have d3 := (hBr.cell (p := ⟨b, _, none⟩) hbl).trans c3
          obtain ⟨n1, n2, n3, n4⟩ := hnn _ (List.getElem_mem hlt)
          have HPL : Hid (∀ L, okT L = true → tbL L = bl s → ps[k].a + ps[k].z ≤ B.size) := fun L hL hq => (HS.out.place hlt hL hq).2.2.1
          have HST : Hid (AcS (bl s) (k + 1) (acc ++ rbL (B.extract ps[k].a.toNat (ps[k].a.toNat + ps[k].z.toNat)))) := AcS.step HS.out hlt HA.out
          have HGD : Hid (rbOk (B.extract ps[k].a.toNat (ps[k].a.toNat + ps[k].z.toNat)) = false → ∀ L, okT L = true → tbL L = bl s → False) := HS.out.good hlt
          clear hcell c0 c1 c2 c3 hc
          obtain ⟨p, hp⟩ : ∃ p, p = ps[k] := ⟨_, rfl⟩
          rw [← hp] at HPL HST HGD d0 d1 d2 d3 n1 n2 n3 n4
          clear hp
          obtain ⟨pk, pn, pa, pz⟩ := p
          dsimp only at HPL HST HGD d0 d1 d2 d3 n1 n2 n3 n4
          obtain ⟨a, rfl⟩ := Int.eq_ofNat_of_zero_le n1
          obtain ⟨z, rfl⟩ := Int.eq_ofNat_of_zero_le n3
          rw [Int.toNat_natCast, Int.toNat_natCast] at HST HGD
          obtain ⟨W0, hW0⟩ : ∃ W0, W0 = wr.alloc (.cells #[.string pk, .int .i64 pn, .int .i64 (a : Int), .int .i64 (z : Int)] 50) := ⟨_, rfl⟩
          have X0 : Box W0 wr.heap.size [.string pk, .int .i64 pn, .int .i64 (a : Int), .int .i64 (z : Int)] := by rw [hW0]; exact Box.new wr #[.string pk, .int .i64 pn, .int .i64 (a : Int), .int .i64 (z : Int)] 50
          have hb0 : Below wr.heap.size wr W0 := by rw [hW0]; exact below_alloc _ _
          have hB0 := below_then hB hb0
          have hBr0 : Below w2.heap.size w2 W0 := below_then hBr hb0
          have hown0 := owns_below hown hb0
          obtain ⟨_, x0, x1, x2, x3⟩ := X0.c4
          rw [hW0] at x0 x1 x2 x3
          clear X0 hb0 hown hB hBr
          by_cases hz : B.size < z
          · have HF : Hid (∀ L, okT L = true → tbL L = bl s → False) := fun L hL hq => by have := HPL.out L hL hq; omega
            have g1 : decide ((B.size : Int) < (z : Int)) = true := decide_eq_true (by omega)
            clear HPL HST HGD HS HA
            go_wp2_with fail
            rw [← hW0]
            go_ret2
            exact RdT.no HF.out hB0
          · have g1 : decide ((B.size : Int) < (z : Int)) = false := decide_eq_false (by omega)
            by_cases ha : B.size - z < a
            · have HF : Hid (∀ L, okT L = true → tbL L = bl s → False) := fun L hL hq => by have := HPL.out L hL hq; omega
              have g2 : decide ((B.size : Int) - (z : Int) < (a : Int)) = true := decide_eq_true (by omega)
              clear HPL HST HGD HS HA
              go_wp2_with fail
              rw [← hW0]
              go_ret2
              exact RdT.no HF.out hB0
            · have g2 : decide ((B.size : Int) - (z : Int) < (a : Int)) = false := decide_eq_false (by omega)
              have hsum : a + z ≤ B.size := by omega
              have sl1 : ∀ w, (Instr.slice 9 (.string B) (some (.int .i64 (a : Int))) (some (.int .i64 ((a : Int) + (z : Int)))) none).run Tryz.prog w = .ok (.string (B.extract a (a + z))) w := fun w => by
                rw [run_slice_string w 9 B .i64 .i64 _ _ Tryz.underlying9 (by omega) (by omega) (by omega)]
                rfl
              have KR := fun w => l6Read_rb (B.extract a (a + z)) w (by rw [ByteArray.size_extract]; omega)
              have hrl := rbL_len (B.extract a (a + z))
              have hri := rbL_items (B.extract a (a + z))
              have hsm2 : SmallIts (acc ++ rbL (B.extract a (a + z))) := fun x hx => (List.mem_append.1 hx).elim (hsm x) (hri x)
              clear hri HPL hz ha hnn HS
              generalize B.extract a (a + z) = Q at *
              generalize rbL Q = rl at *
              have n2' : (a : Int) ≤ 1048576 := by omega
              have n4' : (z : Int) ≤ 1048576 := by omega
              clear n1 n2 n3 n4
              cases hro : rbOk Q with
              | false =>
                rw [hro] at KR
                have HF : Hid _ := HGD.out hro
                clear HGD hro HST HA
                go_wp2_with fail
                rw [← hW0]
                refine (KR _).mono ?_
                rintro e w4 ⟨rv, rfl, hrw, hb4⟩
                have hB4 := below_then hB0 hb4
                obtain ⟨ra, rc, rfl⟩ := slice_form hrw
                clear KR hrw hb4
                go_wp2
                go_ret2
                exact RdT.no HF.out hB4
              | true =>
                rw [hro] at KR
                clear HGD hro
                by_cases hbig : 120 < acc.length
                · have HF : Hid _ := HA.out.len hbig
                  have g3 : decide ((120 : Int) < (acc.length : Int)) = true := decide_eq_true (by omega)
                  clear HST HA
                  go_wp2_with fail
                  rw [← hW0]
                  refine (KR _).mono ?_
                  rintro e w4 ⟨rv, rfl, hrw, hb4⟩
                  have hB4 := below_then hB0 hb4
                  obtain ⟨ra, rc, rfl⟩ := slice_form hrw
                  clear KR hrw hb4
                  go_wp2
                  go_ret2
                  exact RdT.no HF.out hB4
                · have g3 : decide ((120 : Int) < (acc.length : Int)) = false := decide_eq_false (by omega)
                  clear HA
                  go_wp2_with fail
                  rw [← hW0]
                  clear hW0 x0 x1 x2 x3 d0 d1 d2 d3
                  refine (KR _).mono ?_
                  rintro e w4 ⟨rv, rfl, hrw, hb4⟩
                  have hB4 := below_then hBr0 hb4
                  have hBw4 := below_then hB0 hb4
                  have hown4 := owns_below hown0 hb4
                  have hz4 := hBw4.size
                  have hz24 := hB4.size
                  clear KR hB0 hBr0 hown0 hb4
                  rcases hrw.2 with ⟨hrv, hr0⟩ | ⟨g, rc, cur, hrv, hgb, hgh, hrc⟩
                  · obtain rfl : rl = [] := List.eq_nil_of_length_eq_zero hr0
                    subst hrv
                    rw [List.append_nil] at HST hsm2
                    clear hrw hrl
                    go_wp2_with (first | (at_builtin; refine wpList_append_own_none rfl _ _ 23 rfl w2.heap.size 33 i0 4 Tryz.underlying23 hi (.slice la acc.length lc) acc.length (flat4 acc) rfl hown4 rfl ?_) | fail)
                    go_roundw
                    case rel => exact ⟨k + 1, acc, by omega, by go_num, hown4, by omega, hsm2, HST.out, hB4⟩
                    case measure => simp [intOf]; omega
                  · subst hrv
                    have hnews := hrw.cells (g := g) rfl
                    have hone : ∀ u ∈ flat4 rl, u.oneCell' = true := flat4_one rl
                    have hfl := flat4_length rl
                    have hge := owns_ge hown4
                    have hlt4 := fun j hj => (hown4.lt j hj).1
                    clear hrw hgh hgb hrc
                    go_wp2_with (at_builtin; refine wpList_append_own _ rfl _ _ 23 rfl w2.heap.size 33 i0 (.agg #[.string ⟨#[]⟩, .int .i64 0, .int .i64 0, .string ⟨#[]⟩]) 4 48 Tryz.underlying23 hi hiz hzs hzb rfl (by decide) _ acc.length (flat4 acc) rfl hown4 ⟨g, 0, none⟩ rl.length rc (flat4 rl) rfl hfl hnews hone (by unfold maxLen; omega) (by omega) (by omega) ?_; intro v' w5 hown5 hgrow5 _; refine StopU.go ?_)
                    have hB5 : Below w2.heap.size w2 w5 := hB4.grown hgrow5 (by omega) hge
                    rw [← flat4_append, ← List.length_append] at hown5
                    have hal : (acc ++ rl).length = acc.length + rl.length := List.length_append
                    clear hgrow5 hnews hone hB4 hown4 hge hlt4 hBw4
                    unfold StopU
                    go_wp2_with fail
                    go_roundw
                    case rel => exact ⟨k + 1, acc ++ rl, by omega, by go_num, hown5, by omega, hsm2, HST.out, hB5⟩
                    case measure => simp [intOf]; omega
        · obtain rfl : k = ps.length := by omega
          have hu : ∀ L, okT L = true → tbL L = bl s → acc = L := AcS.done HS.out HA.out
          obtain ⟨HY0, HN0⟩ := TbRes.of_read hu
          have HY : Hid (okT acc = true → tbL acc = bl s → TbRes (bl s) acc true) := HY0
          have HN : Hid ((okT acc = true → tbL acc ≠ bl s) → TbRes (bl s) [] false) := HN0
          have hir := IR_of_owns hown rfl
          have hsz : ∀ i (h : i < acc.length), acc[i].k.size ≤ 1048576 ∧ acc[i].v.size ≤ 1048576 := fun i h => by have := hsm _ (List.getElem_mem h); omega
          have KG := l7Good_any (.slice la acc.length lc) acc wr hir (by omega) hsz
          have hroom : acc.length ≤ lc := by
            rcases hown.2 with ⟨h, h0⟩ | ⟨g, c, cur, h, hbg, _, hc', _⟩
            · omega
            · injection h with h1 h2 h3
              omega
          have hownw := fun w' (h : Below wr.heap.size wr w') => owns_lower (owns_below hown h) (show w.heap.size ≤ w2.heap.size from hB2.size)
          clear HY0 HN0 hu HS HA hsz hsm hc hnn hBr hown
          cases hok : okT acc with
          | false =>
            have HR : Hid (TbRes (bl s) [] false) := HN.out (fun h => by rw [hok] at h; cases h)
            rw [hok] at KG
            clear HY HN hok hir hownw
            go_wp2_with fail
            refine KG.mono ?_
            rintro e w4 ⟨rfl, hb4⟩
            have hB4 := below_then hB hb4
            clear KG
            go_wp2
            go_ret2
            exact ⟨[], false, _, HR.out, rfl, World.ownsRow_nil _ _ _ _, hB4⟩
          | true =>
            rw [hok] at KG
            have hp := okT_parts hok
            obtain ⟨b, off, rfl⟩ : ∃ b off, la = some ⟨b, off, none⟩ := by
              obtain ⟨a', c', h, hcx⟩ := hir
              injection h with h1 h2 h3
              subst h1
              obtain ⟨b, off, h, _⟩ := hcx (by intro e; rw [e] at hp; simp at hp)
              exact ⟨b, off, h⟩
            have KT := fun w1 h => l7Table_any b off lc acc w1 h hroom hok
            have hir2 := fun w1 (h : Below wr.heap.size wr w1) => hir.below h
            by_cases hT : tb acc = s
            · have HR : Hid (TbRes (bl s) acc true) := HY.out hok (by rw [← hT]; rfl)
              have g1 := tl_eq hT
              rw [hT] at KT
              clear HY HN hok hir hT hp
              go_wp2_with fail
              refine KG.mono ?_
              rintro e w4 ⟨rfl, hb4⟩
              have h4 := hir2 _ hb4
              clear KG hir2
              go_wp2_with fail
              refine (KT _ h4).mono ?_
              rintro e w5 ⟨rfl, hb5⟩
              have hb45 := below_then hb4 hb5
              have hB5 := below_then hB hb45
              have ho5 := hownw _ hb45
              clear KT h4 hb4 hb5 hb45 hownw
              go_wp2
              go_ret2
              exact ⟨acc, true, _, HR.out, rfl, ho5, hB5⟩
            · have HR : Hid (TbRes (bl s) [] false) := HN.out (fun _ h => hT (bl_inj h))
              have g1 := tl_ne hT
              clear HY HN hok hir hT hp hownw
              generalize tb acc = TB at *
              go_wp2_with fail
              refine KG.mono ?_
              rintro e w4 ⟨rfl, hb4⟩
              have h4 := hir2 _ hb4
              clear KG hir2
              go_wp2_with fail
              refine (KT _ h4).mono ?_
              rintro e w5 ⟨rfl, hb5⟩
              have hb45 := below_then hb4 hb5
              have hB5 := below_then hB hb45
              clear KT h4 hb4 hb5 hb45
              go_wp2
              go_ret2
              exact ⟨[], false, _, HR.out, rfl, World.ownsRow_nil _ _ _ _, hB5⟩
end Go.Proofs.YtfdaffnkgpdhhaaGreat

namespace Go.Proofs.YtfdaffnkgpdhhaaGreat
open Go.RowKit
set_option linter.unusedVariables false
set_option maxRecDepth 100000

theorem TbRes.len {s : List UInt8} {l : List It} {ok : Bool} (h : TbRes s l ok) : l.length ≤ 120 := by
  rcases h with ⟨_, h, _⟩ | ⟨_, h, _⟩
  · exact (okT_parts h).2.2
  · rw [h]; simp
theorem specReadT_any (s : ByteArray) (w : World) (hs : s.size ≤ 1048576) : Calls Tryz.prog 22 #[.string s] w (RdT s w) := by
  have K := fun w => l7Read_any s w hs
  go_enter Tryz.func22, Tryz.ntmps22
  go_wp2_with fail
  refine (K _).mono ?_
  rintro e w1 ⟨l, ok, v, hres, rfl, ho, hb⟩
  have HR : Hid (TbRes (bl s) l ok) := hres
  obtain ⟨a, c, rfl⟩ := slice_form ho
  clear K hres
  go_wp2
  go_ret2
  exact ⟨l, ok, _, HR.out, rfl, ho, hb⟩
set_option maxHeartbeats 1000000 in
theorem specIndex_any (s : ByteArray) (w : World) (hs : s.size ≤ 1048576) : Calls Tryz.prog 18 #[.string s] w (IxT s w) := by
  have K := fun w => l7Read_any s w hs
  have KP := fun w => l7Parts_any s w hs
  go_enter Tryz.func18, Tryz.ntmps18
  go_wp2_with fail
  refine (K _).mono ?_
  rintro e w1 ⟨l, ok, v, hres, rfl, ho, hb⟩
  have HR : Hid (TbRes (bl s) l ok) := hres
  obtain ⟨a, c, rfl⟩ := slice_form ho
  clear K ho
  cases ok with
  | false =>
    have hl : l = [] := by rcases hres with ⟨h, _⟩ | ⟨_, h, _⟩; cases h; exact h
    subst hl
    clear hres KP
    go_wp2
    go_ret2
    exact ⟨[], false, .slice none 0 0, HR.out, rfl, World.ownsRow_nil _ _ _ _, hb⟩
  | true =>
    have hok := hres.okT
    have hts : tbL l = bl s := by rcases hres with ⟨_, _, h, _⟩ | ⟨h, _⟩; exact h; cases h
    clear hres
    go_wp2_with fail
    refine (KP _).mono ?_
    rintro e w2 ⟨B, I, F, o2, rfl, hb2, hBz, hIz, hpt⟩
    obtain ⟨rfl, h1, h2⟩ := hpt l hok hts
    have hB2 := below_then hb hb2
    have KI := fun w => l7Index_any I w hIz
    have HI : Hid (bl I = ixL l (nb l)) := h2
    have hz2 := hB2.size
    clear KP hpt h1 h2 hb hb2
    go_wp2_with fail
    refine (KI _).mono ?_
    rintro e w3 ⟨v3, ps, o3, rfl, hb3, hr3, hpl, hnn, hx⟩
    obtain ⟨rfl, rfl⟩ := hx l hok HI.out
    rw [plsL_len] at hr3
    have hB3 := below_then hB2 hb3
    have ho3 := owns_lower hr3 hz2
    obtain ⟨xa, xc, rfl⟩ := slice_form ho3
    clear KI hx hnn hr3 hb3 hB2
    go_wp2
    go_ret2
    exact ⟨l, true, _, HR.out, rfl, ho3, hB3⟩
end Go.Proofs.YtfdaffnkgpdhhaaGreat

