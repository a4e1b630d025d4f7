/-
  An item that is read: spec.l6Item.
-/
import Derived.Test.YtfdaffnkgpdhhaaGreatRz
import Derived.Test.YtfdaffnkgpdhhaaGreatR3
namespace Go.Proofs.YtfdaffnkgpdhhaaGreat
open Go.RowKit
set_option linter.unusedVariables false
set_option maxRecDepth 100000

/-- What l6Item answers. -/
def rdSok (s key : ByteArray) : Bool := rdOk (bl s) (bl key) && decide ((rd (bl s)).r ≤ 16) && decide ((rd (bl s)).z ≤ 40)
def rdSi (s key : ByteArray) : It := if rdSok s key then rdIt (bl s) (bl key) else It.zero
def rdSn (s key : ByteArray) : Nat := if rdSok s key then rdN (bl s) else 0
theorem rdSok_eq (s key : ByteArray) (i a r b m c z d : Nat) (hA : take (bl s) = (i, a)) (hB : take (bl (s.extract a s.size)) = (r, b)) (hC : take (bl (s.extract (a + b) s.size)) = (m, c)) (hD : take (bl (s.extract (a + b + c) s.size)) = (z, d)) :
    rd (bl s) = ⟨i, r, m, z, a + b + c + d, decide (a ≠ 0) && decide (b ≠ 0) && decide (c ≠ 0) && decide (d ≠ 0)⟩ := by
  rw [bl_from] at hB hC hD
  unfold rd
  simp only [hA, hB, hC, hD]
theorem take_facts (s : ByteArray) (a : Nat) (ha : a ≤ s.size) : (take (bl (s.extract a s.size))).1 < 9223372036854775808 ∧ (take (bl (s.extract a s.size))).2 ≤ 9 ∧ a + (take (bl (s.extract a s.size))).2 ≤ s.size := by
  have := take_bound (bl (s.extract a s.size))
  rw [bl_len, ByteArray.size_extract] at this
  omega
theorem rdIt_eq (s key : ByteArray) (i r m z q : Nat) (ok : Bool) (h : rd (bl s) = ⟨i, r, m, z, q, ok⟩) (h1 : q + r ≤ s.size) :
    rdIt (bl s) (bl key) = ⟨key.extract 0 i ++ s.extract q (q + r), (m : Int) / 2, (m : Int) % 2, s.extract (q + r) (q + r + z)⟩ := by
  unfold rdIt
  rw [h]
  have e1 : (⟨((bl key).take i ++ ((bl s).drop q).take r).toArray⟩ : ByteArray) = key.extract 0 i ++ s.extract q (q + r) := by
    apply bl_inj
    rw [bl_cat, bl_to, bl_ext, Nat.add_sub_cancel_left]; rfl
  have e2 : (⟨(((bl s).drop (q + r)).take z).toArray⟩ : ByteArray) = s.extract (q + r) (q + r + z) := by
    apply bl_inj
    rw [bl_ext, Nat.add_sub_cancel_left]; rfl
  simp only [e1, e2]

set_option maxHeartbeats 10000000 in
theorem l6Item_any (s key : ByteArray) (w : World) (hs : s.size ≤ 1048576) (hk : key.size ≤ 1048576) :
    Calls Tryz.prog 123 #[.string s, .string key] w fun e w' => e = .returned (.tuple #[.agg #[.string (rdSi s key).k, .int .i64 (rdSi s key).n, .int .i64 (rdSi s key).d, .string (rdSi s key).v], .int .i64 (rdSn s key : Nat)]) ∧ Below w.heap.size w w' := by
  obtain ⟨fa1, fa2, fa3⟩ := take_bound (bl s)
  rw [bl_len] at fa3
  obtain ⟨fb1, fb2, fb3⟩ := take_facts s (take (bl s)).2 fa3
  obtain ⟨fc1, fc2, fc3⟩ := take_facts s ((take (bl s)).2 + (take (bl (s.extract (take (bl s)).2 s.size))).2) fb3
  obtain ⟨fd1, fd2, fd3⟩ := take_facts s ((take (bl s)).2 + (take (bl (s.extract (take (bl s)).2 s.size))).2 + (take (bl (s.extract ((take (bl s)).2 + (take (bl (s.extract (take (bl s)).2 s.size))).2) s.size))).2) fc3
  rcases hA : take (bl s) with ⟨i, a⟩
  rw [hA] at fa1 fa2 fa3 fb1 fb2 fb3 fc1 fc2 fc3 fd1 fd2 fd3
  simp only at fa1 fa2 fa3 fb1 fb2 fb3 fc1 fc2 fc3 fd1 fd2 fd3
  rcases hB : take (bl (s.extract a s.size)) with ⟨r, b⟩
  rw [hB] at fb1 fb2 fb3 fc1 fc2 fc3 fd1 fd2 fd3
  simp only at fb1 fb2 fb3 fc1 fc2 fc3 fd1 fd2 fd3
  rcases hC : take (bl (s.extract (a + b) s.size)) with ⟨m, c⟩
  rw [hC] at fc1 fc2 fc3 fd1 fd2 fd3
  simp only at fc1 fc2 fc3 fd1 fd2 fd3
  rcases hD : take (bl (s.extract (a + b + c) s.size)) with ⟨z, d⟩
  rw [hD] at fd1 fd2 fd3
  simp only at fd1 fd2 fd3
  have hrd := rdSok_eq s key i a r b m c z d hA hB hC hD
  have KA : ∀ w, Calls Tryz.prog 93 #[.string s] w fun e w' => e = .returned (.tuple #[.int .i64 (i : Nat), .int .i64 (a : Nat)]) ∧ w' = w := fun w => by have := l2Take_any s w (by omega); rw [show take s.data.toList = (i, a) from hA] at this; exact this
  have KB : ∀ w, Calls Tryz.prog 93 #[.string (s.extract a s.size)] w fun e w' => e = .returned (.tuple #[.int .i64 (r : Nat), .int .i64 (b : Nat)]) ∧ w' = w := fun w => by have := l2Take_any (s.extract a s.size) w (by rw [ByteArray.size_extract]; omega); rw [show take (s.extract a s.size).data.toList = (r, b) from hB] at this; exact this
  have KC : ∀ w, Calls Tryz.prog 93 #[.string (s.extract (a + b) s.size)] w fun e w' => e = .returned (.tuple #[.int .i64 (m : Nat), .int .i64 (c : Nat)]) ∧ w' = w := fun w => by have := l2Take_any (s.extract (a + b) s.size) w (by rw [ByteArray.size_extract]; omega); rw [show take (s.extract (a + b) s.size).data.toList = (m, c) from hC] at this; exact this
  have KD : ∀ w, Calls Tryz.prog 93 #[.string (s.extract (a + b + c) s.size)] w fun e w' => e = .returned (.tuple #[.int .i64 (z : Nat), .int .i64 (d : Nat)]) ∧ w' = w := fun w => by have := l2Take_any (s.extract (a + b + c) s.size) w (by rw [ByteArray.size_extract]; omega); rw [show take (s.extract (a + b + c) s.size).data.toList = (z, d) from hD] at this; exact this
  obtain ⟨q, hq⟩ : ∃ q, q = a + b + c + d := ⟨_, rfl⟩
  have E4 : (a : Int) + b + c + d = (q : Int) := by omega
  rw [← hq] at hrd fd3
  have HOK : Hid (rdSok s key = (decide (a ≠ 0) && decide (b ≠ 0) && decide (c ≠ 0) && decide (d ≠ 0) && decide (i ≤ key.size) && decide (q + r + z ≤ s.size) && decide (r ≤ 16) && decide (z ≤ 40))) := by
    show _ = _
    unfold rdSok rdOk
    rw [hrd, bl_len, bl_len]
  have HI : Hid (q + r ≤ s.size → rdIt (bl s) (bl key) = ⟨key.extract 0 i ++ s.extract q (q + r), (m : Int) / 2, (m : Int) % 2, s.extract (q + r) (q + r + z)⟩) := rdIt_eq s key i r m z q _ hrd
  have HN : Hid (rdN (bl s) = q + r + z) := by show _ = _; unfold rdN; rw [hrd]
  clear hrd hA hB hC hD hq
  have X0 := Box.new w #[.string ⟨#[]⟩, .int .i64 0, .int .i64 0, .string ⟨#[]⟩] 33
  have hB0 := below_alloc w (.cells #[.string ⟨#[]⟩, .int .i64 0, .int .i64 0, .string ⟨#[]⟩] 33)
  obtain ⟨W0, hW0⟩ : ∃ W0, W0 = w.alloc (.cells #[.string ⟨#[]⟩, .int .i64 0, .int .i64 0, .string ⟨#[]⟩] 33) := ⟨_, rfl⟩
  rw [← hW0] at X0 hB0
  have HZ0 : Hid (rdSok s key = false → rdSi s key = It.zero ∧ rdSn s key = 0) := fun h => by unfold rdSi rdSn; rw [if_neg (by rw [h]; simp), if_neg (by rw [h]; simp)]; exact ⟨rfl, rfl⟩
  have HY0 : Hid (rdSok s key = true → rdSi s key = rdIt (bl s) (bl key) ∧ rdSn s key = rdN (bl s)) := fun h => by unfold rdSi rdSn; rw [if_pos h, if_pos h]; exact ⟨rfl, rfl⟩
  have W7 : IntKind.i64.wrap ((m : Int) / 2) = (m : Int) / 2 := by rw [IntKind.wrap_i64]; omega
  generalize rdSi s key = RI at *
  generalize rdSn s key = RN at *
  clear fa1 fb1 fc1 fd1
  go_enter Tryz.func123, Tryz.ntmps123
  go_wp2_with fail
  rw [← hW0]; clear hW0
  refine (KA _).mono ?_
  rintro e w1 ⟨rfl, rfl⟩
  go_wp2_with fail
  refine (KB _).mono ?_
  rintro e w1 ⟨rfl, rfl⟩
  go_wp2_with fail
  refine (KC _).mono ?_
  rintro e w1 ⟨rfl, rfl⟩
  go_wp2_with fail
  refine (KD _).mono ?_
  rintro e w1 ⟨rfl, rfl⟩
  clear KA KB KC KD
  cases hok : rdSok s key with
  | false =>
    have HF : Hid ((decide (a ≠ 0) && decide (b ≠ 0) && decide (c ≠ 0) && decide (d ≠ 0) && decide (i ≤ key.size) && decide (q + r + z ≤ s.size) && decide (r ≤ 16) && decide (z ≤ 40)) = false) := by show _ = _; rw [← HOK.out, hok]
    obtain ⟨rfl, rfl⟩ := HZ0.out hok
    clear HOK hok HI HN HZ0 HY0 W7
    obtain ⟨⟨f0, f1, f2, f3⟩, zz, x0, x1, x2, x3⟩ := Box.f4 X0
    by_cases ha : a = 0
    · have gA : ((a : Int) == 0) = true := by simp [ha]
      clear ha HF
      go_wp2
      obtain ⟨⟨r0, r1, r2, r3⟩, hBz⟩ := put4_ok hB0 (Nat.le_refl _) X0 (.string ⟨#[]⟩) (.int .i64 0) (.int .i64 0) (.string ⟨#[]⟩)
      change bodyPost _ _ _ _ _ (put4 _ w.heap.size (.string ⟨#[]⟩) (.int .i64 0) (.int .i64 0) (.string ⟨#[]⟩))
      generalize put4 _ w.heap.size (.string ⟨#[]⟩) (.int .i64 0) (.int .i64 0) (.string ⟨#[]⟩) = W' at *
      exact bodyPost_ret (v := .tuple #[.agg #[.string ⟨#[]⟩, .int .i64 0, .int .i64 0, .string ⟨#[]⟩], .int .i64 0]) (by simp [results, Tryz.results123, go_sem, r0, r1, r2, r3]) rfl ⟨rfl, hBz⟩
    have gA : ((a : Int) == 0) = false := by simp [ha]
    have pA : 0 < a := by omega
    by_cases hb : b = 0
    · have gB : ((b : Int) == 0) = true := by simp [hb]
      clear hb HF
      go_wp2
      obtain ⟨⟨r0, r1, r2, r3⟩, hBz⟩ := put4_ok hB0 (Nat.le_refl _) X0 (.string ⟨#[]⟩) (.int .i64 0) (.int .i64 0) (.string ⟨#[]⟩)
      change bodyPost _ _ _ _ _ (put4 _ w.heap.size (.string ⟨#[]⟩) (.int .i64 0) (.int .i64 0) (.string ⟨#[]⟩))
      generalize put4 _ w.heap.size (.string ⟨#[]⟩) (.int .i64 0) (.int .i64 0) (.string ⟨#[]⟩) = W' at *
      exact bodyPost_ret (v := .tuple #[.agg #[.string ⟨#[]⟩, .int .i64 0, .int .i64 0, .string ⟨#[]⟩], .int .i64 0]) (by simp [results, Tryz.results123, go_sem, r0, r1, r2, r3]) rfl ⟨rfl, hBz⟩
    have gB : ((b : Int) == 0) = false := by simp [hb]
    have pB : 0 < b := by omega
    by_cases hc : c = 0
    · have gC : ((c : Int) == 0) = true := by simp [hc]
      clear hc HF
      go_wp2
      obtain ⟨⟨r0, r1, r2, r3⟩, hBz⟩ := put4_ok hB0 (Nat.le_refl _) X0 (.string ⟨#[]⟩) (.int .i64 0) (.int .i64 0) (.string ⟨#[]⟩)
      change bodyPost _ _ _ _ _ (put4 _ w.heap.size (.string ⟨#[]⟩) (.int .i64 0) (.int .i64 0) (.string ⟨#[]⟩))
      generalize put4 _ w.heap.size (.string ⟨#[]⟩) (.int .i64 0) (.int .i64 0) (.string ⟨#[]⟩) = W' at *
      exact bodyPost_ret (v := .tuple #[.agg #[.string ⟨#[]⟩, .int .i64 0, .int .i64 0, .string ⟨#[]⟩], .int .i64 0]) (by simp [results, Tryz.results123, go_sem, r0, r1, r2, r3]) rfl ⟨rfl, hBz⟩
    have gC : ((c : Int) == 0) = false := by simp [hc]
    have pC : 0 < c := by omega
    by_cases hd : d = 0
    · have gD : ((d : Int) == 0) = true := by simp [hd]
      clear hd HF
      go_wp2
      obtain ⟨⟨r0, r1, r2, r3⟩, hBz⟩ := put4_ok hB0 (Nat.le_refl _) X0 (.string ⟨#[]⟩) (.int .i64 0) (.int .i64 0) (.string ⟨#[]⟩)
      change bodyPost _ _ _ _ _ (put4 _ w.heap.size (.string ⟨#[]⟩) (.int .i64 0) (.int .i64 0) (.string ⟨#[]⟩))
      generalize put4 _ w.heap.size (.string ⟨#[]⟩) (.int .i64 0) (.int .i64 0) (.string ⟨#[]⟩) = W' at *
      exact bodyPost_ret (v := .tuple #[.agg #[.string ⟨#[]⟩, .int .i64 0, .int .i64 0, .string ⟨#[]⟩], .int .i64 0]) (by simp [results, Tryz.results123, go_sem, r0, r1, r2, r3]) rfl ⟨rfl, hBz⟩
    have gD : ((d : Int) == 0) = false := by simp [hd]
    have pD : 0 < d := by omega
    by_cases h5 : i ≤ key.size
    case neg =>
      clear HF
      have h5p : key.size < i := by omega
      go_wp2
      obtain ⟨⟨r0, r1, r2, r3⟩, hBz⟩ := put4_ok hB0 (Nat.le_refl _) X0 (.string ⟨#[]⟩) (.int .i64 0) (.int .i64 0) (.string ⟨#[]⟩)
      change bodyPost _ _ _ _ _ (put4 _ w.heap.size (.string ⟨#[]⟩) (.int .i64 0) (.int .i64 0) (.string ⟨#[]⟩))
      generalize put4 _ w.heap.size (.string ⟨#[]⟩) (.int .i64 0) (.int .i64 0) (.string ⟨#[]⟩) = W' at *
      exact bodyPost_ret (v := .tuple #[.agg #[.string ⟨#[]⟩, .int .i64 0, .int .i64 0, .string ⟨#[]⟩], .int .i64 0]) (by simp [results, Tryz.results123, go_sem, r0, r1, r2, r3]) rfl ⟨rfl, hBz⟩
    have h5n : ¬ key.size < i := by omega
    by_cases h6 : r ≤ 16
    case neg =>
      clear HF
      have h6p : 16 < r := by omega
      go_wp2
      obtain ⟨⟨r0, r1, r2, r3⟩, hBz⟩ := put4_ok hB0 (Nat.le_refl _) X0 (.string ⟨#[]⟩) (.int .i64 0) (.int .i64 0) (.string ⟨#[]⟩)
      change bodyPost _ _ _ _ _ (put4 _ w.heap.size (.string ⟨#[]⟩) (.int .i64 0) (.int .i64 0) (.string ⟨#[]⟩))
      generalize put4 _ w.heap.size (.string ⟨#[]⟩) (.int .i64 0) (.int .i64 0) (.string ⟨#[]⟩) = W' at *
      exact bodyPost_ret (v := .tuple #[.agg #[.string ⟨#[]⟩, .int .i64 0, .int .i64 0, .string ⟨#[]⟩], .int .i64 0]) (by simp [results, Tryz.results123, go_sem, r0, r1, r2, r3]) rfl ⟨rfl, hBz⟩
    have h6n : ¬ 16 < r := by omega
    by_cases h7 : z ≤ 40
    case neg =>
      clear HF
      have h7p : 40 < z := by omega
      go_wp2
      obtain ⟨⟨r0, r1, r2, r3⟩, hBz⟩ := put4_ok hB0 (Nat.le_refl _) X0 (.string ⟨#[]⟩) (.int .i64 0) (.int .i64 0) (.string ⟨#[]⟩)
      change bodyPost _ _ _ _ _ (put4 _ w.heap.size (.string ⟨#[]⟩) (.int .i64 0) (.int .i64 0) (.string ⟨#[]⟩))
      generalize put4 _ w.heap.size (.string ⟨#[]⟩) (.int .i64 0) (.int .i64 0) (.string ⟨#[]⟩) = W' at *
      exact bodyPost_ret (v := .tuple #[.agg #[.string ⟨#[]⟩, .int .i64 0, .int .i64 0, .string ⟨#[]⟩], .int .i64 0]) (by simp [results, Tryz.results123, go_sem, r0, r1, r2, r3]) rfl ⟨rfl, hBz⟩
    have h7n : ¬ 40 < z := by omega
    by_cases h8 : q + r + z ≤ s.size
    · exact absurd HF.out (by simp [ha, hb, hc, hd, h5, h6, h7, h8])
    · clear HF
      obtain ⟨p, hp⟩ : ∃ p, p = q + r := ⟨_, rfl⟩
      obtain ⟨u, hu⟩ : ∃ u, u = p + z := ⟨_, rfl⟩
      have E5 : (q : Int) + r = (p : Int) := by omega
      have E6 : (p : Int) + z = (u : Int) := by omega
      have h8p : s.size < u := by omega
      have h8b : u ≤ 2097152 := by omega
      have h8c : p ≤ 2097152 := by omega
      clear hp hu h8
      go_wp2
      obtain ⟨⟨r0, r1, r2, r3⟩, hBz⟩ := put4_ok hB0 (Nat.le_refl _) X0 (.string ⟨#[]⟩) (.int .i64 0) (.int .i64 0) (.string ⟨#[]⟩)
      change bodyPost _ _ _ _ _ (put4 _ w.heap.size (.string ⟨#[]⟩) (.int .i64 0) (.int .i64 0) (.string ⟨#[]⟩))
      generalize put4 _ w.heap.size (.string ⟨#[]⟩) (.int .i64 0) (.int .i64 0) (.string ⟨#[]⟩) = W' at *
      exact bodyPost_ret (v := .tuple #[.agg #[.string ⟨#[]⟩, .int .i64 0, .int .i64 0, .string ⟨#[]⟩], .int .i64 0]) (by simp [results, Tryz.results123, go_sem, r0, r1, r2, r3]) rfl ⟨rfl, hBz⟩
  | true =>
    have HT : Hid ((decide (a ≠ 0) && decide (b ≠ 0) && decide (c ≠ 0) && decide (d ≠ 0) && decide (i ≤ key.size) && decide (q + r + z ≤ s.size) && decide (r ≤ 16) && decide (z ≤ 40)) = true) := by show _ = _; rw [← HOK.out, hok]
    have HT2 := HT.out
    simp only [Bool.and_eq_true, decide_eq_true_eq] at HT2
    obtain ⟨⟨⟨⟨⟨⟨⟨ha, hb⟩, hc⟩, hd⟩, h5⟩, h8⟩, h6⟩, h7⟩ := HT2
    obtain ⟨y1, y2⟩ := HY0.out hok
    have HRI : RI = ⟨key.extract 0 i ++ s.extract q (q + r), (m : Int) / 2, (m : Int) % 2, s.extract (q + r) (q + r + z)⟩ := y1.trans (HI.out (by omega))
    have HRN : RN = q + r + z := y2.trans HN.out
    clear HOK hok HI HN HT HZ0 HY0 y1 y2
    have gA : ((a : Int) == 0) = false := by simp [ha]
    have gB : ((b : Int) == 0) = false := by simp [hb]
    have gC : ((c : Int) == 0) = false := by simp [hc]
    have gD : ((d : Int) == 0) = false := by simp [hd]
    have pA : 0 < a := by omega
    have pB : 0 < b := by omega
    have pC : 0 < c := by omega
    have pD : 0 < d := by omega
    clear ha hb hc hd
    have n5 : ¬ key.size < i := by omega
    have n6 : ¬ 16 < r := by omega
    have n7 : ¬ 40 < z := by omega
    have n8 : ¬ s.size < q + r + z := by omega
    have hqs : q ≤ s.size := by omega
    have hqr : q + r ≤ s.size := by omega
    have hqr1 : q ≤ q + r := by omega
    have hqz1 : q + r ≤ q + r + z := by omega
    obtain ⟨p, hp⟩ : ∃ p, p = q + r := ⟨_, rfl⟩
    obtain ⟨u, hu⟩ : ∃ u, u = p + z := ⟨_, rfl⟩
    rw [← hp, ← hu] at HRI HRN
    have HRN2 := HRN.symm
    clear HRN
    subst HRI HRN2
    have E5 : (q : Int) + r = (p : Int) := by omega
    have E6 : (p : Int) + z = (u : Int) := by omega
    have W5 : IntKind.i64.wrap (p : Int) = (p : Int) := by rw [IntKind.wrap_i64]; omega
    have W6 : IntKind.i64.wrap (u : Int) = (u : Int) := by rw [IntKind.wrap_i64]; omega
    have W8 : (m : Int).tmod 2 = (m : Int) % 2 := by rw [Int.tmod_eq_emod_of_nonneg (by omega)]
    have hqp : q ≤ p := by omega
    have hpu : p ≤ u := by omega
    have hps : p ≤ s.size := by omega
    have hus : u ≤ s.size := by omega
    have hpq : p - q ≤ 16 := by omega
    rw [← hp] at hqr hqr1 hqz1 h8
    clear hp hu hqr1 hqz1 hqr h8 n8
    have n8 : ¬ s.size < u := by omega
    have sz1 : (key.extract 0 i).size ≤ 1048576 := by rw [ByteArray.size_extract]; omega
    have sz2 : (s.extract q p).size ≤ 16 := by rw [ByteArray.size_extract]; omega
    have hm1 : (0 : Int) ≤ (m : Int) := by omega
    go_wp2_with fail
    have hD : Below w1.heap.size w1 w1.drew := (Below.refl _ _).drew
    replace X0 := X0.below hD
    replace hB0 := below_then hB0 hD
    clear hD
    refine wp_region_held_drew (S := fun _ => True) (by kernel_rfl) trivial (fun hHeld => ?_)
    generalize w1.drew = v0 at *
    refine wpAnyH_take (i := 0) (oi := { dst := some 93, op := Op.move (Operand.tmp 1), type := 9, pos := "l6_block.go:75", after := #[], guard := none }) (v := .string key) rfl (by kernel_rfl) (by kernel_rfl) (by kernel_rfl) (fun _ _ _ h => h) (Or.inl ⟨by rfl, ?_⟩) (by assumption) ?_
    · intro wx hSw
      clear hSw; go_simp; try omega
    simp only [Act.put, List.setIfInBounds_toArray, List.set_cons_zero, List.set_cons_succ]
    refine wpAnyH_take (i := 1) (oi := { dst := some 94, op := Op.move (Operand.tmp 6), type := 3, pos := "l6_block.go:75", after := #[], guard := none }) (v := .int .i64 (i : Int)) rfl (by kernel_rfl) (by kernel_rfl) (by kernel_rfl) (fun _ _ _ h => h) (Or.inl ⟨by rfl, ?_⟩) (by assumption) ?_
    · intro wx hSw
      clear hSw; go_simp; try omega
    simp only [Act.put, List.setIfInBounds_toArray, List.set_cons_zero, List.set_cons_succ]
    refine wpAnyH_take (i := 2) (oi := { dst := some 95, op := Op.slice 9 (Operand.tmp 93) none (some (Operand.tmp 94)) none, type := 9, pos := "l6_block.go:75", after := #[{ on := 0, ground := Ground.data }, { on := 1, ground := Ground.data }], guard := none }) (v := .string (key.extract 0 i)) rfl (by kernel_rfl) (by kernel_rfl) (by kernel_rfl) (fun _ _ _ h => h) (Or.inl ⟨by rfl, ?_⟩) (by assumption) ?_
    · intro wx hSw
      clear hSw; go_simp; try omega
    simp only [Act.put, List.setIfInBounds_toArray, List.set_cons_zero, List.set_cons_succ]
    refine wpAnyH_take (i := 3) (oi := { dst := some 96, op := Op.move (Operand.tmp 0), type := 9, pos := "l6_block.go:75", after := #[], guard := none }) (v := .string s) rfl (by kernel_rfl) (by kernel_rfl) (by kernel_rfl) (fun _ _ _ h => h) (Or.inl ⟨by rfl, ?_⟩) (by assumption) ?_
    · intro wx hSw
      clear hSw; go_simp; try omega
    simp only [Act.put, List.setIfInBounds_toArray, List.set_cons_zero, List.set_cons_succ]
    refine wpAnyH_take (i := 4) (oi := { dst := some 97, op := Op.move (Operand.tmp 14), type := 3, pos := "l6_block.go:75", after := #[], guard := none }) (v := .int .i64 (q : Int)) rfl (by kernel_rfl) (by kernel_rfl) (by kernel_rfl) (fun _ _ _ h => h) (Or.inl ⟨by rfl, ?_⟩) (by assumption) ?_
    · intro wx hSw
      clear hSw; go_simp; try omega
    simp only [Act.put, List.setIfInBounds_toArray, List.set_cons_zero, List.set_cons_succ]
    refine wpAnyH_take (i := 5) (oi := { dst := some 98, op := Op.move (Operand.tmp 14), type := 3, pos := "l6_block.go:75", after := #[], guard := none }) (v := .int .i64 (q : Int)) rfl (by kernel_rfl) (by kernel_rfl) (by kernel_rfl) (fun _ _ _ h => h) (Or.inl ⟨by rfl, ?_⟩) (by assumption) ?_
    · intro wx hSw
      clear hSw; go_simp; try omega
    simp only [Act.put, List.setIfInBounds_toArray, List.set_cons_zero, List.set_cons_succ]
    refine wpAnyH_take (i := 6) (oi := { dst := some 99, op := Op.move (Operand.tmp 8), type := 3, pos := "l6_block.go:75", after := #[], guard := none }) (v := .int .i64 (r : Int)) rfl (by kernel_rfl) (by kernel_rfl) (by kernel_rfl) (fun _ _ _ h => h) (Or.inl ⟨by rfl, ?_⟩) (by assumption) ?_
    · intro wx hSw
      clear hSw; go_simp; try omega
    simp only [Act.put, List.setIfInBounds_toArray, List.set_cons_zero, List.set_cons_succ]
    refine wpAnyH_take (i := 7) (oi := { dst := some 100, op := Op.binOp BinOp.add 3 (Operand.tmp 98) (Operand.tmp 99) 3, type := 3, pos := "l6_block.go:75", after := #[{ on := 5, ground := Ground.data }, { on := 6, ground := Ground.data }], guard := none }) (v := .int .i64 (p : Int)) rfl (by kernel_rfl) (by kernel_rfl) (by kernel_rfl) (fun _ _ _ h => h) (Or.inl ⟨by rfl, ?_⟩) (by assumption) ?_
    · intro wx hSw
      clear hSw; go_simp; try omega
    simp only [Act.put, List.setIfInBounds_toArray, List.set_cons_zero, List.set_cons_succ]
    refine wpAnyH_take (i := 8) (oi := { dst := some 101, op := Op.slice 9 (Operand.tmp 96) (some (Operand.tmp 97)) (some (Operand.tmp 100)) none, type := 9, pos := "l6_block.go:75", after := #[{ on := 3, ground := Ground.data }, { on := 4, ground := Ground.data }, { on := 7, ground := Ground.data }], guard := none }) (v := .string (s.extract q p)) rfl (by kernel_rfl) (by kernel_rfl) (by kernel_rfl) (fun _ _ _ h => h) (Or.inl ⟨by rfl, ?_⟩) (by assumption) ?_
    · intro wx hSw
      clear hSw; go_simp; try omega
    simp only [Act.put, List.setIfInBounds_toArray, List.set_cons_zero, List.set_cons_succ]
    refine wpAnyH_take (i := 9) (oi := { dst := some 102, op := Op.binOp BinOp.add 9 (Operand.tmp 95) (Operand.tmp 101) 9, type := 9, pos := "l6_block.go:75", after := #[{ on := 2, ground := Ground.data }, { on := 8, ground := Ground.data }], guard := none }) (v := .string (key.extract 0 i ++ s.extract q p)) rfl (by kernel_rfl) (by kernel_rfl) (by kernel_rfl) (fun _ _ _ h => h) (Or.inl ⟨by rfl, ?_⟩) (by assumption) ?_
    · intro wx hSw
      clear hSw; go_simp; try omega
    simp only [Act.put, List.setIfInBounds_toArray, List.set_cons_zero, List.set_cons_succ]
    refine wpAnyH_take (i := 10) (oi := { dst := some 103, op := Op.move (Operand.tmp 10), type := 3, pos := "l6_block.go:75", after := #[], guard := none }) (v := .int .i64 (m : Int)) rfl (by kernel_rfl) (by kernel_rfl) (by kernel_rfl) (fun _ _ _ h => h) (Or.inl ⟨by rfl, ?_⟩) (by assumption) ?_
    · intro wx hSw
      clear hSw; go_simp; try omega
    simp only [Act.put, List.setIfInBounds_toArray, List.set_cons_zero, List.set_cons_succ]
    refine wpAnyH_take (i := 11) (oi := { dst := some 104, op := Op.binOp BinOp.quo 3 (Operand.tmp 103) (Operand.const (Value.int IntKind.i64 2)) 3, type := 3, pos := "l6_block.go:75", after := #[{ on := 10, ground := Ground.data }], guard := none }) (v := .int .i64 ((m : Int) / 2)) rfl (by kernel_rfl) (by kernel_rfl) (by kernel_rfl) (fun _ _ _ h => h) (Or.inl ⟨by rfl, ?_⟩) (by assumption) ?_
    · intro wx hSw
      clear hSw; go_simp; try omega
    simp only [Act.put, List.setIfInBounds_toArray, List.set_cons_zero, List.set_cons_succ]
    refine wpAnyH_take (i := 12) (oi := { dst := some 105, op := Op.move (Operand.tmp 10), type := 3, pos := "l6_block.go:75", after := #[], guard := none }) (v := .int .i64 (m : Int)) rfl (by kernel_rfl) (by kernel_rfl) (by kernel_rfl) (fun _ _ _ h => h) (Or.inl ⟨by rfl, ?_⟩) (by assumption) ?_
    · intro wx hSw
      clear hSw; go_simp; try omega
    simp only [Act.put, List.setIfInBounds_toArray, List.set_cons_zero, List.set_cons_succ]
    refine wpAnyH_take (i := 13) (oi := { dst := some 106, op := Op.binOp BinOp.rem 3 (Operand.tmp 105) (Operand.const (Value.int IntKind.i64 2)) 3, type := 3, pos := "l6_block.go:75", after := #[{ on := 12, ground := Ground.data }], guard := none }) (v := .int .i64 ((m : Int) % 2)) rfl (by kernel_rfl) (by kernel_rfl) (by kernel_rfl) (fun _ _ _ h => h) (Or.inl ⟨by rfl, ?_⟩) (by assumption) ?_
    · intro wx hSw
      clear hSw; go_simp; try omega
    simp only [Act.put, List.setIfInBounds_toArray, List.set_cons_zero, List.set_cons_succ]
    refine wpAnyH_take (i := 14) (oi := { dst := some 107, op := Op.move (Operand.tmp 0), type := 9, pos := "l6_block.go:75", after := #[], guard := none }) (v := .string s) rfl (by kernel_rfl) (by kernel_rfl) (by kernel_rfl) (fun _ _ _ h => h) (Or.inl ⟨by rfl, ?_⟩) (by assumption) ?_
    · intro wx hSw
      clear hSw; go_simp; try omega
    simp only [Act.put, List.setIfInBounds_toArray, List.set_cons_zero, List.set_cons_succ]
    refine wpAnyH_take (i := 15) (oi := { dst := some 108, op := Op.move (Operand.tmp 14), type := 3, pos := "l6_block.go:75", after := #[], guard := none }) (v := .int .i64 (q : Int)) rfl (by kernel_rfl) (by kernel_rfl) (by kernel_rfl) (fun _ _ _ h => h) (Or.inl ⟨by rfl, ?_⟩) (by assumption) ?_
    · intro wx hSw
      clear hSw; go_simp; try omega
    simp only [Act.put, List.setIfInBounds_toArray, List.set_cons_zero, List.set_cons_succ]
    refine wpAnyH_take (i := 16) (oi := { dst := some 109, op := Op.move (Operand.tmp 8), type := 3, pos := "l6_block.go:75", after := #[], guard := none }) (v := .int .i64 (r : Int)) rfl (by kernel_rfl) (by kernel_rfl) (by kernel_rfl) (fun _ _ _ h => h) (Or.inl ⟨by rfl, ?_⟩) (by assumption) ?_
    · intro wx hSw
      clear hSw; go_simp; try omega
    simp only [Act.put, List.setIfInBounds_toArray, List.set_cons_zero, List.set_cons_succ]
    refine wpAnyH_take (i := 17) (oi := { dst := some 110, op := Op.binOp BinOp.add 3 (Operand.tmp 108) (Operand.tmp 109) 3, type := 3, pos := "l6_block.go:75", after := #[{ on := 15, ground := Ground.data }, { on := 16, ground := Ground.data }], guard := none }) (v := .int .i64 (p : Int)) rfl (by kernel_rfl) (by kernel_rfl) (by kernel_rfl) (fun _ _ _ h => h) (Or.inl ⟨by rfl, ?_⟩) (by assumption) ?_
    · intro wx hSw
      clear hSw; go_simp; try omega
    simp only [Act.put, List.setIfInBounds_toArray, List.set_cons_zero, List.set_cons_succ]
    refine wpAnyH_take (i := 18) (oi := { dst := some 111, op := Op.move (Operand.tmp 14), type := 3, pos := "l6_block.go:75", after := #[], guard := none }) (v := .int .i64 (q : Int)) rfl (by kernel_rfl) (by kernel_rfl) (by kernel_rfl) (fun _ _ _ h => h) (Or.inl ⟨by rfl, ?_⟩) (by assumption) ?_
    · intro wx hSw
      clear hSw; go_simp; try omega
    simp only [Act.put, List.setIfInBounds_toArray, List.set_cons_zero, List.set_cons_succ]
    refine wpAnyH_take (i := 19) (oi := { dst := some 112, op := Op.move (Operand.tmp 8), type := 3, pos := "l6_block.go:75", after := #[], guard := none }) (v := .int .i64 (r : Int)) rfl (by kernel_rfl) (by kernel_rfl) (by kernel_rfl) (fun _ _ _ h => h) (Or.inl ⟨by rfl, ?_⟩) (by assumption) ?_
    · intro wx hSw
      clear hSw; go_simp; try omega
    simp only [Act.put, List.setIfInBounds_toArray, List.set_cons_zero, List.set_cons_succ]
    refine wpAnyH_take (i := 20) (oi := { dst := some 113, op := Op.binOp BinOp.add 3 (Operand.tmp 111) (Operand.tmp 112) 3, type := 3, pos := "l6_block.go:75", after := #[{ on := 18, ground := Ground.data }, { on := 19, ground := Ground.data }], guard := none }) (v := .int .i64 (p : Int)) rfl (by kernel_rfl) (by kernel_rfl) (by kernel_rfl) (fun _ _ _ h => h) (Or.inl ⟨by rfl, ?_⟩) (by assumption) ?_
    · intro wx hSw
      clear hSw; go_simp; try omega
    simp only [Act.put, List.setIfInBounds_toArray, List.set_cons_zero, List.set_cons_succ]
    refine wpAnyH_take (i := 21) (oi := { dst := some 114, op := Op.move (Operand.tmp 12), type := 3, pos := "l6_block.go:75", after := #[], guard := none }) (v := .int .i64 (z : Int)) rfl (by kernel_rfl) (by kernel_rfl) (by kernel_rfl) (fun _ _ _ h => h) (Or.inl ⟨by rfl, ?_⟩) (by assumption) ?_
    · intro wx hSw
      clear hSw; go_simp; try omega
    simp only [Act.put, List.setIfInBounds_toArray, List.set_cons_zero, List.set_cons_succ]
    refine wpAnyH_take (i := 22) (oi := { dst := some 115, op := Op.binOp BinOp.add 3 (Operand.tmp 113) (Operand.tmp 114) 3, type := 3, pos := "l6_block.go:75", after := #[{ on := 20, ground := Ground.data }, { on := 21, ground := Ground.data }], guard := none }) (v := .int .i64 (u : Int)) rfl (by kernel_rfl) (by kernel_rfl) (by kernel_rfl) (fun _ _ _ h => h) (Or.inl ⟨by rfl, ?_⟩) (by assumption) ?_
    · intro wx hSw
      clear hSw; go_simp; try omega
    simp only [Act.put, List.setIfInBounds_toArray, List.set_cons_zero, List.set_cons_succ]
    refine wpAnyH_take (i := 23) (oi := { dst := some 116, op := Op.slice 9 (Operand.tmp 107) (some (Operand.tmp 110)) (some (Operand.tmp 115)) none, type := 9, pos := "l6_block.go:75", after := #[{ on := 14, ground := Ground.data }, { on := 17, ground := Ground.data }, { on := 22, ground := Ground.data }], guard := none }) (v := .string (s.extract p u)) rfl (by kernel_rfl) (by kernel_rfl) (by kernel_rfl) (fun _ _ _ h => h) (Or.inl ⟨by rfl, ?_⟩) (by assumption) ?_
    · intro wx hSw
      clear hSw; go_simp; try omega
    simp only [Act.put, List.setIfInBounds_toArray, List.set_cons_zero, List.set_cons_succ]
    refine wpAnyH_take (i := 24) (oi := { dst := some 117, op := Op.build 33 #[(0, Operand.tmp 102), (1, Operand.tmp 104), (2, Operand.tmp 106), (3, Operand.tmp 116)], type := 33, pos := "l6_block.go:75", after := #[{ on := 9, ground := Ground.data }, { on := 11, ground := Ground.data }, { on := 13, ground := Ground.data }, { on := 23, ground := Ground.data }], guard := none }) (v := .agg #[.string (key.extract 0 i ++ s.extract q p), .int .i64 ((m : Int) / 2), .int .i64 ((m : Int) % 2), .string (s.extract p u)]) rfl (by kernel_rfl) (by kernel_rfl) (by kernel_rfl) (fun _ _ _ h => h) (Or.inl ⟨by rfl, ?_⟩) (by assumption) ?_
    · intro wx hSw
      clear hSw; go_simp; try omega
    simp only [Act.put, List.setIfInBounds_toArray, List.set_cons_zero, List.set_cons_succ]
    refine wpAnyH_take (i := 25) (oi := { dst := some 118, op := Op.move (Operand.tmp 14), type := 3, pos := "l6_block.go:75", after := #[{ on := 30, ground := Ground.gcOnly Departure.lateStores }], guard := none }) (v := .int .i64 (q : Int)) rfl (by kernel_rfl) (by kernel_rfl) (by kernel_rfl) (fun _ _ _ h => h) (Or.inl ⟨by rfl, ?_⟩) (by assumption) ?_
    · intro wx hSw
      clear hSw; go_simp; try omega
    simp only [Act.put, List.setIfInBounds_toArray, List.set_cons_zero, List.set_cons_succ]
    refine wpAnyH_take (i := 26) (oi := { dst := some 119, op := Op.move (Operand.tmp 8), type := 3, pos := "l6_block.go:75", after := #[{ on := 30, ground := Ground.gcOnly Departure.lateStores }], guard := none }) (v := .int .i64 (r : Int)) rfl (by kernel_rfl) (by kernel_rfl) (by kernel_rfl) (fun _ _ _ h => h) (Or.inl ⟨by rfl, ?_⟩) (by assumption) ?_
    · intro wx hSw
      clear hSw; go_simp; try omega
    simp only [Act.put, List.setIfInBounds_toArray, List.set_cons_zero, List.set_cons_succ]
    refine wpAnyH_take (i := 27) (oi := { dst := some 120, op := Op.binOp BinOp.add 3 (Operand.tmp 118) (Operand.tmp 119) 3, type := 3, pos := "l6_block.go:75", after := #[{ on := 25, ground := Ground.data }, { on := 26, ground := Ground.data }, { on := 30, ground := Ground.gcOnly Departure.lateStores }], guard := none }) (v := .int .i64 (p : Int)) rfl (by kernel_rfl) (by kernel_rfl) (by kernel_rfl) (fun _ _ _ h => h) (Or.inl ⟨by rfl, ?_⟩) (by assumption) ?_
    · intro wx hSw
      clear hSw; go_simp; try omega
    simp only [Act.put, List.setIfInBounds_toArray, List.set_cons_zero, List.set_cons_succ]
    refine wpAnyH_take (i := 28) (oi := { dst := some 121, op := Op.move (Operand.tmp 12), type := 3, pos := "l6_block.go:75", after := #[{ on := 30, ground := Ground.gcOnly Departure.lateStores }], guard := none }) (v := .int .i64 (z : Int)) rfl (by kernel_rfl) (by kernel_rfl) (by kernel_rfl) (fun _ _ _ h => h) (Or.inl ⟨by rfl, ?_⟩) (by assumption) ?_
    · intro wx hSw
      clear hSw; go_simp; try omega
    simp only [Act.put, List.setIfInBounds_toArray, List.set_cons_zero, List.set_cons_succ]
    refine wpAnyH_take (i := 29) (oi := { dst := some 122, op := Op.binOp BinOp.add 3 (Operand.tmp 120) (Operand.tmp 121) 3, type := 3, pos := "l6_block.go:75", after := #[{ on := 27, ground := Ground.data }, { on := 28, ground := Ground.data }, { on := 30, ground := Ground.gcOnly Departure.lateStores }], guard := none }) (v := .int .i64 (u : Int)) rfl (by kernel_rfl) (by kernel_rfl) (by kernel_rfl) (fun _ _ _ h => h) (Or.inl ⟨by rfl, ?_⟩) (by assumption) ?_
    · intro wx hSw
      clear hSw; go_simp; try omega
    simp only [Act.put, List.setIfInBounds_toArray, List.set_cons_zero, List.set_cons_succ]
    refine wpAnyH_ready (rs := [30]) (by kernel_rfl) (by simp) ?_
    refine AllReadyH.cons (o := { dst := none, op := Op.store 33 (Operand.tmp 4) (Operand.tmp 117), type := 0, pos := "l6_block.go:75", after := #[{ on := 24, ground := Ground.data }, { on := 0, ground := Ground.phase }, { on := 1, ground := Ground.phase }, { on := 2, ground := Ground.phase }, { on := 3, ground := Ground.phase }, { on := 4, ground := Ground.phase }, { on := 5, ground := Ground.phase }, { on := 6, ground := Ground.phase }, { on := 7, ground := Ground.phase }, { on := 8, ground := Ground.phase }, { on := 9, ground := Ground.phase }, { on := 10, ground := Ground.phase }, { on := 11, ground := Ground.phase }, { on := 12, ground := Ground.phase }, { on := 13, ground := Ground.phase }, { on := 14, ground := Ground.phase }, { on := 15, ground := Ground.phase }, { on := 16, ground := Ground.phase }, { on := 17, ground := Ground.phase }, { on := 18, ground := Ground.phase }, { on := 19, ground := Ground.phase }, { on := 20, ground := Ground.phase }, { on := 21, ground := Ground.phase }, { on := 22, ground := Ground.phase }, { on := 23, ground := Ground.phase }, { on := 24, ground := Ground.phase }, { on := 25, ground := Ground.textOnly Departure.lateStores }, { on := 26, ground := Ground.textOnly Departure.lateStores }, { on := 27, ground := Ground.textOnly Departure.lateStores }, { on := 28, ground := Ground.textOnly Departure.lateStores }, { on := 29, ground := Ground.textOnly Departure.lateStores }], guard := none }) rfl (fun K hK => ?_) AllReadyH.nil
    obtain ⟨⟨f0, f1, f2, f3⟩, zz, x0, x1, x2, x3⟩ := Box.f4 X0
    obtain ⟨⟨r0, r1, r2, r3⟩, hB⟩ := put4_ok hB0 (Nat.le_refl _) X0 (.string (key.extract 0 i ++ s.extract q p)) (.int .i64 ((m : Int) / 2)) (.int .i64 ((m : Int) % 2)) (.string (s.extract p u))
    go_simp
    refine hK.out _ (put4 v0 w.heap.size (.string (key.extract 0 i ++ s.extract q p)) (.int .i64 ((m : Int) / 2)) (.int .i64 ((m : Int) % 2)) (.string (s.extract p u))) trivial (fun _ => ?_)
    clear hK K x0 x1 x2 x3 f0 f1 f2 f3 X0 zz
    generalize put4 v0 w.heap.size (.string (key.extract 0 i ++ s.extract q p)) (.int .i64 ((m : Int) / 2)) (.int .i64 ((m : Int) % 2)) (.string (s.extract p u)) = W' at *
    refine wpAnyH_take (i := 31) (oi := { dst := some 5, op := Op.assign (Operand.tmp 122), type := 3, pos := "l6_block.go:75", after := #[{ on := 29, ground := Ground.data }, { on := 30, ground := Ground.chain }, { on := 0, ground := Ground.phase }, { on := 1, ground := Ground.phase }, { on := 2, ground := Ground.phase }, { on := 3, ground := Ground.phase }, { on := 4, ground := Ground.phase }, { on := 5, ground := Ground.phase }, { on := 6, ground := Ground.phase }, { on := 7, ground := Ground.phase }, { on := 8, ground := Ground.phase }, { on := 9, ground := Ground.phase }, { on := 10, ground := Ground.phase }, { on := 11, ground := Ground.phase }, { on := 12, ground := Ground.phase }, { on := 13, ground := Ground.phase }, { on := 14, ground := Ground.phase }, { on := 15, ground := Ground.phase }, { on := 16, ground := Ground.phase }, { on := 17, ground := Ground.phase }, { on := 18, ground := Ground.phase }, { on := 19, ground := Ground.phase }, { on := 20, ground := Ground.phase }, { on := 21, ground := Ground.phase }, { on := 22, ground := Ground.phase }, { on := 23, ground := Ground.phase }, { on := 24, ground := Ground.phase }, { on := 25, ground := Ground.phase }, { on := 26, ground := Ground.phase }, { on := 27, ground := Ground.phase }, { on := 28, ground := Ground.phase }, { on := 29, ground := Ground.phase }, { on := 30, ground := Ground.phase }], guard := none }) (v := .int .i64 (u : Int)) rfl (by kernel_rfl) (by kernel_rfl) (by kernel_rfl) (fun _ _ _ h => h) (Or.inl ⟨by rfl, ?_⟩) (by assumption) ?_
    · intro wx hSw
      clear hSw; go_simp; try omega
    simp only [Act.put, List.setIfInBounds_toArray, List.set_cons_zero, List.set_cons_succ]
    refine wpAnyH_done (by kernel_rfl) ?_ _
    go_wp2
    exact bodyPost_ret (v := .tuple #[.agg #[.string (key.extract 0 i ++ s.extract q p), .int .i64 ((m : Int) / 2), .int .i64 ((m : Int) % 2), .string (s.extract p u)], .int .i64 (u : Int)]) (by simp [results, Tryz.results123, go_sem, r0, r1, r2, r3]) rfl ⟨rfl, hB⟩
end Go.Proofs.YtfdaffnkgpdhhaaGreat
