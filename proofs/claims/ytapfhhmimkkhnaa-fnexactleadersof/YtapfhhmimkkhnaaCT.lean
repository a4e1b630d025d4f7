/-
  From the reading of an argument to the rows of a cluster.
-/
import Derived.Test.YtapfhhmimkkhnaaCB
import Derived.Test.YtapfhhmimkkhnaaLLDToO9
namespace Go.Proofs.Ytapfhhmimkkhnaa
open Go.RowKit Go.Deep Go.Joins
set_option linter.unusedVariables false
set_option maxRecDepth 100000

theorem cells136 : Try.prog.cellsOf 136 = 2 := by kernel_rfl
theorem cells49 : Try.prog.cellsOf 49 = 9 := by kernel_rfl
theorem cells142 : Try.prog.cellsOf 142 = 9 := by kernel_rfl
theorem cells145 : Try.prog.cellsOf 145 = 2 := by kernel_rfl
theorem cells70 : Try.prog.cellsOf 70 = 3 := by kernel_rfl

theorem NW_of_trod {H : Type} {enc : TypeId × Value → H} {w : World} {base : Nat} {spare : Nat → Bool} {held : Bool} {fuel : Nat} {v : Value} {x : DataW H × List MemPlace} {f0 f1 f2 f3 f4 f5 f6 f7 f8 : Field}
    (he : Try.prog.underlying 49 = some (.struct #[f0, f1, f2, f3, f4, f5, f6, f7, f8])) (hone : oneCellFields Try.prog #[f0, f1, f2, f3, f4, f5, f6, f7, f8] = true) (u0 : Try.prog.underlying f0.type = some (.int .i64)) (u1 : Try.prog.underlying f1.type = some (.int .i64)) (u2 : Try.prog.underlying f2.type = some (.int .i64)) (u3 : Try.prog.underlying f3.type = some (.int .i64)) (u5 : Try.prog.underlying f5.type = some (.int .i64)) (u6 : Try.prog.underlying f6.type = some (.int .i64)) (t4 : f4.type = 47) (t7 : f7.type = 24) (t8 : f8.type = 24)
    (h : DataW.trod enc Try.prog w base spare held fuel 66 [v] = some x) : ∃ l : List Nv, NW w v l ∧ l.length ≤ maxLen ∧ ∀ i (hi : i < l.length), NE w (l[i]) ∧ NZ (l[i]) := by
  obtain ⟨p0, k0⟩ := hone_of hone 0 f0 rfl
  obtain ⟨p1, k1⟩ := hone_of hone 1 f1 rfl
  obtain ⟨p2, k2⟩ := hone_of hone 2 f2 rfl
  obtain ⟨p3, k3⟩ := hone_of hone 3 f3 rfl
  obtain ⟨p4, k4⟩ := hone_of hone 4 f4 rfl
  obtain ⟨p5, k5⟩ := hone_of hone 5 f5 rfl
  obtain ⟨p6, k6⟩ := hone_of hone 6 f6 rfl
  obtain ⟨p7, k7⟩ := hone_of hone 7 f7 rfl
  obtain ⟨p8, k8⟩ := hone_of hone 8 f8 rfl
  rcases open_slice Try.underlying66 h with ⟨hv, _⟩ | ⟨a, len, cap, m, n, D, Pl, hv, hb, hl, hm, hmm, hx, hel⟩
  · simp only [List.cons.injEq, and_true] at hv
    subst hv
    exact ⟨[], ⟨none, 0, rfl, fun h => absurd rfl h⟩, by simp, by simp⟩
  · simp only [List.cons.injEq, and_true] at hv
    subst hv
    have hlm : len ≤ m := by rw [hmm]; split <;> omega
    have each : ∀ i, i < len → ∃ s : Nv, (w.cell? ((a.add (i * 9)).add 0) = some (.int .i64 s.n.id) ∧ w.cell? ((a.add (i * 9)).add 1) = some (.int .i64 s.n.pe) ∧ w.cell? ((a.add (i * 9)).add 2) = some (.int .i64 s.n.te) ∧ w.cell? ((a.add (i * 9)).add 3) = some (.int .i64 s.n.vo) ∧ w.cell? ((a.add (i * 9)).add 4) = some (.slice s.la s.n.log.length s.lc) ∧ w.cell? ((a.add (i * 9)).add 5) = some (.int .i64 s.n.co) ∧ w.cell? ((a.add (i * 9)).add 6) = some (.int .i64 s.n.ro) ∧ w.cell? ((a.add (i * 9)).add 7) = some (.slice s.va s.n.vs.length s.vc) ∧ w.cell? ((a.add (i * 9)).add 8) = some (.slice s.ma s.n.mt.length s.mc)) ∧ NE w (s) ∧ NZ (s) := by
      intro i hi
      obtain ⟨cs', h1, h2⟩ := hel i (by omega)
      rw [cells49] at h1
      obtain ⟨_, hlen, hcell⟩ := World.cells?_some h1
      obtain ⟨xs, k, hk, hxy, _, hxl, hf⟩ := DataW.trod_struct he h2
      match xs, hxl, cs', hlen with
      | [y0, y1, y2, y3, y4, y5, y6, y7, y8], _, [c0, c1, c2, c3, c4, c5, c6, c7, c8], _ =>
        have g0 := hf 0 f0 rfl
        have g1 := hf 1 f1 rfl
        have g2 := hf 2 f2 rfl
        have g3 := hf 3 f3 rfl
        have g4 := hf 4 f4 rfl
        have g5 := hf 5 f5 rfl
        have g6 := hf 6 f6 rfl
        have g7 := hf 7 f7 rfl
        have g8 := hf 8 f8 rfl
        simp [p0, k0] at g0
        simp [p1, k1] at g1
        simp [p2, k2] at g2
        simp [p3, k3] at g3
        simp [p4, k4] at g4
        simp [p5, k5] at g5
        simp [p6, k6] at g6
        simp [p7, k7] at g7
        simp [p8, k8] at g8
        rw [t4] at g4
        rw [t7] at g7
        rw [t8] at g8
        obtain ⟨z0, e0, _, _⟩ := DataW.trod_int u0 g0
        simp only [List.cons.injEq, and_true] at e0
        subst e0
        obtain ⟨z1, e1, _, _⟩ := DataW.trod_int u1 g1
        simp only [List.cons.injEq, and_true] at e1
        subst e1
        obtain ⟨z2, e2, _, _⟩ := DataW.trod_int u2 g2
        simp only [List.cons.injEq, and_true] at e2
        subst e2
        obtain ⟨z3, e3, _, _⟩ := DataW.trod_int u3 g3
        simp only [List.cons.injEq, and_true] at e3
        subst e3
        obtain ⟨z5, e5, _, _⟩ := DataW.trod_int u5 g5
        simp only [List.cons.injEq, and_true] at e5
        subst e5
        obtain ⟨z6, e6, _, _⟩ := DataW.trod_int u6 g6
        simp only [List.cons.injEq, and_true] at e6
        subst e6
        obtain ⟨l4, P4, n4, s4⟩ := ER_of_trod Try.underlying47 Try.underlying136 cells136 (by kernel_rfl) Try.underlying3 Try.underlying9 g4
        obtain ⟨l7, P7, n7⟩ := IL_of_trod g7
        obtain ⟨l8, P8, n8⟩ := IL_of_trod g8
        obtain ⟨la, lc, rfl, r4⟩ := P4
        obtain ⟨va, vc, rfl, r7⟩ := P7
        obtain ⟨ma, mc, rfl, r8⟩ := P8
        exact ⟨⟨⟨z0, z1, z2, z3, z5, z6, l4, l7, l8⟩, la, lc, va, vc, ma, mc⟩, ⟨hcell 0 (by omega), hcell 1 (by omega), hcell 2 (by omega), hcell 3 (by omega), hcell 4 (by omega), hcell 5 (by omega), hcell 6 (by omega), hcell 7 (by omega), hcell 8 (by omega)⟩, ⟨⟨la, lc, rfl, r4⟩, ⟨va, vc, rfl, r7⟩, ⟨ma, mc, rfl, r8⟩⟩, n4, n7, n8, s4⟩
    have all : ∀ i, ∃ s : Nv, i < len → (w.cell? ((a.add (i * 9)).add 0) = some (.int .i64 s.n.id) ∧ w.cell? ((a.add (i * 9)).add 1) = some (.int .i64 s.n.pe) ∧ w.cell? ((a.add (i * 9)).add 2) = some (.int .i64 s.n.te) ∧ w.cell? ((a.add (i * 9)).add 3) = some (.int .i64 s.n.vo) ∧ w.cell? ((a.add (i * 9)).add 4) = some (.slice s.la s.n.log.length s.lc) ∧ w.cell? ((a.add (i * 9)).add 5) = some (.int .i64 s.n.co) ∧ w.cell? ((a.add (i * 9)).add 6) = some (.int .i64 s.n.ro) ∧ w.cell? ((a.add (i * 9)).add 7) = some (.slice s.va s.n.vs.length s.vc) ∧ w.cell? ((a.add (i * 9)).add 8) = some (.slice s.ma s.n.mt.length s.mc)) ∧ NE w (s) ∧ NZ (s) := by
      intro i
      by_cases hi : i < len
      · obtain ⟨q, hq⟩ := each i hi
        exact ⟨q, fun _ => hq⟩
      · exact ⟨Nv.zero, fun h => absurd h hi⟩
    obtain ⟨F, hF⟩ := Classical.skolem.1 all
    have hlen : ((List.range len).map F).length = len := by simp
    refine ⟨(List.range len).map F, ⟨some a, cap, by rw [hlen], fun hne => ?_⟩, by rw [hlen]; omega, fun i hi => ?_⟩
    · have hpos : 0 < len := by
        rcases Nat.eq_zero_or_pos len with h0 | h0
        · subst h0; simp at hne
        · exact h0
      have hc0 := (hF 0 hpos).1.1
      have hsp : a.spot = none := by
        have := World.cell?_spot hc0
        simpa [Addr.add] using this
      obtain ⟨b, off, spot⟩ := a
      simp only at hsp
      subst hsp
      have hbl := World.block_lt_of_cell? _ _ hc0
      have add5 : ∀ i j : Nat, ((⟨b, off, none⟩ : Addr).add (i * 9)).add j = ⟨b, off + i * 9 + j, none⟩ := by
        intro i j
        by_cases h1 : i = 0
        · subst h1; by_cases h2 : j = 0 <;> simp [Addr.add, h2]
        · have h3 : ¬ (i * 9 = 0) := by omega
          by_cases h2 : j = 0 <;> simp [Addr.add, h2, h3]
      refine ⟨b, off, rfl, by simpa [Addr.add] using hbl, fun i hi => ?_⟩
      have hi' : i < len := by simpa using hi
      obtain ⟨⟨q0, q1, q2, q3, q4, q5, q6, q7, q8⟩, _⟩ := hF i hi'
      rw [add5] at q0 q1 q2 q3 q4 q5 q6 q7 q8
      have hg : ((List.range len).map F)[i] = F i := by simp
      rw [hg]
      exact ⟨q0, q1, q2, q3, q4, q5, q6, q7, q8⟩
    · have hi' : i < len := by simpa using hi
      have hg : ((List.range len).map F)[i] = F i := by simp
      rw [hg]
      exact (hF i hi').2

theorem MW_of_trod {H : Type} {enc : TypeId × Value → H} {w : World} {base : Nat} {spare : Nat → Bool} {held : Bool} {fuel : Nat} {v : Value} {x : DataW H × List MemPlace} {f0 f1 f2 f3 f4 f5 f6 f7 f8 : Field}
    (he : Try.prog.underlying 142 = some (.struct #[f0, f1, f2, f3, f4, f5, f6, f7, f8])) (hone : oneCellFields Try.prog #[f0, f1, f2, f3, f4, f5, f6, f7, f8] = true) (u0 : Try.prog.underlying f0.type = some (.int .i64)) (u1 : Try.prog.underlying f1.type = some (.int .i64)) (u2 : Try.prog.underlying f2.type = some (.int .i64)) (u3 : Try.prog.underlying f3.type = some (.int .i64)) (u4 : Try.prog.underlying f4.type = some (.int .i64)) (u5 : Try.prog.underlying f5.type = some (.int .i64)) (u7 : Try.prog.underlying f7.type = some (.int .i64)) (u8 : Try.prog.underlying f8.type = some .bool) (t6 : f6.type = 47)
    (h : DataW.trod enc Try.prog w base spare held fuel 67 [v] = some x) : ∃ l : List Mv, MW w v l ∧ l.length ≤ maxLen ∧ ∀ i (hi : i < l.length), ME w (l[i]) ∧ MZ (l[i]) := by
  obtain ⟨p0, k0⟩ := hone_of hone 0 f0 rfl
  obtain ⟨p1, k1⟩ := hone_of hone 1 f1 rfl
  obtain ⟨p2, k2⟩ := hone_of hone 2 f2 rfl
  obtain ⟨p3, k3⟩ := hone_of hone 3 f3 rfl
  obtain ⟨p4, k4⟩ := hone_of hone 4 f4 rfl
  obtain ⟨p5, k5⟩ := hone_of hone 5 f5 rfl
  obtain ⟨p6, k6⟩ := hone_of hone 6 f6 rfl
  obtain ⟨p7, k7⟩ := hone_of hone 7 f7 rfl
  obtain ⟨p8, k8⟩ := hone_of hone 8 f8 rfl
  rcases open_slice Try.underlying67 h with ⟨hv, _⟩ | ⟨a, len, cap, m, n, D, Pl, hv, hb, hl, hm, hmm, hx, hel⟩
  · simp only [List.cons.injEq, and_true] at hv
    subst hv
    exact ⟨[], ⟨none, 0, rfl, fun h => absurd rfl h⟩, by simp, by simp⟩
  · simp only [List.cons.injEq, and_true] at hv
    subst hv
    have hlm : len ≤ m := by rw [hmm]; split <;> omega
    have each : ∀ i, i < len → ∃ s : Mv, (w.cell? ((a.add (i * 9)).add 0) = some (.int .i64 s.q.ki) ∧ w.cell? ((a.add (i * 9)).add 1) = some (.int .i64 s.q.fr) ∧ w.cell? ((a.add (i * 9)).add 2) = some (.int .i64 s.q.dst) ∧ w.cell? ((a.add (i * 9)).add 3) = some (.int .i64 s.q.te) ∧ w.cell? ((a.add (i * 9)).add 4) = some (.int .i64 s.q.ix) ∧ w.cell? ((a.add (i * 9)).add 5) = some (.int .i64 s.q.be) ∧ w.cell? ((a.add (i * 9)).add 6) = some (.slice s.ea s.q.es.length s.ec) ∧ w.cell? ((a.add (i * 9)).add 7) = some (.int .i64 s.q.co) ∧ w.cell? ((a.add (i * 9)).add 8) = some (.bool s.q.ye)) ∧ ME w (s) ∧ MZ (s) := by
      intro i hi
      obtain ⟨cs', h1, h2⟩ := hel i (by omega)
      rw [cells142] at h1
      obtain ⟨_, hlen, hcell⟩ := World.cells?_some h1
      obtain ⟨xs, k, hk, hxy, _, hxl, hf⟩ := DataW.trod_struct he h2
      match xs, hxl, cs', hlen with
      | [y0, y1, y2, y3, y4, y5, y6, y7, y8], _, [c0, c1, c2, c3, c4, c5, c6, c7, c8], _ =>
        have g0 := hf 0 f0 rfl
        have g1 := hf 1 f1 rfl
        have g2 := hf 2 f2 rfl
        have g3 := hf 3 f3 rfl
        have g4 := hf 4 f4 rfl
        have g5 := hf 5 f5 rfl
        have g6 := hf 6 f6 rfl
        have g7 := hf 7 f7 rfl
        have g8 := hf 8 f8 rfl
        simp [p0, k0] at g0
        simp [p1, k1] at g1
        simp [p2, k2] at g2
        simp [p3, k3] at g3
        simp [p4, k4] at g4
        simp [p5, k5] at g5
        simp [p6, k6] at g6
        simp [p7, k7] at g7
        simp [p8, k8] at g8
        rw [t6] at g6
        obtain ⟨z0, e0, _, _⟩ := DataW.trod_int u0 g0
        simp only [List.cons.injEq, and_true] at e0
        subst e0
        obtain ⟨z1, e1, _, _⟩ := DataW.trod_int u1 g1
        simp only [List.cons.injEq, and_true] at e1
        subst e1
        obtain ⟨z2, e2, _, _⟩ := DataW.trod_int u2 g2
        simp only [List.cons.injEq, and_true] at e2
        subst e2
        obtain ⟨z3, e3, _, _⟩ := DataW.trod_int u3 g3
        simp only [List.cons.injEq, and_true] at e3
        subst e3
        obtain ⟨z4, e4, _, _⟩ := DataW.trod_int u4 g4
        simp only [List.cons.injEq, and_true] at e4
        subst e4
        obtain ⟨z5, e5, _, _⟩ := DataW.trod_int u5 g5
        simp only [List.cons.injEq, and_true] at e5
        subst e5
        obtain ⟨z7, e7, _, _⟩ := DataW.trod_int u7 g7
        simp only [List.cons.injEq, and_true] at e7
        subst e7
        obtain ⟨z8, e8, _⟩ := DataW.trod_bool u8 g8
        simp only [List.cons.injEq, and_true] at e8
        subst e8
        obtain ⟨l6, P6, n6, s6⟩ := ER_of_trod Try.underlying47 Try.underlying136 cells136 (by kernel_rfl) Try.underlying3 Try.underlying9 g6
        obtain ⟨ea, ec, rfl, r6⟩ := P6
        exact ⟨⟨⟨z0, z1, z2, z3, z4, z5, z7, z8, l6⟩, ea, ec⟩, ⟨hcell 0 (by omega), hcell 1 (by omega), hcell 2 (by omega), hcell 3 (by omega), hcell 4 (by omega), hcell 5 (by omega), hcell 6 (by omega), hcell 7 (by omega), hcell 8 (by omega)⟩, ⟨ea, ec, rfl, r6⟩, n6, s6⟩
    have all : ∀ i, ∃ s : Mv, i < len → (w.cell? ((a.add (i * 9)).add 0) = some (.int .i64 s.q.ki) ∧ w.cell? ((a.add (i * 9)).add 1) = some (.int .i64 s.q.fr) ∧ w.cell? ((a.add (i * 9)).add 2) = some (.int .i64 s.q.dst) ∧ w.cell? ((a.add (i * 9)).add 3) = some (.int .i64 s.q.te) ∧ w.cell? ((a.add (i * 9)).add 4) = some (.int .i64 s.q.ix) ∧ w.cell? ((a.add (i * 9)).add 5) = some (.int .i64 s.q.be) ∧ w.cell? ((a.add (i * 9)).add 6) = some (.slice s.ea s.q.es.length s.ec) ∧ w.cell? ((a.add (i * 9)).add 7) = some (.int .i64 s.q.co) ∧ w.cell? ((a.add (i * 9)).add 8) = some (.bool s.q.ye)) ∧ ME w (s) ∧ MZ (s) := by
      intro i
      by_cases hi : i < len
      · obtain ⟨q, hq⟩ := each i hi
        exact ⟨q, fun _ => hq⟩
      · exact ⟨Mv.zero, fun h => absurd h hi⟩
    obtain ⟨F, hF⟩ := Classical.skolem.1 all
    have hlen : ((List.range len).map F).length = len := by simp
    refine ⟨(List.range len).map F, ⟨some a, cap, by rw [hlen], fun hne => ?_⟩, by rw [hlen]; omega, fun i hi => ?_⟩
    · have hpos : 0 < len := by
        rcases Nat.eq_zero_or_pos len with h0 | h0
        · subst h0; simp at hne
        · exact h0
      have hc0 := (hF 0 hpos).1.1
      have hsp : a.spot = none := by
        have := World.cell?_spot hc0
        simpa [Addr.add] using this
      obtain ⟨b, off, spot⟩ := a
      simp only at hsp
      subst hsp
      have hbl := World.block_lt_of_cell? _ _ hc0
      have add5 : ∀ i j : Nat, ((⟨b, off, none⟩ : Addr).add (i * 9)).add j = ⟨b, off + i * 9 + j, none⟩ := by
        intro i j
        by_cases h1 : i = 0
        · subst h1; by_cases h2 : j = 0 <;> simp [Addr.add, h2]
        · have h3 : ¬ (i * 9 = 0) := by omega
          by_cases h2 : j = 0 <;> simp [Addr.add, h2, h3]
      refine ⟨b, off, rfl, by simpa [Addr.add] using hbl, fun i hi => ?_⟩
      have hi' : i < len := by simpa using hi
      obtain ⟨⟨q0, q1, q2, q3, q4, q5, q6, q7, q8⟩, _⟩ := hF i hi'
      rw [add5] at q0 q1 q2 q3 q4 q5 q6 q7 q8
      have hg : ((List.range len).map F)[i] = F i := by simp
      rw [hg]
      exact ⟨q0, q1, q2, q3, q4, q5, q6, q7, q8⟩
    · have hi' : i < len := by simpa using hi
      have hg : ((List.range len).map F)[i] = F i := by simp
      rw [hg]
      exact (hF i hi').2

theorem LW_of_trod {H : Type} {enc : TypeId × Value → H} {w : World} {base : Nat} {spare : Nat → Bool} {held : Bool} {fuel : Nat} {v : Value} {x : DataW H × List MemPlace} {f0 f1 : Field}
    (he : Try.prog.underlying 145 = some (.struct #[f0, f1])) (hone : oneCellFields Try.prog #[f0, f1] = true) (u0 : Try.prog.underlying f0.type = some (.int .i64)) (u1 : Try.prog.underlying f1.type = some (.int .i64))
    (h : DataW.trod enc Try.prog w base spare held fuel 68 [v] = some x) : ∃ l : List Ld, LW w v l ∧ l.length ≤ maxLen ∧ ∀ i (hi : i < l.length), True := by
  obtain ⟨p0, k0⟩ := hone_of hone 0 f0 rfl
  obtain ⟨p1, k1⟩ := hone_of hone 1 f1 rfl
  rcases open_slice Try.underlying68 h with ⟨hv, _⟩ | ⟨a, len, cap, m, n, D, Pl, hv, hb, hl, hm, hmm, hx, hel⟩
  · simp only [List.cons.injEq, and_true] at hv
    subst hv
    exact ⟨[], ⟨none, 0, rfl, fun h => absurd rfl h⟩, by simp, by simp⟩
  · simp only [List.cons.injEq, and_true] at hv
    subst hv
    have hlm : len ≤ m := by rw [hmm]; split <;> omega
    have each : ∀ i, i < len → ∃ s : Ld, (w.cell? ((a.add (i * 2)).add 0) = some (.int .i64 s.t) ∧ w.cell? ((a.add (i * 2)).add 1) = some (.int .i64 s.n)) ∧ True := by
      intro i hi
      obtain ⟨cs', h1, h2⟩ := hel i (by omega)
      rw [cells145] at h1
      obtain ⟨_, hlen, hcell⟩ := World.cells?_some h1
      obtain ⟨xs, k, hk, hxy, _, hxl, hf⟩ := DataW.trod_struct he h2
      match xs, hxl, cs', hlen with
      | [y0, y1], _, [c0, c1], _ =>
        have g0 := hf 0 f0 rfl
        have g1 := hf 1 f1 rfl
        simp [p0, k0] at g0
        simp [p1, k1] at g1
        obtain ⟨z0, e0, _, _⟩ := DataW.trod_int u0 g0
        simp only [List.cons.injEq, and_true] at e0
        subst e0
        obtain ⟨z1, e1, _, _⟩ := DataW.trod_int u1 g1
        simp only [List.cons.injEq, and_true] at e1
        subst e1
        exact ⟨⟨z0, z1⟩, ⟨hcell 0 (by omega), hcell 1 (by omega)⟩, trivial⟩
    have all : ∀ i, ∃ s : Ld, i < len → (w.cell? ((a.add (i * 2)).add 0) = some (.int .i64 s.t) ∧ w.cell? ((a.add (i * 2)).add 1) = some (.int .i64 s.n)) ∧ True := by
      intro i
      by_cases hi : i < len
      · obtain ⟨q, hq⟩ := each i hi
        exact ⟨q, fun _ => hq⟩
      · exact ⟨Ld.zero, fun h => absurd h hi⟩
    obtain ⟨F, hF⟩ := Classical.skolem.1 all
    have hlen : ((List.range len).map F).length = len := by simp
    refine ⟨(List.range len).map F, ⟨some a, cap, by rw [hlen], fun hne => ?_⟩, by rw [hlen]; omega, fun i hi => ?_⟩
    · have hpos : 0 < len := by
        rcases Nat.eq_zero_or_pos len with h0 | h0
        · subst h0; simp at hne
        · exact h0
      have hc0 := (hF 0 hpos).1.1
      have hsp : a.spot = none := by
        have := World.cell?_spot hc0
        simpa [Addr.add] using this
      obtain ⟨b, off, spot⟩ := a
      simp only at hsp
      subst hsp
      have hbl := World.block_lt_of_cell? _ _ hc0
      have add5 : ∀ i j : Nat, ((⟨b, off, none⟩ : Addr).add (i * 2)).add j = ⟨b, off + i * 2 + j, none⟩ := by
        intro i j
        by_cases h1 : i = 0
        · subst h1; by_cases h2 : j = 0 <;> simp [Addr.add, h2]
        · have h3 : ¬ (i * 2 = 0) := by omega
          by_cases h2 : j = 0 <;> simp [Addr.add, h2, h3]
      refine ⟨b, off, rfl, by simpa [Addr.add] using hbl, fun i hi => ?_⟩
      have hi' : i < len := by simpa using hi
      obtain ⟨⟨q0, q1⟩, _⟩ := hF i hi'
      rw [add5] at q0 q1
      have hg : ((List.range len).map F)[i] = F i := by simp
      rw [hg]
      exact ⟨q0, q1⟩
    · have hi' : i < len := by simpa using hi
      have hg : ((List.range len).map F)[i] = F i := by simp
      skip
      exact (hF i hi').2

/-- A cluster that is read is one in memory. -/
theorem CR_of_trod {H : Type} {enc : TypeId × Value → H} {w : World} {base : Nat} {spare : Nat → Bool} {held : Bool} {f1 f2 f3 : Nat} {v1 v2 v3 : Value} {x1 x2 x3 : DataW H × List MemPlace}
    (h1 : DataW.trod enc Try.prog w base spare held f1 66 [v1] = some x1) (h2 : DataW.trod enc Try.prog w base spare held f2 67 [v2] = some x2) (h3 : DataW.trod enc Try.prog w base spare held f3 68 [v3] = some x3) :
    ∃ (N : List Nv) (M : List Mv) (L : List Ld), CR w v1 v2 v3 N M L ∧ N.length ≤ maxLen ∧ M.length ≤ maxLen ∧ L.length ≤ maxLen ∧ (∀ i (h : i < N.length), NZ N[i]) ∧ ∀ i (h : i < M.length), MZ M[i] := by
  obtain ⟨N, a1, a2, a3⟩ := NW_of_trod Try.underlying49 (by kernel_rfl) Try.underlying3 Try.underlying3 Try.underlying3 Try.underlying3 Try.underlying3 Try.underlying3 rfl rfl rfl h1
  obtain ⟨M, b1, b2, b3⟩ := MW_of_trod Try.underlying142 (by kernel_rfl) Try.underlying3 Try.underlying3 Try.underlying3 Try.underlying3 Try.underlying3 Try.underlying3 Try.underlying3 Try.underlying4 rfl h2
  obtain ⟨L, c1, c2, _⟩ := LW_of_trod Try.underlying145 (by kernel_rfl) Try.underlying3 Try.underlying3 h3
  exact ⟨N, M, L, ⟨a1, b1, c1, fun i hi => (a3 i hi).1, fun i hi => (b3 i hi).1⟩, a2, b2, c2, fun i hi => (a3 i hi).2, fun i hi => (b3 i hi).2⟩
end Go.Proofs.Ytapfhhmimkkhnaa
