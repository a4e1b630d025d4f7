/-
  Messages marked and held; messageTo; AppendFor: the program's side.
  Messages without entries, in a row: rows of nine cells; eqRaftMsgS, markRaftMsgS, heldRaftMsgS.
-/
import Derived.Test.YtapfhhmimkkhnaaC1ToM1
import Derived.Test.YtapfhhmimkkhnaaU1
import Derived.Test.YtapfhhmimkkhnaaG1
namespace Go.Proofs.Ytapfhhmimkkhnaa
open Go.RowKit Go.Maps
set_option linter.unusedVariables false
set_option maxRecDepth 100000

/-- A message. -/
structure Ms where
  ki : Int
  fr : Int
  dst : Int
  te : Int
  ix : Int
  be : Int
  co : Int
  ye : Bool
  es : List En
def Ms.zero : Ms := ⟨0, 0, 0, 0, 0, 0, 0, false, []⟩

theorem messageTo_any (id pe te vo co ro peer kind : Int) (vl vv vm : Value) (w : World) :
    Calls Try.prog 65 #[.agg #[.int .i64 id, .int .i64 pe, .int .i64 te, .int .i64 vo, vl, .int .i64 co, .int .i64 ro, vv, vm], .int .i64 peer, .int .i64 kind] w fun e w' => e = .returned (.agg #[.int .i64 kind, .int .i64 id, .int .i64 peer, .int .i64 te, .int .i64 0, .int .i64 0, .slice none 0 0, .int .i64 0, .bool false]) ∧ Below w.heap.size w w' := by
  go_enter Try.func65, Try.ntmps65
  go_wp2
  exact bodyPost_ret (v := .agg #[.int .i64 kind, .int .i64 id, .int .i64 peer, .int .i64 te, .int .i64 0, .int .i64 0, .slice none 0 0, .int .i64 0, .bool false]) (by simp [results, Try.results65, go_sem]) rfl ⟨rfl, below2 _ _ _⟩

def afOk (g : Bool) (id pe ro peer many : Int) : Bool := g && (decide (ro = 2) && (isP peer pe && (!decide (peer = id) && (decide (0 ≤ many) && decide (many ≤ 60)))))
def afE (log : List En) (at_ many : Nat) : List En := (log.drop at_).take (min many (log.length - at_))
def afM (ok : Bool) (id te co peer many : Int) (log : List En) (mt : List Int) : Ms :=
  if ok then ⟨3, id, peer, te, mt.getD peer.toNat 0, tmAt log (mt.getD peer.toNat 0).toNat, co, false, afE log (mt.getD peer.toNat 0).toNat many.toNat⟩ else Ms.zero
theorem goodN_mt {id pe te vo co : Int} {log : List En} {vs mt : List Int} (h : goodN id pe te vo co 2 log vs mt = true) (i : Nat) (hi : i < mt.length) : 0 ≤ mt[i] ∧ mt[i] ≤ (log.length : Int) := by
  rw [goodN_spec, goodRo_2] at h
  simp only [goodMt, Bool.and_eq_true] at h
  have hg := h.2.2.2.2.2.2.2.2.2.1
  unfold gM at hg
  rw [List.all_eq_true] at hg
  have := hg mt[i] (List.getElem_mem hi)
  simpa using this
end Go.Proofs.Ytapfhhmimkkhnaa

namespace Go.Proofs.Ytapfhhmimkkhnaa
open Go.RowKit Go.Maps
set_option linter.unusedVariables false
set_option maxRecDepth 100000

/-- A message without entries. -/
structure Mq where
  ki : Int
  fr : Int
  dst : Int
  te : Int
  ix : Int
  be : Int
  co : Int
  ye : Bool
def flat9 : List Mq → List Value
  | [] => []
  | s :: r => .int .i64 s.ki :: .int .i64 s.fr :: .int .i64 s.dst :: .int .i64 s.te :: .int .i64 s.ix :: .int .i64 s.be :: .slice none 0 0 :: .int .i64 s.co :: .bool s.ye :: flat9 r
theorem flat9_length (l : List Mq) : (flat9 l).length = l.length * 9 := by
  induction l with
  | nil => rfl
  | cons x r ih => simp only [flat9, List.length_cons, ih]; omega
theorem flat9_append (l m : List Mq) : flat9 (l ++ m) = flat9 l ++ flat9 m := by
  induction l with
  | nil => rfl
  | cons x r ih => simp only [List.cons_append, flat9, ih]
theorem flat9_get (l : List Mq) (i : Nat) (h : i < l.length) : (flat9 l)[i * 9]? = some (.int .i64 l[i].ki) ∧ (flat9 l)[i * 9 + 1]? = some (.int .i64 l[i].fr) ∧ (flat9 l)[i * 9 + 2]? = some (.int .i64 l[i].dst) ∧ (flat9 l)[i * 9 + 3]? = some (.int .i64 l[i].te) ∧ (flat9 l)[i * 9 + 4]? = some (.int .i64 l[i].ix) ∧ (flat9 l)[i * 9 + 5]? = some (.int .i64 l[i].be) ∧ (flat9 l)[i * 9 + 6]? = some (.slice none 0 0) ∧ (flat9 l)[i * 9 + 7]? = some (.int .i64 l[i].co) ∧ (flat9 l)[i * 9 + 8]? = some (.bool l[i].ye) := by
  induction l generalizing i with
  | nil => simp at h
  | cons x r ih =>
    cases i with
    | zero => exact ⟨rfl, rfl, rfl, rfl, rfl, rfl, rfl, rfl, rfl⟩
    | succ i =>
      have := ih i (by simpa using h)
      simp only [flat9, List.getElem_cons_succ]
      have e : ∀ (m : Nat) (q0 q1 q2 q3 q4 q5 q6 q7 q8 : Value) (L : List Value), (q0 :: q1 :: q2 :: q3 :: q4 :: q5 :: q6 :: q7 :: q8 :: L)[(i + 1) * 9 + m]? = L[i * 9 + m]? := by
        intro m q0 q1 q2 q3 q4 q5 q6 q7 q8 L
        rw [show (i + 1) * 9 + m = (i * 9 + m) + 1 + 1 + 1 + 1 + 1 + 1 + 1 + 1 + 1 from by omega]
        simp only [List.getElem?_cons_succ]
      have e0 := e 0
      simp only [Nat.add_zero] at e0
      rw [e0, e 1, e 2, e 3, e 4, e 5, e 6, e 7, e 8]
      exact this
theorem flat9_set (l : List Mq) (i : Nat) (s : Mq) : ((((((((flat9 l).set (i * 9) (.int .i64 s.ki)).set (i * 9 + 1) (.int .i64 s.fr)).set (i * 9 + 2) (.int .i64 s.dst)).set (i * 9 + 3) (.int .i64 s.te)).set (i * 9 + 4) (.int .i64 s.ix)).set (i * 9 + 5) (.int .i64 s.be)).set (i * 9 + 7) (.int .i64 s.co)).set (i * 9 + 8) (.bool s.ye) = flat9 (l.set i s) := by
  induction l generalizing i with
  | nil => simp [flat9]
  | cons x r ih =>
    cases i with
    | zero => simp [flat9]
    | succ i =>
      have e : ∀ (m : Nat) (v q0 q1 q2 q3 q4 q5 q6 q7 q8 : Value) (L : List Value), (q0 :: q1 :: q2 :: q3 :: q4 :: q5 :: q6 :: q7 :: q8 :: L).set ((i + 1) * 9 + m) v = q0 :: q1 :: q2 :: q3 :: q4 :: q5 :: q6 :: q7 :: q8 :: L.set (i * 9 + m) v := by
        intro m v q0 q1 q2 q3 q4 q5 q6 q7 q8 L
        rw [show (i + 1) * 9 + m = (i * 9 + m) + 1 + 1 + 1 + 1 + 1 + 1 + 1 + 1 + 1 from by omega]
        simp only [List.set_cons_succ]
      have e0 := e 0
      simp only [Nat.add_zero] at e0
      simp only [flat9, List.set_cons_succ]
      rw [e0, e 1, e 2, e 3, e 4, e 5, e 7, e 8, ih i]
/-- The value v is a slice of the messages l. -/
def MR (w : World) (v : Value) (l : List Mq) : Prop :=
  ∃ a cap, v = .slice a l.length cap ∧ (l ≠ [] → ∃ b off, a = some ⟨b, off, none⟩ ∧ b < w.heap.size ∧
    ∀ i (h : i < l.length), w.cell? ⟨b, off + i * 9, none⟩ = some (.int .i64 l[i].ki) ∧ w.cell? ⟨b, off + i * 9 + 1, none⟩ = some (.int .i64 l[i].fr) ∧ w.cell? ⟨b, off + i * 9 + 2, none⟩ = some (.int .i64 l[i].dst) ∧ w.cell? ⟨b, off + i * 9 + 3, none⟩ = some (.int .i64 l[i].te) ∧ w.cell? ⟨b, off + i * 9 + 4, none⟩ = some (.int .i64 l[i].ix) ∧ w.cell? ⟨b, off + i * 9 + 5, none⟩ = some (.int .i64 l[i].be) ∧ w.cell? ⟨b, off + i * 9 + 6, none⟩ = some (.slice none 0 0) ∧ w.cell? ⟨b, off + i * 9 + 7, none⟩ = some (.int .i64 l[i].co) ∧ w.cell? ⟨b, off + i * 9 + 8, none⟩ = some (.bool l[i].ye))
theorem MR.below {w w' : World} {v : Value} {l : List Mq} (h : MR w v l) (hb : Below w.heap.size w w') : MR w' v l := by
  obtain ⟨a, cap, hv, hc⟩ := h
  refine ⟨a, cap, hv, fun hl => ?_⟩
  obtain ⟨b, off, ha, hbl, hcell⟩ := hc hl
  refine ⟨b, off, ha, Nat.lt_of_lt_of_le hbl hb.size, fun i hi => ?_⟩
  obtain ⟨c0, c1, c2, c3, c4, c5, c6, c7, c8⟩ := hcell i hi
  exact ⟨(hb.cell (p := ⟨b, off + i * 9, none⟩) hbl).trans c0, (hb.cell (p := ⟨b, off + i * 9 + 1, none⟩) hbl).trans c1, (hb.cell (p := ⟨b, off + i * 9 + 2, none⟩) hbl).trans c2, (hb.cell (p := ⟨b, off + i * 9 + 3, none⟩) hbl).trans c3, (hb.cell (p := ⟨b, off + i * 9 + 4, none⟩) hbl).trans c4, (hb.cell (p := ⟨b, off + i * 9 + 5, none⟩) hbl).trans c5, (hb.cell (p := ⟨b, off + i * 9 + 6, none⟩) hbl).trans c6, (hb.cell (p := ⟨b, off + i * 9 + 7, none⟩) hbl).trans c7, (hb.cell (p := ⟨b, off + i * 9 + 8, none⟩) hbl).trans c8⟩
theorem MR_of_owns {w : World} {base n : Nat} {e : TypeId} {v : Value} {l : List Mq} (h : w.ownsRow base e 9 v n (flat9 l)) (hn : n = l.length) : MR w v l := by
  subst hn
  have h' := h
  obtain ⟨hl, h⟩ := h
  rcases h with ⟨rfl, h0⟩ | ⟨g, cap, cur, rfl, hbg, hh, hcap, hm, hsz, htk⟩
  · exact ⟨none, 0, by rw [h0], fun hne => absurd (List.length_eq_zero_iff.1 h0) hne⟩
  · refine ⟨_, cap, rfl, fun _ => ⟨g, 0, rfl, (Array.getElem?_eq_some_iff.1 hh).1, fun i hi => ?_⟩⟩
    obtain ⟨g0, g1, g2, g3, g4, g5, g6, g7, g8⟩ := flat9_get l i hi
    rw [Nat.zero_add]
    exact ⟨by rw [h'.cellAt (i * 9) (by omega), g0], by rw [h'.cellAt (i * 9 + 1) (by omega), g1], by rw [h'.cellAt (i * 9 + 2) (by omega), g2], by rw [h'.cellAt (i * 9 + 3) (by omega), g3], by rw [h'.cellAt (i * 9 + 4) (by omega), g4], by rw [h'.cellAt (i * 9 + 5) (by omega), g5], by rw [h'.cellAt (i * 9 + 6) (by omega), g6], by rw [h'.cellAt (i * 9 + 7) (by omega), g7], by rw [h'.cellAt (i * 9 + 8) (by omega), g8]⟩
theorem owns9_at {w : World} {base : Nat} {e : TypeId} {g cap n : Nat} {xs : List Value} (h : w.ownsRow base e 9 (.slice (some ⟨g, 0, none⟩) n cap) n xs) (i : Nat) (hi : i < n) (j : Nat) (hj : j < 9) :
    (∃ u, w.cell? ⟨g, i * 9 + j, none⟩ = some u) ∧ w.frozen? ⟨g, i * 9 + j, none⟩ = false := by
  have hl := h.1
  refine ⟨?_, h.frozenAt _⟩
  rw [h.cellAt (i * 9 + j) (by omega)]
  exact ⟨_, List.getElem?_eq_getElem (by omega)⟩
set_option maxHeartbeats 4000000 in
theorem eqMsgS_same (u v : Value) (l : List Mq) (w : World) (hu : MR w u l) (hv : MR w v l) (hn : l.length ≤ 1048576) :
    Calls Try.prog 28 #[u, v] w fun e w' => e = .returned (.bool true) ∧ Below w.heap.size w w' := by
  obtain ⟨a, cap, rfl, hc⟩ := hu
  obtain ⟨a', cap', rfl, hc'⟩ := hv
  go_enter Try.func28, Try.ntmps28
  go_wp2
  go_loopw [5] (fun i wr => ∃ k : Nat, k ≤ l.length ∧ i = .int .i64 k ∧ Below w.heap.size w wr) (fun i _ => l.length - (intOf i).toNat)
  case atStart => exact ⟨0, Nat.zero_le _, rfl, Below.refl _ _⟩
  case round =>
    obtain ⟨k, hk, rfl, hb⟩ := hrel
    by_cases hlt : k < l.length
    · obtain ⟨b, off, rfl, hbl, hcell⟩ := hc (by intro e; simp [e] at hlt)
      obtain ⟨b', off', rfl, hbl', hcell'⟩ := hc' (by intro e; simp [e] at hlt)
      obtain ⟨z0, z1, z2, z3, z4, z5, z6, z7, z8⟩ := hcell k hlt
      obtain ⟨y0, y1, y2, y3, y4, y5, y6, y7, y8⟩ := hcell' k hlt
      have hc0 := (hb.cell (p := ⟨b, off + k * 9, none⟩) hbl).trans z0
      have hd0 := (hb.cell (p := ⟨b', off' + k * 9, none⟩) hbl').trans y0
      have hc1 := (hb.cell (p := ⟨b, off + k * 9 + 1, none⟩) hbl).trans z1
      have hd1 := (hb.cell (p := ⟨b', off' + k * 9 + 1, none⟩) hbl').trans y1
      have hc2 := (hb.cell (p := ⟨b, off + k * 9 + 2, none⟩) hbl).trans z2
      have hd2 := (hb.cell (p := ⟨b', off' + k * 9 + 2, none⟩) hbl').trans y2
      have hc3 := (hb.cell (p := ⟨b, off + k * 9 + 3, none⟩) hbl).trans z3
      have hd3 := (hb.cell (p := ⟨b', off' + k * 9 + 3, none⟩) hbl').trans y3
      have hc4 := (hb.cell (p := ⟨b, off + k * 9 + 4, none⟩) hbl).trans z4
      have hd4 := (hb.cell (p := ⟨b', off' + k * 9 + 4, none⟩) hbl').trans y4
      have hc5 := (hb.cell (p := ⟨b, off + k * 9 + 5, none⟩) hbl).trans z5
      have hd5 := (hb.cell (p := ⟨b', off' + k * 9 + 5, none⟩) hbl').trans y5
      have hc6 := (hb.cell (p := ⟨b, off + k * 9 + 6, none⟩) hbl).trans z6
      have hd6 := (hb.cell (p := ⟨b', off' + k * 9 + 6, none⟩) hbl').trans y6
      have hc7 := (hb.cell (p := ⟨b, off + k * 9 + 7, none⟩) hbl).trans z7
      have hd7 := (hb.cell (p := ⟨b', off' + k * 9 + 7, none⟩) hbl').trans y7
      have hc8 := (hb.cell (p := ⟨b, off + k * 9 + 8, none⟩) hbl).trans z8
      have hd8 := (hb.cell (p := ⟨b', off' + k * 9 + 8, none⟩) hbl').trans y8
      clear hcell hc hcell' hc' z0 y0 z1 y1 z2 y2 z3 y3 z4 y4 z5 y5 z6 y6 z7 y7 z8 y8
      generalize l[k] = s at *
      obtain ⟨s0, s1, s2, s3, s4, s5, s7, s8⟩ := s
      dsimp only at hc0 hd0 hc1 hd1 hc2 hd2 hc3 hd3 hc4 hd4 hc5 hd5 hc6 hd6 hc7 hd7 hc8 hd8
      have hz := hb.size
      go_wp2_with fail
      go_region_held3 (fun w' => (w'.cell? ⟨b, off + k * 9, none⟩ = some (.int .i64 s0) ∧ w'.cell? ⟨b, off + k * 9 + 1, none⟩ = some (.int .i64 s1) ∧ w'.cell? ⟨b, off + k * 9 + 2, none⟩ = some (.int .i64 s2) ∧ w'.cell? ⟨b, off + k * 9 + 3, none⟩ = some (.int .i64 s3) ∧ w'.cell? ⟨b, off + k * 9 + 4, none⟩ = some (.int .i64 s4) ∧ w'.cell? ⟨b, off + k * 9 + 5, none⟩ = some (.int .i64 s5) ∧ w'.cell? ⟨b, off + k * 9 + 6, none⟩ = some (.slice none 0 0) ∧ w'.cell? ⟨b, off + k * 9 + 7, none⟩ = some (.int .i64 s7) ∧ w'.cell? ⟨b, off + k * 9 + 8, none⟩ = some (.bool s8)) ∧ w'.cell? ⟨b', off' + k * 9, none⟩ = some (.int .i64 s0) ∧ w'.cell? ⟨b', off' + k * 9 + 1, none⟩ = some (.int .i64 s1) ∧ w'.cell? ⟨b', off' + k * 9 + 2, none⟩ = some (.int .i64 s2) ∧ w'.cell? ⟨b', off' + k * 9 + 3, none⟩ = some (.int .i64 s3) ∧ w'.cell? ⟨b', off' + k * 9 + 4, none⟩ = some (.int .i64 s4) ∧ w'.cell? ⟨b', off' + k * 9 + 5, none⟩ = some (.int .i64 s5) ∧ w'.cell? ⟨b', off' + k * 9 + 6, none⟩ = some (.slice none 0 0) ∧ w'.cell? ⟨b', off' + k * 9 + 7, none⟩ = some (.int .i64 s7) ∧ w'.cell? ⟨b', off' + k * 9 + 8, none⟩ = some (.bool s8)) (go_keep)
        (first | (go_at_call 84; refine (eqMsg_same s0 s1 s2 s3 s4 s5 s7 s8 (.slice none 0 0) (.slice none 0 0) [] _ (ER_nil _) (ER_nil _) (by simp)).mono ?_; rintro e w1 ⟨rfl, hb1'⟩; have hb1 := below_undrew hb1'; have hbl2 : b < wr.heap.size := (by omega); have hbl3 : b' < wr.heap.size := (by omega); replace hc0 := (hb1.cell (p := ⟨b, off + k * 9, none⟩) hbl2).trans hc0; replace hc1 := (hb1.cell (p := ⟨b, off + k * 9 + 1, none⟩) hbl2).trans hc1; replace hc2 := (hb1.cell (p := ⟨b, off + k * 9 + 2, none⟩) hbl2).trans hc2; replace hc3 := (hb1.cell (p := ⟨b, off + k * 9 + 3, none⟩) hbl2).trans hc3; replace hc4 := (hb1.cell (p := ⟨b, off + k * 9 + 4, none⟩) hbl2).trans hc4; replace hc5 := (hb1.cell (p := ⟨b, off + k * 9 + 5, none⟩) hbl2).trans hc5; replace hc6 := (hb1.cell (p := ⟨b, off + k * 9 + 6, none⟩) hbl2).trans hc6; replace hc7 := (hb1.cell (p := ⟨b, off + k * 9 + 7, none⟩) hbl2).trans hc7; replace hc8 := (hb1.cell (p := ⟨b, off + k * 9 + 8, none⟩) hbl2).trans hc8; replace hd0 := (hb1.cell (p := ⟨b', off' + k * 9, none⟩) hbl3).trans hd0; replace hd1 := (hb1.cell (p := ⟨b', off' + k * 9 + 1, none⟩) hbl3).trans hd1; replace hd2 := (hb1.cell (p := ⟨b', off' + k * 9 + 2, none⟩) hbl3).trans hd2; replace hd3 := (hb1.cell (p := ⟨b', off' + k * 9 + 3, none⟩) hbl3).trans hd3; replace hd4 := (hb1.cell (p := ⟨b', off' + k * 9 + 4, none⟩) hbl3).trans hd4; replace hd5 := (hb1.cell (p := ⟨b', off' + k * 9 + 5, none⟩) hbl3).trans hd5; replace hd6 := (hb1.cell (p := ⟨b', off' + k * 9 + 6, none⟩) hbl3).trans hd6; replace hd7 := (hb1.cell (p := ⟨b', off' + k * 9 + 7, none⟩) hbl3).trans hd7; replace hd8 := (hb1.cell (p := ⟨b', off' + k * 9 + 8, none⟩) hbl3).trans hd8))
      go_wp2
      go_roundw
      case rel => exact ⟨k + 1, by omega, by go_num, hb.trans (hb1.mono hz)⟩
      case measure => simp [intOf]; omega
    · clear hc hc'
      go_wp2
      go_ret
      exact ⟨rfl, hb⟩

/-- The message marked from k on. -/
def mkQ (k : Int) : Mq := ⟨k, k + 1, k + 1 + 1, k + 1 + 1 + 1, k + 1 + 1 + 1 + 1, k + 1 + 1 + 1 + 1 + 1, k + 1 + 1 + 1 + 1 + 1 + 1, (k + 1 + 1 + 1 + 1 + 1 + 1 + 1) % 3 == 0⟩
def mkQs (k : Int) (n : Nat) : List Mq := (List.range n).map fun j : Nat => mkQ (k + 8 * (j : Int))
theorem mkQs_length (k : Int) (n : Nat) : (mkQs k n).length = n := by simp [mkQs]
theorem mkQs_at (k : Int) (n j : Nat) (h : j < n) : (mkQs k n)[j]'(by rw [mkQs_length]; exact h) = mkQ (k + 8 * (j : Int)) := by simp [mkQs]
def mkPQ (l : List Mq) (k : Int) (j : Nat) : List Mq := (mkQs k l.length).take j ++ l.drop j
theorem mkPQ_set (l : List Mq) (k : Int) (j : Nat) (h : j < l.length) : (mkPQ l k j).set j (mkQ (k + 8 * (j : Int))) = mkPQ l k (j + 1) := by
  unfold mkPQ
  have h1 : ((mkQs k l.length).take j).length = j := by rw [List.length_take, mkQs_length]; omega
  rw [List.set_append_right _ _ (by omega), h1, Nat.sub_self, List.take_succ_eq_append_getElem (by rw [mkQs_length]; exact h), mkQs_at k _ j h, List.drop_eq_getElem_cons h, List.set_cons_zero, List.append_assoc]
  rfl
theorem mkPQ_all (l : List Mq) (k : Int) : mkPQ l k l.length = mkQs k l.length := by
  unfold mkPQ
  rw [List.take_of_length_le (by rw [mkQs_length]; omega), List.drop_eq_nil_of_le (by omega), List.append_nil]
theorem mkPQ_zero (l : List Mq) (k : Int) : mkPQ l k 0 = l := by simp [mkPQ]
end Go.Proofs.Ytapfhhmimkkhnaa
