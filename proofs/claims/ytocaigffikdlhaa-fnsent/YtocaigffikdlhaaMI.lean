/-
  What is missing: plainly; both MissingIn.
-/
import Derived.Test.YtocaigffikdlhaaFD
namespace Go.Proofs.Ytocaigffikdlhaa
open Go.RowKit Go.Maps
set_option linter.unusedVariables false
set_option maxRecDepth 100000

def msP (G : List Ck) (c : Ck) : Bool := !hasC G c.n c.d
def msL (W : List Wt) (G : List Ck) : List Ck := (plL W).filter (msP G)
def msR (W : List Wt) (G : List Ck) : List Ck := if gtB W G then msL W G else []
theorem gtB_iff (W : List Wt) (G : List Ck) : gtB W G = true ↔ wOk W ∧ G.length ≤ 200 ∧ gcB W G = true := by
  unfold gtB
  rw [Bool.and_eq_true, Bool.and_eq_true, gwB_iff, decide_eq_true_eq]
  exact ⟨fun ⟨⟨a, b⟩, c⟩ => ⟨a, b, c⟩, fun ⟨a, b, c⟩ => ⟨⟨a, b⟩, c⟩⟩
theorem msL_len (W : List Wt) (G : List Ck) (h : wOk W) : (msL W G).length ≤ 756 := Nat.le_trans (List.length_filter_le _ _) (plL_len h)
theorem msR_len (W : List Wt) (G : List Ck) : (msR W G).length ≤ 1000 := by
  unfold msR
  cases h : gtB W G with
  | false => simp
  | true => have := msL_len W G ((gtB_iff W G).1 h).1; simp; omega
/-- From one place to the next. -/
theorem IsPl.step {W : List Wt} {G : List Ck} {f j k : Nat} (h : IsPl G ⟨(f : Int), 64 * (j : Int), ⟨#[]⟩, 0⟩ k) (hg : gcB W G = true) : IsPl G ⟨(f : Int), 64 * ((j + 1 : Nat) : Int), ⟨#[]⟩, 0⟩ (k + if hasC G f (64 * (j : Int)) = true then 1 else 0) := by
  have hh := h.has (gcB_srt hg)
  dsimp only at hh
  have hft : ∀ i (hi : i < G.length), G[i].d % 64 = 0 := fun i hi => ((ftB_iff _ _).1 (gcB_ft hg i hi)).2.2.2.2.1
  by_cases hc : hasC G f (64 * (j : Int)) = true
  · rw [if_pos hc]
    obtain ⟨hk, h1, h2⟩ := hh.1 hc
    refine ⟨by omega, fun i hi h3 => ?_, fun i hi h3 => ?_⟩
    · rcases Nat.eq_or_lt_of_le (show i ≤ k from by omega) with e | e
      · subst e; rw [ltC_iff]; dsimp only; omega
      · have := h.lt i hi e; rw [ltC_iff] at this ⊢; dsimp only at this ⊢; omega
    · have a := gcB_srt hg k i hk hi (by omega)
      have b := hft i hi
      rw [Bool.eq_false_iff]
      intro q
      rw [ltC_iff] at a q
      dsimp only at q
      omega
  · rw [if_neg hc, Nat.add_zero]
    refine ⟨h.le, fun i hi h3 => ?_, fun i hi h3 => ?_⟩
    · have := h.lt i hi h3; rw [ltC_iff] at this ⊢; dsimp only at this ⊢; omega
    · have a := h.ge i hi h3
      have b := hft i hi
      have n : ¬ (G[i].n = f ∧ G[i].d = 64 * (j : Int)) := fun e => hc ((hasC_iff _ _ _).2 ⟨i, hi, e⟩)
      rw [Bool.eq_false_iff] at a ⊢
      intro q
      apply a
      rw [ltC_iff] at q ⊢
      dsimp only at q ⊢
      omega
theorem IsPl.next {W : List Wt} {G : List Ck} {f k : Nat} (hf : f < W.length) (h : IsPl G ⟨(f : Int), 64 * ((np W[f].t : Nat) : Int), ⟨#[]⟩, 0⟩ k) (hg : gcB W G = true) : IsPl G ⟨((f + 1 : Nat) : Int), 0, ⟨#[]⟩, 0⟩ k := by
  refine ⟨h.le, fun i hi h3 => ?_, fun i hi h3 => ?_⟩
  · have := h.lt i hi h3; rw [ltC_iff] at this ⊢; dsimp only at this ⊢; omega
  · have a := h.ge i hi h3
    obtain ⟨b0, b1, b2, b3, _⟩ := (ftB_iff _ _).1 (gcB_ft hg i hi)
    rw [Bool.eq_false_iff] at a ⊢
    intro q
    apply a
    rw [ltC_iff] at q ⊢
    dsimp only at q ⊢
    by_cases e : G[i].n = (f : Int)
    · rw [e, show ((f : Int)).toNat = f from by omega, show W.getD f default = W[f] from by simp [List.getD_eq_getElem?_getD, hf]] at b3
      refine .inr ⟨e, ?_⟩
      unfold np
      omega
    · omega
theorem IsPl.start {W : List Wt} {G : List Ck} (hg : gcB W G = true) : IsPl G ⟨((0 : Nat) : Int), 0, ⟨#[]⟩, 0⟩ 0 := by
  refine ⟨Nat.zero_le _, fun i hi h3 => by omega, fun i hi h3 => ?_⟩
  obtain ⟨b0, b1, b2, b3, _⟩ := (ftB_iff _ _).1 (gcB_ft hg i hi)
  rw [Bool.eq_false_iff]
  intro q
  rw [ltC_iff] at q
  dsimp only at q
  omega

set_option maxHeartbeats 16000000 in
theorem implMiss_any (a c : Value) (W : List Wt) (G : List Ck) (w : World) (h : TR w a c W G) (hn : W.length ≤ 1048576) (hm : G.length ≤ 1048576) (hs : ∀ i (h : i < G.length), G[i].k.size ≤ 1048576) :
    Calls Try.prog 24 #[.agg #[a, c]] w fun e w' => ∃ u, e = .returned (.tuple #[u, .bool (gtB W G)]) ∧ w'.ownsRow w.heap.size 37 4 u (msR W G).length (flat4 (msR W G)) ∧ Below w.heap.size w w' := by
  have KG := fun W' (hb : Below w.heap.size w W') => implGT_any a c W G W' (h.below hb) hn hm hs
  have KP := fun (hok : wOk W) W' (hb : Below w.heap.size w W') => placesIn_any a W W' (h.1.below hb) hok
  have KF := fun (h2 : G.length ≤ 200) (hsr : Srt G) y W' (hb : Below w.heap.size w W') => find_any a c W G y W' (h.below hb) (by omega) hsr
  obtain ⟨⟨wa, wb, rfl, _⟩, ca, cb, rfl, _⟩ := h
  have X0 := Box.new w #[.slice wa W.length wb, .slice ca G.length cb] 41
  have B0 := below_alloc w (.cells #[.slice wa W.length wb, .slice ca G.length cb] 41)
  clear hs
  cases hg : gtB W G with
  | false =>
    have HR : Hid (msR W G = []) := by show _ = _; unfold msR; rw [hg]; rfl
    rw [HR.out]
    rw [hg] at KG
    clear KP KF hg HR
    go_enter Try.func24, Try.ntmps24
    go_wp2_with fail
    refine (KG _ B0).mono ?_
    rintro e w1 ⟨rfl, hb1⟩
    replace B0 := below_then B0 hb1
    clear hb1 KG X0
    go_wp2
    go_ret2
    exact ⟨_, rfl, World.ownsRow_nil _ _ _ _, B0⟩
  | true =>
    have HR : Hid (msR W G = msL W G) := by show _ = _; unfold msR; rw [hg]; rfl
    rw [HR.out]
    rw [hg] at KG
    obtain ⟨hok, h200, hgc⟩ := (gtB_iff W G).1 hg
    have KP2 := KP hok
    have KF2 := KF h200 (gcB_srt hgc)
    have hpl := plL_len hok
    have HML : Hid ((plL W).filter (msP G) = msL W G) := rfl
    clear KP KF hg HR hok hgc
    generalize plL W = P at *
    generalize msL W G = R at *
    go_enter Try.func24, Try.ntmps24
    go_wp2_with fail
    refine (KG _ B0).mono ?_
    rintro e w1 ⟨rfl, hb1⟩
    replace B0 := below_then B0 hb1
    replace X0 := X0.below hb1
    have hz1 := B0.size
    clear hb1 KG
    obtain ⟨hx, x0, x1⟩ := X0.c2
    go_wp2_with fail
    refine (KP2 _ B0).mono ?_
    rintro e w2 ⟨u, rfl, O2, hb2⟩
    replace B0 := below_then B0 hb2
    replace X0 := X0.below hb2
    have hz2 := hb2.size
    clear hb2 KP2 hx x0 x1
    obtain ⟨pa, pc, rfl⟩ := owns_shape O2
    have iP := IR_of_owns O2 rfl
    obtain ⟨p1, p2, he, hpc⟩ := id iP
    simp only [Value.slice.injEq, true_and] at he
    obtain ⟨rfl, rfl⟩ := he
    clear O2 iP
    go_wp2
    go_loopw [4, 16] (fun z i wr => ∃ k : Nat, k ≤ P.length ∧ i = .int .i64 k ∧ wr.ownsRow w2.heap.size 37 4 z ((P.take k).filter (msP G)).length (flat4 ((P.take k).filter (msP G))) ∧ Below w2.heap.size w2 wr) (fun _ i _ => P.length - (intOf i).toNat)
    case atStart => exact ⟨0, Nat.zero_le _, rfl, World.ownsRow_nil _ _ _ _, Below.refl _ _⟩
    case round =>
      obtain ⟨k, hk, rfl, hown, hb⟩ := hrel
      by_cases hlt : k < P.length
      · obtain ⟨b, off, rfl, hbl, hcell⟩ := hpc (by intro e; simp [e] at hlt)
        obtain ⟨y0, y1, y2, y3⟩ := hcell k hlt
        have c0 := (hb.cell (p := ⟨b, off + k * 4, none⟩) hbl).trans y0
        have c1 := (hb.cell (p := ⟨b, off + k * 4 + 1, none⟩) hbl).trans y1
        have c2 := (hb.cell (p := ⟨b, off + k * 4 + 2, none⟩) hbl).trans y2
        have c3 := (hb.cell (p := ⟨b, off + k * 4 + 3, none⟩) hbl).trans y3
        have HT : Hid ((P.take (k + 1)).filter (msP G) = (P.take k).filter (msP G) ++ (if msP G P[k] then [P[k]] else [])) := by
          show _ = _
          rw [List.take_succ_eq_append_getElem hlt, List.filter_append, List.filter_cons]
          rfl
        have hTl : ((P.take k).filter (msP G)).length ≤ 756 := Nat.le_trans (List.length_filter_le _ _) (by simp; omega)
        have hms : Hid (msP G P[k] = !hasC G P[k].n P[k].d) := rfl
        clear y0 y1 y2 y3 hcell hpc HML
        generalize P[k] = y at *
        generalize (P.take k).filter (msP G) = T at *
        obtain ⟨za, zc, rfl⟩ := owns_shape hown
        have hz := hb.size
        have hge := owns_ge hown
        have X1 := X0.below hb
        have BA := below_alloc wr (.cells #[.int .i64 y.n, .int .i64 y.d, .string y.k, .int .u32 y.v] 37)
        have X2 := X1.below BA
        have Y2 := Box.new wr #[.int .i64 y.n, .int .i64 y.d, .string y.k, .int .u32 y.v] 37
        have hb2 := below_then hb BA
        have hown2 := owns_below hown BA
        obtain ⟨hx2, x0, x1⟩ := X2.c2
        obtain ⟨hy2, q0, q1, q2, q3⟩ := Y2.c4
        have KF3 := KF2 y _ (below_then B0 hb2)
        obtain ⟨yn, yd, yk, yv⟩ := y
        dsimp only at *
        clear hown hb X1 BA X2
        go_wp2_with fail
        refine KF3.mono ?_
        rintro e w3 ⟨⟨p, _, rfl⟩, hb3⟩
        have hown3 := owns_below hown2 hb3
        have Y3 := Y2.below hb3
        have hb4 := below_then hb2 hb3
        clear KF3 hown2 Y2 hb2 hb3 hx2 x0 x1 hy2 q0 q1 q2 q3 c0 c1 c2 c3
        cases hh : hasC G yn yd with
        | true =>
          have HT2 : Hid ((P.take (k + 1)).filter (msP G) = T) := by show _ = _; rw [HT.out, hms.out, hh]; simp
          clear HT hms hh Y3
          go_wp2
          go_roundw
          case rel => exact ⟨k + 1, by omega, by go_num, by rw [HT2.out]; exact hown3, hb4⟩
          case measure => simp [intOf]; omega
        | false =>
          have HT2 : Hid ((P.take (k + 1)).filter (msP G) = T ++ [⟨yn, yd, yk, yv⟩]) := by show _ = _; rw [HT.out, hms.out, hh]; simp
          clear HT hms hh
          obtain ⟨hy3, q0, q1, q2, q3⟩ := Y3.c4
          have hz4 := hb4.size
          clear Y3
          go_wp2_with (at_builtin; refine wpList_append_ck _ rfl _ _ rfl rfl w2.heap.size _ T.length T rfl (owns_below hown3 (below_alloc _ _)) w3.heap.size ⟨yn, yd, yk, yv⟩ rfl (Box.new w3 #[.int .i64 yn, .int .i64 yd, .string yk, .int .u32 yv] 37) (by omega) (by simp; omega) ?_; intro v' w5 hown5 hgr5)
          obtain ⟨va, vc, rfl⟩ := owns_shape hown5
          have hb5 : Below w2.heap.size w2 w5 := (hb4.alloc hz4 _).grown hgr5 (by simp; omega) hge
          have HO : Hid _ := hown5
          clear hown3 hgr5 hb4 hge hown5 hy3 q0 q1 q2 q3
          go_wp2
          go_roundw
          case rel => exact ⟨k + 1, by omega, by go_num, by rw [HT2.out, List.length_append]; exact HO.out, hb5⟩
          case measure => simp [intOf]; omega
      · obtain rfl : k = P.length := by omega
        rw [List.take_length, HML.out] at hown
        obtain ⟨za, zc, rfl⟩ := owns_shape hown
        clear hpc KF2
        go_wp2
        go_ret2
        exact ⟨_, rfl, owns_mono' hown (by omega), below_then B0 hb⟩
end Go.Proofs.Ytocaigffikdlhaa
