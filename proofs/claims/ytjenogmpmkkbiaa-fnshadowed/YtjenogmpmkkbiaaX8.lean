/-
  LookIn, both.
-/
import Derived.Test.YtjenogmpmkkbiaaV8
import Derived.Test.YtjenogmpmkkbiaaT8
namespace Go.Proofs.Ytjenogmpmkkbiaa
open Go.RowKit Go.Shelf Go.Lib
set_option linter.unusedVariables false
set_option maxRecDepth 100000
attribute [local go_sem] Oper.semAt_some

def ofO : Option It → ByteArray × Int × Bool
  | some x => (x.v, x.d, true)
  | none => (⟨#[]⟩, 0, false)
def lkR (l : List It) (key : ByteArray) (q : Int) : ByteArray × Int × Bool := if mayM l && okKey key && okSeq q then ofO (lookL l q key) else (⟨#[]⟩, 0, false)
theorem find_at (S : List It) (key : ByteArray) (k : Nat) (hk : k < S.length) (hp : ∀ j (h : j < k), (S[j]'(by omega)).k ≠ key) (he : S[k].k = key) : S.find? (fun x => decide (x.k = key)) = some S[k] := by
  rw [List.find?_eq_some_iff_getElem]
  exact ⟨decide_eq_true he, k, hk, rfl, fun j hj => by simp [hp j hj]⟩
theorem find_no (S : List It) (key : ByteArray) (hp : ∀ j (h : j < S.length), S[j].k ≠ key) : S.find? (fun x => decide (x.k = key)) = none := by
  rw [List.find?_eq_none]
  intro x hx
  obtain ⟨j, hj, rfl⟩ := List.getElem_of_mem hx
  simp [hp j hj]

set_option maxHeartbeats 4000000 in
theorem l8Look_any (v : Value) (l : List It) (key : ByteArray) (q : Int) (w : World) (hv : IR w v l) (hn : l.length ≤ 1048576) (hg : goodR l = true) :
    Calls Try.prog 59 #[v, .string key, .int .i64 q] w fun e w' => e = .returned (.tuple #[.string (ofO (lookL l q key)).1, .int .i64 (ofO (lookL l q key)).2.1, .bool (ofO (lookL l q key)).2.2]) ∧ Below w.heap.size w w' := by
  have K := l8Seen_any v l q w hv hn hg
  have hSl : (seenL l q).length ≤ l.length := seenTo_len l q l.length
  have HL : Hid (lookL l q key = (seenL l q).find? (fun x => decide (x.k = key))) := rfl
  generalize lookL l q key = LK at *
  generalize seenL l q = S at *
  clear hv
  go_enter Try.func59, Try.ntmps59
  go_wp2_with fail
  refine K.mono ?_
  rintro e w1 ⟨uS, rfl, hoS, hb1⟩
  obtain ⟨a, cap, rfl, hc⟩ := IR_of_owns hoS rfl
  clear K hoS
  go_wp2
  go_loopw [15] (fun i wr => ∃ k : Nat, k ≤ S.length ∧ i = .int .i64 k ∧ (∀ j (h : j < S.length), j < k → S[j].k ≠ key) ∧ Below w1.heap.size w1 wr) (fun i _ => S.length - (intOf i).toNat)
  case atStart => exact ⟨0, Nat.zero_le _, rfl, fun j h hj => by omega, Below.refl _ _⟩
  case round =>
    obtain ⟨k, hk, rfl, hp, hb⟩ := hrel
    have hz := hb.size
    by_cases hlt : k < S.length
    · obtain ⟨b, off, rfl, hbl, hcell⟩ := hc (by intro e; simp [e] at hlt)
      have hc0 := (hb.cell (p := ⟨b, off + k * 4, none⟩) hbl).trans (hcell k hlt).1
      have hc1 := (hb.cell (p := ⟨b, off + k * 4 + 1, none⟩) hbl).trans (hcell k hlt).2.1
      have hc2 := (hb.cell (p := ⟨b, off + k * 4 + 2, none⟩) hbl).trans (hcell k hlt).2.2.1
      have hc3 := (hb.cell (p := ⟨b, off + k * 4 + 3, none⟩) hbl).trans (hcell k hlt).2.2.2
      have hbW : b < wr.heap.size := by omega
      have hkq := keyEq S[k].k key
      by_cases he : S[k].k = key
      · have HF : Hid (LK = some S[k]) := by show _ = _; rw [HL.out]; exact find_at S key k hlt (fun j h => hp j (by omega) h) he
        rw [decide_eq_true he] at hkq
        clear hcell hc hp HL he
        generalize S[k] = s at *
        obtain ⟨sk, sn, sd, sv⟩ := s
        dsimp only at *
        go_wp2_with fail
        go_quiet (fail)
        go_wp2
        refine bodyPost_ret (v := .tuple #[.string sv, .int .i64 sd, .bool true]) (by simp [results, Try.results59, go_sem]) rfl ⟨by rw [HF.out]; rfl, below_then hb1 (hb.trans (below_drewN ((below_alloc _ _).mono hz) _))⟩
      · have HP : Hid (∀ j (h : j < S.length), j < k + 1 → S[j].k ≠ key) := fun j h hj => by
          rcases Nat.lt_or_ge j k with h1 | h1
          · exact hp j h h1
          · obtain rfl : j = k := by omega
            exact he
        rw [decide_eq_false he] at hkq
        clear hcell hc hp HL he
        generalize S[k] = s at *
        obtain ⟨sk, sn, sd, sv⟩ := s
        dsimp only at *
        go_wp2
        go_roundw
        case rel => exact ⟨k + 1, by omega, by go_num, HP.out, hb.alloc hz _⟩
        case measure => simp [intOf]; omega
    · obtain rfl : k = S.length := by omega
      have HF : Hid (LK = none) := by show _ = _; rw [HL.out]; exact find_no S key (fun j h => hp j h h)
      clear hc hp HL
      go_wp2
      refine bodyPost_ret (v := .tuple #[.string ⟨#[]⟩, .int .i64 0, .bool false]) (by simp [results, Try.results59, go_sem]) rfl ⟨by rw [HF.out]; rfl, below_then hb1 hb⟩

set_option maxHeartbeats 4000000 in
theorem specLook_any (v : Value) (l : List It) (key : ByteArray) (q : Int) (w : World) (hv : IR w v l) (hn : l.length ≤ 1048576) (hs : ∀ i (h : i < l.length), l[i].k.size ≤ 1048576 ∧ l[i].v.size ≤ 1048576) (hkey : key.size ≤ 1048576) :
    Calls Try.prog 22 #[.agg #[v], .string key, .int .i64 q] w fun e w' => e = .returned (.tuple #[.string (lkR l key q).1, .int .i64 (lkR l key q).2.1, .bool (lkR l key q).2.2]) ∧ Below w.heap.size w w' := by
  have hB0 := below_alloc w (.cells #[v] 25)
  have hv1 := hv.below hB0
  have K := l8Run_any v l _ hv1 hn hs
  have KK := fun w => l4Key_any key w hkey
  have KQ := fun w => l4Seq_any q w
  have KL := fun w' h => fun hg => l8Look_any v l key q w' h hn hg
  have HR : Hid (lkR l key q = if mayM l && okKey key && okSeq q then ofO (lookL l q key) else (⟨#[]⟩, 0, false)) := rfl
  have HG := @mayM_good l
  generalize ofO (lookL l q key) = LK at *
  generalize lkR l key q = R at *
  generalize mayM l = m at *
  generalize okSeq q = oq at *
  generalize okKey key = ok at *
  have hX := Box.new w #[v] 25
  obtain ⟨a, cap, hve, _⟩ := id hv
  subst hve
  clear hv hs
  go_enter Try.func22, Try.ntmps22
  go_wp2_with fail
  refine K.mono ?_
  rintro e w1 ⟨rfl, hb1⟩
  have X1 := hX.below hb1
  have hv2 := hv1.below hb1
  have hB1 := below_then hB0 hb1
  have c1 := X1.2.1 0 _ rfl
  clear K hX hB0 hb1 hv1 X1
  cases m with
  | false =>
    obtain rfl : R = (⟨#[]⟩, 0, false) := HR.out
    clear HR HG KQ KK KL hv2
    go_wp2
    exact bodyPost_ret (v := .tuple #[.string ⟨#[]⟩, .int .i64 0, .bool false]) (by simp [results, Try.results22, go_sem]) rfl ⟨rfl, hB1⟩
  | true =>
    have hgr := (HG rfl).1
    clear HG
    go_wp2_with fail
    refine (KK _).mono ?_
    rintro e w2 ⟨rfl, hw2⟩
    subst hw2
    clear KK
    cases ok with
    | false =>
      obtain rfl : R = (⟨#[]⟩, 0, false) := HR.out
      clear HR KQ KL hv2
      go_wp2
      exact bodyPost_ret (v := .tuple #[.string ⟨#[]⟩, .int .i64 0, .bool false]) (by simp [results, Try.results22, go_sem]) rfl ⟨rfl, hB1⟩
    | true =>
      go_wp2_with fail
      refine (KQ _).mono ?_
      rintro e w3 ⟨rfl, hw3⟩
      subst hw3
      clear KQ
      cases oq with
      | false =>
        obtain rfl : R = (⟨#[]⟩, 0, false) := HR.out
        clear HR KL hv2
        go_wp2
        exact bodyPost_ret (v := .tuple #[.string ⟨#[]⟩, .int .i64 0, .bool false]) (by simp [results, Try.results22, go_sem]) rfl ⟨rfl, hB1⟩
      | true =>
        obtain rfl : R = LK := HR.out
        clear HR
        go_wp2_with fail
        refine (KL _ hv2 hgr).mono ?_
        rintro e w4 ⟨rfl, hb4⟩
        have hB4 := below_then hB1 hb4
        clear hb4 KL hB1 c1 hv2
        obtain ⟨R1, R2, R3⟩ := R
        dsimp only
        go_wp2
        exact bodyPost_ret (v := .tuple #[.string R1, .int .i64 R2, .bool R3]) (by simp [results, Try.results22, go_sem]) rfl ⟨rfl, hB4⟩

theorem find_pre (l : List It) (q : Int) (key : ByteArray) (k : Nat) (pre : List It) (x : It) (hk : k < l.length) (he : seenTo l q (k + 1) = pre ++ [x]) (hp : ∀ y ∈ pre, y.k ≠ key) (hx : x.k = key) : lookL l q key = some x := by
  obtain ⟨r, h1, _⟩ := seenTo_pre l q (k + 1) (l.length - (k + 1))
  rw [show k + 1 + (l.length - (k + 1)) = l.length from by omega, he] at h1
  unfold lookL seenL
  rw [h1, List.append_assoc, List.find?_append]
  rw [List.find?_eq_none.2 (fun y hy => by simp [hp y hy])]
  simp [hx]
set_option maxHeartbeats 8000000 in
theorem implLook_in (v : Value) (l : List It) (key : ByteArray) (q : Int) (w : World) (hv : IR w v l) (hn : l.length ≤ 1048576) (hs : ∀ i (h : i < l.length), l[i].k.size ≤ 1048576 ∧ l[i].v.size ≤ 1048576) (hkey : key.size ≤ 1048576) :
    CallsIn Fence.wide 9 Try.prog 21 #[.agg #[v], .string key, .int .i64 q] w fun e w' => e = .returned (.tuple #[.string (lkR l key q).1, .int .i64 (lkR l key q).2.1, .bool (lkR l key q).2.2]) ∧ Below w.heap.size w w' := by
  have hBa := below3 w (.cells #[v] 25) (.cells #[.string key] 9) (.cells #[.string ⟨#[]⟩] 9)
  have hB0 : Below w.heap.size w (((((w.alloc (.cells #[v] 25)).alloc (.cells #[.string key] 9)).alloc (.cells #[.string ⟨#[]⟩] 9)).alloc (.cells #[.int .i64 0] 3)).alloc (.cells #[.bool false] 4)) := (hBa.alloc (by simp; omega) _).alloc (by simp; omega) _
  have hv1 := hv.below hB0
  have K := mayMerge_any v l _ hv1 hn hs
  have KK := fun w => goodKey_any key w hkey
  have KQ := fun w => goodSeq_any q w
  have KA := fun w => seenAt_any v q w
  have KS := fun Br Bs B w' a b c d => fun h e g h1 h2 h3 => seen_stops 8 (by omega) Br Bs B v l q hn w' a b c d h e g h1 h2 h3
  have HR : Hid (lkR l key q = if mayM l && okKey key && okSeq q then ofO (lookL l q key) else (⟨#[]⟩, 0, false)) := rfl
  generalize lkR l key q = R at *
  generalize mayM l = m at *
  generalize okSeq q = oq at *
  generalize okKey key = ok at *
  have b0 := ((((Boxed.new w 25 v).alloc (.cells #[.string key] 9)).alloc (.cells #[.string ⟨#[]⟩] 9)).alloc (.cells #[.int .i64 0] 3)).alloc (.cells #[.bool false] 4)
  have b1 := (((Boxed.new (w.alloc (.cells #[v] 25)) 9 (.string key)).alloc (.cells #[.string ⟨#[]⟩] 9)).alloc (.cells #[.int .i64 0] 3)).alloc (.cells #[.bool false] 4)
  have b2 := ((Boxed.new ((w.alloc (.cells #[v] 25)).alloc (.cells #[.string key] 9)) 9 (.string ⟨#[]⟩)).alloc (.cells #[.int .i64 0] 3)).alloc (.cells #[.bool false] 4)
  have b3 := (Boxed.new (((w.alloc (.cells #[v] 25)).alloc (.cells #[.string key] 9)).alloc (.cells #[.string ⟨#[]⟩] 9)) 3 (.int .i64 0)).alloc (.cells #[.bool false] 4)
  have b4 := Boxed.new ((((w.alloc (.cells #[v] 25)).alloc (.cells #[.string key] 9)).alloc (.cells #[.string ⟨#[]⟩] 9)).alloc (.cells #[.int .i64 0] 3)) 4 (.bool false)
  simp only [World.size_alloc] at b1 b2 b3 b4
  obtain ⟨a, cap, hve, hc⟩ := id hv
  subst hve
  have hib : ∀ b off len c, (Value.slice a l.length cap) = .slice (some ⟨b, off, none⟩) len c → l ≠ [] → b < w.heap.size := fun b off len c e hl => by
    obtain ⟨b', off', rfl, hlt, _⟩ := hc hl
    simp only [Value.slice.injEq, Option.some.injEq, Addr.mk.injEq] at e
    omega
  clear hv hs hc hBa
  refine callsIn_of_wp_marks Try.func21 rfl trivial ?_ rfl
  simp only [Try.ntmps21, List.size_toArray, List.length_cons, List.length_nil, Nat.reduceAdd, Nat.reduceSub, Array.replicate_succ, Array.replicate_zero, List.push_toArray, List.append_toArray, List.nil_append, List.cons_append]
  gi_wp2_with fail
  refine ⟨trivial, ?_⟩
  refine (callsIn_wide.2 K).mono ?_
  rintro e w1 ⟨rfl, hb1⟩
  have e0 : Boxed w1 w.heap.size 25 (.slice a l.length cap) := (hb1.block _ b0.lt).trans b0
  have e1 : Boxed w1 (w.heap.size + 1) 9 (.string key) := (hb1.block _ b1.lt).trans b1
  have e2 : Boxed w1 (w.heap.size + 1 + 1) 9 (.string ⟨#[]⟩) := (hb1.block _ b2.lt).trans b2
  have e3 : Boxed w1 (w.heap.size + 1 + 1 + 1) 3 (.int .i64 0) := (hb1.block _ b3.lt).trans b3
  have e4 : Boxed w1 (w.heap.size + 1 + 1 + 1 + 1) 4 (.bool false) := (hb1.block _ b4.lt).trans b4
  have hv2 := hv1.below hb1
  have hB1 := below_then hB0 hb1
  have n0 := e0.lt
  have n1 := e1.lt
  have n2 := e2.lt
  have n3 := e3.lt
  have n4 := e4.lt
  have c0 := e0.cell
  have c1 := e1.cell
  have c2 := e2.cell
  have c3 := e3.cell
  have c4 := e4.cell
  have f2 := e2.frozen
  have f3 := e3.frozen
  have f4 := e4.frozen
  clear K b0 b1 b2 b3 b4 hB0 hb1 hv1
  have HZ : ∀ W' : World, Boxed W' (w.heap.size + 1 + 1) 9 (.string ⟨#[]⟩) → Boxed W' (w.heap.size + 1 + 1 + 1) 3 (.int .i64 0) → Boxed W' (w.heap.size + 1 + 1 + 1 + 1) 4 (.bool false) → True := fun _ _ _ _ => trivial
  cases m with
  | false =>
    obtain rfl : R = (⟨#[]⟩, 0, false) := HR.out
    clear HR KQ KK KA KS HZ
    gi_wp2
    refine ⟨trivial, ?_⟩
    gi_wp2
    refine ⟨trivial, ?_⟩
    gi_wp2
    exact ⟨.tuple #[.string ⟨#[]⟩, .int .i64 0, .bool false], by simp [results, Try.results21, go_sem, c2, c3, c4], rfl, ((hB1.setCell (by simp; omega) _).setCell (by simp; omega) _).setCell (by simp; omega) _⟩
  | true =>
    gi_wp2_with fail
    refine ⟨trivial, ?_⟩
    refine (callsIn_wide.2 (KK _)).mono ?_
    rintro e w2 ⟨rfl, hw2⟩
    subst hw2
    clear KK
    cases ok with
    | false =>
      obtain rfl : R = (⟨#[]⟩, 0, false) := HR.out
      clear HR KQ KA KS HZ
      gi_wp2
      refine ⟨trivial, ?_⟩
      gi_wp2
      exact ⟨.tuple #[.string ⟨#[]⟩, .int .i64 0, .bool false], by simp [results, Try.results21, go_sem, c2, c3, c4], rfl, ((hB1.setCell (by simp; omega) _).setCell (by simp; omega) _).setCell (by simp; omega) _⟩
    | true =>
      gi_wp2_with fail
      refine ⟨trivial, ?_⟩
      refine (callsIn_wide.2 (KQ _)).mono ?_
      rintro e w3 ⟨rfl, hw3⟩
      subst hw3
      clear KQ
      cases oq with
      | false =>
        obtain rfl : R = (⟨#[]⟩, 0, false) := HR.out
        clear HR KA KS HZ
        gi_wp2
        exact ⟨.tuple #[.string ⟨#[]⟩, .int .i64 0, .bool false], by simp [results, Try.results21, go_sem, c2, c3, c4], rfl, ((hB1.setCell (by simp; omega) _).setCell (by simp; omega) _).setCell (by simp; omega) _⟩
      | true =>
        obtain rfl : R = ofO (lookL l q key) := HR.out
        clear HR HZ
        gi_wp2_with fail
        refine ⟨trivial, ?_⟩
        refine (callsIn_wide.2 (KA _)).mono ?_
        rintro e w4 ⟨rfl, rfl⟩
        clear KA
        have bR := (Boxed.new w3 25 (.slice a l.length cap)).alloc (.cells #[.int .i64 q] 3)
        have bS := Boxed.new (w3.alloc (.cells #[.slice a l.length cap] 25)) 3 (.int .i64 q)
        have hb2 := below2 w3 (.cells #[.slice a l.length cap] 25) (.cells #[.int .i64 q] 3)
        have hsz : ((w3.alloc (.cells #[.slice a l.length cap] 25)).alloc (.cells #[.int .i64 q] 3)).heap.size = w3.heap.size + 2 := by simp
        simp only [World.size_alloc] at bS
        gi_wp2_with fail
        obtain ⟨W0, hW0⟩ : ∃ W0, (w3.alloc (.cells #[.slice a l.length cap] 25)).alloc (.cells #[.int .i64 q] 3) = W0 := ⟨_, rfl⟩
        rw [hW0] at bR bS hb2 hsz ⊢
        clear hW0
        have hB2 := below_then hB1 hb2
        have E1 : Boxed W0 (w.heap.size + 1) 9 (.string key) := (hb2.block _ n1).trans e1
        have E2 : Boxed W0 (w.heap.size + 1 + 1) 9 (.string ⟨#[]⟩) := (hb2.block _ n2).trans e2
        have E3 : Boxed W0 (w.heap.size + 1 + 1 + 1) 3 (.int .i64 0) := (hb2.block _ n3).trans e3
        have E4 : Boxed W0 (w.heap.size + 1 + 1 + 1 + 1) 4 (.bool false) := (hb2.block _ n4).trans e4
        have hv3 := hv2.below hb2
        have hrow0 : rowOf W0 (w.heap.size + 1 + 1) = none := by unfold rowOf; rw [E2.cell]; rfl
        clear e0 e1 e2 e3 e4 c0 c1 c2 c3 c4 f2 f3 f4 hv2 hb2 hB1
        refine wpIn_rangeFunc_ownH rfl (by omega) (gf := 86) (lb := #[.pointer (some ⟨w3.heap.size, 0, none⟩), .pointer (some ⟨w3.heap.size + 1, 0, none⟩)]) rfl trivial (enters_of Try.func86 (by kernel_rfl) rfl)
          (KS w3.heap.size (w3.heap.size + 1) (w.heap.size + 1 + 1) W0 (by omega) hrow0 (by omega) (by omega) hv3 (fun hl b off len c e => by have := hib b off len c e hl; omega) (by omega) (by omega) bR.cell bS.cell) (fun h k => h.trans k) (Kept.put (by omega)) (Below.refl _ _) (fun _ => rfl)
          (fun pre W => (∀ y ∈ pre, y.k ≠ key) ∧ (Boxed W (w.heap.size + 1) 9 (.string key) ∧ Boxed W (w.heap.size + 1 + 1) 9 (.string ⟨#[]⟩) ∧ Boxed W (w.heap.size + 1 + 1 + 1) 3 (.int .i64 0) ∧ Boxed W (w.heap.size + 1 + 1 + 1 + 1) 4 (.bool false)) ∧ Below w.heap.size w W)
          (fun c pre W => (c = .ret ∧ ∃ pre' x, pre = pre' ++ [x] ∧ (∀ y ∈ pre', y.k ≠ key) ∧ x.k = key ∧ Boxed W (w.heap.size + 1 + 1) 9 (.string x.v) ∧ Boxed W (w.heap.size + 1 + 1 + 1) 3 (.int .i64 x.d) ∧ Boxed W (w.heap.size + 1 + 1 + 1 + 1) 4 (.bool true)) ∧ Below w.heap.size w W)
          (OwnFrom.and (fun _ _ _ _ h _ _ => h) (OwnFrom.and (OwnFrom.and (Own.from (boxed_own _ _ _) _) (OwnFrom.and (Own.from (boxed_own _ _ _) _) (OwnFrom.and (Own.from (boxed_own _ _ _) _) (Own.from (boxed_own _ _ _) _)))) (ownFrom_below (Nat.le_refl _) (by omega))))
          (fun c => OwnFrom.and (Own.from (fun s A B row hs hg hr => by
            obtain ⟨h1, pre', x, h2, h3, h4, k1, k2, k3⟩ := hs
            exact ⟨h1, pre', x, h2, h3, h4, boxed_own _ _ (fun _ : Unit => _) () A B row k1 hg hr, boxed_own _ _ (fun _ : Unit => _) () A B row k2 hg hr, boxed_own _ _ (fun _ : Unit => _) () A B row k3 hg hr⟩) _) (ownFrom_below (Nat.le_refl _) (by omega)))
          ⟨by simp, ⟨E1, E2, E3, E4⟩, hB2⟩
          (fun x a' W => ∃ Bx, w.heap.size + 1 + 1 + 1 + 1 < Bx ∧ Box W Bx [.string x.k, .int .i64 x.n, .int .i64 x.d, .string x.v] ∧ a' = { tmps := #[.agg #[.slice a l.length cap], .string key, .int .i64 q, .pointer (some ⟨w.heap.size, 0, none⟩), .pointer (some ⟨w.heap.size + 1, 0, none⟩), undef, .pointer (some ⟨w.heap.size + 1 + 1, 0, none⟩), .pointer (some ⟨w.heap.size + 1 + 1 + 1, 0, none⟩), .pointer (some ⟨w.heap.size + 1 + 1 + 1 + 1, 0, none⟩), .pointer (some ⟨Bx, 0, none⟩), .agg #[.slice a l.length cap], .bool true, .bool false, .bool false, .string key, .bool true, .bool false, .bool false, .bool false, .int .i64 q, .bool true, .bool false, .bool false, .agg #[.slice a l.length cap], .int .i64 q, .func (.func 86) #[] #[.pointer (some ⟨w3.heap.size, 0, none⟩), .pointer (some ⟨w3.heap.size + 1, 0, none⟩)], .agg #[.string x.k, .int .i64 x.n, .int .i64 x.d, .string x.v], undef, undef, undef, undef, undef, undef, undef, undef], defers := [] })
          (fun x a' _ X Y row hs hg hr => by obtain ⟨Bx, h1, h2, h3⟩ := hs; exact ⟨Bx, h1, box_owned h2 hg (fun r e => (hr r e).2), h3⟩)
          ?assign ?body ?done ?stop
        case assign =>
          rintro yl pre x W K ⟨hp, ⟨hE1, hE2, hE3, hE4⟩, hB⟩ hK
          have hlt := hE2.lt
          have hW3 := hE4.lt
          obtain ⟨xk, xn, xd, xv⟩ := x
          simp only [encIt]
          gi_wp2
          exact hK _ _ ((KeepsOthers.alloc _ _).from _) (Kept.alloc _ W _ hlt) ⟨hp, ⟨hE1.alloc _, hE2.alloc _, hE3.alloc _, hE4.alloc _⟩, hB.alloc hB.size _⟩ ⟨W.heap.size, hW3, Box.new W #[.string xk, .int .i64 xn, .int .i64 xd, .string xv] 83, rfl⟩
        case body =>
          rintro yl pre x a' W hl ⟨r, hr⟩ ⟨hp, ⟨hE1, hE2, hE3, hE4⟩, hB⟩ ⟨Bx, hBx, X, rfl⟩ hlt
          have g1 := hE1.cell
          have g2 := hE2.cell
          have g3 := hE3.cell
          have g4 := hE4.cell
          have k2 := hE2.frozen
          have k3 := hE3.frozen
          have k4 := hE4.frozen
          obtain ⟨hBxl, x0, x1, x2, x3⟩ := X.c4
          have m2 := hE2.lt
          have m3 := hE3.lt
          have m4 := hE4.lt
          have hkq := keyEq x.k key
          by_cases he : x.k = key
          · rw [decide_eq_true he] at hkq
            have F2 : Boxed (((W.setCell ⟨w.heap.size + 1 + 1, 0, none⟩ (.string x.v)).setCell ⟨w.heap.size + 1 + 1 + 1, 0, none⟩ (.int .i64 x.d)).setCell ⟨w.heap.size + 1 + 1 + 1 + 1, 0, none⟩ (.bool true)).drew (w.heap.size + 1 + 1) 9 (.string x.v) := ((hE2.set (.string x.v)).other (by omega) (.int .i64 x.d)).other (by omega) (.bool true)
            have F3 : Boxed (((W.setCell ⟨w.heap.size + 1 + 1, 0, none⟩ (.string x.v)).setCell ⟨w.heap.size + 1 + 1 + 1, 0, none⟩ (.int .i64 x.d)).setCell ⟨w.heap.size + 1 + 1 + 1 + 1, 0, none⟩ (.bool true)).drew (w.heap.size + 1 + 1 + 1) 3 (.int .i64 x.d) := ((hE3.other (by omega) (.string x.v)).set (.int .i64 x.d)).other (by omega) (.bool true)
            have F4 : Boxed (((W.setCell ⟨w.heap.size + 1 + 1, 0, none⟩ (.string x.v)).setCell ⟨w.heap.size + 1 + 1 + 1, 0, none⟩ (.int .i64 x.d)).setCell ⟨w.heap.size + 1 + 1 + 1 + 1, 0, none⟩ (.bool true)).drew (w.heap.size + 1 + 1 + 1 + 1) 4 (.bool true) := ((hE4.other (by omega) (.string x.v)).other (by omega) (.int .i64 x.d)).set (.bool true)
            have hB' : Below w.heap.size w (((W.setCell ⟨w.heap.size + 1 + 1, 0, none⟩ (.string x.v)).setCell ⟨w.heap.size + 1 + 1 + 1, 0, none⟩ (.int .i64 x.d)).setCell ⟨w.heap.size + 1 + 1 + 1 + 1, 0, none⟩ (.bool true)).drew := (((hB.setCell (by simp; omega) _).setCell (by simp; omega) _).setCell (by simp; omega) _).drew
            have hKO : KeepsOthers W (((W.setCell ⟨w.heap.size + 1 + 1, 0, none⟩ (.string x.v)).setCell ⟨w.heap.size + 1 + 1 + 1, 0, none⟩ (.int .i64 x.d)).setCell ⟨w.heap.size + 1 + 1 + 1 + 1, 0, none⟩ (.bool true)).drew := (((KeepsOthers.setCell _ _ _).trans (KeepsOthers.setCell _ _ _)).trans (KeepsOthers.setCell _ _ _)).trans (KeepsOthers.drew _)
            have hfin : KeepsFrom W0.heap.size W (((W.setCell ⟨w.heap.size + 1 + 1, 0, none⟩ (.string x.v)).setCell ⟨w.heap.size + 1 + 1 + 1, 0, none⟩ (.int .i64 x.d)).setCell ⟨w.heap.size + 1 + 1 + 1 + 1, 0, none⟩ (.bool true)).drew ∧ ((Code.ret = Code.ret ∧ ∃ pre' x', pre ++ [x] = pre' ++ [x'] ∧ (∀ y ∈ pre', y.k ≠ key) ∧ x'.k = key ∧ Boxed (((W.setCell ⟨w.heap.size + 1 + 1, 0, none⟩ (.string x.v)).setCell ⟨w.heap.size + 1 + 1 + 1, 0, none⟩ (.int .i64 x.d)).setCell ⟨w.heap.size + 1 + 1 + 1 + 1, 0, none⟩ (.bool true)).drew (w.heap.size + 1 + 1) 9 (.string x'.v) ∧ Boxed (((W.setCell ⟨w.heap.size + 1 + 1, 0, none⟩ (.string x.v)).setCell ⟨w.heap.size + 1 + 1 + 1, 0, none⟩ (.int .i64 x.d)).setCell ⟨w.heap.size + 1 + 1 + 1 + 1, 0, none⟩ (.bool true)).drew (w.heap.size + 1 + 1 + 1) 3 (.int .i64 x'.d) ∧ Boxed (((W.setCell ⟨w.heap.size + 1 + 1, 0, none⟩ (.string x.v)).setCell ⟨w.heap.size + 1 + 1 + 1, 0, none⟩ (.int .i64 x.d)).setCell ⟨w.heap.size + 1 + 1 + 1 + 1, 0, none⟩ (.bool true)).drew (w.heap.size + 1 + 1 + 1 + 1) 4 (.bool true)) ∧ Below w.heap.size w (((W.setCell ⟨w.heap.size + 1 + 1, 0, none⟩ (.string x.v)).setCell ⟨w.heap.size + 1 + 1 + 1, 0, none⟩ (.int .i64 x.d)).setCell ⟨w.heap.size + 1 + 1 + 1 + 1, 0, none⟩ (.bool true)).drew) :=
              ⟨hKO.from _, ⟨rfl, pre, x, rfl, hp, he, F2, F3, F4⟩, hB'⟩
            clear hr hl hlt X F2 F3 F4 hB' hKO hp
            obtain ⟨xk, xn, xd, xv⟩ := x
            dsimp only at *
            gi_wp2
            gi_region
            all_goals
              gi_wp2
              exact ⟨hfin.1, ⟨rfl, hfin.2.1.2⟩, hfin.2.2⟩
          · rw [decide_eq_false he] at hkq
            have hfin : (∀ y ∈ pre ++ [x], y.k ≠ key) := fun y hy => by
              rw [List.mem_append] at hy
              rcases hy with hy | hy
              · exact hp y hy
              · obtain rfl : y = x := by simpa using hy
                exact he
            clear hr hl hlt X he hp
            obtain ⟨xk, xn, xd, xv⟩ := x
            dsimp only at *
            gi_wp2
            exact ⟨(KeepsOthers.refl _).from _, Kept.refl _ _, hfin, ⟨hE1, hE2, hE3, hE4⟩, hB⟩
        case done =>
          rintro D ys W hD rfl ⟨hp, ⟨hE1, hE2, hE3, hE4⟩, hB⟩ hK
          have g2 := hE2.cell
          have g3 := hE3.cell
          have g4 := hE4.cell
          have k2 := hE2.frozen
          have k3 := hE3.frozen
          have k4 := hE4.frozen
          have m2 := hE2.lt
          have m3 := hE3.lt
          have m4 := hE4.lt
          have HF : Hid (lookL l q key = none) := find_no _ _ (fun j h => hp _ (List.getElem_mem h))
          have F2 : Boxed (((W.setCell ⟨w.heap.size + 1 + 1, 0, none⟩ (.string ⟨#[]⟩)).setCell ⟨w.heap.size + 1 + 1 + 1, 0, none⟩ (.int .i64 0)).setCell ⟨w.heap.size + 1 + 1 + 1 + 1, 0, none⟩ (.bool false)) (w.heap.size + 1 + 1) 9 (.string ⟨#[]⟩) := ((hE2.set (.string ⟨#[]⟩)).other (by omega) (.int .i64 0)).other (by omega) (.bool false)
          have F3 : Boxed (((W.setCell ⟨w.heap.size + 1 + 1, 0, none⟩ (.string ⟨#[]⟩)).setCell ⟨w.heap.size + 1 + 1 + 1, 0, none⟩ (.int .i64 0)).setCell ⟨w.heap.size + 1 + 1 + 1 + 1, 0, none⟩ (.bool false)) (w.heap.size + 1 + 1 + 1) 3 (.int .i64 0) := ((hE3.other (by omega) (.string ⟨#[]⟩)).set (.int .i64 0)).other (by omega) (.bool false)
          have F4 : Boxed (((W.setCell ⟨w.heap.size + 1 + 1, 0, none⟩ (.string ⟨#[]⟩)).setCell ⟨w.heap.size + 1 + 1 + 1, 0, none⟩ (.int .i64 0)).setCell ⟨w.heap.size + 1 + 1 + 1 + 1, 0, none⟩ (.bool false)) (w.heap.size + 1 + 1 + 1 + 1) 4 (.bool false) := ((hE4.other (by omega) (.string ⟨#[]⟩)).other (by omega) (.int .i64 0)).set (.bool false)
          have hB' := ((hB.setCell (p := ⟨w.heap.size + 1 + 1, 0, none⟩) (by simp; omega) (.string ⟨#[]⟩)).setCell (p := ⟨w.heap.size + 1 + 1 + 1, 0, none⟩) (by simp; omega) (.int .i64 0)).setCell (p := ⟨w.heap.size + 1 + 1 + 1 + 1, 0, none⟩) (by simp; omega) (.bool false)
          have hK' := (((KeepsOthers.setCell W ⟨w.heap.size + 1 + 1, 0, none⟩ (.string ⟨#[]⟩)).trans (KeepsOthers.setCell _ ⟨w.heap.size + 1 + 1 + 1, 0, none⟩ (.int .i64 0))).trans (KeepsOthers.setCell _ ⟨w.heap.size + 1 + 1 + 1 + 1, 0, none⟩ (.bool false))).same D _ hK rfl
          clear KS hp
          gi_wp2
          refine ⟨by simp, .inl ⟨_, _, rfl, run_takeDeferred hK', ?_⟩⟩
          have d2 := cell_kept F2.cell (grownBy_putObj' _ D (.deferred none)) (fun r e => by cases e; exact ⟨_, hK', rfl⟩)
          have d3 := cell_kept F3.cell (grownBy_putObj' _ D (.deferred none)) (fun r e => by cases e; exact ⟨_, hK', rfl⟩)
          have d4 := cell_kept F4.cell (grownBy_putObj' _ D (.deferred none)) (fun r e => by cases e; exact ⟨_, hK', rfl⟩)
          exact ⟨.tuple #[.string ⟨#[]⟩, .int .i64 0, .bool false], by simp [results, Try.results21, go_sem, d2, d3, d4], by rw [HF.out]; rfl, hB'.trans (belowK_b (w := w) (Nat.le_refl _) _ D _ _ (by omega) hK' rfl rfl)⟩
        case stop =>
          rintro D c pre W hD ⟨k, hk, hpre, hsb⟩ ⟨⟨rfl, pre', x, hpx, hp', hxk, hE2, hE3, hE4⟩, hB⟩ hK
          have HF : Hid (lookL l q key = some x) := find_pre l q key k pre' x hk (hpre ▸ hpx) hp' hxk
          clear KS
          gi_wp2
          refine ⟨by simp, .inl ⟨_, _, rfl, run_takeDeferred hK, ?_⟩⟩
          have d2 := cell_kept hE2.cell (grownBy_putObj' _ D (.deferred none)) (fun r e => by cases e; exact ⟨_, hK, rfl⟩)
          have d3 := cell_kept hE3.cell (grownBy_putObj' _ D (.deferred none)) (fun r e => by cases e; exact ⟨_, hK, rfl⟩)
          have d4 := cell_kept hE4.cell (grownBy_putObj' _ D (.deferred none)) (fun r e => by cases e; exact ⟨_, hK, rfl⟩)
          exact ⟨.tuple #[.string x.v, .int .i64 x.d, .bool true], by simp [results, Try.results21, go_sem, d2, d3, d4], by rw [HF.out]; rfl, hB.trans (belowK_b (w := w) (Nat.le_refl _) _ D _ _ (by omega) hK rfl rfl)⟩
theorem implLook_any (v : Value) (l : List It) (key : ByteArray) (q : Int) (w : World) (hv : IR w v l) (hn : l.length ≤ 1048576) (hs : ∀ i (h : i < l.length), l[i].k.size ≤ 1048576 ∧ l[i].v.size ≤ 1048576) (hkey : key.size ≤ 1048576) :
    Calls Try.prog 21 #[.agg #[v], .string key, .int .i64 q] w fun e w' => e = .returned (.tuple #[.string (lkR l key q).1, .int .i64 (lkR l key q).2.1, .bool (lkR l key q).2.2]) ∧ Below w.heap.size w w' :=
  callsIn_wide.1 (implLook_in v l key q w hv hn hs hkey)
end Go.Proofs.Ytjenogmpmkkbiaa
