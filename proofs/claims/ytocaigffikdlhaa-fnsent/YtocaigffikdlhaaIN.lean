/-
  slices.Insert at chunks: one chunk put into a row of one's own.
-/
import Derived.Test.YtocaigffikdlhaaFD
import Derived.Shelf.Spec.SlicesInsertGrow
namespace Go.Proofs.Ytocaigffikdlhaa
open Go.RowKit Go.Maps Go.Lib
set_option linter.unusedVariables false
set_option maxRecDepth 100000

/-- Cells written one behind the other. -/
def setL (xs : List Value) (o : Nat) : List Value → List Value
  | [] => xs
  | v :: r => setL (xs.set o v) (o + 1) r
theorem setL_eq : ∀ (vs xs : List Value) (o : Nat), o + vs.length ≤ xs.length → setL xs o vs = xs.take o ++ vs ++ xs.drop (o + vs.length)
  | [], xs, o, h => by simp [setL]
  | v :: r, xs, o, h => by
    simp only [List.length_cons] at h
    rw [setL, setL_eq r (xs.set o v) (o + 1) (by simp; omega), list_seg_step xs o v r (by omega)]
    rfl
theorem owns_setCells {base : Nat} {e : TypeId} {size g cap n : Nat} : ∀ (vs : List Value) (o : Nat) (w : World) (xs : List Value), w.ownsRow base e size (.slice (some ⟨g, 0, none⟩) n cap) n xs → (w.setCells g o vs).ownsRow base e size (.slice (some ⟨g, 0, none⟩) n cap) n (setL xs o vs)
  | [], _, _, _, h => h
  | v :: r, o, w, xs, h => owns_setCells r (o + 1) _ _ (h.stored o v).1
theorem chg_setCells {S : Nat → Prop} {a : World} (b : Nat) (hb : S b) : ∀ (vs : List Value) (o : Nat) (w : World), Chg S a w → Chg S a (w.setCells b o vs)
  | [], _, _, h => h
  | v :: r, o, w, h => chg_setCells b hb r (o + 1) _ (h.setCell (p := ⟨b, o, none⟩) hb v)
theorem size_setCells (b : Nat) : ∀ (vs : List Value) (o : Nat) (w : World), (w.setCells b o vs).heap.size = w.heap.size
  | [], _, _ => rfl
  | v :: r, o, w => by rw [World.setCells, size_setCells b r]; simp
theorem flat4_one (c : Ck) : flat4 [c] = [.int .i64 c.n, .int .i64 c.d, .string c.k, .int .u32 c.v] := rfl
theorem flat4_take (l : List Ck) (i : Nat) : (flat4 l).take (i * 4) = flat4 (l.take i) := by
  induction l generalizing i with
  | nil => simp [flat4]
  | cons x r ih =>
    cases i with
    | zero => simp [flat4]
    | succ i =>
      rw [show (i + 1) * 4 = i * 4 + 1 + 1 + 1 + 1 from by omega]
      simp only [flat4, List.take_succ_cons, ih]
theorem flat4_drop (l : List Ck) (i : Nat) : (flat4 l).drop (i * 4) = flat4 (l.drop i) := by
  induction l generalizing i with
  | nil => simp [flat4]
  | cons x r ih =>
    cases i with
    | zero => simp [flat4]
    | succ i =>
      rw [show (i + 1) * 4 = i * 4 + 1 + 1 + 1 + 1 from by omega]
      simp only [flat4, List.drop_succ_cons, ih]
theorem flat4_one' (l : List Ck) : ∀ v ∈ flat4 l, v.oneCell' = true := by
  induction l with
  | nil => intro v h; simp [flat4] at h
  | cons x r ih =>
    intro v h
    simp only [flat4, List.mem_cons] at h
    rcases h with rfl | rfl | rfl | rfl | h
    · rfl
    · rfl
    · rfl
    · rfl
    · exact ih v h
/-- A chunk put in at place i. -/
def insC (G : List Ck) (i : Nat) (c : Ck) : List Ck := G.take i ++ [c] ++ G.drop i
theorem insC_length (G : List Ck) (i : Nat) (c : Ck) (h : i ≤ G.length) : (insC G i c).length = G.length + 1 := by simp [insC]; omega
theorem ins_a (G : List Ck) (i : Nat) (c : Ck) (h : i < G.length) (xs : List Value) (hl : xs.length = (G.length + 1) * 4) (ht : xs.take (i * 4) = flat4 (G.take i)) :
    setL (setL xs (i * 4) (flat4 [c])) ((i + 1) * 4) (flat4 (G.drop i)) = flat4 (insC G i c) := by
  have hd : (flat4 (G.drop i)).length = (G.length - i) * 4 := by rw [flat4_length, List.length_drop]
  have h1 : (flat4 [c]).length = 4 := rfl
  have e1 := setL_eq (flat4 [c]) xs (i * 4) (by rw [h1]; omega)
  rw [h1] at e1
  have hl1 : (setL xs (i * 4) (flat4 [c])).length = (G.length + 1) * 4 := by rw [e1]; simp [h1]; omega
  have z : (setL xs (i * 4) (flat4 [c])).drop ((i + 1) * 4 + (G.length - i) * 4) = [] := List.drop_eq_nil_of_le (by rw [hl1]; omega)
  rw [setL_eq _ _ _ (by rw [hl1, hd]; omega), hd, z, List.append_nil]
  unfold insC
  rw [flat4_append, flat4_append, e1, ht]
  congr 1
  have hta : (flat4 (G.take i)).length = i * 4 := by rw [flat4_length, List.length_take]; congr 1; omega
  rw [List.take_append_of_le_length (by simp [hta, h1]; omega), List.take_of_length_le (by simp [hta, h1]; omega)]
theorem ins_b (G : List Ck) (i : Nat) (c : Ck) (h : i < G.length) (xs : List Value) (hl : xs.length = (G.length + 1) * 4) (ht : xs.take (i * 4) = flat4 (G.take i)) :
    setL (setL xs ((i + 1) * 4) (flat4 (G.drop i))) (i * 4) (flat4 [c]) = flat4 (insC G i c) := by
  have hd : (flat4 (G.drop i)).length = (G.length - i) * 4 := by rw [flat4_length, List.length_drop]
  have h1 : (flat4 [c]).length = 4 := rfl
  have e1 := setL_eq (flat4 (G.drop i)) xs ((i + 1) * 4) (by rw [hd]; omega)
  have z : xs.drop ((i + 1) * 4 + (G.length - i) * 4) = [] := List.drop_eq_nil_of_le (by omega)
  rw [hd, z, List.append_nil] at e1
  have hl1 : (setL xs ((i + 1) * 4) (flat4 (G.drop i))).length = (G.length + 1) * 4 := by rw [e1]; simp [hd]; omega
  rw [setL_eq _ _ _ (by rw [hl1, h1]; omega), h1]
  unfold insC
  rw [flat4_append, flat4_append]
  have a1 : (setL xs ((i + 1) * 4) (flat4 (G.drop i))).take (i * 4) = flat4 (G.take i) := by
    rw [e1, List.take_append_of_le_length (by simp; omega), List.take_take, Nat.min_eq_left (by omega), ht]
  have a2 : (setL xs ((i + 1) * 4) (flat4 (G.drop i))).drop (i * 4 + 4) = flat4 (G.drop i) := by
    rw [e1, List.drop_append_of_le_length (by simp; omega), List.drop_eq_nil_of_le (by simp; omega), List.nil_append]
  rw [a1, a2]
theorem run_copy4 (w : World) (ty : TypeId) (b o dLen dCap : Nat) (a : Addr) (sLen sCap : Nat) (cs : List Value) (hn : cs.length = Nat.min sLen dLen * 4)
    (hsrc : ∀ j v, cs[j]? = some v → w.cell? (a.add j) = some v) (hc : ∀ j, j < cs.length → (w.cell? ⟨b, o + j, none⟩).isSome = true) (hf : ∀ j, j < cs.length → w.frozen? ⟨b, o + j, none⟩ = false) (h1 : ∀ v ∈ cs, v.oneCell' = true) :
    (Builtin.copy_ #[30, 30] ty #[.slice (some ⟨b, o, none⟩) dLen dCap, .slice (some a) sLen sCap]).run Try.prog w = .ok (goInt (Nat.min sLen dLen)) (w.setCells b o cs) := by
  have hl := run_loadCells_list (P := Try.prog) w a cs hsrc
  have hst := run_storeCells_cells (P := Try.prog) b o cs 0 w (by simpa using hc) (by simpa using hf) h1
  simp [Builtin.copy_, run_underlying Try.underlying30, Builtin.lenOf, Builtin.firstCells, Try.sizeOf37, ← hn, hl, hst]
/-- A row with room for one more. -/
theorem owns_more {w : World} {base : Nat} {g cap n : Nat} {xs : List Value} (h : w.ownsRow base 37 4 (.slice (some ⟨g, 0, none⟩) n cap) n xs) (hc : n + 1 ≤ cap) : ∃ ex, ex.length = 4 ∧ w.ownsRow base 37 4 (.slice (some ⟨g, 0, none⟩) (n + 1) cap) (n + 1) (xs ++ ex) := by
  obtain ⟨hl, h⟩ := h
  rcases h with ⟨h, _⟩ | ⟨g', cap', cur, hv, hbg, hh, h1, h2, h3, h4⟩
  · simp at h
  · simp only [Value.slice.injEq, Option.some.injEq, Addr.mk.injEq, and_true, true_and] at hv
    obtain ⟨rfl, rfl⟩ := hv
    have e : cur.toList.take ((n + 1) * 4) = xs ++ (cur.toList.drop (n * 4)).take 4 := by
      rw [show (n + 1) * 4 = n * 4 + 4 from by omega, List.take_add, h4]
    have hl4 : ((cur.toList.drop (n * 4)).take 4).length = 4 := by simp; omega
    exact ⟨(cur.toList.drop (n * 4)).take 4, hl4, by rw [List.length_append, hl, hl4]; omega, .inr ⟨g, cap, cur, rfl, hbg, hh, hc, h2, h3, e⟩⟩
theorem owns_isSome {w : World} {base : Nat} {e : TypeId} {size g cap n : Nat} {xs : List Value} (h : w.ownsRow base e size (.slice (some ⟨g, 0, none⟩) n cap) n xs) (j : Nat) (hj : j < n * size) : (w.cell? ⟨g, j, none⟩).isSome = true := by
  rw [h.cellAt j hj, List.getElem?_eq_getElem (by rw [h.1]; exact hj)]; rfl
theorem owns_shape? {w : World} {base : Nat} {e : TypeId} {size g cap n : Nat} {xs : List Value} (h : w.ownsRow base e size (.slice (some ⟨g, 0, none⟩) n cap) n xs) : w.shape? g = some (e, cap * size) := by
  rcases h.2 with ⟨h, _⟩ | ⟨g', cap', cur, hv, hbg, hh, h1, h2, h3, h4⟩
  · simp at h
  · simp only [Value.slice.injEq, Option.some.injEq, Addr.mk.injEq, and_true, true_and] at hv
    obtain ⟨rfl, rfl⟩ := hv
    simp [World.shape?, hh, h3]
theorem owns_capM {w : World} {base : Nat} {e : TypeId} {size g cap n : Nat} {xs : List Value} (h : w.ownsRow base e size (.slice (some ⟨g, 0, none⟩) n cap) n xs) : n ≤ cap ∧ cap ≤ maxLen := by
  rcases h.2 with ⟨h, _⟩ | ⟨g', cap', cur, hv, hbg, hh, h1, h2, h3, h4⟩
  · simp at h
  · simp only [Value.slice.injEq, Option.some.injEq, Addr.mk.injEq, and_true, true_and] at hv
    obtain ⟨rfl, rfl⟩ := hv
    exact ⟨h1, h2⟩

/-- One chunk appended to a row of one's own; where the row lies then. -/
theorem wpList_append_ck_at (w : World) {ops : Array Oper} {rest : List Oper} {o : Oper} {a : Act} {Q : Exit → Act → World → Prop} (hgd : o.guard = none) (s y : Operand)
    (ho : o.op = .call { callee := .builtin .append, args := #[s, y], argTypes := #[30, 30] }) (hty : o.type = 30)
    (base : Nat) (v : Value) (n : Nat) (zs : List Ck) (hs : a.eval s = v) (hown : w.ownsRow base 37 4 v n (flat4 zs))
    (b : Nat) (x : Ck) (hx : a.eval y = .slice (some ⟨b, 0, none⟩) 1 1) (hI : Box w b [.int .i64 x.n, .int .i64 x.d, .string x.k, .int .u32 x.v]) (hn : n + 1 ≤ 2000000) (hbase : base ≤ w.heap.size)
    (h : ∀ v' w', w'.ownsRow base 37 4 v' (n + 1) (flat4 (zs ++ [x])) → w.grownBy w' v.ownBlock → (v'.ownBlock = v.ownBlock ∨ v'.ownBlock = some w.heap.size) → wpList Try.prog ops Q rest (a.put o.dst v') w') : wpList Try.prog ops Q (o :: rest) a w := by
  obtain ⟨i0, hi, hz0, hzs, hzb⟩ := info_parts Try.info37
  refine wpList_append_own_at _ hgd s y 30 ho base 37 i0 (.agg #[.int .i64 0, .int .i64 0, .string ⟨#[]⟩, .int .u32 0]) 4 40 Try.underlying30 hi hz0 hzs hzb rfl (by decide) v n (flat4 zs) hs hown ⟨b, 0, none⟩ 1 1 (flat4 [x]) hx rfl ?_ ?_ (by unfold maxLen; omega) (by omega) hbase fun v' w' h1 h2 _ h4 => h v' w' (by rw [flat4_append]; exact h1) h2 h4
  · intro j u hj
    rw [show (⟨b, 0, none⟩ : Addr).add j = ⟨b, j, none⟩ from by simp [Addr.add]; omega]
    exact hI.2.1 j u hj
  · intro u hu
    simp only [flat4, List.mem_cons, List.not_mem_nil, or_false] at hu
    rcases hu with rfl | rfl | rfl | rfl <;> rfl

set_option maxHeartbeats 8000000 in
/-- At the end. -/
theorem insert_end (v : Value) (base vb b0 : Nat) (G : List Ck) (c : Ck) (w : World) (ho : w.ownsRow base 37 4 v G.length (flat4 G)) (hv : w.ownsRow b0 37 4 (.slice (some ⟨vb, 0, none⟩) 1 1) 1 (flat4 [c])) (hbase : base ≤ w.heap.size) (hn : G.length ≤ 1000) :
    Calls Try.prog 101 #[v, .int .i64 G.length, .slice (some ⟨vb, 0, none⟩) 1 1] w fun e w' => ∃ u, e = .returned u ∧ w'.ownsRow base 37 4 u (G.length + 1) (flat4 (G ++ [c])) ∧ w.grownBy w' v.ownBlock ∧ (u.ownBlock = v.ownBlock ∨ u.ownBlock = some w.heap.size) := by
  obtain ⟨a, cap, rfl⟩ := owns_shape ho
  have X : Box w vb [.int .i64 c.n, .int .i64 c.d, .string c.k, .int .u32 c.v] := ⟨(owns_lt hv).2, fun j u hj => by
      have hj4 : j < 4 := by have := (List.getElem?_eq_some_iff.1 hj).1; simpa using this
      rw [hv.cellAt j (by omega)]; exact hj, fun j => hv.frozenAt j⟩
  clear hv
  go_enter Try.func101, Try.ntmps101
  go_wp2_with (at_builtin; refine wpList_append_ck_at _ rfl _ _ rfl rfl base _ G.length G rfl ho vb c rfl X (by omega) hbase ?_; intro v' w' hown hgr hat; refine StopA.go ?_)
  all_goals
    unfold StopA
    obtain ⟨ua, uc, rfl⟩ := owns_shape hown
    clear ho X
    go_wp2
    go_ret
    exact ⟨_, rfl, hown, hgr, hat⟩

set_option maxHeartbeats 16000000 in
/-- In the midst, there is room. -/
theorem insert_room (g cap base vb b0 i : Nat) (G : List Ck) (c : Ck) (w : World) (ho : w.ownsRow base 37 4 (.slice (some ⟨g, 0, none⟩) G.length cap) G.length (flat4 G)) (hv : w.ownsRow b0 37 4 (.slice (some ⟨vb, 0, none⟩) 1 1) 1 (flat4 [c])) (hne : vb ≠ g) (hi : i < G.length) (hroom : G.length + 1 ≤ cap) (hn : G.length ≤ 1000) :
    Calls Try.prog 101 #[.slice (some ⟨g, 0, none⟩) G.length cap, .int .i64 i, .slice (some ⟨vb, 0, none⟩) 1 1] w fun e w' => ∃ u, e = .returned u ∧ w'.ownsRow base 37 4 u (G.length + 1) (flat4 (insC G i c)) ∧ u.ownBlock = some g ∧ Chg (· = g) w w' := by
  obtain ⟨ex, hex, hO⟩ := owns_more ho hroom
  have hsa := owns_shape? hv
  have hsb := owns_shape? ho
  obtain ⟨_, hcm⟩ := owns_capM ho
  unfold maxLen at hcm
  have hov : ∀ lb cb, (callFunc 108 #[.slice (some ⟨vb, 0, none⟩) 1 1, .slice (some ⟨g, (i + 1) * 4, none⟩) lb cb]).run Try.prog w = .ok (.value (.bool false)) w := fun lb cb => by
    rw [run_callFunc_extern Try.func108 (by kernel_rfl) (by kernel_rfl) (by kernel_rfl) (e := Extern.SlicesOverlaps.overlaps #[30, 30] #[4]) (by kernel_rfl),
      Lib.run_overlaps_apart w 30 4 37 Try.underlying30 4 (fun w => Try.sizeOf37 w) ⟨vb, 0, none⟩ ⟨g, (i + 1) * 4, none⟩ 1 1 lb cb hne 37 37 (1 * 4) (cap * 4) hsa hsb (by omega) (hv.frozenAt 0) (hv.frozenAt _)]
    rfl
  have hdl : (flat4 (G.drop i)).length = (G.length - i) * 4 := by rw [flat4_length, List.length_drop]
  have hcp1 : ∀ ty dc sc, (Builtin.copy_ #[30, 30] ty #[.slice (some ⟨g, (i + 1) * 4, none⟩) (G.length - i) dc, .slice (some ⟨g, i * 4, none⟩) (G.length + 1 - i) sc]).run Try.prog w.drew = .ok (goInt (Nat.min (G.length + 1 - i) (G.length - i))) (w.drew.setCells g ((i + 1) * 4) (flat4 (G.drop i))) := fun ty dc sc =>
    run_copy4 w.drew ty g ((i + 1) * 4) (G.length - i) dc ⟨g, i * 4, none⟩ (G.length + 1 - i) sc (flat4 (G.drop i)) (by rw [hdl]; simp only [Nat.min_def]; split <;> omega)
      (fun j v hj => by
        have hjl := (List.getElem?_eq_some_iff.1 hj).1
        rw [hdl] at hjl
        rw [Addr.add_lit]
        show w.cell? _ = _
        rw [ho.cellAt (i * 4 + j) (by omega)]
        rw [← flat4_drop, List.getElem?_drop] at hj
        exact hj)
      (fun j hj => by rw [hdl] at hj; exact owns_isSome hO _ (by omega)) (fun j hj => hO.frozenAt _) (flat4_one' _)
  obtain ⟨W1, hW1⟩ : ∃ W1, W1 = w.drew.setCells g ((i + 1) * 4) (flat4 (G.drop i)) := ⟨_, rfl⟩
  have hO1 : W1.ownsRow base 37 4 (.slice (some ⟨g, 0, none⟩) (G.length + 1) cap) (G.length + 1) (setL (flat4 G ++ ex) ((i + 1) * 4) (flat4 (G.drop i))) := by rw [hW1]; exact owns_setCells _ _ _ _ hO.drew
  have hcp2 : ∀ (W : World), (∀ x, W.cell? x = W1.cell? x) → (∀ x, W.frozen? x = W1.frozen? x) → ∀ ty dc, (Builtin.copy_ #[30, 30] ty #[.slice (some ⟨g, i * 4, none⟩) (G.length + 1 - i) dc, .slice (some ⟨vb, 0, none⟩) 1 1]).run Try.prog W = .ok (goInt (Nat.min 1 (G.length + 1 - i))) (W.setCells g (i * 4) (flat4 [c])) := fun W hWc hWf ty dc =>
    run_copy4 W ty g (i * 4) (G.length + 1 - i) dc ⟨vb, 0, none⟩ 1 1 (flat4 [c]) (by show 4 = _; simp only [Nat.min_def]; split <;> omega)
      (fun j v hj => by
        have hjl : j < 4 := (List.getElem?_eq_some_iff.1 hj).1
        rw [Addr.add_lit, hWc, hW1, World.cell?_setCells_out g _ _ _ _ (fun h _ => absurd h hne)]
        show w.cell? _ = _
        rw [Nat.zero_add, hv.cellAt j (by omega)]; exact hj)
      (fun j hj => by have hj4 : j < 4 := hj; rw [hWc]; exact owns_isSome hO1 _ (by omega)) (fun j hj => by rw [hWf]; exact hO1.frozenAt _) (flat4_one' _)
  have HF : Hid (setL (setL (flat4 G ++ ex) ((i + 1) * 4) (flat4 (G.drop i))) (i * 4) (flat4 [c]) = flat4 (insC G i c)) := ins_b G i c hi (flat4 G ++ ex) (by rw [List.length_append, flat4_length, hex]; omega) (by rw [List.take_append_of_le_length (by rw [flat4_length]; omega), flat4_take])
  have HC1 : Hid (Chg (· = g) w W1) := by show Chg _ _ _; rw [hW1]; exact chg_setCells (S := (· = g)) g rfl _ _ _ (Chg.of_below (Below.refl _ _).drew)
  have HO1 : Hid (W1.ownsRow base 37 4 (.slice (some ⟨g, 0, none⟩) (G.length + 1) cap) (G.length + 1) (setL (flat4 G ++ ex) ((i + 1) * 4) (flat4 (G.drop i)))) := hO1
  rw [← hW1] at hcp1
  have mixed : Try.prog.follows .mixedOrders = true := by kernel_rfl
  have hz2 : ¬ ((i : Int) = (G.length : Int)) := by omega
  have hw1 : IntKind.i64.wrap ((i : Int) + 1) = (i : Int) + 1 := by rw [IntKind.wrap_i64]; omega
  have hb1 : (0 : Int) ≤ (i : Int) + 1 := by omega
  have htn : ((i : Int) + 1).toNat = i + 1 := by omega
  have hb2 : ¬ (cap = i + 1) := by omega
  have hb3 : (i : Int) ≤ (G.length : Int) + 1 := by omega
  have hb4 : ¬ (cap = i) := by omega
  have hin : i ≤ G.length := by omega
  clear ho hv hO hO1 hsa hsb hdl hex
  go_enter Try.func101, Try.ntmps101
  go_wp2_with (simp only [hov])
  go_region_law_o (refine step_copy_runI rfl _ _ 30 30 rfl _ _ (by simp [Act.eval, Act.put]) (by simp [Act.eval, Act.put]) (hcp1 _ _ _) ?_)
  go_wp2_with (at_builtin; refine wpList_copy_runI _ rfl _ _ 30 30 rfl _ _ rfl rfl (hcp2 _ (fun _ => rfl) (fun _ => rfl) _ _) ?_)
  go_ret
  have h1 := HO1.out
  have h2 := HC1.out
  rw [hW1] at h1 h2
  exact ⟨_, rfl, by rw [← HF.out]; exact owns_setCells _ _ _ _ h1, rfl, chg_setCells (S := (· = g)) g rfl _ _ _ h2⟩

set_option maxHeartbeats 16000000 in
/-- In the midst, there is no room. -/
theorem insert_grow (g cap base vb b0 i : Nat) (G : List Ck) (c : Ck) (w : World) (ho : w.ownsRow base 37 4 (.slice (some ⟨g, 0, none⟩) G.length cap) G.length (flat4 G)) (hv : w.ownsRow b0 37 4 (.slice (some ⟨vb, 0, none⟩) 1 1) 1 (flat4 [c])) (hbase : base ≤ w.heap.size) (hi : i < G.length) (hroom : cap < G.length + 1) (hn : G.length ≤ 1000) :
    Calls Try.prog 101 #[.slice (some ⟨g, 0, none⟩) G.length cap, .int .i64 i, .slice (some ⟨vb, 0, none⟩) 1 1] w fun e w' => ∃ u, e = .returned u ∧ w'.ownsRow base 37 4 u (G.length + 1) (flat4 (insC G i c)) ∧ u.ownBlock = some w.heap.size ∧ Below w.heap.size w w' := by
  obtain ⟨i0, hi0, hz0, hzs, hzb⟩ := info_parts Try.info37
  obtain ⟨hcn, hcm⟩ := owns_capM ho
  have hgl := (owns_lt ho).2
  have hvl := (owns_lt hv).2
  have hik : i + (G.length + 1 - i) = G.length + 1 := by omega
  have hkk : (G.length : Int) + 1 - (i : Int) = ((G.length + 1 - i : Nat) : Int) := by omega
  have hold : (Builtin.firstCells i0.size i (.slice (some ⟨g, 0, none⟩) i cap)).run Try.prog w.drew = .ok (flat4 (G.take i)).toArray w.drew := by
    rw [hzs]
    exact run_firstCells_some w.drew 4 i ⟨g, 0, none⟩ i cap (flat4 (G.take i)) (by rw [flat4_length, List.length_take]; congr 1; omega) (fun j v hj => by
      rw [Addr.add_lit, Nat.zero_add]
      show w.cell? _ = _
      have hjl := (List.getElem?_eq_some_iff.1 hj).1
      rw [flat4_length, List.length_take] at hjl
      rw [ho.cellAt j (by omega)]
      rw [← flat4_take, List.getElem?_take] at hj
      split at hj
      · exact hj
      · cases hj)
  have hrz : ∀ ty, (Builtin.append_ #[30, 3] ty #[.slice (some ⟨g, 0, none⟩) i cap, .int .i64 ((G.length : Int) + 1 - (i : Int))]).run Try.prog w =
      .ok (.slice (some ⟨w.heap.size, 0, none⟩) (G.length + 1) (grownCap w (G.length + 1) cap 37)) (w.drew.alloc (.cells ((flat4 (G.take i)).toArray ++ Builtin.zeroCells (Value.agg #[.int .i64 0, .int .i64 0, .string ⟨#[]⟩, .int .u32 0]).cells (G.length + 1 - i) ++ Builtin.zeroCells (Value.agg #[.int .i64 0, .int .i64 0, .string ⟨#[]⟩, .int .u32 0]).cells (grownCap w (G.length + 1) cap 37 - (G.length + 1))) 37)) := fun ty => by
    have h := Lib.run_append_grow_zeros w 30 3 ty 37 i0 _ .i64 .i64 Try.underlying30 Try.underlying3 hi0 hz0 (some ⟨g, 0, none⟩) i cap (flat4 (G.take i)) hold (G.length + 1 - i) (by omega) (by rw [hzs]; omega) (by omega) (by omega) (by rw [hzb]; omega) (by rw [hzb, hik]; exact growslice_fits hroom (by omega))
    rw [hik] at h
    rw [hkk]
    exact h
  obtain ⟨C, hC⟩ : ∃ C, C = grownCap w (G.length + 1) cap 37 := ⟨_, rfl⟩
  obtain ⟨ROW, hROW⟩ : ∃ ROW : Array Value, ROW = (flat4 (G.take i)).toArray ++ Builtin.zeroCells (Value.agg #[.int .i64 0, .int .i64 0, .string ⟨#[]⟩, .int .u32 0]).cells (G.length + 1 - i) ++ Builtin.zeroCells (Value.agg #[.int .i64 0, .int .i64 0, .string ⟨#[]⟩, .int .u32 0]).cells (C - (G.length + 1)) := ⟨_, rfl⟩
  rw [← hC, ← hROW] at hrz
  have hCn : G.length + 1 ≤ C := by rw [hC]; exact grownCap_ge w _ _ _
  have hC63 : C ≤ maxLen := by rw [hC]; exact grownCap_le_maxLen w (G.length + 1) cap 37 (by unfold maxLen; omega)
  have htl : (flat4 (G.take i)).length = i * 4 := by rw [flat4_length, List.length_take]; congr 1; omega
  have hRs : ROW.size = C * 4 := by
    rw [hROW]
    simp [Builtin.zeroCells, Value.cells, htl]
    omega
  have hRL : ROW.toList.length = C * 4 := Array.length_toList.trans hRs
  have hRt : (ROW.toList.take ((G.length + 1) * 4)).take (i * 4) = flat4 (G.take i) := by
    rw [List.take_take, Nat.min_eq_left (by omega), hROW]
    simp only [Array.toList_append, List.append_assoc]
    rw [List.take_append_of_le_length (by simp [htl]), List.take_of_length_le (by simp [htl])]
  obtain ⟨W1, hW1⟩ : ∃ W1, W1 = w.drew.alloc (.cells ROW 37) := ⟨_, rfl⟩
  rw [← hW1] at hrz
  have hO1 : W1.ownsRow base 37 4 (.slice (some ⟨w.heap.size, 0, none⟩) (G.length + 1) C) (G.length + 1) (ROW.toList.take ((G.length + 1) * 4)) := by
    rw [hW1]
    exact ⟨by rw [List.length_take, hRL]; omega, .inr ⟨w.heap.size, C, ROW, rfl, hbase, heap_alloc_new w.drew _, hCn, hC63, hRs, rfl⟩⟩
  have hB1 : Below w.heap.size w W1 := by rw [hW1]; exact (Below.refl _ _).drew.alloc (by simp) _
  have hcpA : ∀ (W : World), (∀ x, W.cell? x = W1.cell? x) → (∀ x, W.frozen? x = W1.frozen? x) → ∀ ty dc, (Builtin.copy_ #[30, 30] ty #[.slice (some ⟨w.heap.size, i * 4, none⟩) (G.length + 1 - i) dc, .slice (some ⟨vb, 0, none⟩) 1 1]).run Try.prog W = .ok (goInt (Nat.min 1 (G.length + 1 - i))) (W.setCells w.heap.size (i * 4) (flat4 [c])) := fun W hWc hWf ty dc =>
    run_copy4 W ty w.heap.size (i * 4) (G.length + 1 - i) dc ⟨vb, 0, none⟩ 1 1 (flat4 [c]) (by show 4 = _; simp only [Nat.min_def]; split <;> omega)
      (fun j v hj => by
        have hjl : j < 4 := (List.getElem?_eq_some_iff.1 hj).1
        rw [Addr.add_lit, hWc, Nat.zero_add, hB1.cell (p := ⟨vb, j, none⟩) hvl, hv.cellAt j (by omega)]; exact hj)
      (fun j hj => by have hj4 : j < 4 := hj; rw [hWc]; exact owns_isSome hO1 _ (by omega)) (fun j hj => by rw [hWf]; exact hO1.frozenAt _) (flat4_one' _)
  have hO2 := owns_setCells (flat4 [c]) (i * 4) W1 _ hO1
  have hdl : (flat4 (G.drop i)).length = (G.length - i) * 4 := by rw [flat4_length, List.length_drop]
  have hcpB : ∀ (W : World), (∀ x, W.cell? x = (W1.setCells w.heap.size (i * 4) (flat4 [c])).cell? x) → (∀ x, W.frozen? x = (W1.setCells w.heap.size (i * 4) (flat4 [c])).frozen? x) → ∀ ty dc sc, (Builtin.copy_ #[30, 30] ty #[.slice (some ⟨w.heap.size, (i + 1) * 4, none⟩) (G.length - i) dc, .slice (some ⟨g, i * 4, none⟩) (G.length - i) sc]).run Try.prog W = .ok (goInt (Nat.min (G.length - i) (G.length - i))) (W.setCells w.heap.size ((i + 1) * 4) (flat4 (G.drop i))) := fun W hWc hWf ty dc sc =>
    run_copy4 W ty w.heap.size ((i + 1) * 4) (G.length - i) dc ⟨g, i * 4, none⟩ (G.length - i) sc (flat4 (G.drop i)) (by rw [hdl]; simp only [Nat.min_def]; split <;> omega)
      (fun j v hj => by
        have hjl := (List.getElem?_eq_some_iff.1 hj).1
        rw [hdl] at hjl
        rw [Addr.add_lit, hWc, World.cell?_setCells_out _ _ _ _ _ (fun h _ => by simp only at h; omega), hB1.cell (p := ⟨g, i * 4 + j, none⟩) hgl, ho.cellAt (i * 4 + j) (by omega)]
        rw [← flat4_drop, List.getElem?_drop] at hj
        exact hj)
      (fun j hj => by rw [hdl] at hj; rw [hWc]; exact owns_isSome hO2 _ (by omega)) (fun j hj => by rw [hWf]; exact hO2.frozenAt _) (flat4_one' _)
  have HF : Hid (setL (setL (ROW.toList.take ((G.length + 1) * 4)) (i * 4) (flat4 [c])) ((i + 1) * 4) (flat4 (G.drop i)) = flat4 (insC G i c)) := ins_a G i c hi _ (by rw [List.length_take, hRL]; omega) hRt
  have HO1 : Hid (W1.ownsRow base 37 4 (.slice (some ⟨w.heap.size, 0, none⟩) (G.length + 1) C) (G.length + 1) (ROW.toList.take ((G.length + 1) * 4))) := hO1
  have HB1 : Hid (Below w.heap.size w W1) := hB1
  subst hW1
  have hE1 : ∀ x, ((w.alloc (.cells ROW 37)).drew).cell? x = (w.drew.alloc (.cells ROW 37)).cell? x := fun x => rfl
  have hE2 : ∀ x, ((w.alloc (.cells ROW 37)).drew).frozen? x = (w.drew.alloc (.cells ROW 37)).frozen? x := fun x => rfl
  have hF1 : ∀ x, (((w.alloc (.cells ROW 37)).drew.setCells w.heap.size (i * 4) (flat4 [c])).drew).cell? x = ((w.drew.alloc (.cells ROW 37)).setCells w.heap.size (i * 4) (flat4 [c])).cell? x := fun x => rfl
  have hF2 : ∀ x, (((w.alloc (.cells ROW 37)).drew.setCells w.heap.size (i * 4) (flat4 [c])).drew).frozen? x = ((w.drew.alloc (.cells ROW 37)).setCells w.heap.size (i * 4) (flat4 [c])).frozen? x := fun x => rfl
  have mixed : Try.prog.follows .mixedOrders = true := by kernel_rfl
  have hz2 : ¬ ((i : Int) = (G.length : Int)) := by omega
  have hz3 : (cap : Int) < (G.length : Int) + 1 := by omega
  have hw1 : IntKind.i64.wrap ((i : Int) + 1) = (i : Int) + 1 := by rw [IntKind.wrap_i64]; omega
  have hb1 : (0 : Int) ≤ (i : Int) + 1 := by omega
  have htn : ((i : Int) + 1).toNat = i + 1 := by omega
  have hGi : ¬ (C = i) := by omega
  have hGim : ¬ (C = i + 1) := by omega
  have hci : ¬ (cap = i) := by omega
  have hb3 : (i : Int) ≤ (G.length : Int) := by omega
  have hin : i ≤ G.length := by omega
  have hC64 : C ≤ 9223372036854775807 := by unfold maxLen at hC63; omega
  have HRs : Hid (ROW.size = C * 4) := hRs
  clear hold hROW hC hO1 hO2 hB1 hRt hRs hRL htl hkk hik hdl hi0 hz0 hzs hzb ho hv hC63
  go_enter Try.func101, Try.ntmps101
  go_wp2_with (first
    | (at_builtin; refine Lib.wpList_append_run _ rfl _ _ _ _ rfl _ _ rfl rfl _ _ (hrz _) ?_)
    | (at_builtin; refine wpList_copy_runI _ rfl _ _ 30 30 rfl _ _ rfl rfl (hcpA _ hE1 hE2 _ _) ?_))
  go_region_law_o (refine step_copy_runI rfl _ _ 30 30 rfl _ _ (by simp [Act.eval, Act.put]) (by simp [Act.eval, Act.put]) (hcpB _ hF1 hF2 3 (C - (i + 1)) (cap - i)) ?_)
  go_wp2
  go_ret
  have h1 : ((w.alloc (.cells ROW 37)).drew).ownsRow base 37 4 (.slice (some ⟨w.heap.size, 0, none⟩) (G.length + 1) C) (G.length + 1) (ROW.toList.take ((G.length + 1) * 4)) := HO1.out
  have h2 : Chg (fun k => w.heap.size ≤ k) w ((w.alloc (.cells ROW 37)).drew) := ⟨rfl, rfl, rfl, HB1.out.size, fun k hk _ => HB1.out.block k hk⟩
  have h3 := chg_setCells (S := fun k => w.heap.size ≤ k) w.heap.size (Nat.le_refl _) (flat4 (G.drop i)) ((i + 1) * 4) _ ((chg_setCells (S := fun k => w.heap.size ≤ k) w.heap.size (Nat.le_refl _) (flat4 [c]) (i * 4) _ h2).trans (Chg.of_below (Below.refl _ _).drew))
  exact ⟨_, rfl, by rw [← HF.out]; exact owns_setCells _ _ _ _ (owns_setCells _ _ _ _ h1).drew, rfl, h3.below (Nat.le_refl _) (fun k h => h)⟩

/-- One chunk put into a row of one's own, nil or not. -/
theorem insert_any (v : Value) (base vb b0 i : Nat) (G : List Ck) (c : Ck) (w : World) (ho : w.ownsRow base 37 4 v G.length (flat4 G)) (hv : w.ownsRow b0 37 4 (.slice (some ⟨vb, 0, none⟩) 1 1) 1 (flat4 [c])) (hne : v.ownBlock ≠ some vb) (hbase : base ≤ w.heap.size) (hi : i ≤ G.length) (hn : G.length ≤ 1000) :
    Calls Try.prog 101 #[v, .int .i64 i, .slice (some ⟨vb, 0, none⟩) 1 1] w fun e w' => ∃ u, e = .returned u ∧ w'.ownsRow base 37 4 u (G.length + 1) (flat4 (insC G i c)) ∧ (∀ g, u.ownBlock = some g → v.ownBlock = some g ∨ w.heap.size ≤ g) ∧ Chg (fun b => v.ownBlock = some b) w w' := by
  rcases Nat.eq_or_lt_of_le hi with rfl | hlt
  · refine (insert_end v base vb b0 G c w ho hv hbase hn).mono ?_
    rintro e w' ⟨u, rfl, h1, h2, h3⟩
    refine ⟨u, rfl, ?_, fun g hg => by rcases h3 with e | e <;> rw [e] at hg; exact .inl hg; injection hg with hg; exact .inr (by omega), h2.os, h2.tape, h2.output, h2.size, fun k hk hs => h2.block k hk fun e => hs e.symm⟩
    unfold insC
    rw [List.take_length, List.drop_length, List.append_nil]
    exact h1
  · rcases ho.2 with ⟨_, h0⟩ | ⟨g, cap, cur, rfl, _⟩
    · omega
    · by_cases hr : G.length + 1 ≤ cap
      · refine (insert_room g cap base vb b0 i G c w ho hv (fun e => hne (by rw [e]; rfl)) hlt hr hn).mono ?_
        rintro e w' ⟨u, rfl, h1, hg, h2⟩
        exact ⟨u, rfl, h1, fun k hk => .inl (by rw [hg] at hk; exact hk), h2.mono fun k h => by rw [h]; rfl⟩
      · refine (insert_grow g cap base vb b0 i G c w ho hv hbase hlt (by omega) hn).mono ?_
        rintro e w' ⟨u, rfl, h1, hg, h2⟩
        exact ⟨u, rfl, h1, fun k hk => .inr (by rw [hg] at hk; injection hk with hk; omega), Chg.of_below h2⟩
end Go.Proofs.Ytocaigffikdlhaa
