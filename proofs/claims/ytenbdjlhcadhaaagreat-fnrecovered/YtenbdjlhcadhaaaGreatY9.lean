/-
  Metas compared as structs; a map of metas by their numbers: filesOf.
-/
import Derived.Test.YtenbdjlhcadhaaaGreatN9
import Derived.Test.YtenbdjlhcadhaaaGreatK9ToM0
import Derived.Laws.StructEq
import Derived.Maps.Own
import Derived.Maps.OwnOps
import Derived.Maps.OwnSet
import Derived.Maps.Views
namespace Go.Proofs.YtenbdjlhcadhaaaGreat
open Go.RowKit Go.Maps
set_option linter.unusedVariables false
set_option maxRecDepth 100000

/-- Two metas are the same. -/
def eqM (a b : Mt) : Bool := (a.n == b.n) && ((a.d == b.d) && ((a.k.toList == b.k.toList) && (a.v.toList == b.v.toList)))
theorem tl_inj {a b : ByteArray} (h : a.toList = b.toList) : a = b := by
  rw [ByteArray.toList_eq, ByteArray.toList_eq] at h
  exact ByteArray.ext (Array.toList_inj.1 h)
theorem eqM_iff (a b : Mt) : eqM a b = true ↔ a = b := by
  obtain ⟨an, ad, ak, av⟩ := a
  obtain ⟨bn, bd, bk, bv⟩ := b
  unfold eqM
  simp only [Bool.and_eq_true, beq_iff_eq, Mt.mk.injEq]
  exact ⟨fun h => ⟨h.1, h.2.1, tl_inj h.2.2.1, tl_inj h.2.2.2⟩, fun h => ⟨h.1, h.2.1, by rw [h.2.2.1], by rw [h.2.2.2]⟩⟩
def hasM (l : List Mt) (m : Mt) : Bool := l.any fun x => eqM x m
theorem hasM_iff (l : List Mt) (m : Mt) : hasM l m = true ↔ m ∈ l := by
  unfold hasM
  rw [List.any_eq_true]
  exact ⟨fun ⟨x, hx, he⟩ => (eqM_iff x m).1 he ▸ hx, fun h => ⟨m, h, (eqM_iff m m).2 rfl⟩⟩

theorem eqG82 : Tryz.prog.eqGuardType Tryz.prog.depth 71 = false := by kernel_rfl
theorem stood82 : Tryz.prog.stoodInHeld 71 = false := by kernel_rfl
theorem eqFields_nil (d : Nat) (xs ys : Array Value) (P : Program) (w : World) : (Op.eqFields d xs ys []).run P w = .ok true w := rfl
theorem eqFields_cons {d : Nat} {xs ys : Array Value} {f : Field} {fs : List Field} {P : Program} {w : World} {x y : Value} {r : Bool} (hn : f.name ≠ "_") (hx : (Go.part f.type xs f.offset).run P w = .ok x w) (hy : (Go.part f.type ys f.offset).run P w = .ok y w) (he : (Op.equalIn d f.type x y).run P w = .ok r w) :
    (Op.eqFields d xs ys (f :: fs)).run P w = if r = true then (Op.eqFields d xs ys fs).run P w else .ok false w := by
  rw [Op.eqFields, if_pos hn]
  simp only [Sem.run_bind, hx, hy, he, Result.andThen_ok]
  cases r <;> simp
theorem eqFields4 {d : Nat} {xs ys : Array Value} {f0 f1 f2 f3 : Field} {P : Program} {w : World} {x0 x1 x2 x3 y0 y1 y2 y3 : Value} {r0 r1 r2 r3 : Bool} (n0 : f0.name ≠ "_") (n1 : f1.name ≠ "_") (n2 : f2.name ≠ "_") (n3 : f3.name ≠ "_")
    (a0 : (Go.part f0.type xs f0.offset).run P w = .ok x0 w) (a1 : (Go.part f1.type xs f1.offset).run P w = .ok x1 w) (a2 : (Go.part f2.type xs f2.offset).run P w = .ok x2 w) (a3 : (Go.part f3.type xs f3.offset).run P w = .ok x3 w)
    (b0 : (Go.part f0.type ys f0.offset).run P w = .ok y0 w) (b1 : (Go.part f1.type ys f1.offset).run P w = .ok y1 w) (b2 : (Go.part f2.type ys f2.offset).run P w = .ok y2 w) (b3 : (Go.part f3.type ys f3.offset).run P w = .ok y3 w)
    (e0 : (Op.equalIn d f0.type x0 y0).run P w = .ok r0 w) (e1 : (Op.equalIn d f1.type x1 y1).run P w = .ok r1 w) (e2 : (Op.equalIn d f2.type x2 y2).run P w = .ok r2 w) (e3 : (Op.equalIn d f3.type x3 y3).run P w = .ok r3 w) :
    (Op.eqFields d xs ys [f0, f1, f2, f3]).run P w = .ok (r0 && (r1 && (r2 && r3))) w := by
  rw [eqFields_cons n0 a0 b0 e0, eqFields_cons n1 a1 b1 e1, eqFields_cons n2 a2 b2 e2, eqFields_cons n3 a3 b3 e3, eqFields_nil]
  cases r0 <;> cases r1 <;> cases r2 <;> cases r3 <;> rfl
def fN : Field := { name := "Number", type := 3, offset := 0, embedded := false, tag := "", pkgPath := "", byteOffset := 0 }
def fD : Field := { name := "Level", type := 3, offset := 1, embedded := false, tag := "", pkgPath := "", byteOffset := 8 }
def fK : Field := { name := "Least", type := 9, offset := 2, embedded := false, tag := "", pkgPath := "", byteOffset := 16 }
def fV : Field := { name := "Most", type := 9, offset := 3, embedded := false, tag := "", pkgPath := "", byteOffset := 32 }
theorem fields82 : Tryz.prog.fieldsOf 71 = #[fN, fD, fK, fV] := by unfold Program.fieldsOf; rw [Tryz.underlying71]; rfl
theorem part9 (xs : Array Value) (i : Nat) (x : Value) (w : World) (h : xs[i]? = some x) : (Go.part 9 xs i).run Tryz.prog w = .ok x w := by simp [Go.part, isAgg, run_underlying Tryz.underlying9, h]
theorem part3 (xs : Array Value) (i : Nat) (x : Value) (w : World) (h : xs[i]? = some x) : (Go.part 3 xs i).run Tryz.prog w = .ok x w := by simp [Go.part, isAgg, run_underlying Tryz.underlying3, h]
theorem eqIn82 (ak av bk bv : ByteArray) (an ad bn bd : Int) (w : World) :
    (Op.equalIn (9999 + 1) 71 (.agg #[.int .i64 an, .int .i64 ad, .string ak, .string av]) (.agg #[.int .i64 bn, .int .i64 bd, .string bk, .string bv])).run Tryz.prog w = .ok (eqM ⟨an, ad, ak, av⟩ ⟨bn, bd, bk, bv⟩) w := by
  have hu : Tryz.prog.underlying 71 = some (.struct (Tryz.prog.fieldsOf 71)) := by rw [fields82]; exact Tryz.underlying71
  rw [run_equalIn_struct w 9999 71 _ _ hu stood82, fields82]
  exact eqFields4 (f0 := fN) (f1 := fD) (f2 := fK) (f3 := fV) (x0 := .int .i64 an) (x1 := .int .i64 ad) (x2 := .string ak) (x3 := .string av) (y0 := .int .i64 bn) (y1 := .int .i64 bd) (y2 := .string bk) (y3 := .string bv) (by decide) (by decide) (by decide) (by decide)
    (part3 _ 0 _ w rfl) (part3 _ 1 _ w rfl) (part9 _ 2 _ w rfl) (part9 _ 3 _ w rfl) (part3 _ 0 _ w rfl) (part3 _ 1 _ w rfl) (part9 _ 2 _ w rfl) (part9 _ 3 _ w rfl)
    (run_equalIn_int w 9998 3 .i64 .i64 _ _ Tryz.underlying3) (run_equalIn_int w 9998 3 .i64 .i64 _ _ Tryz.underlying3) (run_equalIn_string w 9998 9 _ _ Tryz.underlying9) (run_equalIn_string w 9998 9 _ _ Tryz.underlying9)
theorem eqMetaV (ak av bk bv : ByteArray) (an ad bn bd : Int) (w : World) :
    (binOp .eql 71 (.agg #[.int .i64 an, .int .i64 ad, .string ak, .string av]) (.agg #[.int .i64 bn, .int .i64 bd, .string bk, .string bv])).run Tryz.prog w = .ok (.bool (eqM ⟨an, ad, ak, av⟩ ⟨bn, bd, bk, bv⟩)) w := by
  rw [run_eql_struct]
  show (Sem.run Tryz.prog (Op.equalIn (9999 + 1) 71 _ _) w).andThen _ = _
  rw [eqIn82]
  rfl
theorem neMetaV (ak av bk bv : ByteArray) (an ad bn bd : Int) (w : World) :
    (binOp .neq 71 (.agg #[.int .i64 an, .int .i64 ad, .string ak, .string av]) (.agg #[.int .i64 bn, .int .i64 bd, .string bk, .string bv])).run Tryz.prog w = .ok (.bool (!eqM ⟨an, ad, ak, av⟩ ⟨bn, bd, bk, bv⟩)) w := by
  rw [run_neq_struct]
  show (Sem.run Tryz.prog (Op.equalIn (9999 + 1) 71 _ _) w).andThen _ = _
  rw [eqIn82]
  rfl

/-- How a meta in a map reads. -/
def mtD (m : Mt) : DataW Unit := .agg [.lit (.int .i64 m.n), .lit (.int .i64 m.d), .lit (.string m.k.data.toList), .lit (.string m.v.data.toList)]
def mtE : Value → Option (DataW Unit × List MemPlace)
  | .agg cs => match cs.toList with
    | [.int .i64 n, .int .i64 d, .string k, .string v] => some (mtD ⟨n, d, k, v⟩, [])
    | _ => none
  | _ => none
theorem mtE_mk (n d : Int) (k v : ByteArray) : mtE (.agg #[.int .i64 n, .int .i64 d, .string k, .string v]) = some (mtD ⟨n, d, k, v⟩, []) := rfl
def mtV (m : Mt) : Value := .agg #[.int .i64 m.n, .int .i64 m.d, .string m.k, .string m.v]
theorem mtE_inv {x : Value} {z : DataW Unit × List MemPlace} (h : mtE x = some z) : ∃ m : Mt, x = mtV m ∧ z = (mtD m, []) := by
  cases x with
  | agg cs =>
    obtain ⟨l⟩ := cs
    match l, h with
    | [.int .i64 n, .int .i64 d, .string k, .string v], h =>
      cases h
      exact ⟨⟨n, d, k, v⟩, rfl, rfl⟩
  | _ => simp [mtE] at h
theorem mtD_inj {a b : Mt} (h : mtD a = mtD b) : a = b := by
  unfold mtD at h
  simp only [DataW.agg.injEq, List.cons.injEq, DataW.lit.injEq, Lit.int.injEq, true_and, Lit.string.injEq, and_true] at h
  obtain ⟨an, ad, ak, av⟩ := a
  obtain ⟨bn, bd, bk, bv⟩ := b
  simp only at h
  obtain ⟨h1, h2, h3, h4⟩ := h
  rw [Mt.mk.injEq]
  exact ⟨h1, h2, ByteArray.ext (Array.toList_inj.1 h3), ByteArray.ext (Array.toList_inj.1 h4)⟩

theorem law3 : Keyed Tryz.prog 3 := int_keyed Tryz.underlying3
def keyN (n : Int) : Lit := .int .i64 n
theorem keyN_key (n : Int) : WideAt.IsKeyLit (keyN n) := trivial
theorem keyN_inj {a b : Int} (h : keyN a = keyN b) : a = b := by unfold keyN at h; injection h
theorem key3 (n : Int) (h0 : 0 ≤ n) (h1 : n ≤ 1000000) : keyOf Tryz.prog 3 (.int .i64 n) = some (keyN n) := keyOf_int_mk Tryz.underlying3 (WalkArith.wf_i64 (by omega))
theorem zero82 (w : World) : (zeroValue 71).run Tryz.prog w = .ok (mtV Mt.zero) w := by kernel_rfl

/-- The map has just the metas of the list, each under its number; no two have one. -/
def Means (D : DataW Unit) (l : List Mt) : Prop :=
  IsMap D ∧ (l.Pairwise fun a b => a.n ≠ b.n) ∧ (∀ n, Maps.has D (keyN n) = l.any (fun m => m.n == n)) ∧ ∀ m ∈ l, ∀ z, D.atKey (keyN m.n) z = mtD m
theorem means_nil : Means (.map []) [] := ⟨isMap_empty, List.Pairwise.nil, fun n => rfl, fun m h => by simp at h⟩
theorem means_put {D : DataW Unit} {l : List Mt} (h : Means D l) (m : Mt) (hm : ∀ x ∈ l, x.n ≠ m.n) : Means (D.put (keyN m.n) (mtD m)) (l ++ [m]) := by
  obtain ⟨h1, h2, h3, h4⟩ := h
  refine ⟨h1.put _ _, List.pairwise_append.2 ⟨h2, List.pairwise_singleton _ _, fun a ha b hb => ?_⟩, fun n => ?_, fun x hx z => ?_⟩
  · simp only [List.mem_singleton] at hb; subst hb; exact hm a ha
  · rw [List.any_append]
    by_cases e : n = m.n
    · subst e
      rw [has_put_same h1 (keyN_key _)]; simp
    · rw [has_put_other (fun e' => e (keyN_inj e')), h3 n]
      have : (m.n == n) = false := beq_eq_false_iff_ne.2 (fun e' => e e'.symm)
      simp [this]
  · rw [List.mem_append, List.mem_singleton] at hx
    rcases hx with hx | rfl
    · rw [atKey_put_other (fun e' => hm x hx (keyN_inj e'))]; exact h4 x hx z
    · exact atKey_put_same h1 (keyN_key _) _ _
theorem means_del {D : DataW Unit} {l : List Mt} (h : Means D l) (n : Int) : Means (D.del (keyN n)) (l.filter fun m => !(m.n == n)) := by
  obtain ⟨h1, h2, h3, h4⟩ := h
  refine ⟨h1.del _, h2.filter _, fun n' => ?_, fun x hx z => ?_⟩
  · by_cases e : n' = n
    · subst e
      rw [has_del_same]
      symm
      rw [List.any_eq_false]
      intro x hx
      rw [List.mem_filter] at hx
      simpa using hx.2
    · rw [has_del_other (fun e' => e (keyN_inj e')), h3 n']
      rw [Bool.eq_iff_iff, List.any_eq_true, List.any_eq_true]
      constructor
      · rintro ⟨x, hx, hn⟩
        refine ⟨x, List.mem_filter.2 ⟨hx, ?_⟩, hn⟩
        rw [beq_iff_eq] at hn
        simp only [Bool.not_eq_true', beq_eq_false_iff_ne]
        exact fun h' => e (hn.symm.trans h')
      · rintro ⟨x, hx, hn⟩
        exact ⟨x, (List.mem_filter.1 hx).1, hn⟩
  · rw [List.mem_filter] at hx
    have hne : x.n ≠ n := by simpa using hx.2
    rw [atKey_del_other (fun e' => hne (keyN_inj e'))]
    exact h4 x hx.1 z
/-- Of a good list numbers rise. -/
theorem ms_rise {l : List Mt} (h : goodMs l = true) : l.Pairwise fun a b => a.n < b.n := by
  have key : ∀ (d i : Nat) (hi : i + d + 1 < l.length), l[i].n < l[i + d + 1].n := by
    intro d
    induction d with
    | zero =>
      intro i hi
      have := goodMs_at h (i := i + 1) (by omega)
      unfold okAt at this
      simp only [Bool.and_eq_true, Bool.or_eq_true, beq_iff_eq, decide_eq_true_eq] at this
      rcases this.2 with h1 | h1
      · omega
      · rw [show i + 1 - 1 = i from by omega, getD_at l i (by omega), getD_at l (i + 1) (by omega)] at h1
        exact h1
    | succ d ih =>
      intro i hi
      have h1 := ih i (by omega)
      have := goodMs_at h (i := i + (d + 1) + 1) (by omega)
      unfold okAt at this
      simp only [Bool.and_eq_true, Bool.or_eq_true, beq_iff_eq, decide_eq_true_eq] at this
      rcases this.2 with h2 | h2
      · omega
      · rw [show i + (d + 1) + 1 - 1 = i + d + 1 from by omega, getD_at l (i + d + 1) (by omega), getD_at l (i + (d + 1) + 1) (by omega)] at h2
        omega
  rw [List.pairwise_iff_getElem]
  intro i j hi hj hij
  have := key (j - i - 1) i (by omega)
  have e : i + (j - i - 1) + 1 = j := by omega
  simp only [e] at this
  exact this
theorem ms_apart {l : List Mt} (h : goodMs l = true) : l.Pairwise fun a b => a.n ≠ b.n := (ms_rise h).imp fun h => by omega
theorem ms_take {l : List Mt} (h : goodMs l = true) (k : Nat) (hk : k < l.length) : ∀ x ∈ l.take k, x.n ≠ l[k].n := by
  intro x hx
  obtain ⟨i, hi, rfl⟩ := List.getElem_of_mem hx
  rw [List.getElem_take]
  simp at hi
  have := List.pairwise_iff_getElem.1 (ms_apart h) i k (by omega) hk (by omega)
  exact this

def mapM : List Mt → DataW Unit := fun l => l.foldl (fun D m => D.put (keyN m.n) (mtD m)) (.map [])
theorem mapM_snoc (l : List Mt) (m : Mt) : mapM (l ++ [m]) = (mapM l).put (keyN m.n) (mtD m) := by simp [mapM, List.foldl_append]
theorem means_mapM {l : List Mt} (h : goodMs l = true) : Means (mapM l) l := by
  suffices hs : ∀ k, k ≤ l.length → Means (mapM (l.take k)) (l.take k) from by have := hs l.length (Nat.le_refl _); rwa [List.take_length] at this
  intro k
  induction k with
  | zero => intro _; exact means_nil
  | succ k ih =>
    intro hk
    rw [List.take_succ_eq_append_getElem (by omega), mapM_snoc]
    exact means_put (ih (by omega)) _ (ms_take h k (by omega))
theorem map_below {w w' : World} {b n : Nat} {D : DataW Unit} (h : w.ownsMap Tryz.prog 3 mtE b n D) (hb : Below w.heap.size w w') : w'.ownsMap Tryz.prog 3 mtE b n D := by
  have hlt := h.lt
  obtain ⟨es, clock, hh, F, hs, hD⟩ := h
  exact ⟨es, clock, by rw [hb.block b hlt]; exact hh, F, hs, hD⟩
theorem map_chg {S : Nat → Prop} {w w' : World} {b n : Nat} {D : DataW Unit} (hc : Chg S w w') (h : w.ownsMap Tryz.prog 3 mtE b n D) (hs : ¬ S b) : w'.ownsMap Tryz.prog 3 mtE b n D := by
  have hlt := h.lt
  obtain ⟨es, clock, hh, F, h1, hD⟩ := h
  exact ⟨es, clock, by rw [hc.block b hlt hs]; exact hh, F, h1, hD⟩

set_option maxHeartbeats 1000000 in
theorem filesOf_any (v : Value) (l : List Mt) (w : World) (hv : IR w v l) (hn : l.length ≤ 30) (hg : ∀ i (h : i < l.length), 0 ≤ l[i].n ∧ l[i].n ≤ 1000000) :
    Calls Tryz.prog 45 #[v] w fun e w' => e = .returned (.map (some w.heap.size)) ∧ w'.ownsMap Tryz.prog 3 mtE w.heap.size l.length (mapM l) ∧ Below w.heap.size w w' := by
  obtain ⟨a, cap, rfl, hc⟩ := hv
  have hmm := @run_makeMap Tryz.prog
  go_enter Tryz.func45, Tryz.ntmps45
  go_wp2
  go_loopw [9] (fun i wr => ∃ k : Nat, k ≤ l.length ∧ i = .int .i64 k ∧ wr.ownsMap Tryz.prog 3 mtE w.heap.size k (mapM (l.take k)) ∧ Below w.heap.size w wr) (fun i _ => l.length - (intOf i).toNat)
  case atStart => exact ⟨0, Nat.zero_le _, rfl, World.ownsMap_made _ _ _ _, below_alloc _ _⟩
  case round =>
    clear hmm
    obtain ⟨k, hk, rfl, hown, hb⟩ := hrel
    by_cases hlt : k < l.length
    · obtain ⟨b, off, rfl, hbl, hcell⟩ := hc (by intro e; simp [e] at hlt)
      have hc0 := (hb.cell (p := ⟨b, off + k * 4, none⟩) hbl).trans (hcell k hlt).1
      have hc1 := (hb.cell (p := ⟨b, off + k * 4 + 1, none⟩) hbl).trans (hcell k hlt).2.1
      have hc2 := (hb.cell (p := ⟨b, off + k * 4 + 2, none⟩) hbl).trans (hcell k hlt).2.2.1
      have hc3 := (hb.cell (p := ⟨b, off + k * 4 + 3, none⟩) hbl).trans (hcell k hlt).2.2.2
      have hkey := key3 l[k].n (hg k hlt).1 (hg k hlt).2
      have HT : Hid (mapM (l.take (k + 1)) = (mapM (l.take k)).put (keyN l[k].n) (mtD l[k])) := by
        show _ = _
        rw [List.take_succ_eq_append_getElem hlt, mapM_snoc]
      have hz := hb.size
      have hz' := hown.lt
      have hbl2 : b < wr.heap.size := by omega
      clear hcell hc hg
      generalize mapM (l.take k) = D at *
      generalize l[k] = s at *
      obtain ⟨sn, sd, sk, sv⟩ := s
      dsimp only at *
      go_wp2_with (at_mapUpdate; refine wpList_mapUpdate_own _ rfl _ _ _ 76 rfl 3 71 law3 Tryz.underlying76 _ w.heap.size k _ rfl (hown.alloc _) (by unfold maxLen; omega) _ _ _ rfl rfl hkey _ [] (mtE_mk sn sd sk sv) ?_; intro w2 hown2 hgrow2)
      go_roundw
      case rel => exact ⟨k + 1, by omega, by go_num, by rw [HT.out]; exact hown2, (hb.alloc hz _).grown hgrow2 (by simp; omega) (fun j hj => by cases hj; exact Nat.le_refl _)⟩
      case measure => simp [intOf]; omega
    · have hkk : k = l.length := by omega
      subst hkk
      rw [List.take_length] at hown
      go_wp2
      go_ret
      exact ⟨rfl, hown, hb⟩
end Go.Proofs.YtenbdjlhcadhaaaGreat
