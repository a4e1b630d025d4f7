/-
  spec.TimeoutNode: where it refuses; l11Lead.
  Who leads, plainly.
-/
import Derived.Test.YtapfhhmimkkhnaaQA
import Derived.Test.YtapfhhmimkkhnaaKC3
import Derived.Test.YtapfhhmimkkhnaaLNCToCH
import Derived.Test.YtapfhhmimkkhnaaCLToCM
namespace Go.Proofs.Ytapfhhmimkkhnaa
open Go.RowKit Go.Maps
set_option linter.unusedVariables false
set_option maxRecDepth 100000

theorem goodN_te {id pe te vo co ro : Int} {log : List En} {vs mt : List Int} (h : goodN id pe te vo co ro log vs mt = true) : te ≤ 1000 := by
  rw [goodN_spec] at h
  simp [inB] at h
  omega

set_option maxHeartbeats 8000000 in
theorem specTime_no (id pe te vo co ro : Int) (vl vv vm : Value) (log : List En) (vs mt : List Int) (base : Nat) (w : World) (ho : OwnN w base vl vv vm log vs mt) (nl : log.length ≤ 1048576) (nv : vs.length ≤ 1048576) (nm : mt.length ≤ 1048576) (ns : ∀ i (h : i < log.length), log[i].d.size ≤ 1048576) (he : tmOk (goodN id pe te vo co ro log vs mt) ro te = false) :
    Calls Try.prog 24 #[.agg #[.int .i64 id, .int .i64 pe, .int .i64 te, .int .i64 vo, vl, .int .i64 co, .int .i64 ro, vv, vm]] w fun e w' => ∃ ul uv um, e = .returned (.tuple #[.agg #[.int .i64 0, .int .i64 0, .int .i64 0, .int .i64 0, ul, .int .i64 0, .int .i64 0, uv, um], .slice none 0 0, .bool false]) ∧ OwnN w' w.heap.size ul uv um [] [] [] ∧ Below w.heap.size w w' := by
  obtain ⟨W0, hW0⟩ : ∃ W0, W0 = (w.alloc (.cells #[.int .i64 id, .int .i64 pe, .int .i64 te, .int .i64 vo, vl, .int .i64 co, .int .i64 ro, vv, vm] 26)).alloc (.cells #[.int .i64 0, .int .i64 0, .int .i64 0, .int .i64 0, .slice none 0 0, .int .i64 0, .int .i64 0, .slice none 0 0, .slice none 0 0] 26) := ⟨_, rfl⟩
  have hB : Below w.heap.size w W0 := by rw [hW0]; exact below2 _ _ _
  have hz00 : w.heap.size + 1 + 1 ≤ W0.heap.size := by rw [hW0]; simp
  have X : Box W0 w.heap.size [.int .i64 id, .int .i64 pe, .int .i64 te, .int .i64 vo, vl, .int .i64 co, .int .i64 ro, vv, vm] := by rw [hW0]; exact (Box.new w #[.int .i64 id, .int .i64 pe, .int .i64 te, .int .i64 vo, vl, .int .i64 co, .int .i64 ro, vv, vm] 26).alloc _
  have Y : Box W0 (w.heap.size + 1) [.int .i64 0, .int .i64 0, .int .i64 0, .int .i64 0, .slice none 0 0, .int .i64 0, .int .i64 0, .slice none 0 0, .slice none 0 0] := by
    rw [hW0]
    have := Box.new (w.alloc (.cells #[.int .i64 id, .int .i64 pe, .int .i64 te, .int .i64 vo, vl, .int .i64 co, .int .i64 ro, vv, vm] 26)) #[.int .i64 0, .int .i64 0, .int .i64 0, .int .i64 0, .slice none 0 0, .int .i64 0, .int .i64 0, .slice none 0 0, .slice none 0 0] 26
    simpa using this
  have ho0 := ho.below hB
  have K := specGoodN_any id pe te vo co ro vl vv vm log vs mt _ ho0.er ho0.iv ho0.im nl nv nm ns
  have HG : goodN id pe te vo co ro log vs mt = true → te ≤ 1000 := goodN_te
  generalize goodN id pe te vo co ro log vs mt = g at *
  obtain ⟨⟨la, lc, rfl⟩, ⟨va, vc, rfl⟩, ma, mc, rfl⟩ := ho.shapes
  clear ns ho0 ho
  rcases tmOk_cases g ro te with ⟨h, _⟩ | ⟨_, hcs⟩
  · rw [he] at h; cases h
  clear he
  go_enter Try.func24, Try.ntmps24
  go_wp2_with fail
  rw [← hW0]; clear hW0
  refine K.mono ?_
  rintro e w1 ⟨rfl, hb⟩
  replace hB := below_then hB hb
  replace Y := Y.below hb
  replace X := X.below hb
  clear K hb
  have hC := put9_chg w1 (w.heap.size + 1) (.int .i64 0) (.int .i64 0) (.int .i64 0) (.int .i64 0) (.slice none 0 0) (.int .i64 0) (.int .i64 0) (.slice none 0 0) (.slice none 0 0)
  have Z := put9_box Y (.int .i64 0) (.int .i64 0) (.int .i64 0) (.int .i64 0) (.slice none 0 0) (.int .i64 0) (.int .i64 0) (.slice none 0 0) (.slice none 0 0)
  have hBE := hB.trans (hC.below (B := w.heap.size) hB.size (fun k hk => by have hk : k = w.heap.size + 1 := hk; omega))
  have O := OwnN.nil (put9 w1 (w.heap.size + 1) (.int .i64 0) (.int .i64 0) (.int .i64 0) (.int .i64 0) (.slice none 0 0) (.int .i64 0) (.int .i64 0) (.slice none 0 0) (.slice none 0 0)) w.heap.size
  obtain ⟨hxl, x0, x1, x2, x3, x4, x5, x6, x7, x8⟩ := X.e9
  obtain ⟨hyl, y0, y1, y2, y3, y4, y5, y6, y7, y8⟩ := Y.e9
  obtain ⟨f0, f1, f2, f3, f4, f5, f6, f7, f8⟩ := Y.f9
  obtain ⟨hzl, t0, t1, t2, t3, t4, t5, t6, t7, t8⟩ := Z.e9
  clear Z hC hB Y X
  unfold put9 at *
  rcases hcs with rfl | ⟨rfl, hcs⟩
  · go_wp2
    exact bodyPost_ret (v := .tuple #[.agg #[.int .i64 0, .int .i64 0, .int .i64 0, .int .i64 0, .slice none 0 0, .int .i64 0, .int .i64 0, .slice none 0 0, .slice none 0 0], .slice none 0 0, .bool false]) (by simp [results, Try.results24, go_sem, t0, t1, t2, t3, t4, t5, t6, t7, t8]) rfl ⟨_, _, _, rfl, O, hBE⟩
  rcases hcs with rfl | ⟨h1, h2⟩
  · go_wp2
    exact bodyPost_ret (v := .tuple #[.agg #[.int .i64 0, .int .i64 0, .int .i64 0, .int .i64 0, .slice none 0 0, .int .i64 0, .int .i64 0, .slice none 0 0, .slice none 0 0], .slice none 0 0, .bool false]) (by simp [results, Try.results24, go_sem, t0, t1, t2, t3, t4, t5, t6, t7, t8]) rfl ⟨_, _, _, rfl, O, hBE⟩
  · obtain rfl : te = 1000 := by have := HG rfl; omega
    have h1b : (ro == 2) = false := by simp [h1]
    go_wp2
    exact bodyPost_ret (v := .tuple #[.agg #[.int .i64 0, .int .i64 0, .int .i64 0, .int .i64 0, .slice none 0 0, .int .i64 0, .int .i64 0, .slice none 0 0, .slice none 0 0], .slice none 0 0, .bool false]) (by simp [results, Try.results24, go_sem, t0, t1, t2, t3, t4, t5, t6, t7, t8]) rfl ⟨_, _, _, rfl, O, hBE⟩
end Go.Proofs.Ytapfhhmimkkhnaa

namespace Go.Proofs.Ytapfhhmimkkhnaa
open Go.RowKit Go.Maps
set_option linter.unusedVariables false
set_option maxRecDepth 100000

def ltP (x y : Ld) : Prop := x.t < y.t ∨ (x.t = y.t ∧ x.n < y.n)
/-- Two rising lists that have the same are the same. -/
theorem lex_ext : ∀ {a b : List Ld}, a.Pairwise ltP → b.Pairwise ltP → (∀ x, x ∈ a ↔ x ∈ b) → a = b
  | [], [], _, _, _ => rfl
  | [], y :: r, _, _, h => by have := (h y).2 (by simp); simp at this
  | x :: r, [], _, _, h => by have := (h x).1 (by simp); simp at this
  | x :: r, y :: s, ha, hb, h => by
    rw [List.pairwise_cons] at ha hb
    have hxy : x = y := by
      rcases List.mem_cons.1 ((h x).1 (by simp)) with e | e
      · exact e
      · rcases List.mem_cons.1 ((h y).2 (by simp)) with e' | e'
        · exact e'.symm
        · have h1 := hb.1 x e; have h2 := ha.1 y e'; unfold ltP at h1 h2; omega
    subst hxy
    rw [lex_ext ha.2 hb.2 fun z => ?_]
    have hz := h z
    rw [List.mem_cons, List.mem_cons] at hz
    constructor
    · intro hzr
      rcases hz.1 (.inr hzr) with e | e
      · subst e; have := ha.1 z hzr; unfold ltP at this; omega
      · exact e
    · intro hzs
      rcases hz.2 (.inr hzs) with e | e
      · subst e; have := hb.1 z hzs; unfold ltP at this; omega
      · exact e
def ldOf (x : Nd) : Ld := ⟨x.te, x.id⟩
def ldT (N : List Nd) (t : Int) : Nat → List Ld
  | 0 => []
  | k + 1 => ldT N t k ++ (if (N.getD k Nd.zero).ro = 2 ∧ (N.getD k Nd.zero).te = t then [ldOf (N.getD k Nd.zero)] else [])
def ldS (N : List Nd) : Nat → List Ld
  | 0 => []
  | t + 1 => ldS N t ++ ldT N ((t + 1 : Nat) : Int) N.length
def ldI (N : List Nd) : Nat → List Ld
  | 0 => []
  | k + 1 => ldI N k ++ (if (N.getD k Nd.zero).ro = 2 then [ldOf (N.getD k Nd.zero)] else [])
def ldR (ok : Bool) (N : List Nd) : List Ld := if ok then ldS N 1000 else []
theorem ldT_len (N : List Nd) (t : Int) (k : Nat) : (ldT N t k).length ≤ k := by
  induction k with
  | zero => simp [ldT]
  | succ k ih => simp only [ldT, List.length_append]; split <;> simp <;> omega
theorem ldI_len (N : List Nd) (k : Nat) : (ldI N k).length ≤ k := by
  induction k with
  | zero => simp [ldI]
  | succ k ih => simp only [ldI, List.length_append]; split <;> simp <;> omega
theorem ldS_len (N : List Nd) (t : Nat) : (ldS N t).length ≤ t * N.length := by
  induction t with
  | zero => simp [ldS]
  | succ t ih =>
    simp only [ldS, List.length_append]
    have := ldT_len N ((t + 1 : Nat) : Int) N.length
    rw [Nat.succ_mul]
    omega
theorem mem_ldT (N : List Nd) (t : Int) (k : Nat) (x : Ld) : x ∈ ldT N t k ↔ ∃ i, i < k ∧ (N.getD i Nd.zero).ro = 2 ∧ (N.getD i Nd.zero).te = t ∧ x = ldOf (N.getD i Nd.zero) := by
  induction k with
  | zero => simp [ldT]
  | succ k ih =>
    simp only [ldT, List.mem_append, ih]
    constructor
    · rintro (⟨i, h1, h2⟩ | h)
      · exact ⟨i, by omega, h2⟩
      · split at h
        · rename_i hc; simp only [List.mem_singleton] at h; exact ⟨k, by omega, hc.1, hc.2, h⟩
        · simp at h
    · rintro ⟨i, h1, h2, h3, h4⟩
      by_cases hik : i < k
      · exact .inl ⟨i, hik, h2, h3, h4⟩
      · obtain rfl : i = k := by omega
        right; rw [if_pos ⟨h2, h3⟩]; simp [h4]
theorem mem_ldI (N : List Nd) (k : Nat) (x : Ld) : x ∈ ldI N k ↔ ∃ i, i < k ∧ (N.getD i Nd.zero).ro = 2 ∧ x = ldOf (N.getD i Nd.zero) := by
  induction k with
  | zero => simp [ldI]
  | succ k ih =>
    simp only [ldI, List.mem_append, ih]
    constructor
    · rintro (⟨i, h1, h2⟩ | h)
      · exact ⟨i, by omega, h2⟩
      · split at h
        · rename_i hc; simp only [List.mem_singleton] at h; exact ⟨k, by omega, hc, h⟩
        · simp at h
    · rintro ⟨i, h1, h2, h4⟩
      by_cases hik : i < k
      · exact .inl ⟨i, hik, h2, h4⟩
      · obtain rfl : i = k := by omega
        right; rw [if_pos h2]; simp [h4]
theorem mem_ldS (N : List Nd) (t : Nat) (x : Ld) : x ∈ ldS N t ↔ ∃ i, i < N.length ∧ (N.getD i Nd.zero).ro = 2 ∧ 1 ≤ (N.getD i Nd.zero).te ∧ (N.getD i Nd.zero).te ≤ (t : Int) ∧ x = ldOf (N.getD i Nd.zero) := by
  induction t with
  | zero =>
    simp only [ldS, List.not_mem_nil, false_iff]
    rintro ⟨i, _, _, h1, h2, _⟩
    omega
  | succ t ih =>
    simp only [ldS, List.mem_append, ih, mem_ldT]
    constructor
    · rintro (⟨i, h1, h2, h3, h4, h5⟩ | ⟨i, h1, h2, h3, h4⟩)
      · exact ⟨i, h1, h2, h3, by omega, h5⟩
      · exact ⟨i, h1, h2, by omega, by omega, h4⟩
    · rintro ⟨i, h1, h2, h3, h4, h5⟩
      by_cases hl : (N.getD i Nd.zero).te ≤ (t : Int)
      · exact .inl ⟨i, h1, h2, h3, hl, h5⟩
      · exact .inr ⟨i, h1, h2, by omega, h5⟩
theorem ldT_pw (N : List Nd) (t : Int) (hid : ∀ i, i < N.length → (N.getD i Nd.zero).id = (i : Int)) (k : Nat) (hk : k ≤ N.length) : (ldT N t k).Pairwise ltP := by
  induction k with
  | zero => simp [ldT]
  | succ k ih =>
    simp only [ldT]
    refine List.pairwise_append.2 ⟨ih (by omega), by split <;> simp, fun x hx y hy => ?_⟩
    obtain ⟨i, h1, h2, h3, h4⟩ := (mem_ldT N t k x).1 hx
    split at hy
    · rename_i hc
      simp only [List.mem_singleton] at hy
      subst hy
      subst h4
      have e1 := hid i (by omega)
      have e2 := hid k (by omega)
      unfold ltP ldOf
      dsimp only
      omega
    · simp at hy
theorem ldS_pw (N : List Nd) (hid : ∀ i, i < N.length → (N.getD i Nd.zero).id = (i : Int)) (t : Nat) : (ldS N t).Pairwise ltP := by
  induction t with
  | zero => simp [ldS]
  | succ t ih =>
    simp only [ldS]
    refine List.pairwise_append.2 ⟨ih, ldT_pw N _ hid _ (Nat.le_refl _), fun x hx y hy => ?_⟩
    obtain ⟨i, h1, h2, h3, h4, h5⟩ := (mem_ldS N t x).1 hx
    obtain ⟨j, g1, g2, g3, g4⟩ := (mem_ldT N _ _ y).1 hy
    subst h5
    subst g4
    unfold ltP ldOf
    dsimp only
    omega
theorem ldI_pw (N : List Nd) (hid : ∀ i, i < N.length → (N.getD i Nd.zero).id = (i : Int)) (k : Nat) (hk : k ≤ N.length) : (ldI N k).Pairwise fun x y => x.n ≠ y.n := by
  induction k with
  | zero => simp [ldI]
  | succ k ih =>
    simp only [ldI]
    refine List.pairwise_append.2 ⟨ih (by omega), by split <;> simp, fun x hx y hy => ?_⟩
    obtain ⟨i, h1, h2, h4⟩ := (mem_ldI N k x).1 hx
    split at hy
    · simp only [List.mem_singleton] at hy
      subst hy
      subst h4
      have e1 := hid i (by omega)
      have e2 := hid k (by omega)
      unfold ldOf
      dsimp only
      omega
    · simp at hy
/-- What is sorted of who leads is who leads by term and node. -/
theorem sorted_eq (N : List Nd) (hid : ∀ i, i < N.length → (N.getD i Nd.zero).id = (i : Int)) (hte : ∀ i, i < N.length → (N.getD i Nd.zero).ro = 2 → 1 ≤ (N.getD i Nd.zero).te ∧ (N.getD i Nd.zero).te ≤ 1000) (d : List Ld) (hp : d.Perm (ldI N N.length)) (hs : ∀ i j (hi : i < d.length) (hj : j < d.length), i < j → ¬ ltP d[j] d[i]) : d = ldS N 1000 := by
  have hne : d.Pairwise fun x y => x.n ≠ y.n := (hp.pairwise_iff (fun {x y} h e => h e.symm)).2 (ldI_pw N hid _ (Nat.le_refl _))
  refine lex_ext ?_ (ldS_pw N hid 1000) fun x => ?_
  · rw [List.pairwise_iff_getElem] at hne ⊢
    intro i j hi hj hij
    have h1 := hne i j hi hj hij
    have h2 := hs i j hi hj hij
    unfold ltP at h2 ⊢
    omega
  · rw [hp.mem_iff, mem_ldI, mem_ldS]
    constructor
    · rintro ⟨i, h1, h2, h3⟩
      have := hte i h1 h2
      exact ⟨i, h1, h2, this.1, by omega, h3⟩
    · rintro ⟨i, h1, h2, _, _, h3⟩
      exact ⟨i, h1, h2, h3⟩
theorem goodN_lead1 {id pe te vo co : Int} {log : List En} {vs mt : List Int} (h : goodN id pe te vo co 2 log vs mt = true) : 1 ≤ te := by
  rw [goodN_spec] at h
  simp only [Bool.and_eq_true] at h
  have h' := h.2.2.2.2.2.2.2
  unfold goodRo at h'
  simp [ownT] at h'
  omega
theorem goodC_ld {N : List Nv} {M : List Ms} {L : List Ld} (h : goodC (N.map Nv.n) M L = true) : 1 ≤ N.length ∧ N.length ≤ 7 ∧ (∀ i, i < (N.map Nv.n).length → ((N.map Nv.n).getD i Nd.zero).id = (i : Int)) ∧ ∀ i, i < (N.map Nv.n).length → ((N.map Nv.n).getD i Nd.zero).ro = 2 → 1 ≤ ((N.map Nv.n).getD i Nd.zero).te ∧ ((N.map Nv.n).getD i Nd.zero).te ≤ 1000 := by
  unfold goodC at h
  simp only [List.length_map, Bool.and_eq_true, decide_eq_true_eq] at h
  have hn := of_decide_eq_true h.2.1
  refine ⟨h.1.1, h.1.2, fun i hi => ?_, fun i hi hr => ?_⟩
  · simp only [List.length_map] at hi
    have := hn i (by simpa using hi)
    simp only [ndOk, gNd, List.getElem_map, Bool.and_eq_true, decide_eq_true_eq] at this
    rw [hiT_at N i hi]
    exact this.2.1
  · simp only [List.length_map] at hi
    have := hn i (by simpa using hi)
    simp only [ndOk, gNd, List.getElem_map, Bool.and_eq_true, decide_eq_true_eq] at this
    rw [hiT_at N i hi] at hr ⊢
    have hg := this.1
    have h2 := goodN_te hg
    rw [hr] at hg
    exact ⟨goodN_lead1 hg, h2⟩
/-- One lead appended to a row of one's own. -/
theorem wpList_append_ld (w : World) {ops : Array Oper} {rest : List Oper} {o : Oper} {a : Act} {Q : Exit → Act → World → Prop} (hgd : o.guard = none) (s y : Operand)
    (ho : o.op = .call { callee := .builtin .append, args := #[s, y], argTypes := #[58, 58] }) (hty : o.type = 58)
    (base : Nat) (v : Value) (n : Nat) (zs : List Ld) (hs : a.eval s = v) (hown : w.ownsRow base 116 2 v n (flatL zs))
    (b : Nat) (x : Ld) (hx : a.eval y = .slice (some ⟨b, 0, none⟩) 1 1) (hI : Box w b [.int .i64 x.t, .int .i64 x.n]) (hn : n + 1 ≤ 2000000) (hbase : base ≤ w.heap.size)
    (h : ∀ v' w', w'.ownsRow base 116 2 v' (n + 1) (flatL (zs ++ [x])) → w.grownBy w' v.ownBlock → wpList Try.prog ops Q rest (a.put o.dst v') w') : wpList Try.prog ops Q (o :: rest) a w := by
  obtain ⟨i0, hi, hz0, hzs, hzb⟩ := info_parts Try.info116
  refine wpList_append_own _ hgd s y 58 ho base 116 i0 (.agg #[.int .i64 0, .int .i64 0]) 2 16 Try.underlying58 hi hz0 hzs hzb rfl (by decide) v n (flatL zs) hs hown ⟨b, 0, none⟩ 1 1 (flatL [x]) hx rfl ?_ ?_ (by unfold maxLen; omega) (by omega) hbase fun v' w' h1 h2 _ => h v' w' (by rw [flatL_append]; exact h1) h2
  · intro j u hj
    rw [show (⟨b, 0, none⟩ : Addr).add j = ⟨b, j, none⟩ from by simp [Addr.add]; omega]
    exact hI.2.1 j u hj
  · intro u hu
    simp only [flatL, List.mem_cons, List.not_mem_nil, or_false] at hu
    rcases hu with rfl | rfl <;> rfl
end Go.Proofs.Ytapfhhmimkkhnaa
