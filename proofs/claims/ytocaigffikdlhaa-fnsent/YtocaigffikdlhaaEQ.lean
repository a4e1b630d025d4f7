/-
  Chunks and what is wanted compared as structs; a chunk taken, plainly.
-/
import Derived.Test.YtocaigffikdlhaaIN
import Derived.Laws.StructEq
namespace Go.Proofs.Ytocaigffikdlhaa
open Go.RowKit Go.Maps
set_option linter.unusedVariables false
set_option maxRecDepth 100000

theorem eqG37 : Try.prog.eqGuardType Try.prog.depth 37 = false := by kernel_rfl
theorem stood37 : Try.prog.stoodInHeld 37 = false := by kernel_rfl
theorem eqG54 : Try.prog.eqGuardType Try.prog.depth 54 = false := by kernel_rfl
theorem stood54 : Try.prog.stoodInHeld 54 = false := by kernel_rfl
theorem eqFields_nil (d : Nat) (xs ys : Array Value) (P : Program) (w : World) : (Op.eqFields d xs ys []).run P w = .ok true w := rfl
theorem eqFields_cons {d : Nat} {xs ys : Array Value} {f : Field} {fs : List Field} {P : Program} {w : World} {x y : Value} {r : Bool} (hn : f.name ≠ "_") (hx : (Go.part f.type xs f.offset).run P w = .ok x w) (hy : (Go.part f.type ys f.offset).run P w = .ok y w) (he : (Op.equalIn d f.type x y).run P w = .ok r w) :
    (Op.eqFields d xs ys (f :: fs)).run P w = if r = true then (Op.eqFields d xs ys fs).run P w else .ok false w := by
  rw [Op.eqFields, if_pos hn]
  simp only [Sem.run_bind, hx, hy, he, Result.andThen_ok]
  cases r <;> simp
def fF : Field := { name := "File", type := 3, offset := 0, embedded := false, tag := "", pkgPath := "", byteOffset := 0 }
def fA : Field := { name := "At", type := 3, offset := 1, embedded := false, tag := "", pkgPath := "", byteOffset := 8 }
def fD : Field := { name := "Data", type := 9, offset := 2, embedded := false, tag := "", pkgPath := "", byteOffset := 16 }
def fS : Field := { name := "Sum", type := 35, offset := 3, embedded := false, tag := "", pkgPath := "", byteOffset := 32 }
theorem fields37 : Try.prog.fieldsOf 37 = #[fF, fA, fD, fS] := by unfold Program.fieldsOf; rw [Try.underlying37]; rfl
def fZ : Field := { name := "Size", type := 3, offset := 0, embedded := false, tag := "", pkgPath := "", byteOffset := 0 }
def fM : Field := { name := "Sum", type := 35, offset := 1, embedded := false, tag := "", pkgPath := "", byteOffset := 8 }
theorem fields54 : Try.prog.fieldsOf 54 = #[fZ, fM] := by unfold Program.fieldsOf; rw [Try.underlying54]; rfl
theorem part9 (xs : Array Value) (i : Nat) (x : Value) (w : World) (h : xs[i]? = some x) : (Go.part 9 xs i).run Try.prog w = .ok x w := by simp [Go.part, isAgg, run_underlying Try.underlying9, h]
theorem part3 (xs : Array Value) (i : Nat) (x : Value) (w : World) (h : xs[i]? = some x) : (Go.part 3 xs i).run Try.prog w = .ok x w := by simp [Go.part, isAgg, run_underlying Try.underlying3, h]
theorem part35 (xs : Array Value) (i : Nat) (x : Value) (w : World) (h : xs[i]? = some x) : (Go.part 35 xs i).run Try.prog w = .ok x w := by simp [Go.part, isAgg, run_underlying Try.underlying35, h]
/-- Two chunks are alike. -/
def ckEq (a b : Ck) : Bool := (a.n == b.n) && ((a.d == b.d) && ((a.k.toList == b.k.toList) && (a.v == b.v)))
theorem toList_inj {a b : ByteArray} (h : a.toList = b.toList) : a = b := by
  rw [ByteArray.toList_eq, ByteArray.toList_eq] at h
  exact ByteArray.ext (by have := congrArg List.toArray h; simpa using this)
theorem ckEq_iff (a b : Ck) : ckEq a b = true ↔ a = b := by
  unfold ckEq
  simp only [Bool.and_eq_true, beq_iff_eq]
  constructor
  · rintro ⟨h1, h2, h3, h4⟩
    obtain ⟨n, d, k, v⟩ := a
    obtain ⟨n', d', k', v'⟩ := b
    dsimp only at *
    rw [h1, h2, toList_inj h3, h4]
  · rintro rfl; exact ⟨rfl, rfl, rfl, rfl⟩
theorem equalCk (a b : Ck) (w : World) : (Op.equalIn (9999 + 1) 37 (.agg #[.int .i64 a.n, .int .i64 a.d, .string a.k, .int .u32 a.v]) (.agg #[.int .i64 b.n, .int .i64 b.d, .string b.k, .int .u32 b.v])).run Try.prog w = .ok (ckEq a b) w := by
  have hu : Try.prog.underlying 37 = some (.struct (Try.prog.fieldsOf 37)) := by rw [fields37]; exact Try.underlying37
  rw [run_equalIn_struct w 9999 37 _ _ hu stood37, fields37]
  have h1 := eqFields_cons (d := 9999) (xs := #[.int .i64 a.n, .int .i64 a.d, .string a.k, .int .u32 a.v]) (ys := #[.int .i64 b.n, .int .i64 b.d, .string b.k, .int .u32 b.v]) (f := fF) (fs := [fA, fD, fS]) (x := .int .i64 a.n) (y := .int .i64 b.n) (by decide) (part3 _ 0 _ w rfl) (part3 _ 0 _ w rfl) (run_equalIn_int w 9998 3 .i64 .i64 _ _ Try.underlying3)
  have h2 := eqFields_cons (d := 9999) (xs := #[.int .i64 a.n, .int .i64 a.d, .string a.k, .int .u32 a.v]) (ys := #[.int .i64 b.n, .int .i64 b.d, .string b.k, .int .u32 b.v]) (f := fA) (fs := [fD, fS]) (x := .int .i64 a.d) (y := .int .i64 b.d) (by decide) (part3 _ 1 _ w rfl) (part3 _ 1 _ w rfl) (run_equalIn_int w 9998 3 .i64 .i64 _ _ Try.underlying3)
  have h3 := eqFields_cons (d := 9999) (xs := #[.int .i64 a.n, .int .i64 a.d, .string a.k, .int .u32 a.v]) (ys := #[.int .i64 b.n, .int .i64 b.d, .string b.k, .int .u32 b.v]) (f := fD) (fs := [fS]) (x := .string a.k) (y := .string b.k) (by decide) (part9 _ 2 _ w rfl) (part9 _ 2 _ w rfl) (run_equalIn_string w 9998 9 _ _ Try.underlying9)
  have h4 := eqFields_cons (d := 9999) (xs := #[.int .i64 a.n, .int .i64 a.d, .string a.k, .int .u32 a.v]) (ys := #[.int .i64 b.n, .int .i64 b.d, .string b.k, .int .u32 b.v]) (f := fS) (fs := []) (x := .int .u32 a.v) (y := .int .u32 b.v) (by decide) (part35 _ 3 _ w rfl) (part35 _ 3 _ w rfl) (run_equalIn_int w 9998 35 .u32 .u32 _ _ Try.underlying35)
  show (Op.eqFields 9999 _ _ [fF, fA, fD, fS]).run Try.prog w = _
  rw [h1, h2, h3, h4, eqFields_nil]
  unfold ckEq
  cases (a.n == b.n) <;> cases (a.d == b.d) <;> cases (a.k.toList == b.k.toList) <;> cases (a.v == b.v) <;> rfl
theorem eqCkV (a b : Ck) (w : World) : (binOp .eql 37 (.agg #[.int .i64 a.n, .int .i64 a.d, .string a.k, .int .u32 a.v]) (.agg #[.int .i64 b.n, .int .i64 b.d, .string b.k, .int .u32 b.v])).run Try.prog w = .ok (.bool (ckEq a b)) w := by
  rw [run_eql_struct]
  show (Sem.run Try.prog (Op.equalIn (9999 + 1) 37 _ _) w).andThen _ = _
  rw [equalCk]
  rfl
theorem neqCkV (a b : Ck) (w : World) : (binOp .neq 37 (.agg #[.int .i64 a.n, .int .i64 a.d, .string a.k, .int .u32 a.v]) (.agg #[.int .i64 b.n, .int .i64 b.d, .string b.k, .int .u32 b.v])).run Try.prog w = .ok (.bool (!ckEq a b)) w := by
  rw [run_neq_struct]
  show (Sem.run Try.prog (Op.equalIn (9999 + 1) 37 _ _) w).andThen _ = _
  rw [equalCk]
  rfl
theorem neqWtV (t d : Int) (w : World) : (binOp .neq 54 (.agg #[.int .i64 t, .int .u32 d]) (.agg #[.int .i64 t, .int .u32 d])).run Try.prog w = .ok (.bool false) w := by
  have hu : Try.prog.underlying 54 = some (.struct (Try.prog.fieldsOf 54)) := by rw [fields54]; exact Try.underlying54
  have H : (Op.equalIn (9999 + 1) 54 (.agg #[.int .i64 t, .int .u32 d]) (.agg #[.int .i64 t, .int .u32 d])).run Try.prog w = .ok true w := by
    rw [run_equalIn_struct w 9999 54 _ _ hu stood54, fields54]
    have h1 := eqFields_cons (d := 9999) (xs := #[.int .i64 t, .int .u32 d]) (ys := #[.int .i64 t, .int .u32 d]) (f := fZ) (fs := [fM]) (x := .int .i64 t) (y := .int .i64 t) (by decide) (part3 _ 0 _ w rfl) (part3 _ 0 _ w rfl) (run_equalIn_int w 9998 3 .i64 .i64 _ _ Try.underlying3)
    have h2 := eqFields_cons (d := 9999) (xs := #[.int .i64 t, .int .u32 d]) (ys := #[.int .i64 t, .int .u32 d]) (f := fM) (fs := []) (x := .int .u32 d) (y := .int .u32 d) (by decide) (part35 _ 1 _ w rfl) (part35 _ 1 _ w rfl) (run_equalIn_int w 9998 35 .u32 .u32 _ _ Try.underlying35)
    show (Op.eqFields 9999 _ _ [fZ, fM]).run Try.prog w = _
    rw [h1, h2, eqFields_nil]
    simp
  rw [run_neq_struct]
  show (Sem.run Try.prog (Op.equalIn (9999 + 1) 54 _ _) w).andThen _ = _
  rw [H]
  rfl

/-- Where a chunk goes. -/
def plc : List Ck → Ck → Nat
  | [], _ => 0
  | y :: r, c => if ltC y c then plc r c + 1 else 0
theorem plc_le (G : List Ck) (c : Ck) : plc G c ≤ G.length := by
  induction G with
  | nil => simp [plc]
  | cons y r ih => simp only [plc]; split <;> simp <;> omega
theorem plc_lt (G : List Ck) (c : Ck) : ∀ i (h : i < G.length), i < plc G c → ltC G[i] c = true := by
  induction G with
  | nil => intro i h; simp at h
  | cons y r ih =>
    intro i h h1
    simp only [plc] at h1
    split at h1
    · rename_i hy
      cases i with
      | zero => exact hy
      | succ i => exact ih i (by simpa using h) (by omega)
    · omega
theorem plc_at (G : List Ck) (c : Ck) : ∀ (h : plc G c < G.length), ltC G[plc G c] c = false := by
  induction G with
  | nil => intro h; simp at h
  | cons y r ih =>
    intro h
    by_cases hy : ltC y c = true
    · have e : plc (y :: r) c = plc r c + 1 := by simp [plc, hy]
      have h2 : plc r c < r.length := by rw [e] at h; simpa using h
      have := ih h2
      have e2 : (y :: r)[plc (y :: r) c] = r[plc r c] := by simp only [e, List.getElem_cons_succ]
      rw [e2]; exact this
    · have e : plc (y :: r) c = 0 := by simp [plc, hy]
      have e2 : (y :: r)[plc (y :: r) c] = y := by simp only [e, List.getElem_cons_zero]
      rw [e2, Bool.eq_false_iff]; exact hy
theorem plc_is {G : List Ck} (h : Srt G) (c : Ck) : IsPl G c (plc G c) := by
  refine ⟨plc_le G c, plc_lt G c, fun i hi h1 => ?_⟩
  have hp : plc G c < G.length := by omega
  have hn := plc_at G c hp
  rw [Bool.eq_false_iff] at hn ⊢
  intro hlt
  apply hn
  rcases Nat.eq_or_lt_of_le h1 with e | e
  · have : G[plc G c] = G[i] := by congr 1
    rw [this]; exact hlt
  · exact ltC_trans (h _ _ hp hi e) hlt
/-- A chunk is taken; what is got then. -/
def tkB (W : List Wt) (G : List Ck) (c : Ck) : Bool := ftB W c && (if hasC G c.n c.d then (G.getD (plc G c) default).k.toList == c.k.toList else decide (G.length < 200))
def tkG (G : List Ck) (c : Ck) : List Ck := if hasC G c.n c.d then G else insC G (plc G c) c
def tkN (W : List Wt) (G : List Ck) (c : Ck) : List Ck := if tkB W G c then tkG G c else G
/-- A good taking stays good. -/
theorem ins_at (G : List Ck) (p : Nat) (c : Ck) (hp : p ≤ G.length) (i : Nat) (h : i < (insC G p c).length) : (insC G p c)[i] = if h1 : i < p then G[i] else if h2 : i = p then c else G[i - 1]'(by rw [insC_length G p c hp] at h; omega) := by
  have hl := insC_length G p c hp
  have ht : (G.take p).length = p := by simp; omega
  have hi : i < G.length + 1 := by rw [← hl]; exact h
  have key : (insC G p c)[i]? = some (if h1 : i < p then G[i] else if h2 : i = p then c else G[i - 1]'(by omega)) := by
    unfold insC
    by_cases h1 : i < p
    · rw [dif_pos h1, List.append_assoc, List.getElem?_append_left (by omega), List.getElem?_take, if_pos h1, List.getElem?_eq_getElem (by omega)]
    · rw [dif_neg h1]
      by_cases h2 : i = p
      · rw [dif_pos h2, List.append_assoc, List.getElem?_append_right (by omega), ht, h2, Nat.sub_self]
        rfl
      · have hl2 : (G.take p ++ [c]).length = p + 1 := by rw [List.length_append, ht]; rfl
        rw [dif_neg h2, List.getElem?_append_right (by omega), hl2, List.getElem?_drop, show p + (i - (p + 1)) = i - 1 from by omega, List.getElem?_eq_getElem (by omega)]
  rw [List.getElem?_eq_getElem h] at key
  exact Option.some.inj key
theorem gcB_of {W : List Wt} {G : List Ck} (h1 : ∀ i (h : i < G.length), ftB W G[i] = true) (h2 : Srt G) : gcB W G = true := by
  unfold gcB gcTo
  rw [List.all_eq_true]
  intro i hi
  have hi := List.mem_range.1 hi
  rcases Nat.eq_zero_or_pos i with e | e
  · subst e; rw [gcAt_zero W G hi]; exact h1 0 hi
  · rw [gcAt_pos W G i hi e, h1 i hi, h2 (i - 1) i (by omega) hi (by omega)]; rfl
theorem tk_good {W : List Wt} {G : List Ck} {c : Ck} (hg : gcB W G = true) (h2 : G.length ≤ 200) (hb : tkB W G c = true) : gcB W (tkG G c) = true ∧ (tkG G c).length ≤ 200 := by
  unfold tkG
  unfold tkB at hb
  rw [Bool.and_eq_true] at hb
  by_cases hh : hasC G c.n c.d = true
  · rw [if_pos hh]; exact ⟨hg, h2⟩
  · rw [if_neg hh]
    have hs := gcB_srt hg
    have hp := plc_is hs c
    have hl := insC_length G (plc G c) c hp.le
    have h3 := hb.2
    rw [if_neg hh, decide_eq_true_eq] at h3
    have hgt : ∀ i (h : i < G.length), plc G c ≤ i → ltC c G[i] = true := by
      intro i hi h1
      have a := hp.ge i hi h1
      have b : ¬ (G[i].n = c.n ∧ G[i].d = c.d) := fun e => hh ((hasC_iff _ _ _).2 ⟨i, hi, e⟩)
      rw [Bool.eq_false_iff] at a
      have a' : ¬ (G[i].n < c.n ∨ (G[i].n = c.n ∧ G[i].d < c.d)) := fun e => a ((ltC_iff _ _).2 e)
      rw [ltC_iff]; omega
    refine ⟨gcB_of (fun i h => ?_) (fun i j hi hj hij => ?_), by omega⟩
    · rw [ins_at G _ c hp.le i h]
      split
      · exact gcB_ft hg _ _
      · split
        · exact hb.1
        · exact gcB_ft hg _ _
    · rw [hl] at hi hj
      have hple := hp.le
      rw [ins_at G _ c hp.le i (by omega), ins_at G _ c hp.le j (by omega)]
      by_cases a1 : i < plc G c
      · rw [dif_pos a1]
        by_cases b1 : j < plc G c
        · rw [dif_pos b1]; exact hs i j (by omega) (by omega) hij
        · rw [dif_neg b1]
          by_cases b2 : j = plc G c
          · rw [dif_pos b2]; exact hp.lt i (by omega) a1
          · rw [dif_neg b2]; exact hs i (j - 1) (by omega) (by omega) (by omega)
      · rw [dif_neg a1]
        by_cases a2 : i = plc G c
        · rw [dif_pos a2, dif_neg (by omega), dif_neg (by omega)]
          exact hgt _ _ (by omega)
        · rw [dif_neg a2, dif_neg (by omega), dif_neg (by omega)]
          exact hs (i - 1) (j - 1) (by omega) (by omega) (by omega)
/-- A chunk that is there and has the same bytes is the same. -/
theorem ft_same {W : List Wt} {a b : Ck} (ha : ftB W a = true) (hb : ftB W b = true) (hn : a.n = b.n) (hd : a.d = b.d) : (a.k.toList == b.k.toList) = ckEq a b := by
  have h1 := ((ftB_iff W a).1 ha).2.2.2.2.2.2
  have h2 := ((ftB_iff W b).1 hb).2.2.2.2.2.2
  rw [Bool.eq_iff_iff, ckEq_iff, beq_iff_eq]
  constructor
  · intro h
    have hk := toList_inj h
    obtain ⟨n, d, k, v⟩ := a
    obtain ⟨n', d', k', v'⟩ := b
    dsimp only at *
    subst hn hd hk
    rw [h1, h2]
  · rintro rfl; rfl
end Go.Proofs.Ytocaigffikdlhaa
