/-
  Tables, plainly: the bytes of a table, and how a run is read back from them. No program.
-/
import Derived.Test.YtfdaffnkgpdhhaaGreatPz
import Derived.Test.YtfdaffnkgpdhhaaGreatF2
import Derived.Test.YtfdaffnkgpdhhaaGreatWu
namespace Go.Proofs.YtfdaffnkgpdhhaaGreat
open Go.RowKit
set_option linter.unusedVariables false

/-- The items of the block at i; how many blocks there are. -/
def chk (l : List It) (i : Nat) : List It := (l.drop (8 * i)).take 8
def nb (l : List It) : Nat := (l.length + 7) / 8
theorem chk_len (l : List It) (i : Nat) : (chk l i).length = min 8 (l.length - 8 * i) := by simp [chk]
theorem chk_at (l : List It) (i j : Nat) (h : j < (chk l i).length) : (chk l i).getD j default = l.getD (8 * i + j) default := by
  rw [chk_len] at h
  simp only [chk, List.getD_eq_getElem?_getD]
  rw [List.getElem?_take_of_lt (by omega), List.getElem?_drop]
theorem chk_take (l : List It) (i : Nat) : l.take (8 * i) ++ chk l i = l.take (8 * (i + 1)) := by
  rw [show 8 * (i + 1) = 8 * i + 8 from by omega, List.take_add]; rfl
theorem okIt_of {l : List It} (h : goodR l = true) {i : Nat} (hi : i < l.length) : okIt (l.getD i default) = true := okAt_it (goodR_at h hi)
theorem chk_good {l : List It} (h : goodR l = true) (i : Nat) : goodR (chk l i) = true := by
  unfold goodR goodTo
  rw [List.all_eq_true]
  intro j hj
  have hj' := List.mem_range.1 hj
  have hl := chk_len l i
  have hok := goodR_at h (i := 8 * i + j) (by omega)
  unfold okAt at hok ⊢
  rw [Bool.and_eq_true] at hok ⊢
  rw [chk_at l i j hj']
  refine ⟨hok.1, ?_⟩
  by_cases h0 : j = 0
  · simp [h0]
  · have := hok.2
    rw [chk_at l i (j - 1) (by omega), show 8 * i + (j - 1) = 8 * i + j - 1 from by omega]
    simp only [Bool.or_eq_true, beq_iff_eq] at this ⊢
    rcases this with h1 | h1
    · omega
    · exact .inr h1

/-- The bytes of the first i blocks. -/
def bsL (l : List It) : Nat → List UInt8
  | 0 => []
  | i + 1 => bsL l i ++ blkL (chk l i)
/-- The last item of the block at i, its place, the places of the first i blocks. -/
def lastI (l : List It) (i : Nat) : It := (chk l i).getD ((chk l i).length - 1) default
def plcL (l : List It) (i : Nat) : List UInt8 := varL (lastI l i).k.size ++ bl (lastI l i).k ++ varL (lastI l i).n.toNat ++ varL (bsL l i).length ++ varL (blkL (chk l i)).length
def ixL (l : List It) : Nat → List UInt8
  | 0 => []
  | i + 1 => ixL l i ++ plcL l i
/-- The unlike keys of the first i items. -/
def kuL (l : List It) : Nat → List ByteArray
  | 0 => []
  | i + 1 => kuL l i ++ (if i = 0 ∨ (l.getD (i - 1) default).k ≠ (l.getD i default).k then [(l.getD i default).k] else [])
def fbT (l : List It) : ByteArray := (filF 4 (kuL l l.length)).2.1
def endL (n : Nat) : List UInt8 := wordL n ++ wordL (csum (wordL n))
def tbL (l : List It) : List UInt8 := bsL l (nb l) ++ frameL (ixL l (nb l)) ++ frameL (bl (fbT l)) ++ endL (bsL l (nb l)).length
def tb (l : List It) : ByteArray := ⟨(tbL l).toArray⟩
def okT (l : List It) : Bool := goodR l && decide (1 ≤ l.length) && decide (l.length ≤ 120)
theorem okT_parts {l : List It} (h : okT l = true) : goodR l = true ∧ 1 ≤ l.length ∧ l.length ≤ 120 := by
  unfold okT at h
  simp only [Bool.and_eq_true, decide_eq_true_eq] at h
  exact ⟨h.1.1, h.1.2, h.2⟩

theorem blk_small {m : List It} (h : goodR m = true) (hl : m.length ≤ 8) : (blkL m).length ≤ 546 ∧ 6 ≤ (blkL m).length := by
  have h1 := blk_len m
  have h2 := plL_len m m.length
  have h3 := (itsL_len (l := m) (i := m.length) h).1
  omega
theorem chk_small {l : List It} (h : goodR l = true) (i : Nat) : (blkL (chk l i)).length ≤ 546 ∧ 6 ≤ (blkL (chk l i)).length :=
  blk_small (chk_good h i) (by rw [chk_len]; omega)
theorem bsL_len {l : List It} (h : goodR l = true) (i : Nat) : (bsL l i).length ≤ 546 * i := by
  induction i with
  | zero => simp [bsL]
  | succ i ih =>
    have := chk_small h i
    simp only [bsL, List.length_append]; omega
theorem nb_lt {l : List It} {i : Nat} (h : i < nb l) : 8 * i < l.length := by unfold nb at h; omega
theorem nb_le {l : List It} (h : okT l = true) : nb l ≤ 15 ∧ 1 ≤ nb l := by have := okT_parts h; unfold nb; omega
theorem lastI_ok {l : List It} (h : goodR l = true) {i : Nat} (hi : i < nb l) : okIt (lastI l i) = true := by
  have h1 := nb_lt hi
  have h2 := chk_len l i
  exact okIt_of (chk_good h i) (by omega)
theorem plcL_len {l : List It} (h : okT l = true) {i : Nat} (hi : i < nb l) : (plcL l i).length ≤ 26 ∧ 1 ≤ (plcL l i).length := by
  have hp := okT_parts h
  have hn := nb_le h
  have hk := lastI_ok hp.1 hi
  have k1 := okIt_key hk
  have k2 := okIt_seq hk
  have b1 := bsL_len hp.1 i
  have b2 := chk_small hp.1 i
  have v1 := var_small (lastI l i).k.size (by omega)
  have v2 := varL_len 4 (lastI l i).n.toNat (by simp; omega)
  have v3 := varL_len 1 (bsL l i).length (by simp; omega)
  have v4 := varL_len 1 (blkL (chk l i)).length (by simp; omega)
  simp only [plcL, List.length_append, bl_len, v1]
  omega
theorem ixL_len {l : List It} (h : okT l = true) {i : Nat} (hi : i ≤ nb l) : (ixL l i).length ≤ 26 * i := by
  induction i with
  | zero => simp [ixL]
  | succ i ih =>
    have h1 := ih (by omega)
    have h2 := plcL_len h (i := i) (by omega)
    simp only [ixL, List.length_append]; omega

/-- What is left of the index and of the blocks from the block at i on. -/
def ixR (l : List It) (i : Nat) : List UInt8 := (ixL l (nb l)).drop (ixL l i).length
def bsR (l : List It) (i : Nat) : List UInt8 := (bsL l (nb l)).drop (bsL l i).length
theorem pre_of {α : Type} (f g : Nat → List α) (hf : ∀ i, f (i + 1) = f i ++ g i) (i : Nat) : ∀ j, ∃ t, f (i + j) = f i ++ t := by
  intro j
  induction j with
  | zero => exact ⟨[], by simp⟩
  | succ j ih =>
    obtain ⟨t, ht⟩ := ih
    exact ⟨t ++ g (i + j), by rw [show i + (j + 1) = (i + j) + 1 from by omega, hf, ht, List.append_assoc]⟩
theorem rest_of {α : Type} (f g : Nat → List α) (hf : ∀ i, f (i + 1) = f i ++ g i) (n i : Nat) (hi : i < n) : (f n).drop (f i).length = g i ++ (f n).drop (f (i + 1)).length := by
  obtain ⟨t, ht⟩ := pre_of f g hf (i + 1) (n - (i + 1))
  rw [show i + 1 + (n - (i + 1)) = n from by omega] at ht
  rw [ht, List.drop_left, hf, List.append_assoc, List.drop_left]
theorem ixR_zero (l : List It) : ixR l 0 = ixL l (nb l) := by simp [ixR, ixL]
theorem bsR_zero (l : List It) : bsR l 0 = bsL l (nb l) := by simp [bsR, bsL]
theorem ixR_step {l : List It} {i : Nat} (hi : i < nb l) : ixR l i = plcL l i ++ ixR l (i + 1) := rest_of (ixL l) (plcL l) (fun _ => rfl) _ _ hi
theorem bsR_step {l : List It} {i : Nat} (hi : i < nb l) : bsR l i = blkL (chk l i) ++ bsR l (i + 1) := rest_of (bsL l) (fun i => blkL (chk l i)) (fun _ => rfl) _ _ hi
theorem ixR_end (l : List It) : ixR l (nb l) = [] := by simp [ixR]
theorem ixR_nil {l : List It} (h : okT l = true) {i : Nat} (hi : i ≤ nb l) (he : ixR l i = []) : i = nb l := by
  rcases Nat.lt_or_ge i (nb l) with h1 | h1
  · rw [ixR_step h1] at he
    have := plcL_len h h1
    rw [(List.append_eq_nil_iff.1 he).1] at this
    simp at this
  · omega
theorem take_nb (l : List It) : l.take (8 * nb l) = l := List.take_of_length_le (by unfold nb; omega)
/-- The block that is read is its items. -/
theorem rd_chk {l : List It} (h : goodR l = true) {i : Nat} {m : List It} {ok : Bool} (hr : RdRes (blkL (chk l i)) m ok) : m = chk l i ∧ ok = true := by
  have hc := chk_good h i
  have hl : (chk l i).length ≤ 40 := by rw [chk_len]; omega
  exact hr.same (.inl ⟨rfl, hc, hl, rfl⟩)
/-- A place that is read: the length of the key, its bytes; the Seq; where; the size. -/
theorem plc_takes {l : List It} (h : okT l = true) {i : Nat} (hi : i < nb l) (more : List UInt8) :
    take (plcL l i ++ more) = ((lastI l i).k.size, 1) ∧ ((plcL l i ++ more).drop 1).take (lastI l i).k.size = bl (lastI l i).k ∧
    take ((plcL l i ++ more).drop (1 + (lastI l i).k.size)) = ((lastI l i).n.toNat, (varL (lastI l i).n.toNat).length) ∧
    take ((plcL l i ++ more).drop (1 + (lastI l i).k.size + (varL (lastI l i).n.toNat).length)) = ((bsL l i).length, (varL (bsL l i).length).length) ∧
    take ((plcL l i ++ more).drop (1 + (lastI l i).k.size + (varL (lastI l i).n.toNat).length + (varL (bsL l i).length).length)) = ((blkL (chk l i)).length, (varL (blkL (chk l i)).length).length) ∧
    (plcL l i ++ more).drop (1 + (lastI l i).k.size + (varL (lastI l i).n.toNat).length + (varL (bsL l i).length).length + (varL (blkL (chk l i)).length).length) = more := by
  have hp := okT_parts h
  have hn := nb_le h
  have hk := lastI_ok hp.1 hi
  have k1 := okIt_key hk
  have k2 := okIt_seq hk
  have b1 := bsL_len hp.1 i
  have b2 := chk_small hp.1 i
  have v1 := var_small (lastI l i).k.size (by omega)
  have hbl : (bl (lastI l i).k).length = (lastI l i).k.size := bl_len _
  generalize hX : (lastI l i).k.size = X at *
  have e : plcL l i ++ more = varL X ++ (bl (lastI l i).k ++ (varL (lastI l i).n.toNat ++ (varL (bsL l i).length ++ (varL (blkL (chk l i)).length ++ more)))) := by simp [plcL, hX]
  rw [e]
  generalize bl (lastI l i).k = K at *
  generalize hS : (lastI l i).n.toNat = S at *
  have hS' : S ≤ 1000000000 := by omega
  generalize (bsL l i).length = Y at *
  generalize (blkL (chk l i)).length = Z at *
  have d1 : ∀ (p q : List UInt8) (n m : Nat), p.length = n → (p ++ q).drop (n + m) = q.drop m := by
    intro p q n m hn
    rw [← hn, ← List.drop_drop, List.drop_left]
  have d0 : ∀ (p q : List UInt8) (n : Nat), p.length = n → (p ++ q).drop n = q := fun p q n hn => by rw [← hn, List.drop_left]
  refine ⟨by rw [take_var X _ (by omega), v1], ?_, ?_, ?_, ?_, ?_⟩
  · rw [d0 _ _ _ v1, ← hbl, List.take_left]
  · rw [d1 _ _ _ _ v1, d0 _ _ _ hbl]; exact take_var _ _ (by omega)
  · rw [Nat.add_assoc, d1 _ _ _ _ v1, d1 _ _ _ _ hbl, d0 _ _ _ rfl]; exact take_var _ _ (by omega)
  · rw [Nat.add_assoc, Nat.add_assoc, d1 _ _ _ _ v1, d1 _ _ _ _ hbl, d1 _ _ _ _ rfl, d0 _ _ _ rfl]; exact take_var _ _ (by omega)
  · rw [Nat.add_assoc, Nat.add_assoc, Nat.add_assoc, d1 _ _ _ _ v1, d1 _ _ _ _ hbl, d1 _ _ _ _ rfl, d1 _ _ _ _ rfl, d0 _ _ _ rfl]

/-- The filter of keys that are good. -/
theorem fold_good {n : Int} (hn : goodH n = true) : ∀ (ks : List ByteArray) (s : ByteArray) (m : Int), goodF n s m = true → (∀ k ∈ ks, goodK k = true) → ∃ s' m', foldF n ks s m = some (s', m') ∧ goodF n s' m' = true := by
  intro ks
  induction ks with
  | nil => intro s m h _; exact ⟨s, m, rfl, h⟩
  | cons k ks ih =>
    intro s m h hk
    rw [foldF, if_pos (hk k (by simp))]
    exact ih _ _ (good_add h k) (fun x hx => hk x (by simp [hx]))
theorem kuL_len (l : List It) (i : Nat) : (kuL l i).length ≤ i := by
  induction i with
  | zero => simp [kuL]
  | succ i ih =>
    unfold kuL
    rw [List.length_append]
    split <;> simp <;> omega
theorem kuL_good {l : List It} (h : goodR l = true) {i : Nat} (hi : i ≤ l.length) : ∀ k ∈ kuL l i, goodK k = true := by
  induction i with
  | zero => simp [kuL]
  | succ i ih =>
    intro k hk
    unfold kuL at hk
    rw [List.mem_append] at hk
    rcases hk with hk | hk
    · exact ih (by omega) k hk
    · split at hk
      · have := okIt_key (okIt_of h (i := i) (by omega))
        rw [List.mem_singleton.1 hk]
        unfold goodK
        simp only [Bool.and_eq_true, decide_eq_true_eq]
        omega
      · simp at hk
theorem filF_run {l : List It} (h : okT l = true) : ∃ m, filF 4 (kuL l l.length) = (4, fbT l, m, true) ∧ goodF 4 (fbT l) m = true ∧ (fbT l).size = 32 := by
  have hp := okT_parts h
  have hh : goodH 4 = true := by decide
  obtain ⟨s, m, h1, h2⟩ := fold_good hh (kuL l l.length) zerS 0 (good_new hh) (kuL_good hp.1 (Nat.le_refl _))
  have hl := kuL_len l l.length
  have e : filF 4 (kuL l l.length) = (4, s, m, true) := by
    unfold filF
    rw [hh, decide_eq_true (by omega), h1]; rfl
  have e2 : fbT l = s := by unfold fbT; rw [e]
  rw [e2]
  exact ⟨m, e, h2, (goodF_parts h2).2.1⟩

/-- The parts of a table's bytes. -/
theorem endL_len (n : Nat) : (endL n).length = 8 := rfl
theorem tb_parts {l : List It} (h : okT l = true) : ∃ B I F : List UInt8, B = bsL l (nb l) ∧ I = ixL l (nb l) ∧ F = bl (fbT l) ∧ I.length ≤ 390 ∧ F.length = 32 ∧ B.length ≤ 8190 ∧
    tbL l = B ++ (frameL I ++ (frameL F ++ endL B.length)) := by
  have hp := okT_parts h
  have hn := nb_le h
  have h1 := ixL_len h (Nat.le_refl _)
  have h2 := bsL_len hp.1 (nb l)
  obtain ⟨m, _, _, h3⟩ := filF_run h
  exact ⟨_, _, _, rfl, rfl, rfl, by omega, by rw [bl_len]; exact h3, by omega, by simp [tbL]⟩
/-- What a reader of tables answers. -/
def TbRes (s : List UInt8) (l : List It) (ok : Bool) : Prop :=
  (ok = true ∧ okT l = true ∧ tbL l = s ∧ ∀ m, okT m = true → tbL m = s → m = l) ∨ (ok = false ∧ l = [] ∧ ∀ m, okT m = true → tbL m ≠ s)
theorem TbRes.same {s : List UInt8} {l m : List It} {a b : Bool} (h : TbRes s l a) (h' : TbRes s m b) : l = m ∧ a = b := by
  rcases h with ⟨rfl, g, e, u⟩ | ⟨rfl, rfl, h⟩ <;> rcases h' with ⟨rfl, g', e', u'⟩ | ⟨rfl, rfl, h'⟩
  · exact ⟨u' l g e, rfl⟩
  · exact absurd e (h' _ g)
  · exact absurd e' (h _ g')
  · exact ⟨rfl, rfl⟩
/-- Whoever reads something of which every table's run is read, and holds its table against the text, answers so. -/
theorem TbRes.of_read {s : List UInt8} {l : List It} (hu : ∀ m, okT m = true → tbL m = s → l = m) : (okT l = true → tbL l = s → TbRes s l true) ∧ ((okT l = true → tbL l ≠ s) → TbRes s [] false) := by
  refine ⟨fun h1 h2 => .inl ⟨rfl, h1, h2, fun m hm he => (hu m hm he).symm⟩, fun h => .inr ⟨rfl, rfl, fun m hm he => ?_⟩⟩
  have := hu m hm he
  subst this
  exact h hm he
end Go.Proofs.YtfdaffnkgpdhhaaGreat
