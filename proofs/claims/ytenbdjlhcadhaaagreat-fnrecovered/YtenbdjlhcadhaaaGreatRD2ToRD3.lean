/-
  Numbers and metas in a row, read by the program.
  Metas in a row, read by the program.
-/
import Derived.Test.YtenbdjlhcadhaaaGreatRD1ToEBI
namespace Go.Proofs.YtenbdjlhcadhaaaGreat
open Go.RowKit
set_option linter.unusedVariables false
set_option maxRecDepth 100000

def drT : List Int → List UInt8
  | [] => []
  | x :: r => varL x.toNat ++ drT r
theorem drT_append (a b : List Int) : drT (a ++ b) = drT a ++ drT b := by
  induction a with
  | nil => rfl
  | cons x r ih => simp [drT, ih]
theorem drL_T (dr : List Int) : ∀ k, k ≤ dr.length → drL dr k = drT (dr.take k) := by
  intro k
  induction k with
  | zero => intro _; rfl
  | succ k ih =>
    intro hk
    rw [List.take_succ_eq_append_getElem (by omega), drT_append, ← ih (by omega)]
    simp only [drL, drT]
    rw [getI_at dr k (by omega), List.append_nil]
theorem nmL_T (dr : List Int) : nmL dr dr.length = varL dr.length ++ drT dr := by
  unfold nmL
  rw [drL_T dr _ (Nat.le_refl _), List.take_length]
def msT : List Mt → List UInt8
  | [] => []
  | x :: r => mt1 x ++ msT r
theorem msT_append (a b : List Mt) : msT (a ++ b) = msT a ++ msT b := by
  induction a with
  | nil => rfl
  | cons x r ih => simp [msT, ih]
theorem msL_T (l : List Mt) : ∀ k, k ≤ l.length → msL l k = msT (l.take k) := by
  intro k
  induction k with
  | zero => intro _; rfl
  | succ k ih =>
    intro hk
    rw [List.take_succ_eq_append_getElem (by omega), msT_append, ← ih (by omega)]
    simp only [msL, msT]
    rw [getD_at l k (by omega), List.append_nil]
theorem mtL_T (l : List Mt) : mtL l l.length = varL l.length ++ msT l := by
  unfold mtL
  rw [msL_T l _ (Nat.le_refl _), List.take_length]
theorem drT_step {d0 : List Int} {k : Nat} (hk : k < d0.length) : drT (d0.drop k) = varL (d0[k]).toNat ++ drT (d0.drop (k + 1)) := by
  rw [List.drop_eq_getElem_cons hk]; rfl
theorem msT_step {l : List Mt} {k : Nat} (hk : k < l.length) : msT (l.drop k) = mt1 l[k] ++ msT (l.drop (k + 1)) := by
  rw [List.drop_eq_getElem_cons hk]; rfl
theorem chg_grow {S : Nat → Prop} {w w' : World} {v : Value} (hg : w.grownBy w' v.ownBlock) (h : ∀ g, v.ownBlock = some g → S g) : Chg S w w' :=
  ⟨hg.os, hg.tape, hg.output, hg.size, fun j hj hs => hg.block j hj (fun e => hs (h j e.symm))⟩

/-- The numbers as they should be read. -/
def DrOk (d0 : List Int) : Prop := d0.length ≤ 30 ∧ ∀ i (h : i < d0.length), 1 ≤ d0[i] ∧ d0[i] ≤ 100000
theorem dr_next {d0 zs : List Int} {r : ByteArray} {more : List UInt8} (hd : DrOk d0) (hk : zs.length < d0.length) (h1 : zs = d0.take zs.length) (h2 : bl r = drT (d0.drop zs.length) ++ more) :
    zs ++ [(tN r : Int)] = d0.take (zs.length + 1) ∧ bl (tR r) = drT (d0.drop (zs.length + 1)) ++ more := by
  have hb := hd.2 zs.length hk
  rw [drT_step hk, List.append_assoc] at h2
  obtain ⟨e1, e2, _⟩ := tN_var h2 (by omega)
  refine ⟨?_, e2⟩
  rw [List.take_succ_eq_append_getElem hk, ← h1, e1]
  congr 2
  omega

set_option maxHeartbeats 4000000 in
theorem numbers_any (b : Nat) (r : ByteArray) (W : World) (hb : Box W b [.string r]) (hs : r.size ≤ 1048576) :
    Calls Tryz.prog 28 #[.pointer (some ⟨b, 0, none⟩)] W fun e w' => ∃ (u : Value) (zs : List Int) (r' : ByteArray), e = .returned u ∧ w'.ownsRow W.heap.size 3 1 u zs.length (zs.map (.int .i64)) ∧ zs.length ≤ 30 ∧ Box w' b [.string r'] ∧ r'.size ≤ r.size ∧ (∀ d0 more, DrOk d0 → bl r = varL d0.length ++ drT d0 ++ more → zs = d0 ∧ bl r' = more) ∧ Chg (fun j => j = b ∨ W.heap.size ≤ j) W w' := by
  obtain ⟨i0, hi, hz0, hzs, hzb⟩ := info_parts Tryz.info3
  have hbl := hb.1
  have NA := number_any b r W hb hs
  have NB := fun r w h h2 => number_any b r w h h2
  have hs2 := tR_size r
  have HV : Hid (∀ d0 more, DrOk d0 → bl r = varL d0.length ++ drT d0 ++ more → tN r = d0.length ∧ bl (tR r) = drT d0 ++ more) := fun d0 more hd h => by
    rw [List.append_assoc] at h
    obtain ⟨e1, e2, _⟩ := tN_var h (by have := hd.1; omega)
    exact ⟨e1, e2⟩
  obtain ⟨m, hm⟩ : ∃ m : Nat, m = min (tN r) 30 := ⟨_, rfl⟩
  have hmi : min ((tN r : Nat) : Int) 30 = (m : Int) := by omega
  have hm30 : m ≤ 30 := by omega
  have HM : Hid (m = min (tN r) 30) := hm
  clear hm hb
  generalize tN r = n at *
  generalize tR r = r2 at *
  go_enter Tryz.func28, Tryz.ntmps28
  go_wp2_with fail
  refine NA.mono ?_
  rintro e w1 ⟨rfl, hb1, hC1⟩
  clear NA
  go_wp2
  go_loopw [3, 7] (fun u i wr => ∃ (zs : List Int) (r' : ByteArray), zs.length ≤ m ∧ i = .int .i64 zs.length ∧ wr.ownsRow W.heap.size 3 1 u zs.length (zs.map (.int .i64)) ∧ Box wr b [.string r'] ∧ r'.size ≤ r.size ∧ (∀ d0 more, DrOk d0 → bl r2 = drT d0 ++ more → zs.length ≤ d0.length → zs = d0.take zs.length ∧ bl r' = drT (d0.drop zs.length) ++ more) ∧ Chg (fun j => j = b ∨ W.heap.size ≤ j) W wr) (fun _ i _ => m - (intOf i).toNat)
  case atStart => exact ⟨[], r2, Nat.zero_le _, rfl, World.ownsRow_nil _ _ _ _, hb1, hs2, fun d0 more _ h _ => ⟨rfl, h⟩, hC1.mono fun j hj => .inl hj⟩
  case round =>
    clear hb1 hC1
    obtain ⟨zs, r', hk, rfl, hown, hb', hsz, HI, hC⟩ := hrel
    have HI : Hid (∀ d0 more, DrOk d0 → bl r2 = drT d0 ++ more → zs.length ≤ d0.length → zs = d0.take zs.length ∧ bl r' = drT (d0.drop zs.length) ++ more) := HI
    by_cases hlt : zs.length < m
    · have NC := NB r' _ hb' (by omega)
      have HX : Hid (∀ d0 more, DrOk d0 → bl r2 = drT d0 ++ more → zs.length + 1 ≤ d0.length → zs ++ [((tN r' : Nat) : Int)] = d0.take (zs.length + 1) ∧ bl (tR r') = drT (d0.drop (zs.length + 1)) ++ more) := fun d0 more hd h hl => by
        obtain ⟨e1, e2⟩ := HI.out d0 more hd h (by omega)
        exact dr_next hd (by omega) e1 e2
      have hs3 := tR_size r'
      clear HI HV NB
      generalize tN r' = n' at *
      generalize tR r' = r3 at *
      go_wp2_with fail
      refine NC.mono ?_
      rintro e w2 ⟨rfl, hb2, hC2⟩
      have hge := owns_ge hown
      have O2 := hC2.owns hown (fun g hg hh => by have := hge g hg; omega)
      have hC3 := hC.trans (hC2.mono fun j hj => .inl hj)
      have hz3 := hC3.size
      have ON := one_new w2 (n' : Int)
      clear NC hown hC hC2 hb'
      go_wp2_with (at_builtin; refine wpList_append_own _ rfl _ _ 23 rfl W.heap.size 3 i0 (.int .i64 0) 1 8 Tryz.underlying23 hi hz0 hzs hzb rfl (by decide) _ zs.length (zs.map (.int .i64)) rfl (owns_below O2 (below_alloc _ _)) ⟨w2.heap.size, 0, none⟩ 1 1 [.int .i64 n'] rfl rfl ON (by intro u hu; simp at hu; subst hu; rfl) (by unfold maxLen; omega) (by omega) (by simp; omega) ?_; intro v' w4 hown4 hgrow4 _)
      have hC4 : Chg (fun j => j = b ∨ W.heap.size ≤ j) W w4 := (hC3.trans (Chg.of_below (below_alloc _ _))).trans (chg_grow hgrow4 fun g hg => .inr (hge g hg))
      have hb4 : Box w4 b [.string r3] := (chg_grow (S := fun j => W.heap.size ≤ j) hgrow4 hge).box (hb2.alloc _) (by omega)
      go_roundw
      case rel =>
        refine ⟨zs ++ [(n' : Int)], r3, by simp; omega, by simp, ?_, hb4, by omega, ?_, hC4⟩
        · rw [List.length_append, List.map_append]; exact hown4
        · rw [List.length_append]; exact HX.out
      case measure => simp [intOf]; omega
    · have hkm : zs.length = m := by omega
      have HE : Hid (zs.length = m) := hkm
      clear hkm NB
      go_wp2
      go_ret
      refine ⟨_, zs, r', rfl, hown, by omega, hb', hsz, fun d0 more hd h => ?_, hC⟩
      obtain ⟨e1, e2⟩ := HV.out d0 more hd h
      have hl : zs.length = d0.length := by rw [HE.out, HM.out, e1]; have := hd.1; omega
      obtain ⟨e3, e4⟩ := HI.out d0 more hd e2 (by omega)
      rw [hl] at e3 e4
      rw [List.take_length] at e3
      rw [List.drop_length] at e4
      exact ⟨e3, e4⟩
end Go.Proofs.YtenbdjlhcadhaaaGreat

namespace Go.Proofs.YtenbdjlhcadhaaaGreat
open Go.RowKit
set_option linter.unusedVariables false
set_option maxRecDepth 100000

/-- The metas as they should be read. -/
def MtOk (l0 : List Mt) : Prop := l0.length ≤ 30 ∧ ∀ i (h : i < l0.length), (1 ≤ l0[i].n ∧ l0[i].n ≤ 100000) ∧ (0 ≤ l0[i].d ∧ l0[i].d ≤ 3) ∧ l0[i].k.size ≤ 16 ∧ l0[i].v.size ≤ 16
theorem mtOk_of {l : List Mt} (h : goodMs l = true) (h30 : l.length ≤ 30) : MtOk l := ⟨h30, fun i hi => by
  have h1 := okMt_num (goodMs_ok h hi)
  have h2 := okMt_lev (goodMs_ok h hi)
  have h3 := okMt_key (goodMs_ok h hi)
  exact ⟨h1, h2, h3.1.2, h3.2.2⟩⟩
/-- A meta read, and what is left. -/
def mT (r : ByteArray) : Mt := ⟨tN r, tN (tR r), xT (tR (tR r)), xT (xR (tR (tR r)))⟩
def mR (r : ByteArray) : ByteArray := xR (xR (tR (tR r)))
theorem mt_var {r : ByteArray} {m : Mt} {more : List UInt8} (h : bl r = mt1 m ++ more) (h1 : 1 ≤ m.n ∧ m.n ≤ 100000) (h2 : 0 ≤ m.d ∧ m.d ≤ 3) (h3 : m.k.size ≤ 16) (h4 : m.v.size ≤ 16) : mT r = m ∧ bl (mR r) = more := by
  unfold mt1 at h
  have e0 : bl r = varL m.n.toNat ++ (varL m.d.toNat ++ (varL m.k.size ++ bl m.k ++ (varL m.v.size ++ bl m.v ++ more))) := by rw [h]; simp only [List.append_assoc]
  clear h
  obtain ⟨mn, md, mk, mv⟩ := m
  dsimp only at *
  obtain ⟨a1, a2, _⟩ := tN_var (n := mn.toNat) e0 (by omega)
  obtain ⟨b1, b2, _⟩ := tN_var (n := md.toNat) a2 (by omega)
  obtain ⟨c1, c2, _⟩ := xT_var (s := mk) b2 (by omega)
  obtain ⟨d1, d2, _⟩ := xT_var (s := mv) c2 (by omega)
  have e1 : ((mn.toNat : Nat) : Int) = mn := Int.toNat_of_nonneg (by omega)
  have e2 : ((md.toNat : Nat) : Int) = md := Int.toNat_of_nonneg (by omega)
  refine ⟨?_, ?_⟩
  · unfold mT
    rw [a1, b1, c1, d1, e1, e2]
  · unfold mR
    exact d2
theorem ms_next {l0 zs : List Mt} {r : ByteArray} {more : List UInt8} (hd : MtOk l0) (hk : zs.length < l0.length) (h1 : zs = l0.take zs.length) (h2 : bl r = msT (l0.drop zs.length) ++ more) :
    zs ++ [mT r] = l0.take (zs.length + 1) ∧ bl (mR r) = msT (l0.drop (zs.length + 1)) ++ more := by
  obtain ⟨b1, b2, b3, b4⟩ := hd.2 zs.length hk
  rw [msT_step hk, List.append_assoc] at h2
  obtain ⟨e1, e2⟩ := mt_var h2 b1 b2 b3 b4
  refine ⟨?_, e2⟩
  rw [List.take_succ_eq_append_getElem hk, ← h1, e1]

set_option maxHeartbeats 4000000 in
theorem metas_any (b : Nat) (r : ByteArray) (W : World) (hb : Box W b [.string r]) (hs : r.size ≤ 1048576) :
    Calls Tryz.prog 29 #[.pointer (some ⟨b, 0, none⟩)] W fun e w' => ∃ (u : Value) (zs : List Mt) (r' : ByteArray), e = .returned u ∧ w'.ownsRow W.heap.size 71 4 u zs.length (flat4 zs) ∧ zs.length ≤ 30 ∧ (∀ i (h : i < zs.length), zs[i].k.size ≤ 1048576 ∧ zs[i].v.size ≤ 1048576) ∧ Box w' b [.string r'] ∧ r'.size ≤ r.size ∧ (∀ l0 more, MtOk l0 → bl r = varL l0.length ++ msT l0 ++ more → zs = l0 ∧ bl r' = more) ∧ Chg (fun j => j = b ∨ W.heap.size ≤ j) W w' := by
  obtain ⟨i0, hi, hz0, hzs, hzb⟩ := info_parts Tryz.info71
  have hbl := hb.1
  have NA := number_any b r W hb hs
  have NB := fun r w h h2 => number_any b r w h h2
  have TB := fun r w h h2 => text_any b r w h h2
  have hs2 := tR_size r
  have HV : Hid (∀ l0 more, MtOk l0 → bl r = varL l0.length ++ msT l0 ++ more → tN r = l0.length ∧ bl (tR r) = msT l0 ++ more) := fun l0 more hd h => by
    rw [List.append_assoc] at h
    obtain ⟨e1, e2, _⟩ := tN_var h (by have := hd.1; omega)
    exact ⟨e1, e2⟩
  obtain ⟨m, hm⟩ : ∃ m : Nat, m = min (tN r) 30 := ⟨_, rfl⟩
  have hmi : min ((tN r : Nat) : Int) 30 = (m : Int) := by omega
  have hm30 : m ≤ 30 := by omega
  have HM : Hid (m = min (tN r) 30) := hm
  clear hm hb
  generalize tN r = n at *
  generalize tR r = r2 at *
  go_enter Tryz.func29, Tryz.ntmps29
  go_wp2_with fail
  refine NA.mono ?_
  rintro e w1 ⟨rfl, hb1, hC1⟩
  clear NA
  go_wp2
  go_loopw [3, 7] (fun u i wr => ∃ (zs : List Mt) (r' : ByteArray), zs.length ≤ m ∧ i = .int .i64 zs.length ∧ wr.ownsRow W.heap.size 71 4 u zs.length (flat4 zs) ∧ (∀ x ∈ zs, x.k.size ≤ 1048576 ∧ x.v.size ≤ 1048576) ∧ Box wr b [.string r'] ∧ r'.size ≤ r.size ∧ (∀ l0 more, MtOk l0 → bl r2 = msT l0 ++ more → zs.length ≤ l0.length → zs = l0.take zs.length ∧ bl r' = msT (l0.drop zs.length) ++ more) ∧ Chg (fun j => j = b ∨ W.heap.size ≤ j) W wr) (fun _ i _ => m - (intOf i).toNat)
  case atStart => exact ⟨[], r2, Nat.zero_le _, rfl, World.ownsRow_nil _ _ _ _, fun x hx => by simp at hx, hb1, hs2, fun l0 more _ h _ => ⟨rfl, h⟩, hC1.mono fun j hj => .inl hj⟩
  case round =>
    clear hb1 hC1
    obtain ⟨zs, r', hk, rfl, hown, hsi, hb', hsz, HI, hC⟩ := hrel
    have HI : Hid (∀ l0 more, MtOk l0 → bl r2 = msT l0 ++ more → zs.length ≤ l0.length → zs = l0.take zs.length ∧ bl r' = msT (l0.drop zs.length) ++ more) := HI
    have HSI : Hid (∀ x ∈ zs, x.k.size ≤ 1048576 ∧ x.v.size ≤ 1048576) := hsi
    clear hsi
    by_cases hlt : zs.length < m
    · have q1 := tR_size r'
      have q2 := tR_size (tR r')
      have q3 := xR_size (tR (tR r'))
      have q4 := xR_size (xR (tR (tR r')))
      have q5 := xT_size (tR (tR r'))
      have q6 := xT_size (xR (tR (tR r')))
      have N1 := NB r' _ hb' (by omega)
      have N2 := fun w h => NB (tR r') w h (by omega)
      have T1 := fun w h => TB (tR (tR r')) w h (by omega)
      have T2 := fun w h => TB (xR (tR (tR r'))) w h (by omega)
      have HX : Hid (∀ l0 more, MtOk l0 → bl r2 = msT l0 ++ more → zs.length + 1 ≤ l0.length → zs ++ [⟨tN r', tN (tR r'), xT (tR (tR r')), xT (xR (tR (tR r')))⟩] = l0.take (zs.length + 1) ∧ bl (xR (xR (tR (tR r')))) = msT (l0.drop (zs.length + 1)) ++ more) := fun l0 more hd h hl => by
        obtain ⟨e1, e2⟩ := HI.out l0 more hd h (by omega)
        exact ms_next hd (by omega) e1 e2
      clear HI HV NB TB
      generalize xT (xR (tR (tR r'))) = t2 at *
      generalize xR (xR (tR (tR r'))) = r6 at *
      generalize xT (tR (tR r')) = t1 at *
      generalize xR (tR (tR r')) = r5 at *
      generalize tN (tR r') = n2 at *
      generalize tR (tR r') = r4 at *
      generalize tN r' = n1 at *
      generalize tR r' = r3 at *
      go_wp2_with fail
      refine N1.mono ?_
      rintro e w2 ⟨rfl, hb2, hC2⟩
      clear N1
      have N2' := N2 _ hb2
      clear N2
      go_wp2_with fail
      refine N2'.mono ?_
      rintro e w3 ⟨rfl, hb3, hC3⟩
      replace hC2 := hC2.trans hC3
      have T1' := T1 _ hb3
      clear N2' T1 hC3 hb2
      go_wp2_with fail
      refine T1'.mono ?_
      rintro e w4 ⟨rfl, hb4, hC3⟩
      replace hC2 := hC2.trans hC3
      have T2' := T2 _ hb4
      clear T1' T2 hC3 hb3
      go_wp2_with fail
      refine T2'.mono ?_
      rintro e w5 ⟨rfl, hb5, hC3⟩
      replace hC2 := hC2.trans hC3
      clear T2' hC3 hb4
      have hge := owns_ge hown
      have O2 := hC2.owns hown (fun g hg hh => by have := hge g hg; omega)
      have hC3 := hC.trans (hC2.mono fun j hj => .inl hj)
      have hz3 := hC3.size
      have ON := four_new w5 n1 n2 t1 t2
      have HFL : Hid (flat4 (zs ++ [⟨(n1 : Int), (n2 : Int), t1, t2⟩]) = flat4 zs ++ [.int .i64 n1, .int .i64 n2, .string t1, .string t2]) := by show _ = _; rw [flat4_append]; rfl
      clear hown hC hC2 hb'
      go_wp2_with (at_builtin; refine wpList_append_own _ rfl _ _ 24 rfl W.heap.size 71 i0 (.agg #[.int .i64 0, .int .i64 0, .string ⟨#[]⟩, .string ⟨#[]⟩]) 4 48 Tryz.underlying24 hi hz0 hzs hzb rfl (by decide) _ zs.length (flat4 zs) rfl (owns_below O2 (below_alloc _ _)) ⟨w5.heap.size, 0, none⟩ 1 1 [.int .i64 n1, .int .i64 n2, .string t1, .string t2] rfl rfl ON (flat4_ones n1 n2 t1 t2) (by unfold maxLen; omega) (by omega) (by simp; omega) ?_; intro v' w6 hown6 hgrow6 _)
      have hC6 : Chg (fun j => j = b ∨ W.heap.size ≤ j) W w6 := (hC3.trans (Chg.of_below (below_alloc _ _))).trans (chg_grow hgrow6 fun g hg => .inr (hge g hg))
      have hb6 : Box w6 b [.string r6] := (chg_grow (S := fun j => W.heap.size ≤ j) hgrow6 hge).box (hb5.alloc _) (by omega)
      go_roundw
      case rel =>
        refine ⟨zs ++ [⟨(n1 : Int), (n2 : Int), t1, t2⟩], r6, by simp; omega, by simp, ?_, ?_, hb6, by omega, ?_, hC6⟩
        · rw [HFL.out, List.length_append]; exact hown6
        · intro x hx
          rcases List.mem_append.1 hx with hx | hx
          · exact HSI.out x hx
          · rw [List.mem_singleton] at hx; subst hx; dsimp only; omega
        · rw [List.length_append]; exact HX.out
      case measure => simp [intOf]; omega
    · have hkm : zs.length = m := by omega
      have HE : Hid (zs.length = m) := hkm
      clear hkm NB TB
      go_wp2
      go_ret
      refine ⟨_, zs, r', rfl, hown, by omega, fun i h => HSI.out _ (List.getElem_mem h), hb', hsz, fun l0 more hd h => ?_, hC⟩
      obtain ⟨e1, e2⟩ := HV.out l0 more hd h
      have hl : zs.length = l0.length := by rw [HE.out, HM.out, e1]; have := hd.1; omega
      obtain ⟨e3, e4⟩ := HI.out l0 more hd e2 (by omega)
      rw [hl] at e3 e4
      rw [List.take_length] at e3
      rw [List.drop_length] at e4
      exact ⟨e3, e4⟩
end Go.Proofs.YtenbdjlhcadhaaaGreat
